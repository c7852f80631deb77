/-
  Sorted lists without doubles: putting in a number; the different numbers of a list; windows. Nothing of the program stands here.
-/
import Derived.Test.YtndjpkeenbbgiabSeqM
namespace Go.Proofs.Ytndjpkeenbbgiab
namespace Q
/-- How many numbers at a list's front are less. -/
def lead (x : Int) : List Int → Nat
  | [] => 0
  | y :: ys => if y < x then lead x ys + 1 else 0
def put (x : Int) : List Int → List Int
  | [] => [x]
  | y :: ys => if y < x then y :: put x ys else if y = x then y :: ys else x :: y :: ys
theorem lead_le (x : Int) : ∀ l, lead x l ≤ l.length
  | [] => Nat.le_refl _
  | y :: ys => by have := lead_le x ys; unfold lead; split <;> simp <;> omega
theorem put_eq (x : Int) : ∀ l, put x l = if l[lead x l]? = some x then l else l.take (lead x l) ++ x :: l.drop (lead x l)
  | [] => by simp [put, lead]
  | y :: ys => by
    unfold put lead
    by_cases h : y < x
    · simp only [if_pos h, List.getElem?_cons_succ, List.take_succ_cons, List.drop_succ_cons]
      rw [put_eq x ys]
      split <;> simp
    · simp only [if_neg h]
      by_cases e : y = x
      · simp [e]
      · simp [e]
theorem lead_lt (x : Int) : ∀ (l : List Int) k y, k < lead x l → l[k]? = some y → y < x
  | [], k, y, hk, h => by simp [lead] at hk
  | z :: zs, k, y, hk, h => by
    unfold lead at hk
    split at hk
    · cases k with
      | zero => simp at h; omega
      | succ k => exact lead_lt x zs k y (by omega) (by simpa using h)
    · omega
theorem lead_at (x : Int) : ∀ (l : List Int) y, l[lead x l]? = some y → x ≤ y
  | [], y, h => by simp at h
  | z :: zs, y, h => by
    unfold lead at h
    split at h
    · exact lead_at x zs y (by simpa using h)
    · simp at h; omega
/-- 'lead' is the place where a search comes to its end. -/
theorem lead_of {x : Int} {l : List Int} {k : Nat} (h1 : ∀ j y, j < k → l[j]? = some y → y < x) (h2 : ∀ y, l[k]? = some y → ¬ y < x) (hk : k ≤ l.length) : lead x l = k := by
  rcases Nat.lt_trichotomy (lead x l) k with h | h | h
  · have hl : lead x l < l.length := by omega
    have := lead_at x l _ (List.getElem?_eq_getElem hl)
    have := h1 _ _ h (List.getElem?_eq_getElem hl)
    omega
  · exact h
  · have hl : k < l.length := by have := lead_le x l; omega
    have := lead_lt x l k _ h (List.getElem?_eq_getElem hl)
    exact absurd this (h2 _ (List.getElem?_eq_getElem hl))
def Srt (l : List Int) : Prop := l.Pairwise (· < ·)
theorem put_mem (x z : Int) : ∀ l, z ∈ put x l ↔ z = x ∨ z ∈ l
  | [] => by simp [put]
  | y :: ys => by
    unfold put
    split
    · simp [put_mem x z ys]; constructor <;> (intro h; rcases h with h | h | h <;> simp [h])
    · split
      · rename_i e; subst e; simp
      · simp
theorem put_srt (x : Int) : ∀ {l}, Srt l → Srt (put x l)
  | [], _ => by simp [put, Srt]
  | y :: ys, h => by
    have h' := List.pairwise_cons.1 h
    unfold put
    split
    · rename_i hlt
      refine List.pairwise_cons.2 ⟨fun z hz => ?_, put_srt x h'.2⟩
      rcases (put_mem x z ys).1 hz with e | e
      · omega
      · exact h'.1 z e
    · split
      · exact h
      · refine List.pairwise_cons.2 ⟨fun z hz => ?_, h⟩
        rcases List.mem_cons.1 hz with e | e
        · omega
        · have := h'.1 z e; omega
theorem put_len (x : Int) : ∀ {l}, Srt l → (put x l).length = l.length + if x ∈ l then 0 else 1
  | [], _ => by simp [put]
  | y :: ys, h => by
    have h' := List.pairwise_cons.1 h
    unfold put
    split
    · rename_i hlt
      have e : x ∈ y :: ys ↔ x ∈ ys := by simp; omega
      simp only [List.length_cons, put_len x h'.2, e]
      omega
    · rename_i hge
      split
      · rename_i e; simp [e]
      · rename_i hne
        have e : ¬ x ∈ y :: ys := by
          intro hm
          rcases List.mem_cons.1 hm with e | e
          · exact hne e.symm
          · have := h'.1 x e; omega
        rw [if_neg e]
        simp
/-- The different numbers of a list, in order. -/
def diffs (l : List Int) : List Int := l.foldl (fun acc x => put x acc) []
theorem diffs_snoc (l : List Int) (x : Int) : diffs (l ++ [x]) = put x (diffs l) := by simp [diffs]
theorem diffs_ok (l : List Int) : Srt (diffs l) ∧ (∀ z, z ∈ diffs l ↔ z ∈ l) ∧ (diffs l).length = dif l := by
  rw [← List.reverse_reverse l]
  generalize l.reverse = r
  induction r with
  | nil => simp [diffs, Srt, dif, difR]
  | cons x r ih =>
    obtain ⟨h1, h2, h3⟩ := ih
    rw [List.reverse_cons, diffs_snoc]
    refine ⟨put_srt x h1, fun z => ?_, ?_⟩
    · rw [put_mem, h2]; simp; exact Or.comm
    · rw [put_len x h1, dif_snoc, h3]
      simp only [h2]
/-- The places of a list that a window sees. -/
def win (zs : List Int) (a b : Nat) : List Int := (zs.drop a).take (b - a)
end Q
end Go.Proofs.Ytndjpkeenbbgiab
