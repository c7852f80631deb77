/-
  Caches as step machines: what a request does, policy by policy. Nothing of the program stands here.
-/
import Derived.Test.YtdjafooabpcbmabPut
import Derived.Test.YtdjafooabpcbmabLaw
namespace Go.Proofs.Ytdjafooabpcbmab
/-- A cache: policy, size, pages, marks, hand. (z: blocks of the heap that a walk wants kept; no part of the cache.) -/
structure Ca where
  p : Int
  s : Int
  ps : List Int
  ms : List Int
  h : Int
  z : Nat → Option Obj := fun _ => none
namespace Q
/-- Cells a .. b - 1 made 0. -/
def clr (ms : List Int) (a b : Nat) : List Int := ms.mapIdx fun i z => if a ≤ i ∧ i < b then 0 else z
theorem clr_len (ms : List Int) (a b : Nat) : (clr ms a b).length = ms.length := by simp [clr]
theorem clr_at (ms : List Int) (a b i : Nat) : (clr ms a b)[i]? = (ms[i]?).map fun z => if a ≤ i ∧ i < b then 0 else z := by simp [clr]
theorem clr_none (ms : List Int) (a : Nat) : clr ms a a = ms := by
  apply List.ext_getElem?
  intro i
  rw [clr_at]
  cases ms[i]? with
  | none => rfl
  | some z => simp; omega
/-- The first place of 0 in a list, or its length. -/
def z0 : List Int → Nat
  | [] => 0
  | x :: xs => if x = 0 then 0 else z0 xs + 1
theorem z0_le : ∀ l, z0 l ≤ l.length
  | [] => Nat.le_refl _
  | x :: xs => by have := z0_le xs; unfold z0; split <;> simp <;> omega
theorem z0_lt : ∀ {l : List Int}, (0 : Int) ∈ l → z0 l < l.length
  | x :: xs, h => by
    unfold z0
    split
    · simp
    · rename_i hx
      have := z0_lt (l := xs) (by simpa [Ne.symm hx, eq_comm] using h)
      simp; omega
theorem z0_no : ∀ {l : List Int}, (0 : Int) ∉ l → z0 l = l.length
  | [], _ => rfl
  | x :: xs, h => by
    simp at h
    unfold z0
    rw [if_neg (fun e => h.1 e.symm), z0_no h.2]
    rfl
theorem z0_at : ∀ {l : List Int}, (0 : Int) ∈ l → l[z0 l]? = some 0
  | x :: xs, h => by
    unfold z0
    split
    · rename_i e; simp [e]
    · rename_i hx
      simpa using z0_at (l := xs) (by simpa [Ne.symm hx, eq_comm] using h)
theorem z0_before : ∀ {l : List Int} {k : Nat} {y : Int}, k < z0 l → l[k]? = some y → y ≠ 0
  | x :: xs, k, y, hk, hy => by
    unfold z0 at hk
    split at hk
    · omega
    · rename_i hx
      cases k with
      | zero => simp at hy; omega
      | succ k => exact z0_before (l := xs) (k := k) (by omega) (by simpa using hy)
/-- The search of the clock: the place found, and the marks behind it. -/
def pass (ms : List Int) (h : Nat) : Nat × List Int :=
  if (0 : Int) ∈ ms.drop h then (h + z0 (ms.drop h), clr ms h (h + z0 (ms.drop h)))
  else (z0 (clr ms h ms.length), clr (clr ms h ms.length) 0 (z0 (clr ms h ms.length)))
theorem drop_at' {ms : List Int} {h : Nat} {x : Int} (hx : ms[h]? = some x) : ms.drop h = x :: ms.drop (h + 1) := by
  obtain ⟨hl, rfl⟩ := List.getElem?_eq_some_iff.1 hx
  exact List.drop_eq_getElem_cons hl
theorem pass_here {ms : List Int} {h : Nat} (hx : ms[h]? = some 0) : pass ms h = (h, ms) := by
  unfold pass
  rw [drop_at' hx, if_pos (by simp)]
  simp [z0, clr_none]
theorem set_drop (ms : List Int) (h : Nat) (x : Int) : (ms.set h x).drop (h + 1) = ms.drop (h + 1) := by
  apply List.ext_getElem?
  intro i
  rw [List.getElem?_drop, List.getElem?_drop, List.getElem?_set_ne (by omega)]
theorem clr_step {ms : List Int} {h b : Nat} (hb : h < b) : clr (ms.set h 0) (h + 1) b = clr ms h b := by
  apply List.ext_getElem?
  intro i
  rw [clr_at, clr_at]
  by_cases e : i = h
  · subst e
    by_cases hl : i < ms.length
    · rw [List.getElem?_set_self hl, List.getElem?_eq_getElem hl]
      simp; intro; omega
    · rw [List.getElem?_eq_none (by simp; omega), List.getElem?_eq_none (by omega)]; rfl
  · rw [List.getElem?_set_ne (fun x => e x.symm)]
    cases ms[i]? with
    | none => rfl
    | some z =>
      have : (h + 1 ≤ i ∧ i < b) ↔ (h ≤ i ∧ i < b) := by omega
      simp [this]
theorem clr_last {ms : List Int} {h : Nat} (hh : h + 1 = ms.length) : clr ms h ms.length = ms.set h 0 := by
  rw [← clr_step (by omega), ← hh]
  exact clr_none _ _
theorem pass_on {ms : List Int} {h : Nat} (hx : ms[h]? = some 1) : pass ms h = pass (ms.set h 0) ((h + 1) % ms.length) := by
  have hl : h < ms.length := (List.getElem?_eq_some_iff.1 hx).1
  by_cases e : h + 1 = ms.length
  · rw [e, Nat.mod_self]
    have hd : ms.drop h = [1] := by rw [drop_at' hx, e, List.drop_length]
    have hm : (0 : Int) ∈ ms.set h 0 := List.mem_of_getElem? (List.getElem?_set_self hl)
    unfold pass
    rw [if_neg (by rw [hd]; simp), List.drop_zero, if_pos hm, clr_last e]
    simp
  · rw [Nat.mod_eq_of_lt (by omega)]
    unfold pass
    rw [set_drop, List.length_set]
    have hd := drop_at' hx
    by_cases h0 : (0 : Int) ∈ ms.drop (h + 1)
    · rw [if_pos (by rw [hd]; simp [h0]), if_pos h0, hd]
      have hz : z0 (1 :: ms.drop (h + 1)) = z0 (ms.drop (h + 1)) + 1 := by rw [z0, if_neg (by decide)]
      rw [hz, clr_step (by omega)]
      have : h + (z0 (ms.drop (h + 1)) + 1) = h + 1 + z0 (ms.drop (h + 1)) := by omega
      rw [this]
    · rw [if_neg (by rw [hd]; simpa using h0), if_neg h0, clr_step (by omega)]
theorem pass_len (ms : List Int) (h : Nat) : (pass ms h).2.length = ms.length := by
  unfold pass; split <;> simp [clr_len]
theorem clr_mem {ms : List Int} {a b : Nat} {z : Int} (h : z ∈ clr ms a b) : z = 0 ∨ z ∈ ms := by
  obtain ⟨i, hi⟩ := List.getElem?_of_mem h
  rw [clr_at] at hi
  cases hm : ms[i]? with
  | none => rw [hm] at hi; cases hi
  | some y =>
    rw [hm] at hi
    simp at hi
    split at hi
    · exact .inl hi.symm
    · exact .inr (hi ▸ List.mem_of_getElem? hm)
theorem pass_lt {ms : List Int} {h : Nat} (hh : h < ms.length) : (pass ms h).1 < ms.length := by
  unfold pass
  split
  · rename_i h0
    have := z0_lt h0
    rw [List.length_drop] at this
    show h + z0 (ms.drop h) < _
    omega
  · have hm : (0 : Int) ∈ clr ms h ms.length := List.mem_of_getElem? (i := h) (by rw [clr_at, List.getElem?_eq_getElem hh]; simp [hh])
    have := z0_lt hm
    rw [clr_len] at this
    exact this
/-- How many marks are 1: what each turn of the hand takes one of. -/
theorem ones_set {ms : List Int} {h : Nat} (hx : ms[h]? = some 1) : (ms.set h 0).count 1 + 1 = ms.count 1 := by
  obtain ⟨hl, e⟩ := List.getElem?_eq_some_iff.1 hx
  have h1 : ms = ms.take h ++ 1 :: ms.drop (h + 1) := by
    conv => lhs; rw [← List.take_append_drop h ms]
    rw [drop_at' hx]
  have h2 : ms.set h 0 = ms.take h ++ 0 :: ms.drop (h + 1) := by
    rw [List.set_eq_take_append_cons_drop, if_pos hl]
  rw [h2]
  conv => rhs; rw [h1]
  simp
  omega
/-- The place of the last one of the least marks among the first k. -/
def rareK (ms : List Int) : Nat → Nat
  | 0 => 0
  | k + 1 => if ms.getD k 0 ≤ ms.getD (rareK ms k) 0 then k else rareK ms k
theorem rareK_lt (ms : List Int) : ∀ k, 0 < k → rareK ms k < k
  | 1, _ => by simp [rareK]
  | k + 2, _ => by
    have := rareK_lt ms (k + 1) (by omega)
    rw [rareK]
    split <;> omega
theorem rareK_one (ms : List Int) : rareK ms 1 = 0 := by simp [rareK]
def rare (ms : List Int) : Nat := rareK ms ms.length
theorem rare_lt {ms : List Int} (h : 0 < ms.length) : rare ms < ms.length := rareK_lt ms _ h
/-- The place of a page, or the number of pages. -/
def pos (x : Int) : List Int → Nat
  | [] => 0
  | y :: ys => if y = x then 0 else pos x ys + 1
theorem pos_le (x : Int) : ∀ l, pos x l ≤ l.length
  | [] => Nat.le_refl _
  | y :: ys => by have := pos_le x ys; unfold pos; split <;> simp <;> omega
theorem pos_lt {x : Int} : ∀ {l : List Int}, x ∈ l → pos x l < l.length
  | y :: ys, h => by
    unfold pos
    split
    · simp
    · rename_i hx
      have := pos_lt (x := x) (l := ys) (by
        rcases List.mem_cons.1 h with e | e
        · exact absurd e.symm hx
        · exact e)
      simp; omega
theorem pos_no {x : Int} : ∀ {l : List Int}, x ∉ l → pos x l = l.length
  | [], _ => rfl
  | y :: ys, h => by
    simp at h
    unfold pos
    rw [if_neg (fun e => h.1 e.symm), pos_no h.2]
    rfl
theorem pos_at {x : Int} : ∀ {l : List Int}, x ∈ l → l[pos x l]? = some x
  | y :: ys, h => by
    unfold pos
    split
    · rename_i e; simp [e]
    · rename_i hx
      simpa using pos_at (x := x) (l := ys) (by
        rcases List.mem_cons.1 h with e | e
        · exact absurd e.symm hx
        · exact e)
theorem pos_of {x : Int} : ∀ {l : List Int} {k : Nat}, l[k]? = some x → (∀ j y, j < k → l[j]? = some y → y ≠ x) → pos x l = k
  | [], k, h, _ => by simp at h
  | y :: ys, 0, h, _ => by simp at h; simp [pos, h]
  | y :: ys, k + 1, h, hb => by
    unfold pos
    rw [if_neg (hb 0 y (by omega) (by simp)), pos_of (l := ys) (k := k) (by simpa using h) (fun j z hj hz => hb (j + 1) z (by omega) (by simpa using hz))]
/-- A hit of the page with an index. -/
def hitC (c : Ca) (k : Nat) : Ca :=
  if c.p = 1 ∨ c.p = 7 then { c with ps := c.ps.getD k 0 :: c.ps.eraseIdx k }
  else if c.p = 5 then { c with ms := c.ms.set k (min (c.ms.getD k 0 + 1) 60) }
  else if c.p = 6 then { c with ms := c.ms.set k 1 }
  else c
/-- What a fault of a full cache, no clock, takes out. -/
def roomC (c : Ca) : Ca :=
  if c.p = 4 then { c with ps := [] }
  else if c.p = 5 then { c with ps := c.ps.eraseIdx (rare c.ms), ms := c.ms.eraseIdx (rare c.ms) }
  else if c.p = 3 ∨ c.p = 7 then { c with ps := c.ps.eraseIdx 0 }
  else { c with ps := c.ps.eraseIdx (c.ps.length - 1) }
def faultC (c : Ca) (x : Int) : Ca :=
  if c.p = 6 then
    if (c.ps.length : Int) < c.s then { c with ps := c.ps ++ [x], ms := c.ms ++ [1] }
    else { c with ps := c.ps.set (pass c.ms c.h.toNat).1 x, ms := (pass c.ms c.h.toNat).2.set (pass c.ms c.h.toNat).1 1, h := (((pass c.ms c.h.toNat).1 + 1) % c.s.toNat : Nat) }
  else
    let d := if (c.ps.length : Int) < c.s then c else roomC c
    { d with ps := x :: d.ps, ms := if c.p = 5 then 1 :: d.ms else d.ms }
def stepC (c : Ca) (x : Int) : Ca := if x ∈ c.ps then hitC c (pos x c.ps) else faultC c x
/-- What a valid cache is. -/
def okC (n : Int) (c : Ca) : Prop :=
  (1 ≤ n ∧ n ≤ 8) ∧ (1 ≤ c.p ∧ c.p ≤ 7) ∧ (1 ≤ c.s ∧ c.s ≤ 6) ∧ (c.ps.length : Int) ≤ c.s ∧ (∀ z ∈ c.ps, 0 ≤ z ∧ z ≤ n - 1) ∧ c.ps.Nodup ∧
  (if c.p = 5 then c.ms.length = c.ps.length ∧ ∀ z ∈ c.ms, 1 ≤ z ∧ z ≤ 60 else if c.p = 6 then c.ms.length = c.ps.length ∧ ∀ z ∈ c.ms, 0 ≤ z ∧ z ≤ 1 else c.ms = []) ∧
  (if c.p = 6 ∧ (c.ps.length : Int) = c.s then 0 ≤ c.h ∧ c.h < c.s else c.h = 0)
end Q
end Go.Proofs.Ytdjafooabpcbmab
