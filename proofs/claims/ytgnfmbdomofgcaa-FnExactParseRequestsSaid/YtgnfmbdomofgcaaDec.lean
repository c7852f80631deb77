/-
  Plain mathematics on decimal numerals: what the digits spell; the text of a number spells it; which texts are a number's.
-/
import Derived.Test.YtgnfmbdomofgcaaNum
import Derived.Lib.AtoiAll
import Derived.Laws.Strings
namespace Go.Proofs.Ytgnfmbdomofgcaa
open Go.RowKit
theorem neq_lists {a b : ByteArray} (h : a ≠ b) : (a.toList == b.toList) = false := by
  rw [ByteArray.toList_eq, ByteArray.toList_eq, beq_eq_false_iff_ne]
  intro e
  apply h
  apply ByteArray.ext
  exact Array.toList_inj.1 e
/-- What a list of digits spells. -/
def dval (l : List UInt8) : Int := l.foldl (fun a c => 10 * a + ((c.toNat : Int) - 48)) 0
def isDig (c : UInt8) : Prop := 48 ≤ c.toNat ∧ c.toNat ≤ 57
theorem dval_snoc (l : List UInt8) (c : UInt8) : dval (l ++ [c]) = 10 * dval l + ((c.toNat : Int) - 48) := by unfold dval; rw [List.foldl_append]; rfl
theorem dec_small (u : Nat) (h : u < 10) : Lib.decDigits u = [UInt8.ofNat (48 + u)] := by rw [Lib.decDigits, dif_pos h]
theorem dec_big (u : Nat) (h : ¬ u < 10) : Lib.decDigits u = Lib.decDigits (u / 10) ++ [UInt8.ofNat (48 + u % 10)] := by rw [Lib.decDigits, dif_neg h]
theorem ofNat_dig (d : Nat) (h : d < 10) : (UInt8.ofNat (48 + d)).toNat = 48 + d := by
  rw [UInt8.toNat_ofNat']; omega
theorem dec_val (u : Nat) : dval (Lib.decDigits u) = (u : Int) := by
  induction u using Nat.strongRecOn with
  | ind u ih =>
    by_cases h : u < 10
    · rw [dec_small u h]
      simp only [dval, List.foldl_cons, List.foldl_nil]
      rw [ofNat_dig u h]; omega
    · rw [dec_big u h, dval_snoc, ih (u / 10) (by omega), ofNat_dig _ (by omega)]; omega
theorem dec_dig (u : Nat) : ∀ c ∈ Lib.decDigits u, isDig c := by
  induction u using Nat.strongRecOn with
  | ind u ih =>
    intro c hc
    by_cases h : u < 10
    · rw [dec_small u h] at hc
      obtain rfl := List.mem_singleton.1 hc
      unfold isDig; rw [ofNat_dig u h]; omega
    · rw [dec_big u h] at hc
      rcases List.mem_append.1 hc with hc | hc
      · exact ih (u / 10) (by omega) c hc
      · obtain rfl := List.mem_singleton.1 hc
        unfold isDig; rw [ofNat_dig _ (by omega)]; omega
theorem dec_len (u : Nat) (h : u ≤ 999999) : 1 ≤ (Lib.decDigits u).length ∧ (Lib.decDigits u).length ≤ 6 := by
  rw [Lib.decDigits_length]
  exact ⟨Lib.nDigits_pos u, nDigits_le 5 u (by omega)⟩
/-- A text that is a number's, in the range of FormatInt. -/
def IsNum (s : ByteArray) (n : Int) : Prop := -999999 ≤ n ∧ n ≤ 999999 ∧ s = numS n
theorem numS_list (n : Int) : (numS n).data.toList = Lib.itoa n := by unfold numS; simp
/-- What stands behind the sign, and that it is the number's digits. -/
theorem isNum_list {s : ByteArray} {n : Int} (h : IsNum s n) :
    (n < 0 ∧ s.data.toList = 45 :: Lib.decDigits n.natAbs) ∨ (0 ≤ n ∧ s.data.toList = Lib.decDigits n.natAbs) := by
  obtain ⟨_, _, rfl⟩ := h
  rw [numS_list]
  unfold Lib.itoa
  by_cases hn : n < 0
  · rw [if_pos hn]; exact .inl ⟨hn, rfl⟩
  · rw [if_neg hn]; exact .inr ⟨by omega, by congr 1; omega⟩
theorem dec_first (u : Nat) : ∃ c r, Lib.decDigits u = c :: r ∧ isDig c := by
  have h := dec_dig u
  have hl : 1 ≤ (Lib.decDigits u).length := by rw [Lib.decDigits_length]; exact Lib.nDigits_pos u
  match e : Lib.decDigits u with
  | [] => rw [e] at hl; simp at hl
  | c :: r => exact ⟨c, r, rfl, h c (by rw [e]; simp)⟩
/-- The model's reading: with the sign. -/
theorem isNum_neg {s : ByteArray} {n : Int} (h : IsNum s n) {r : List UInt8} (hs : s.data.toList = 45 :: r) : n < 0 ∧ r = Lib.decDigits n.natAbs := by
  rcases isNum_list h with ⟨hn, hl⟩ | ⟨hn, hl⟩
  · rw [hs] at hl
    injection hl with _ hl
    exact ⟨hn, hl⟩
  · obtain ⟨c, r', e, hc⟩ := dec_first n.natAbs
    rw [hs, e] at hl
    injection hl with hl _
    subst hl
    unfold isDig at hc
    exact absurd hc.1 (by decide)
theorem isNum_pos {s : ByteArray} {n : Int} (h : IsNum s n) (hs : ∀ r, s.data.toList ≠ 45 :: r) : 0 ≤ n ∧ s.data.toList = Lib.decDigits n.natAbs := by
  rcases isNum_list h with ⟨hn, hl⟩ | ⟨hn, hl⟩
  · exact absurd hl (hs _)
  · exact ⟨hn, hl⟩
theorem isNum_inj {s : ByteArray} {n m : Int} (h : IsNum s n) (h' : IsNum s m) : n = m := by
  have hv : ∀ u v : Nat, Lib.decDigits u = Lib.decDigits v → u = v := fun u v e => by
    have := dec_val u
    rw [e, dec_val v] at this
    omega
  rcases isNum_list h with ⟨hn, hl⟩ | ⟨hn, hl⟩
  · have := isNum_neg h' hl
    have := hv _ _ this.2
    omega
  · rcases isNum_list h' with ⟨hm, hl'⟩ | ⟨hm, hl'⟩
    · have := isNum_neg h hl'
      omega
    · rw [hl] at hl'
      have := hv _ _ hl'
      omega
open Classical in
/-- How ParseInt ends. -/
noncomputable def rd (s : ByteArray) : Int × Bool := if h : ∃ n, IsNum s n then (Classical.choose h, true) else (0, false)
theorem rd_yes {s : ByteArray} {n : Int} (h : IsNum s n) : rd s = (n, true) := by
  unfold rd
  rw [dif_pos ⟨n, h⟩]
  have := Classical.choose_spec (⟨n, h⟩ : ∃ n, IsNum s n)
  rw [isNum_inj this h]
theorem rd_no {s : ByteArray} (h : ¬ ∃ n, IsNum s n) : rd s = (0, false) := by unfold rd; rw [dif_neg h]
theorem rd_bound (s : ByteArray) : -999999 ≤ (rd s).1 ∧ (rd s).1 ≤ 999999 := by
  by_cases h : ∃ n, IsNum s n
  · obtain ⟨n, h⟩ := h
    rw [rd_yes h]
    exact ⟨h.1, h.2.1⟩
  · rw [rd_no h]; exact ⟨by decide, by decide⟩
/-- Reading digits onward from what is read. -/
theorem parseUint10_dig : ∀ (l : List UInt8) (acc : Nat), (∀ c ∈ l, isDig c) → (l.foldl (fun (a : Int) c => 10 * a + ((c.toNat : Int) - 48)) (acc : Int)) ≤ 999999 → Lib.parseUint10 acc l = .ok (l.foldl (fun (a : Int) c => 10 * a + ((c.toNat : Int) - 48)) (acc : Int)).toNat
  | [], acc, _, _ => by simp [Lib.parseUint10]
  | c :: r, acc, hd, hb => by
    have hc := hd c (by simp)
    unfold isDig at hc
    have mono : ∀ (l : List UInt8) (a : Int), (∀ c ∈ l, isDig c) → 0 ≤ a → a ≤ l.foldl (fun (a : Int) c => 10 * a + ((c.toNat : Int) - 48)) a := by
      intro l
      induction l with
      | nil => intro a _ _; exact Int.le_refl _
      | cons c r ih =>
        intro a hd ha
        have hc := hd c (by simp)
        unfold isDig at hc
        have := ih (10 * a + ((c.toNat : Int) - 48)) (fun c hc => hd c (by simp [hc])) (by omega)
        rw [List.foldl_cons]; omega
    rw [List.foldl_cons] at hb ⊢
    have e : (10 * (acc : Int) + ((c.toNat : Int) - 48)) = ((acc * 10 + (c.toNat - 48) : Nat) : Int) := by omega
    rw [e] at hb ⊢
    have hm := mono r ((acc * 10 + (c.toNat - 48) : Nat) : Int) (fun c hc => hd c (by simp [hc])) (by omega)
    unfold Lib.parseUint10
    rw [if_pos hc, if_neg (by omega), if_neg (by omega)]
    exact parseUint10_dig r _ (fun c hc => hd c (by simp [hc])) hb
theorem parseMag_dec (u : Nat) (h : u ≤ 999999) : Lib.parseMag (Lib.decDigits u) = .ok u := by
  obtain ⟨c, r, e, _⟩ := dec_first u
  unfold Lib.parseMag
  rw [if_neg (by rw [e]; simp)]
  have hv := dec_val u
  unfold dval at hv
  have := parseUint10_dig (Lib.decDigits u) 0 (dec_dig u) (by rw [show ((0 : Nat) : Int) = 0 from rfl, hv]; omega)
  rw [this, show ((0 : Nat) : Int) = 0 from rfl, hv]; simp
/-- Atoi reads the text of a number as that number. -/
theorem atoi_num {s : ByteArray} {n : Int} (h : IsNum s n) : Lib.atoiAll s.data.toList = .ok n := by
  have hb := h
  obtain ⟨h1, h2, _⟩ := hb
  rcases isNum_list h with ⟨hn, hl⟩ | ⟨hn, hl⟩
  · rw [hl]
    have hm := parseMag_dec n.natAbs (by omega)
    have e : (45 : UInt8).toNat = 45 := rfl
    simp only [Lib.atoiAll, e, or_true, if_true, hm]
    rw [if_neg (by simp), if_neg (by omega)]
    congr 1; omega
  · obtain ⟨c, r, e, hc⟩ := dec_first n.natAbs
    have hm := parseMag_dec n.natAbs (by omega)
    rw [hl, e]
    rw [e] at hm
    unfold isDig at hc
    simp only [Lib.atoiAll]
    rw [if_neg (by omega), hm]
    simp only []
    rw [if_neg (by omega), if_neg (by omega), if_neg (by omega)]
    congr 1; omega
end Go.Proofs.Ytgnfmbdomofgcaa
