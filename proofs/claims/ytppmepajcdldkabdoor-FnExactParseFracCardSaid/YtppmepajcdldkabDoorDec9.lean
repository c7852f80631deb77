/-
  Decimal numerals of at most nine digits: what they spell, and that Atoi reads them.
-/
import Derived.Test.YtppmepajcdldkabDoorDec
namespace Go.Proofs.YtppmepajcdldkabDoor
open Go.RowKit
set_option linter.unusedVariables false
theorem dec_len9 (u : Nat) (h : u ≤ 999999999) : 1 ≤ (Lib.decDigits u).length ∧ (Lib.decDigits u).length ≤ 9 := by
  rw [Lib.decDigits_length]
  exact ⟨Lib.nDigits_pos u, nDigits_le 8 u (by omega)⟩
/-- A text that is a number's, of at most nine digits. -/
def IsNum9 (s : ByteArray) (n : Int) : Prop := -999999999 ≤ n ∧ n ≤ 999999999 ∧ s = numS n
/-- What stands behind the sign, and that it is the number's digits. -/
theorem isNum_list9 {s : ByteArray} {n : Int} (h : IsNum9 s n) :
    (n < 0 ∧ s.data.toList = 45 :: Lib.decDigits n.natAbs) ∨ (0 ≤ n ∧ s.data.toList = Lib.decDigits n.natAbs) := by
  obtain ⟨_, _, rfl⟩ := h
  rw [numS_list]
  unfold Lib.itoa
  by_cases hn : n < 0
  · rw [if_pos hn]; exact .inl ⟨hn, rfl⟩
  · rw [if_neg hn]; exact .inr ⟨by omega, by congr 1; omega⟩
/-- The model's reading: with the sign. -/
theorem isNum_neg9 {s : ByteArray} {n : Int} (h : IsNum9 s n) {r : List UInt8} (hs : s.data.toList = 45 :: r) : n < 0 ∧ r = Lib.decDigits n.natAbs := by
  rcases isNum_list9 h with ⟨hn, hl⟩ | ⟨hn, hl⟩
  · rw [hs] at hl
    injection hl with _ hl
    exact ⟨hn, hl⟩
  · obtain ⟨c, r', e, hc⟩ := dec_first n.natAbs
    rw [hs, e] at hl
    injection hl with hl _
    subst hl
    unfold isDig at hc
    exact absurd hc.1 (by decide)
theorem isNum_pos9 {s : ByteArray} {n : Int} (h : IsNum9 s n) (hs : ∀ r, s.data.toList ≠ 45 :: r) : 0 ≤ n ∧ s.data.toList = Lib.decDigits n.natAbs := by
  rcases isNum_list9 h with ⟨hn, hl⟩ | ⟨hn, hl⟩
  · exact absurd hl (hs _)
  · exact ⟨hn, hl⟩
theorem isNum_inj9 {s : ByteArray} {n m : Int} (h : IsNum9 s n) (h' : IsNum9 s m) : n = m := by
  have hv : ∀ u v : Nat, Lib.decDigits u = Lib.decDigits v → u = v := fun u v e => by
    have := dec_val u
    rw [e, dec_val v] at this
    omega
  rcases isNum_list9 h with ⟨hn, hl⟩ | ⟨hn, hl⟩
  · have := isNum_neg9 h' hl
    have := hv _ _ this.2
    omega
  · rcases isNum_list9 h' with ⟨hm, hl'⟩ | ⟨hm, hl'⟩
    · have := isNum_neg9 h hl'
      omega
    · rw [hl] at hl'
      have := hv _ _ hl'
      omega
/-- Reading digits onward from what is read. -/
theorem parseUint10_dig9 : ∀ (l : List UInt8) (acc : Nat), (∀ c ∈ l, isDig c) → (l.foldl (fun (a : Int) c => 10 * a + ((c.toNat : Int) - 48)) (acc : Int)) ≤ 999999999 → Lib.parseUint10 acc l = .ok (l.foldl (fun (a : Int) c => 10 * a + ((c.toNat : Int) - 48)) (acc : Int)).toNat
  | [], acc, _, _ => by simp [Lib.parseUint10]
  | c :: r, acc, hd, hb => by
    have hc := hd c (by simp)
    unfold isDig at hc
    have mono : ∀ (l : List UInt8) (a : Int), (∀ c ∈ l, isDig c) → 0 ≤ a → a ≤ l.foldl (fun (a : Int) c => 10 * a + ((c.toNat : Int) - 48)) a := by
      intro l
      induction l with
      | nil => intro a _ _; exact Int.le_refl _
      | cons c r ih =>
        intro a hd ha
        have hc := hd c (by simp)
        unfold isDig at hc
        have := ih (10 * a + ((c.toNat : Int) - 48)) (fun c hc => hd c (by simp [hc])) (by omega)
        rw [List.foldl_cons]; omega
    rw [List.foldl_cons] at hb ⊢
    have e : (10 * (acc : Int) + ((c.toNat : Int) - 48)) = ((acc * 10 + (c.toNat - 48) : Nat) : Int) := by omega
    rw [e] at hb ⊢
    have hm := mono r ((acc * 10 + (c.toNat - 48) : Nat) : Int) (fun c hc => hd c (by simp [hc])) (by omega)
    unfold Lib.parseUint10
    rw [if_pos hc, if_neg (by omega), if_neg (by omega)]
    exact parseUint10_dig9 r _ (fun c hc => hd c (by simp [hc])) hb
theorem parseMag_dec9 (u : Nat) (h : u ≤ 999999999) : Lib.parseMag (Lib.decDigits u) = .ok u := by
  obtain ⟨c, r, e, _⟩ := dec_first u
  unfold Lib.parseMag
  rw [if_neg (by rw [e]; simp)]
  have hv := dec_val u
  unfold dval at hv
  have := parseUint10_dig9 (Lib.decDigits u) 0 (dec_dig u) (by rw [show ((0 : Nat) : Int) = 0 from rfl, hv]; omega)
  rw [this, show ((0 : Nat) : Int) = 0 from rfl, hv]; simp
/-- Atoi reads the text of a number as that number. -/
theorem atoi_num9 {s : ByteArray} {n : Int} (h : IsNum9 s n) : Lib.atoiAll s.data.toList = .ok n := by
  have hb := h
  obtain ⟨h1, h2, _⟩ := hb
  rcases isNum_list9 h with ⟨hn, hl⟩ | ⟨hn, hl⟩
  · rw [hl]
    have hm := parseMag_dec9 n.natAbs (by omega)
    have e : (45 : UInt8).toNat = 45 := rfl
    simp only [Lib.atoiAll, e, or_true, if_true, hm]
    rw [if_neg (by simp), if_neg (by omega)]
    congr 1; omega
  · obtain ⟨c, r, e, hc⟩ := dec_first n.natAbs
    have hm := parseMag_dec9 n.natAbs (by omega)
    rw [hl, e]
    rw [e] at hm
    unfold isDig at hc
    simp only [Lib.atoiAll]
    rw [if_neg (by omega), hm]
    simp only []
    rw [if_neg (by omega), if_neg (by omega), if_neg (by omega)]
    congr 1; omega
end Go.Proofs.YtppmepajcdldkabDoor
