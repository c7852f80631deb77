/-
  AnomalyOf: the model's and the code's.
-/
import Derived.Test.YtdjafooabpcbmaaBys
namespace Go.Proofs.Ytdjafooabpcbmaa
open Go.RowKit
set_option linter.unusedVariables false
namespace Q
/-- The first size from k on, of f more, with less than the next one. -/
def anoG (l : List Int) : Nat → Nat → Int × Bool
  | 0, _ => (0, false)
  | f + 1, k => if l.getD (k - 1) 0 < l.getD k 0 then ((k : Int), true) else anoG l f (k + 1)
theorem anoG_at (l : List Int) (f j : Nat) : anoG l (f + 1) (j + 1) = if (l[j]?).getD 0 < (l[j + 1]?).getD 0 then (((j : Int) + 1), true) else anoG l f (j + 1 + 1) := by
  rw [anoG, List.getD_eq_getElem?_getD, List.getD_eq_getElem?_getD]
  rfl
def anoQ (n p : Int) (zs : List Int) : Int × Bool := if (good n zs && okP p) then anoG (byL p zs 6) 5 1 else (0, false)
end Q
def anoSays (X : Int × Bool) (w : World) (e : Ending) (w' : World) : Prop := e = .returned (.tuple #[.int .i64 X.1, .bool X.2]) ∧ Below w.heap.size w w'
set_option maxHeartbeats 1600000 in
theorem specAno_any (n p : Int) (zs : List Int) (R : Option Addr) (q : Nat) (hl : zs.length ≤ 1048576) (w : World) (hr : Law.Row w R (ivs zs)) :
    Calls Try.prog 44 #[.int .i64 n, .int .i64 p, .slice R zs.length q] w (anoSays (Q.anoQ n p zs) w) := by
  have HQ := Lib.hid (l4Asked_any n p 1 R q zs w hl hr)
  rw [Q.by_ask] at HQ
  unfold anoSays
  cases hg : (Q.good n zs && Q.okP p)
  · rw [show Q.anoQ n p zs = (0, false) from if_neg (by simp [hg])]
    rw [hg] at HQ
    clear hr hg
    go_enter Try.func44, Try.ntmps44
    go_wp2_with fail
    go_at_call 73
    refine (HQ.out).mono ?_
    rintro e w' ⟨rfl, hw'⟩
    obtain rfl := hw'.symm
    clear hw'
    go_wp2
    go_ret2
    exact ⟨rfl, Below.refl _ _⟩
  rw [show Q.anoQ n p zs = Q.anoG (Q.byL p zs 6) 5 1 from if_pos hg]
  rw [hg] at HQ
  have hg2 := (Bool.and_eq_true _ _).mp hg
  have HP := Lib.hid (l4BySize_any (q := q) hg2.1 hg2.2 hr)
  have HL := Lib.hid (Q.byL_len p zs 6)
  generalize Q.byL p zs 6 = l at HP HL ⊢
  clear hr hg hg2
  go_enter Try.func44, Try.ntmps44
  go_wp2_with fail
  go_at_call 73
  refine (HQ.out).mono ?_
  rintro e w' ⟨rfl, hw'⟩
  obtain rfl := hw'.symm
  clear hw'
  go_wp2_with fail
  go_at_call 79
  refine HP.out.mono ?_
  rintro e w2 ⟨v, rfl, ho, hb2⟩
  rw [HL.out] at ho
  obtain ⟨g, d, rfl, _, _⟩ := own_some ho (by omega)
  have HO := Lib.hid ho
  have HB := Lib.hid hb2
  clear ho hb2
  go_wp2_with fail
  go_loopw [9] (fun i wr => ∃ k m : Nat, 1 ≤ k ∧ k ≤ 6 ∧ i = .int .i64 (k : Int) ∧ wr = w2.drewN m ∧ Hid (Q.anoG l 5 1 = Q.anoG l (6 - k) k)) (fun i _ => 6 - (intOf i).toNat)
  case atStart => exact ⟨1, 0, Nat.le_refl _, by omega, rfl, rfl, Lib.hid rfl⟩
  case round =>
    obtain ⟨k, m, hk1, hk, rfl, rfl, hG⟩ := hrel
    by_cases hk6 : k < 6
    · have hkI : (k : Int) < 6 := by omega
      obtain ⟨j, rfl⟩ : ∃ j, k = j + 1 := ⟨k - 1, by omega⟩
      rw [show ((j + 1 : Nat) : Int) = (j : Int) + 1 from rfl] at hkI ⊢
      obtain ⟨y, hy⟩ : ∃ y, l[j]? = some y := ⟨_, List.getElem?_eq_getElem (by rw [HL.out]; omega)⟩
      obtain ⟨z, hz⟩ : ∃ z, l[j + 1]? = some z := ⟨_, List.getElem?_eq_getElem (by rw [HL.out]; omega)⟩
      have hc1 := own_cell HO.out hy
      have hc2 := own_cell HO.out hz
      have hst := Q.anoG_at l (4 - j) j
      rw [show 4 - j + 1 = 6 - (j + 1) by omega, hy, hz] at hst
      have HST := Lib.hid hst
      have hw1 : IntKind.i64.wrap ((j : Int) + 1 - 1) = (j : Int) := by rw [IntKind.wrap_i64]; omega
      have hw0 : IntKind.i64.wrap (j : Int) = (j : Int) := by rw [IntKind.wrap_i64]; omega
      have hjj : (j : Int) + 1 - 1 = (j : Int) := by omega
      have hj6 : (j : Int) < 6 := by omega
      have hj0 : (0 : Int) ≤ (j : Int) + 1 := by omega
      have hjt : ((j : Int) + 1).toNat = j + 1 := by omega
      clear hy hz hst
      by_cases hyz : y < z
      · have HE : Hid (Q.anoG l 5 1 = (((j : Int) + 1), true)) := by show _ = _; rw [hG.out, HST.out]; exact if_pos hyz
        clear hG HST
        go_wp2
        go_quiet (fail)
        go_wp2
        go_ret2
        exact ⟨by rw [HE.out]; rfl, Law.up (Law.up HB.out _) _⟩
      · have HE : Hid (Q.anoG l 5 1 = Q.anoG l (6 - (j + 1 + 1)) (j + 1 + 1)) := by show _ = _; rw [hG.out, HST.out, show 6 - (j + 1 + 1) = 4 - j by omega]; exact if_neg hyz
        have hyzb : decide (y < z) = false := by simpa using hyz
        clear hG HST
        go_wp2
        go_quiet (fail)
        go_wp2
        go_roundw
        case rel => exact ⟨j + 1 + 1, _, by omega, by omega, by go_num, by first | rfl | simp, HE⟩
        case measure => simp [intOf]; omega
    · have hke : k = 6 := by omega
      subst hke
      have HE : Hid (Q.anoG l 5 1 = (0, false)) := hG
      rw [show ((6 : Nat) : Int) = 6 from rfl]
      go_wp2
      go_ret2
      exact ⟨by rw [HE.out]; rfl, Law.up HB.out _⟩
set_option maxHeartbeats 1600000 in
theorem impAno_any (n p : Int) (zs : List Int) (R : Option Addr) (q : Nat) (hl : zs.length ≤ 1048576) (w : World) (hr : Law.Row w R (ivs zs)) :
    Calls Try.prog 45 #[.int .i64 n, .int .i64 p, .slice R zs.length q] w (anoSays (Q.anoQ n p zs) w) := by
  have HP := impBy_any n p zs R q hl w hr
  unfold anoSays
  cases hg : (Q.good n zs && Q.okP p)
  · rw [show Q.anoQ n p zs = (0, false) from if_neg (by simp [hg])]
    rw [show Q.byQ n p zs = ([], false) from if_neg (by simp [hg])] at HP
    have HP := Lib.hid HP
    clear hr hg
    go_enter Try.func45, Try.ntmps45
    go_wp2_with fail
    go_at_call 38
    refine HP.out.mono ?_
    rintro e w2 ⟨v, rfl, ho, hb2⟩
    have HB := Lib.hid hb2
    clear ho hb2
    go_wp2
    go_ret2
    exact ⟨rfl, HB.out⟩
  rw [show Q.anoQ n p zs = Q.anoG (Q.byL p zs 6) 5 1 from if_pos hg]
  rw [show Q.byQ n p zs = (Q.byL p zs 6, true) from if_pos hg] at HP
  have HP := Lib.hid HP
  have HL := Lib.hid (Q.byL_len p zs 6)
  generalize Q.byL p zs 6 = l at HP HL ⊢
  clear hr hg
  go_enter Try.func45, Try.ntmps45
  go_wp2_with fail
  go_at_call 38
  refine HP.out.mono ?_
  rintro e w2 ⟨v, rfl, ho, hb2⟩
  simp only [] at ho
  rw [HL.out] at ho
  obtain ⟨g, d, rfl, _, _⟩ := own_some ho (by omega)
  have HO := Lib.hid ho
  have HB := Lib.hid hb2
  clear ho hb2
  go_wp2_with fail
  go_loopw [10] (fun i wr => ∃ k m : Nat, 1 ≤ k ∧ k ≤ 6 ∧ i = .int .i64 (k : Int) ∧ wr = w2.drewN m ∧ Hid (Q.anoG l 5 1 = Q.anoG l (6 - k) k)) (fun i _ => 6 - (intOf i).toNat)
  case atStart => exact ⟨1, 0, Nat.le_refl _, by omega, rfl, rfl, Lib.hid rfl⟩
  case round =>
    obtain ⟨k, m, hk1, hk, rfl, rfl, hG⟩ := hrel
    by_cases hk6 : k < 6
    · have hkI : (k : Int) < 6 := by omega
      obtain ⟨j, rfl⟩ : ∃ j, k = j + 1 := ⟨k - 1, by omega⟩
      rw [show ((j + 1 : Nat) : Int) = (j : Int) + 1 from rfl] at hkI ⊢
      obtain ⟨y, hy⟩ : ∃ y, l[j]? = some y := ⟨_, List.getElem?_eq_getElem (by rw [HL.out]; omega)⟩
      obtain ⟨z, hz⟩ : ∃ z, l[j + 1]? = some z := ⟨_, List.getElem?_eq_getElem (by rw [HL.out]; omega)⟩
      have hc1 := own_cell HO.out hy
      have hc2 := own_cell HO.out hz
      have hst := Q.anoG_at l (4 - j) j
      rw [show 4 - j + 1 = 6 - (j + 1) by omega, hy, hz] at hst
      have HST := Lib.hid hst
      have hw1 : IntKind.i64.wrap ((j : Int) + 1 - 1) = (j : Int) := by rw [IntKind.wrap_i64]; omega
      have hw0 : IntKind.i64.wrap (j : Int) = (j : Int) := by rw [IntKind.wrap_i64]; omega
      have hjj : (j : Int) + 1 - 1 = (j : Int) := by omega
      have hj6 : (j : Int) < 6 := by omega
      have hj0 : (0 : Int) ≤ (j : Int) + 1 := by omega
      have hjt : ((j : Int) + 1).toNat = j + 1 := by omega
      clear hy hz hst
      by_cases hyz : y < z
      · have HE : Hid (Q.anoG l 5 1 = (((j : Int) + 1), true)) := by show _ = _; rw [hG.out, HST.out]; exact if_pos hyz
        clear hG HST
        go_wp2
        go_quiet (fail)
        go_wp2
        go_ret2
        exact ⟨by rw [HE.out]; rfl, Law.up (Law.up HB.out _) _⟩
      · have HE : Hid (Q.anoG l 5 1 = Q.anoG l (6 - (j + 1 + 1)) (j + 1 + 1)) := by show _ = _; rw [hG.out, HST.out, show 6 - (j + 1 + 1) = 4 - j by omega]; exact if_neg hyz
        have hyzb : decide (y < z) = false := by simpa using hyz
        clear hG HST
        go_wp2
        go_quiet (fail)
        go_wp2
        go_roundw
        case rel => exact ⟨j + 1 + 1, _, by omega, by omega, by go_num, by first | rfl | simp, HE⟩
        case measure => simp [intOf]; omega
    · have hke : k = 6 := by omega
      subst hke
      have HE : Hid (Q.anoG l 5 1 = (0, false)) := hG
      rw [show ((6 : Nat) : Int) = 6 from rfl]
      go_wp2
      go_ret2
      exact ⟨by rw [HE.out]; rfl, Law.up HB.out _⟩
end Go.Proofs.Ytdjafooabpcbmaa
