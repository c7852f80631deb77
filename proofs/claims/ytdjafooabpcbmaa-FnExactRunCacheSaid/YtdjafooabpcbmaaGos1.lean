/-
  The model's l4Marks and l4Good: whether a cache is valid.
-/
import Derived.Test.YtdjafooabpcbmaaIs
import Derived.Test.YtdjafooabpcbmaaBa
import Derived.Test.YtdjafooabpcbmaaQs
namespace Go.Proofs.Ytdjafooabpcbmaa
open Go.RowKit
set_option linter.unusedVariables false
theorem l4Marked_any (p : Int) (w : World) : Calls Try.prog 131 #[.int .i64 p] w fun e w' => e = .returned (.bool ((p == 5) || (p == 6))) ∧ w' = w := by
  cases h5 : (p == 5)
  · go_enter Try.func131, Try.ntmps131
    go_wp2
    go_ret
    exact ⟨rfl, rfl⟩
  · go_enter Try.func131, Try.ntmps131
    go_wp2
    go_ret
    exact ⟨rfl, rfl⟩
section
variable {W : World} {A B : Option Addr} {d e : Nat} {c : Ca}
set_option maxRecDepth 20000 in
set_option maxHeartbeats 1600000 in
theorem sMarks_5 (h : CaIn W A d B e c) (hp : c.p = 5) (hl : c.ms.length ≤ 1048576) (hl2 : c.ps.length ≤ 1048576) : Calls Try.prog 99 #[caV c A d B e] W fun r W' => r = .returned (.bool (bo (marksP c.p c.ps c.ms))) ∧ Below W.heap.size W W' := by
  have HM : Hid (∀ X, Calls Try.prog 131 #[.int .i64 5] X fun e w' => e = .returned (.bool true) ∧ w' = X) := Lib.hid fun X => l4Marked_any 5 X
  have HIn := Lib.hid fun y X => l1In_any y 1 60 X
  have HP : Hid (bo (marksP c.p c.ps c.ms) = bo (c.ms.length = c.ps.length ∧ ∀ z ∈ c.ms, 1 ≤ z ∧ z ≤ 60)) := by show _ = _; rw [hp]; rfl
  have HR := Lib.hid h.2.2.2
  have HE := Lib.hid (show caV c A d B e = .agg #[.int .i64 5, .int .i64 c.s, .slice A c.ps.length d, .slice B c.ms.length e, .int .i64 c.h] by rw [← hp]; rfl)
  rw [HE.out]
  have hb0 : Below W.heap.size W (W.alloc (.cells #[.int .i64 5, .int .i64 c.s, .slice A c.ps.length d, .slice B c.ms.length e, .int .i64 c.h] 26)) := (Below.refl _ _).alloc (Nat.le_refl _) _
  have HB := Lib.hid (blk5_of (heap_alloc_new W (.cells #[.int .i64 5, .int .i64 c.s, .slice A c.ps.length d, .slice B c.ms.length e, .int .i64 c.h] 26)))
  have HB0 := Lib.hid hb0
  have HR1 := Lib.hid (HR.out.stays hb0)
  clear h hp hb0
  by_cases heq : c.ms.length = c.ps.length
  · have heb : ((c.ms.length : Int) == (c.ps.length : Int)) = true := by rw [heq]; simp
    have heI : (c.ms.length : Int) = (c.ps.length : Int) := by omega
    have Heq := Lib.hid heq
    clear heq
    go_enter Try.func99, Try.ntmps99
    go_wp2_with fail
    generalize W.alloc (.cells #[.int .i64 5, .int .i64 c.s, .slice A c.ps.length d, .slice B c.ms.length e, .int .i64 c.h] 26) = X at HB HB0 HR1 ⊢
    go_at_call 131
    refine (HM.out _).mono ?_
    rintro r w' ⟨rfl, hw'⟩
    obtain rfl := hw'.symm
    clear hw'
    obtain ⟨c0, c1, c2, c3, c4, f0, f1, f2, f3, f4⟩ := HB.out
    go_wp2_with fail
    go_loop [3] (fun i => ∃ k : Nat, k ≤ c.ms.length ∧ i = .int .i64 k ∧ Hid (∀ j y, j < k → c.ms[j]? = some y → 1 ≤ y ∧ y ≤ 60)) (fun i => c.ms.length - (intOf i).toNat)
    case atStart => exact ⟨0, Nat.zero_le _, rfl, fun j y h => by omega⟩
    case round =>
      obtain ⟨k, hk, rfl, hall⟩ := hrel
      by_cases hlt : k < c.ms.length
      · have hltI : (k : Int) < (c.ms.length : Int) := by omega
        obtain ⟨y, hy⟩ : ∃ y, c.ms[k]? = some y := ⟨_, List.getElem?_eq_getElem hlt⟩
        obtain ⟨b, off, rfl, hbl, hc⟩ := HR1.out.at_ (ivs_some hy)
        have HY := Lib.hid hy
        have HIy := HIn.out y X
        clear hy
        by_cases hin : 1 ≤ y ∧ y ≤ 60
        · rw [show (decide (1 ≤ y) && decide (y ≤ 60)) = true by simp [hin]] at HIy
          have HIy := Lib.hid HIy
          have HN : Hid (∀ j z, j < k + 1 → c.ms[j]? = some z → 1 ≤ z ∧ z ≤ 60) := fun j z hj hz => by
            rcases Nat.lt_or_ge j k with h | h
            · exact hall.out j z h hz
            · obtain rfl : j = k := by omega
              rw [HY.out] at hz
              injection hz with hz
              omega
          clear hall hin
          go_wp2_with fail
          go_at_call 60
          refine (HIy.out).mono ?_
          rintro r w' ⟨rfl, hw'⟩
          obtain rfl := hw'.symm
          clear hw'
          go_wp2
          go_round
          case rel => exact ⟨k + 1, by omega, by go_num, HN.out⟩
          case measure => simp [intOf]; omega
        · rw [show (decide (1 ≤ y) && decide (y ≤ 60)) = false by rw [Bool.and_eq_false_iff]; simp; omega] at HIy
          have HIy := Lib.hid HIy
          have HN : Hid (bo (c.ms.length = c.ps.length ∧ ∀ z ∈ c.ms, 1 ≤ z ∧ z ≤ 60) = false) := bo_false fun h => hin (h.2 y (List.mem_of_getElem? HY.out))
          clear hall hin
          go_wp2_with fail
          go_at_call 60
          refine (HIy.out).mono ?_
          rintro r w' ⟨rfl, hw'⟩
          obtain rfl := hw'.symm
          clear hw'
          go_wp2
          go_ret
          exact ⟨by rw [HP.out, HN.out]; rfl, HB0.out⟩
      · have hke : k = c.ms.length := by omega
        have hltI : ¬ (k : Int) < (c.ms.length : Int) := by omega
        have HN : Hid (bo (c.ms.length = c.ps.length ∧ ∀ z ∈ c.ms, 1 ≤ z ∧ z ≤ 60) = true) := bo_true ⟨Heq.out, fun z hz => by
          obtain ⟨j, hj⟩ := List.getElem?_of_mem hz
          have := (List.getElem?_eq_some_iff.1 hj).1
          exact hall.out j z (by omega) hj⟩
        clear hall hke
        go_wp2
        go_ret
        exact ⟨by rw [HP.out, HN.out]; rfl, HB0.out⟩
  · have HN : Hid (bo (c.ms.length = c.ps.length ∧ ∀ z ∈ c.ms, 1 ≤ z ∧ z ≤ 60) = false) := bo_false fun h => heq h.1
    have heb : ((c.ms.length : Int) == (c.ps.length : Int)) = false := by simp; omega
    have heI : ¬ (c.ms.length : Int) = (c.ps.length : Int) := by omega
    clear heq
    go_enter Try.func99, Try.ntmps99
    go_wp2_with fail
    generalize W.alloc (.cells #[.int .i64 5, .int .i64 c.s, .slice A c.ps.length d, .slice B c.ms.length e, .int .i64 c.h] 26) = X at HB HB0 HR1 ⊢
    go_at_call 131
    refine (HM.out _).mono ?_
    rintro r w' ⟨rfl, hw'⟩
    obtain rfl := hw'.symm
    clear hw'
    obtain ⟨c0, c1, c2, c3, c4, f0, f1, f2, f3, f4⟩ := HB.out
    go_wp2
    go_ret
    exact ⟨by rw [HP.out, HN.out]; rfl, HB0.out⟩
set_option maxRecDepth 20000 in
set_option maxHeartbeats 1600000 in
theorem sMarks_6 (h : CaIn W A d B e c) (hp : c.p = 6) (hl : c.ms.length ≤ 1048576) (hl2 : c.ps.length ≤ 1048576) : Calls Try.prog 99 #[caV c A d B e] W fun r W' => r = .returned (.bool (bo (marksP c.p c.ps c.ms))) ∧ Below W.heap.size W W' := by
  have HM : Hid (∀ X, Calls Try.prog 131 #[.int .i64 6] X fun e w' => e = .returned (.bool true) ∧ w' = X) := Lib.hid fun X => l4Marked_any 6 X
  have HIn := Lib.hid fun y X => l1In_any y 0 1 X
  have HP : Hid (bo (marksP c.p c.ps c.ms) = bo (c.ms.length = c.ps.length ∧ ∀ z ∈ c.ms, 0 ≤ z ∧ z ≤ 1)) := by show _ = _; rw [hp]; rfl
  have HR := Lib.hid h.2.2.2
  have HE := Lib.hid (show caV c A d B e = .agg #[.int .i64 6, .int .i64 c.s, .slice A c.ps.length d, .slice B c.ms.length e, .int .i64 c.h] by rw [← hp]; rfl)
  rw [HE.out]
  have hb0 : Below W.heap.size W (W.alloc (.cells #[.int .i64 6, .int .i64 c.s, .slice A c.ps.length d, .slice B c.ms.length e, .int .i64 c.h] 26)) := (Below.refl _ _).alloc (Nat.le_refl _) _
  have HB := Lib.hid (blk5_of (heap_alloc_new W (.cells #[.int .i64 6, .int .i64 c.s, .slice A c.ps.length d, .slice B c.ms.length e, .int .i64 c.h] 26)))
  have HB0 := Lib.hid hb0
  have HR1 := Lib.hid (HR.out.stays hb0)
  clear h hp hb0
  by_cases heq : c.ms.length = c.ps.length
  · have heb : ((c.ms.length : Int) == (c.ps.length : Int)) = true := by rw [heq]; simp
    have heI : (c.ms.length : Int) = (c.ps.length : Int) := by omega
    have Heq := Lib.hid heq
    clear heq
    go_enter Try.func99, Try.ntmps99
    go_wp2_with fail
    generalize W.alloc (.cells #[.int .i64 6, .int .i64 c.s, .slice A c.ps.length d, .slice B c.ms.length e, .int .i64 c.h] 26) = X at HB HB0 HR1 ⊢
    go_at_call 131
    refine (HM.out _).mono ?_
    rintro r w' ⟨rfl, hw'⟩
    obtain rfl := hw'.symm
    clear hw'
    obtain ⟨c0, c1, c2, c3, c4, f0, f1, f2, f3, f4⟩ := HB.out
    go_wp2_with fail
    go_loop [3] (fun i => ∃ k : Nat, k ≤ c.ms.length ∧ i = .int .i64 k ∧ Hid (∀ j y, j < k → c.ms[j]? = some y → 0 ≤ y ∧ y ≤ 1)) (fun i => c.ms.length - (intOf i).toNat)
    case atStart => exact ⟨0, Nat.zero_le _, rfl, fun j y h => by omega⟩
    case round =>
      obtain ⟨k, hk, rfl, hall⟩ := hrel
      by_cases hlt : k < c.ms.length
      · have hltI : (k : Int) < (c.ms.length : Int) := by omega
        obtain ⟨y, hy⟩ : ∃ y, c.ms[k]? = some y := ⟨_, List.getElem?_eq_getElem hlt⟩
        obtain ⟨b, off, rfl, hbl, hc⟩ := HR1.out.at_ (ivs_some hy)
        have HY := Lib.hid hy
        have HIy := HIn.out y X
        clear hy
        by_cases hin : 0 ≤ y ∧ y ≤ 1
        · rw [show (decide (0 ≤ y) && decide (y ≤ 1)) = true by simp [hin]] at HIy
          have HIy := Lib.hid HIy
          have HN : Hid (∀ j z, j < k + 1 → c.ms[j]? = some z → 0 ≤ z ∧ z ≤ 1) := fun j z hj hz => by
            rcases Nat.lt_or_ge j k with h | h
            · exact hall.out j z h hz
            · obtain rfl : j = k := by omega
              rw [HY.out] at hz
              injection hz with hz
              omega
          clear hall hin
          go_wp2_with fail
          go_at_call 60
          refine (HIy.out).mono ?_
          rintro r w' ⟨rfl, hw'⟩
          obtain rfl := hw'.symm
          clear hw'
          go_wp2
          go_round
          case rel => exact ⟨k + 1, by omega, by go_num, HN.out⟩
          case measure => simp [intOf]; omega
        · rw [show (decide (0 ≤ y) && decide (y ≤ 1)) = false by rw [Bool.and_eq_false_iff]; simp; omega] at HIy
          have HIy := Lib.hid HIy
          have HN : Hid (bo (c.ms.length = c.ps.length ∧ ∀ z ∈ c.ms, 0 ≤ z ∧ z ≤ 1) = false) := bo_false fun h => hin (h.2 y (List.mem_of_getElem? HY.out))
          clear hall hin
          go_wp2_with fail
          go_at_call 60
          refine (HIy.out).mono ?_
          rintro r w' ⟨rfl, hw'⟩
          obtain rfl := hw'.symm
          clear hw'
          go_wp2
          go_ret
          exact ⟨by rw [HP.out, HN.out]; rfl, HB0.out⟩
      · have hke : k = c.ms.length := by omega
        have hltI : ¬ (k : Int) < (c.ms.length : Int) := by omega
        have HN : Hid (bo (c.ms.length = c.ps.length ∧ ∀ z ∈ c.ms, 0 ≤ z ∧ z ≤ 1) = true) := bo_true ⟨Heq.out, fun z hz => by
          obtain ⟨j, hj⟩ := List.getElem?_of_mem hz
          have := (List.getElem?_eq_some_iff.1 hj).1
          exact hall.out j z (by omega) hj⟩
        clear hall hke
        go_wp2
        go_ret
        exact ⟨by rw [HP.out, HN.out]; rfl, HB0.out⟩
  · have HN : Hid (bo (c.ms.length = c.ps.length ∧ ∀ z ∈ c.ms, 0 ≤ z ∧ z ≤ 1) = false) := bo_false fun h => heq h.1
    have heb : ((c.ms.length : Int) == (c.ps.length : Int)) = false := by simp; omega
    have heI : ¬ (c.ms.length : Int) = (c.ps.length : Int) := by omega
    clear heq
    go_enter Try.func99, Try.ntmps99
    go_wp2_with fail
    generalize W.alloc (.cells #[.int .i64 6, .int .i64 c.s, .slice A c.ps.length d, .slice B c.ms.length e, .int .i64 c.h] 26) = X at HB HB0 HR1 ⊢
    go_at_call 131
    refine (HM.out _).mono ?_
    rintro r w' ⟨rfl, hw'⟩
    obtain rfl := hw'.symm
    clear hw'
    obtain ⟨c0, c1, c2, c3, c4, f0, f1, f2, f3, f4⟩ := HB.out
    go_wp2
    go_ret
    exact ⟨by rw [HP.out, HN.out]; rfl, HB0.out⟩
set_option maxRecDepth 20000 in
set_option maxHeartbeats 1600000 in
theorem sMarks_no (hp5 : c.p ≠ 5) (hp6 : c.p ≠ 6) : Calls Try.prog 99 #[caV c A d B e] W fun r W' => r = .returned (.bool (bo (marksP c.p c.ps c.ms))) ∧ Below W.heap.size W W' := by
  have HM : Hid (∀ X, Calls Try.prog 131 #[.int .i64 c.p] X fun e w' => e = .returned (.bool false) ∧ w' = X) := Lib.hid fun X => by
    have := l4Marked_any c.p X
    rw [show ((c.p == 5) || (c.p == 6)) = false by simp; omega] at this
    exact this
  have HP : Hid (bo (marksP c.p c.ps c.ms) = bo (c.ms = [])) := by show _ = _; unfold marksP; rw [if_neg hp5, if_neg hp6]
  unfold caV
  clear hp5 hp6
  cases hms : (((c.ms.length : Int)) == 0)
  · have HN : Hid (bo (c.ms = []) = false) := bo_false fun h => by rw [h] at hms; simp at hms
    go_enter Try.func99, Try.ntmps99
    go_wp2_with fail
    go_at_call 131
    refine (HM.out _).mono ?_
    rintro e w' ⟨rfl, hw'⟩
    obtain rfl := hw'.symm
    clear hw'
    go_wp2
    go_ret
    exact ⟨by rw [HP.out, HN.out]; first | rfl | simp, (Below.refl _ _).alloc (Nat.le_refl _) _⟩
  · have HN : Hid (bo (c.ms = []) = true) := bo_true (by have : c.ms.length = 0 := by simpa using hms
                                                         exact List.eq_nil_of_length_eq_zero this)
    go_enter Try.func99, Try.ntmps99
    go_wp2_with fail
    go_at_call 131
    refine (HM.out _).mono ?_
    rintro e w' ⟨rfl, hw'⟩
    obtain rfl := hw'.symm
    clear hw'
    go_wp2
    go_ret
    exact ⟨by rw [HP.out, HN.out]; first | rfl | simp, (Below.refl _ _).alloc (Nat.le_refl _) _⟩
theorem sMarks_any (h : CaIn W A d B e c) (hl : c.ms.length ≤ 1048576) (hl2 : c.ps.length ≤ 1048576) : Calls Try.prog 99 #[caV c A d B e] W fun r W' => r = .returned (.bool (bo (marksP c.p c.ps c.ms))) ∧ Below W.heap.size W W' := by
  by_cases h5 : c.p = 5
  · exact sMarks_5 h h5 hl hl2
  · by_cases h6 : c.p = 6
    · exact sMarks_6 h h6 hl hl2
    · exact sMarks_no h5 h6
end
end Go.Proofs.Ytdjafooabpcbmaa
