/-
  The code's tests of a cache: hasMarks, hasValidMarks, isFull, hasValidHand.
-/
import Derived.Test.YtdjafooabpcbmabCaV
import Derived.Test.YtdjafooabpcbmabAsk
import Derived.Test.YtdjafooabpcbmabDifI
namespace Go.Proofs.Ytdjafooabpcbmab
open Go.RowKit
set_option linter.unusedVariables false
noncomputable def bo (P : Prop) : Bool := @decide P (Classical.propDecidable P)
theorem bo_true {P : Prop} (h : P) : bo P = true := by unfold bo; simp [h]
theorem bo_false {P : Prop} (h : ¬ P) : bo P = false := by unfold bo; simp [h]
theorem bo_iff {P Q : Prop} (h : P ↔ Q) : bo P = bo Q := by
  rw [propext h]
def marksP (p : Int) (ps ms : List Int) : Prop := if p = 5 then ms.length = ps.length ∧ ∀ z ∈ ms, 1 ≤ z ∧ z ≤ 60 else if p = 6 then ms.length = ps.length ∧ ∀ z ∈ ms, 0 ≤ z ∧ z ≤ 1 else ms = []
def handP (p s : Int) (n : Nat) (h : Int) : Prop := if p = 6 ∧ (n : Int) = s then 0 ≤ h ∧ h < s else h = 0
theorem okC_iff (n : Int) (c : Ca) : Q.okC n c ↔ (1 ≤ n ∧ n ≤ 8) ∧ (1 ≤ c.p ∧ c.p ≤ 7) ∧ (1 ≤ c.s ∧ c.s ≤ 6) ∧ (c.ps.length : Int) ≤ c.s ∧ (∀ z ∈ c.ps, 0 ≤ z ∧ z ≤ n - 1) ∧ c.ps.Nodup ∧ marksP c.p c.ps c.ms ∧ handP c.p c.s c.ps.length c.h := Iff.rfl
theorem impHasMarks_any (p : Int) (w : World) : Calls Try.prog 112 #[.int .i64 p] w fun e w' => e = .returned (.bool ((p == 5) || (p == 6))) ∧ w' = w := by
  cases h5 : (p == 5)
  · go_enter Try.func112, Try.ntmps112
    go_wp2
    go_ret
    exact ⟨rfl, rfl⟩
  · go_enter Try.func112, Try.ntmps112
    go_wp2
    go_ret
    exact ⟨rfl, rfl⟩
section
variable {W : World} {A B : Option Addr} {d e : Nat} {c : Ca}
set_option maxRecDepth 20000 in
set_option maxHeartbeats 1600000 in
theorem validMarks_5 (h : CaIn W A d B e c) (hp : c.p = 5) (hl : c.ms.length ≤ 1048576) (hl2 : c.ps.length ≤ 1048576) : Calls Try.prog 75 #[caV c A d B e] W fun r W' => r = .returned (.bool (bo (marksP c.p c.ps c.ms))) ∧ Below W.heap.size W W' := by
  have HM : Hid (∀ X, Calls Try.prog 112 #[.int .i64 5] X fun e w' => e = .returned (.bool true) ∧ w' = X) := Lib.hid fun X => impHasMarks_any 5 X
  have HP : Hid (bo (marksP c.p c.ps c.ms) = bo (c.ms.length = c.ps.length ∧ ∀ z ∈ c.ms, 1 ≤ z ∧ z ≤ 60)) := by show _ = _; rw [hp]; rfl
  have HR := Lib.hid h.2.2.2
  have HE := Lib.hid (show caV c A d B e = .agg #[.int .i64 5, .int .i64 c.s, .slice A c.ps.length d, .slice B c.ms.length e, .int .i64 c.h] by rw [← hp]; rfl)
  rw [HE.out]
  clear h hp
  go_enter Try.func75, Try.ntmps75
  go_wp2_with fail
  have hb0 : Below W.heap.size W (W.alloc (.cells #[.int .i64 5, .int .i64 c.s, .slice A c.ps.length d, .slice B c.ms.length e, .int .i64 c.h] 27)) := (Below.refl _ _).alloc (Nat.le_refl _) _
  have HB := Lib.hid (blk5_of (heap_alloc_new W (.cells #[.int .i64 5, .int .i64 c.s, .slice A c.ps.length d, .slice B c.ms.length e, .int .i64 c.h] 27)))
  have HB0 := Lib.hid hb0
  have HR1 := Lib.hid (HR.out.stays hb0)
  generalize W.alloc (.cells #[.int .i64 5, .int .i64 c.s, .slice A c.ps.length d, .slice B c.ms.length e, .int .i64 c.h] 27) = X at HB HB0 HR1 ⊢
  clear hb0
  go_at_call 112
  refine (HM.out _).mono ?_
  rintro r w' ⟨rfl, hw'⟩
  obtain rfl := hw'.symm
  clear hw'
  obtain ⟨c0, c1, c2, c3, c4, f0, f1, f2, f3, f4⟩ := HB.out
  go_wp2_with fail
  go_loop [21] (fun i => ∃ k : Nat, k ≤ c.ms.length ∧ i = .int .i64 k ∧ Hid (∀ j y, j < k → c.ms[j]? = some y → 1 ≤ y ∧ y ≤ 60)) (fun i => c.ms.length - (intOf i).toNat)
  case atStart => exact ⟨0, Nat.zero_le _, rfl, fun j y h => by omega⟩
  case round =>
    obtain ⟨k, hk, rfl, hall⟩ := hrel
    by_cases hlt : k < c.ms.length
    · have hltI : (k : Int) < (c.ms.length : Int) := by omega
      obtain ⟨y, hy⟩ : ∃ y, c.ms[k]? = some y := ⟨_, List.getElem?_eq_getElem hlt⟩
      obtain ⟨b, off, rfl, hbl, hc⟩ := HR1.out.at_ (ivs_some hy)
      have HY := Lib.hid hy
      clear hy
      by_cases hlo : y < 1
      · have HN : Hid (bo (c.ms.length = c.ps.length ∧ ∀ z ∈ c.ms, 1 ≤ z ∧ z ≤ 60) = false) := bo_false fun h => by have := h.2 y (List.mem_of_getElem? HY.out); omega
        clear hall
        go_wp2
        go_ret
        exact ⟨by rw [HP.out, HN.out]; rfl, HB0.out⟩
      · by_cases hhi : 60 < y
        · have HN : Hid (bo (c.ms.length = c.ps.length ∧ ∀ z ∈ c.ms, 1 ≤ z ∧ z ≤ 60) = false) := bo_false fun h => by have := h.2 y (List.mem_of_getElem? HY.out); omega
          clear hall
          go_wp2
          go_ret
          exact ⟨by rw [HP.out, HN.out]; rfl, HB0.out⟩
        · have HN : Hid (∀ j z, j < k + 1 → c.ms[j]? = some z → 1 ≤ z ∧ z ≤ 60) := fun j z hj hz => by
            rcases Nat.lt_or_ge j k with h | h
            · exact hall.out j z h hz
            · obtain rfl : j = k := by omega
              rw [HY.out] at hz
              injection hz with hz
              omega
          clear hall
          go_wp2
          go_round
          case rel => exact ⟨k + 1, by omega, by go_num, HN.out⟩
          case measure => simp [intOf]; omega
    · have hke : k = c.ms.length := by omega
      have hltI : ¬ (k : Int) < (c.ms.length : Int) := by omega
      have HA : Hid (∀ z ∈ c.ms, 1 ≤ z ∧ z ≤ 60) := fun z hz => by
        obtain ⟨j, hj⟩ := List.getElem?_of_mem hz
        have := (List.getElem?_eq_some_iff.1 hj).1
        exact hall.out j z (by omega) hj
      clear hall hke
      by_cases heq : c.ms.length = c.ps.length
      · have HN : Hid (bo (c.ms.length = c.ps.length ∧ ∀ z ∈ c.ms, 1 ≤ z ∧ z ≤ 60) = true) := bo_true ⟨heq, HA.out⟩
        have heb : ((c.ms.length : Int) == (c.ps.length : Int)) = true := by rw [heq]; simp
        clear heq
        go_wp2
        go_ret
        exact ⟨by rw [HP.out, HN.out]; first | rfl | simp, HB0.out⟩
      · have HN : Hid (bo (c.ms.length = c.ps.length ∧ ∀ z ∈ c.ms, 1 ≤ z ∧ z ≤ 60) = false) := bo_false fun h => heq h.1
        have heb : ((c.ms.length : Int) == (c.ps.length : Int)) = false := by simp; omega
        clear heq
        go_wp2
        go_ret
        exact ⟨by rw [HP.out, HN.out]; first | rfl | simp, HB0.out⟩
set_option maxRecDepth 20000 in
set_option maxHeartbeats 1600000 in
theorem validMarks_6 (h : CaIn W A d B e c) (hp : c.p = 6) (hl : c.ms.length ≤ 1048576) (hl2 : c.ps.length ≤ 1048576) : Calls Try.prog 75 #[caV c A d B e] W fun r W' => r = .returned (.bool (bo (marksP c.p c.ps c.ms))) ∧ Below W.heap.size W W' := by
  have HM : Hid (∀ X, Calls Try.prog 112 #[.int .i64 6] X fun e w' => e = .returned (.bool true) ∧ w' = X) := Lib.hid fun X => impHasMarks_any 6 X
  have HP : Hid (bo (marksP c.p c.ps c.ms) = bo (c.ms.length = c.ps.length ∧ ∀ z ∈ c.ms, 0 ≤ z ∧ z ≤ 1)) := by show _ = _; rw [hp]; rfl
  have HR := Lib.hid h.2.2.2
  have HE := Lib.hid (show caV c A d B e = .agg #[.int .i64 6, .int .i64 c.s, .slice A c.ps.length d, .slice B c.ms.length e, .int .i64 c.h] by rw [← hp]; rfl)
  rw [HE.out]
  clear h hp
  go_enter Try.func75, Try.ntmps75
  go_wp2_with fail
  have hb0 : Below W.heap.size W (W.alloc (.cells #[.int .i64 6, .int .i64 c.s, .slice A c.ps.length d, .slice B c.ms.length e, .int .i64 c.h] 27)) := (Below.refl _ _).alloc (Nat.le_refl _) _
  have HB := Lib.hid (blk5_of (heap_alloc_new W (.cells #[.int .i64 6, .int .i64 c.s, .slice A c.ps.length d, .slice B c.ms.length e, .int .i64 c.h] 27)))
  have HB0 := Lib.hid hb0
  have HR1 := Lib.hid (HR.out.stays hb0)
  generalize W.alloc (.cells #[.int .i64 6, .int .i64 c.s, .slice A c.ps.length d, .slice B c.ms.length e, .int .i64 c.h] 27) = X at HB HB0 HR1 ⊢
  clear hb0
  go_at_call 112
  refine (HM.out _).mono ?_
  rintro r w' ⟨rfl, hw'⟩
  obtain rfl := hw'.symm
  clear hw'
  obtain ⟨c0, c1, c2, c3, c4, f0, f1, f2, f3, f4⟩ := HB.out
  go_wp2_with fail
  go_loop [21] (fun i => ∃ k : Nat, k ≤ c.ms.length ∧ i = .int .i64 k ∧ Hid (∀ j y, j < k → c.ms[j]? = some y → 0 ≤ y ∧ y ≤ 1)) (fun i => c.ms.length - (intOf i).toNat)
  case atStart => exact ⟨0, Nat.zero_le _, rfl, fun j y h => by omega⟩
  case round =>
    obtain ⟨k, hk, rfl, hall⟩ := hrel
    by_cases hlt : k < c.ms.length
    · have hltI : (k : Int) < (c.ms.length : Int) := by omega
      obtain ⟨y, hy⟩ : ∃ y, c.ms[k]? = some y := ⟨_, List.getElem?_eq_getElem hlt⟩
      obtain ⟨b, off, rfl, hbl, hc⟩ := HR1.out.at_ (ivs_some hy)
      have HY := Lib.hid hy
      clear hy
      by_cases hlo : y < 0
      · have HN : Hid (bo (c.ms.length = c.ps.length ∧ ∀ z ∈ c.ms, 0 ≤ z ∧ z ≤ 1) = false) := bo_false fun h => by have := h.2 y (List.mem_of_getElem? HY.out); omega
        clear hall
        go_wp2
        go_ret
        exact ⟨by rw [HP.out, HN.out]; rfl, HB0.out⟩
      · by_cases hhi : 1 < y
        · have HN : Hid (bo (c.ms.length = c.ps.length ∧ ∀ z ∈ c.ms, 0 ≤ z ∧ z ≤ 1) = false) := bo_false fun h => by have := h.2 y (List.mem_of_getElem? HY.out); omega
          clear hall
          go_wp2
          go_ret
          exact ⟨by rw [HP.out, HN.out]; rfl, HB0.out⟩
        · have HN : Hid (∀ j z, j < k + 1 → c.ms[j]? = some z → 0 ≤ z ∧ z ≤ 1) := fun j z hj hz => by
            rcases Nat.lt_or_ge j k with h | h
            · exact hall.out j z h hz
            · obtain rfl : j = k := by omega
              rw [HY.out] at hz
              injection hz with hz
              omega
          clear hall
          go_wp2
          go_round
          case rel => exact ⟨k + 1, by omega, by go_num, HN.out⟩
          case measure => simp [intOf]; omega
    · have hke : k = c.ms.length := by omega
      have hltI : ¬ (k : Int) < (c.ms.length : Int) := by omega
      have HA : Hid (∀ z ∈ c.ms, 0 ≤ z ∧ z ≤ 1) := fun z hz => by
        obtain ⟨j, hj⟩ := List.getElem?_of_mem hz
        have := (List.getElem?_eq_some_iff.1 hj).1
        exact hall.out j z (by omega) hj
      clear hall hke
      by_cases heq : c.ms.length = c.ps.length
      · have HN : Hid (bo (c.ms.length = c.ps.length ∧ ∀ z ∈ c.ms, 0 ≤ z ∧ z ≤ 1) = true) := bo_true ⟨heq, HA.out⟩
        have heb : ((c.ms.length : Int) == (c.ps.length : Int)) = true := by rw [heq]; simp
        clear heq
        go_wp2
        go_ret
        exact ⟨by rw [HP.out, HN.out]; first | rfl | simp, HB0.out⟩
      · have HN : Hid (bo (c.ms.length = c.ps.length ∧ ∀ z ∈ c.ms, 0 ≤ z ∧ z ≤ 1) = false) := bo_false fun h => heq h.1
        have heb : ((c.ms.length : Int) == (c.ps.length : Int)) = false := by simp; omega
        clear heq
        go_wp2
        go_ret
        exact ⟨by rw [HP.out, HN.out]; first | rfl | simp, HB0.out⟩
set_option maxRecDepth 20000 in
set_option maxHeartbeats 1600000 in
theorem validMarks_no (hp5 : c.p ≠ 5) (hp6 : c.p ≠ 6) : Calls Try.prog 75 #[caV c A d B e] W fun r W' => r = .returned (.bool (bo (marksP c.p c.ps c.ms))) ∧ Below W.heap.size W W' := by
  have HM : Hid (∀ X, Calls Try.prog 112 #[.int .i64 c.p] X fun e w' => e = .returned (.bool false) ∧ w' = X) := Lib.hid fun X => by
    have := impHasMarks_any c.p X
    rw [show ((c.p == 5) || (c.p == 6)) = false by simp; omega] at this
    exact this
  have HP : Hid (bo (marksP c.p c.ps c.ms) = bo (c.ms = [])) := by show _ = _; unfold marksP; rw [if_neg hp5, if_neg hp6]
  unfold caV
  clear hp5 hp6
  cases hms : (((c.ms.length : Int)) == 0)
  · have HN : Hid (bo (c.ms = []) = false) := bo_false fun h => by rw [h] at hms; simp at hms
    go_enter Try.func75, Try.ntmps75
    go_wp2_with fail
    go_at_call 112
    refine (HM.out _).mono ?_
    rintro e w' ⟨rfl, hw'⟩
    obtain rfl := hw'.symm
    clear hw'
    go_wp2
    go_ret
    exact ⟨by rw [HP.out, HN.out]; first | rfl | simp, (Below.refl _ _).alloc (Nat.le_refl _) _⟩
  · have HN : Hid (bo (c.ms = []) = true) := bo_true (by have : c.ms.length = 0 := by simpa using hms
                                                         exact List.eq_nil_of_length_eq_zero this)
    go_enter Try.func75, Try.ntmps75
    go_wp2_with fail
    go_at_call 112
    refine (HM.out _).mono ?_
    rintro e w' ⟨rfl, hw'⟩
    obtain rfl := hw'.symm
    clear hw'
    go_wp2
    go_ret
    exact ⟨by rw [HP.out, HN.out]; first | rfl | simp, (Below.refl _ _).alloc (Nat.le_refl _) _⟩
theorem validMarks_any (h : CaIn W A d B e c) (hl : c.ms.length ≤ 1048576) (hl2 : c.ps.length ≤ 1048576) : Calls Try.prog 75 #[caV c A d B e] W fun r W' => r = .returned (.bool (bo (marksP c.p c.ps c.ms))) ∧ Below W.heap.size W W' := by
  by_cases h5 : c.p = 5
  · exact validMarks_5 h h5 hl hl2
  · by_cases h6 : c.p = 6
    · exact validMarks_6 h h6 hl hl2
    · exact validMarks_no h5 h6
end
end Go.Proofs.Ytdjafooabpcbmab
