/-
  IsMetric and FirstDetour, both sides whole.
-/
import Derived.Test.YtammlkaclooohaaMtI
namespace Go.Proofs.Ytammlkaclooohaa
open Go.RowKit
set_option linter.unusedVariables false
theorem Q.det_zero {L : List (List Int)} : ((Q.det L).length : Int) = 0 ↔ (Q.det L).length = 0 := by omega
set_option maxHeartbeats 400000 in
theorem l6Good_any (A : Option Addr) (c : Nat) (xs : List Value) (L : List (List Int)) (w : World) (hr : NRow w A xs L) :
    Calls Try.prog 149 #[mv A L.length c] w fun e w' => e = .returned (.bool (Q.metQ L)) ∧ Below w.heap.size w w' := by
  have HM := Lib.hid (MetIn.start (c := c) hr 150)
  have HT := Lib.hid (l6Table_any false A c xs L _ HM.out.rows)
  have HN : Hid (Q.metQ L = (Q.tabQ false L && decide ((Q.det L).length = 0))) := rfl
  clear hr
  cases ht : Q.tabQ false L
  · rw [ht] at HT HN
    clear ht
    go_enter Try.func149, Try.ntmps149
    go_wp2_with fail
    generalize w.alloc (.cells #[.slice A L.length c] 150) = wa at HM HT ⊢
    go_at_call 182
    refine HT.out.mono ?_
    rintro e w1 ⟨rfl, hb⟩
    have HB := Lib.hid (HM.out.on hb).bl
    clear hb
    go_wp2
    go_ret
    exact ⟨by rw [HN.out]; rfl, HB.out⟩
  · have HD := Lib.hid fun (W : World) (h : NRow W A xs L) => l6Detour_any A c xs L W ht h
    have h3 := Q.det_len (L := L)
    rw [ht] at HT HN
    clear ht
    generalize Q.det L = R at HD HN h3
    go_enter Try.func149, Try.ntmps149
    go_wp2_with fail
    generalize w.alloc (.cells #[.slice A L.length c] 150) = wa at HM HT ⊢
    go_at_call 182
    refine HT.out.mono ?_
    rintro e w1 ⟨rfl, hb⟩
    have HM1 := Lib.hid (HM.out.on hb)
    clear hb
    obtain ⟨hk0, hk1, hk2⟩ := HM1.out.bk
    go_wp2_with fail
    go_at_call 183
    refine (HD.out w1 HM1.out.rows).mono ?_
    rintro e w2 ⟨v, rfl, ho, hb⟩
    obtain ⟨A2, c2, rfl, _, _, _⟩ := Law.own_len ho
    have HB := Lib.hid (HM1.out.on hb).bl
    clear ho hb
    by_cases h0 : R.length = 0
    · have h0I : (R.length : Int) = 0 := by omega
      have HN2 : Hid (Q.metQ L = true) := by show _ = _; rw [HN.out, decide_eq_true h0]; rfl
      clear h0 HN
      generalize R.length = n at h0I
      go_wp2
      go_ret
      exact ⟨by rw [HN2.out]; first | rfl | simp, HB.out⟩
    · have h0I : ¬ (R.length : Int) = 0 := by omega
      have HN2 : Hid (Q.metQ L = false) := by show _ = _; rw [HN.out, decide_eq_false h0]; rfl
      have h0b : ((R.length : Int) == 0) = false := by simpa using h0I
      clear h0 HN h0I
      generalize R.length = n at h0b
      go_wp2
      go_ret
      exact ⟨by rw [HN2.out]; first | rfl | simp, HB.out⟩
theorem impFd_any (A : Option Addr) (c : Nat) (xs : List Value) (L : List (List Int)) (w : World) (hll : ∀ l ∈ L, l.length ≤ 1048576) (hr : NRow w A xs L) :
    Calls Try.prog 184 #[mv A L.length c] w (rowSays (Q.fdQ L) w) := by
  cases ht : Q.tabQ false L
  · have HM := Lib.hid (MetIn.start (c := c) hr 150)
    have HT := Lib.hid (isWhole_any A c xs L _ hll HM.out.rows)
    rw [show Q.fdQ L = ([], false) by simp [Q.fdQ, ht]]
    rw [ht] at HT
    clear hr hll ht
    go_enter Try.func184, Try.ntmps184
    go_wp2_with fail
    generalize w.alloc (.cells #[.slice A L.length c] 150) = wa at HM HT ⊢
    go_at_call 185
    refine HT.out.mono ?_
    rintro e w1 ⟨rfl, hb⟩
    have HB := Lib.hid (HM.out.on hb).bl
    clear hb
    go_wp2
    go_ret2
    exact ⟨_, rfl, own_down (ownsRow_nil _ _) HB.out.size, HB.out.alloc HB.out.size _⟩
  · rw [show Q.fdQ L = (Q.det L, decide (0 < (Q.det L).length)) by simp [Q.fdQ, ht]]
    exact impFd_good A c xs L w ht hr
set_option maxHeartbeats 400000 in
theorem impMet_any (A : Option Addr) (c : Nat) (xs : List Value) (L : List (List Int)) (w : World) (hll : ∀ l ∈ L, l.length ≤ 1048576) (hr : NRow w A xs L) :
    Calls Try.prog 151 #[mv A L.length c] w fun e w' => e = .returned (.bool (Q.metQ L)) ∧ Below w.heap.size w w' := by
  have HM := Lib.hid (MetIn.start (c := c) hr 150)
  have HF := Lib.hid (impFd_any A c xs L _ hll HM.out.rows)
  have HW := Lib.hid fun (W : World) (h : NRow W A xs L) => isWhole_any A c xs L W hll h
  have HN : Hid (Q.metQ L = (Q.tabQ false L && !(Q.fdQ L).2)) := by
    show _ = _
    unfold Q.metQ Q.fdQ
    cases Q.tabQ false L
    · rfl
    · simp
      rw [Bool.eq_iff_iff]
      simp
  clear hr hll
  generalize Q.metQ L = V at HN ⊢
  generalize Q.fdQ L = F at HF HN
  obtain ⟨R, f⟩ := F
  simp only [] at HN
  generalize Q.tabQ false L = t at HW HN
  go_enter Try.func151, Try.ntmps151
  go_wp2_with fail
  generalize w.alloc (.cells #[.slice A L.length c] 150) = wa at HM HF ⊢
  go_at_call 184
  refine HF.out.mono ?_
  rintro e w1 ⟨v, rfl, ho, hb⟩
  have HM1 := Lib.hid (HM.out.on hb)
  clear hb ho
  obtain ⟨hk0, hk1, hk2⟩ := HM1.out.bk
  cases t
  · cases f
    all_goals
      go_wp2_with fail
      go_at_call 185
      refine (HW.out w1 HM1.out.rows).mono ?_
      rintro e w2 ⟨rfl, hb⟩
      have HB := Lib.hid (HM1.out.on hb).bl
      clear hb
      go_wp2
      go_ret
      exact ⟨by rw [HN.out]; rfl, HB.out⟩
  · cases f
    all_goals
      go_wp2_with fail
      go_at_call 185
      refine (HW.out w1 HM1.out.rows).mono ?_
      rintro e w2 ⟨rfl, hb⟩
      have HB := Lib.hid (HM1.out.on hb).bl
      clear hb
      go_wp2
      go_ret
      exact ⟨by rw [HN.out]; rfl, HB.out⟩
end Go.Proofs.Ytammlkaclooohaa
