/-
  IsPlan, PlanFaults, PlanCaches: the model's, and the code's first two.
-/
import Derived.Test.YtklpdfilhgjllaaRunM
namespace Go.Proofs.Ytklpdfilhgjllaa
open Go.RowKit
set_option linter.unusedVariables false
namespace Q
def isQ (k n : Int) (zs ps : List Int) : Bool × Bool := if planOk k n zs ps then ((runX k n zs ps).isSome, true) else (false, false)
def faultsQ (k n : Int) (zs ps : List Int) : Int × Bool := match runX k n zs ps with | some x => ((x.2 : Int), true) | none => (0, false)
def cachesQ (k n : Int) (zs ps : List Int) : List (List Int) × Bool := match runX k n zs ps with | some x => (x.1.map pl, true) | none => ([], false)
end Q
theorem l5Run_any (k n : Int) (zs ps : List Int) (A B : Option Addr) (c d : Nat) (w : World) (hok : Q.planOk k n zs ps = true) (hr : Law.Row w A (ivs zs)) (hp : Law.Row w B (ivs ps)) :
    Calls Try.prog 51 #[.int .i64 k, .slice A zs.length c, .slice B ps.length d] w (mrunSays (Q.runX k n zs ps) w) := by
  rw [show Q.runX k n zs ps = (Q.stB k zs ps zs.length).map fun x => (Q.sets k zs ps zs.length, x.2) by simp [Q.runX, hok]]
  have hok2 := hok
  simp only [Q.planOk, Q.planL, Bool.and_eq_true, decide_eq_true_eq] at hok2
  obtain ⟨⟨hk, hg⟩, hln, hall⟩ := hok2
  obtain ⟨N, rfl, h1, h2, h3, hx⟩ := Q.good_nat hg
  have hk' := Q.okS_iff.1 hk
  exact l5Run_good k N A c zs B d ps w h1 h2 h3 hk'.1 hk'.2 hx hln hall hr hp
set_option maxHeartbeats 1600000 in
theorem specIsPlan_any (k n : Int) (zs ps : List Int) (A B : Option Addr) (c d : Nat) (hl : zs.length ≤ 1048576) (hl' : ps.length ≤ 1048576) (w : World) (hr : Law.Row w A (ivs zs)) (hp : Law.Row w B (ivs ps)) :
    Calls Try.prog 15 #[.int .i64 k, .int .i64 n, .slice A zs.length c, .slice B ps.length d] w (fun e w' => e = .returned (.tuple #[.bool (Q.isQ k n zs ps).1, .bool (Q.isQ k n zs ps).2]) ∧ Below w.heap.size w w') := by
  have HT := Lib.hid (l5Takes_any k n A c zs w hl hr)
  cases ht : (Q.okS k && Q.good n zs)
  · have hX : Q.planOk k n zs ps = false := by simp only [Q.planOk, ht]; rfl
    rw [show Q.isQ k n zs ps = (false, false) by simp [Q.isQ, hX]]
    rw [ht] at HT
    clear hr hp ht hX
    go_enter Try.func15, Try.ntmps15
    go_wp2_with fail
    go_at_call 49
    refine (HT.out).mono ?_
    rintro e w' ⟨rfl, hw'⟩
    obtain rfl := hw'.symm
    clear hw'
    go_wp2
    go_ret2
    exact ⟨rfl, Below.refl _ _⟩
  · rw [ht] at HT
    obtain ⟨hk, hg⟩ : Q.okS k = true ∧ Q.good n zs = true := by simpa using ht
    obtain ⟨N, rfl, h1, h2, h3, hx⟩ := Q.good_nat hg
    have HPl := Lib.hid (l5Plan_any N zs ps A B c d h2 hl hl' w hp)
    cases hpl : Q.planL N zs ps
    · have hX : Q.planOk k N zs ps = false := by simp only [Q.planOk, ht, hpl]; rfl
      rw [show Q.isQ k N zs ps = (false, false) by simp [Q.isQ, hX]]
      rw [hpl] at HPl
      clear hr hp ht hX hk hg hx hpl
      go_enter Try.func15, Try.ntmps15
      go_wp2_with fail
      go_at_call 49
      refine (HT.out).mono ?_
      rintro e w' ⟨rfl, hw'⟩
      obtain rfl := hw'.symm
      clear hw'
      go_wp2_with fail
      go_at_call 50
      refine (HPl.out).mono ?_
      rintro e w' ⟨rfl, hw'⟩
      obtain rfl := hw'.symm
      clear hw'
      go_wp2
      go_ret2
      exact ⟨rfl, Below.refl _ _⟩
    · have hX : Q.planOk k N zs ps = true := by simp only [Q.planOk, ht, hpl]; rfl
      have HRun := Lib.hid (l5Run_any k N zs ps A B c d w hX hr hp)
      rw [hpl] at HPl
      cases hR : Q.runX k N zs ps
      · rw [show Q.isQ k N zs ps = (false, true) by simp [Q.isQ, hX, hR]]
        rw [hR] at HRun
        clear hr hp ht hX hk hg hx hpl hR
        go_enter Try.func15, Try.ntmps15
        go_wp2_with fail
        go_at_call 49
        refine (HT.out).mono ?_
        rintro e w' ⟨rfl, hw'⟩
        obtain rfl := hw'.symm
        clear hw'
        go_wp2_with fail
        go_at_call 50
        refine (HPl.out).mono ?_
        rintro e w' ⟨rfl, hw'⟩
        obtain rfl := hw'.symm
        clear hw'
        go_wp2_with fail
        go_at_call 51
        refine HRun.out.mono ?_
        rintro e w1 ⟨v1, rfl, ho, hb⟩
        have HO := Lib.hid ho
        have HB := Lib.hid hb
        clear ho hb
        go_wp2
        go_ret2
        exact ⟨rfl, HB.out⟩
      · rename_i X
        rw [show Q.isQ k N zs ps = (true, true) by simp [Q.isQ, hX, hR]]
        rw [hR] at HRun
        clear hr hp ht hX hk hg hx hpl hR
        obtain ⟨us, f⟩ := X
        go_enter Try.func15, Try.ntmps15
        go_wp2_with fail
        go_at_call 49
        refine (HT.out).mono ?_
        rintro e w' ⟨rfl, hw'⟩
        obtain rfl := hw'.symm
        clear hw'
        go_wp2_with fail
        go_at_call 50
        refine (HPl.out).mono ?_
        rintro e w' ⟨rfl, hw'⟩
        obtain rfl := hw'.symm
        clear hw'
        go_wp2_with fail
        go_at_call 51
        refine HRun.out.mono ?_
        rintro e w1 ⟨v1, xs, rfl, ho, hn, hb⟩
        have HO := Lib.hid ho
        have HN := Lib.hid hn
        have HB := Lib.hid hb
        simp only [] at HO HN
        clear ho hb hn
        go_wp2
        go_ret2
        exact ⟨rfl, HB.out⟩
set_option maxHeartbeats 1600000 in
theorem specFaults_any (k n : Int) (zs ps : List Int) (A B : Option Addr) (c d : Nat) (hl : zs.length ≤ 1048576) (hl' : ps.length ≤ 1048576) (w : World) (hr : Law.Row w A (ivs zs)) (hp : Law.Row w B (ivs ps)) :
    Calls Try.prog 19 #[.int .i64 k, .int .i64 n, .slice A zs.length c, .slice B ps.length d] w (fun e w' => e = .returned (.tuple #[.int .i64 (Q.faultsQ k n zs ps).1, .bool (Q.faultsQ k n zs ps).2]) ∧ Below w.heap.size w w') := by
  have HT := Lib.hid (l5Takes_any k n A c zs w hl hr)
  cases ht : (Q.okS k && Q.good n zs)
  · have hX : Q.planOk k n zs ps = false := by simp only [Q.planOk, ht]; rfl
    rw [show Q.faultsQ k n zs ps = (0, false) by simp [Q.faultsQ, Q.runX, hX]]
    rw [ht] at HT
    clear hr hp ht hX
    go_enter Try.func19, Try.ntmps19
    go_wp2_with fail
    go_at_call 49
    refine (HT.out).mono ?_
    rintro e w' ⟨rfl, hw'⟩
    obtain rfl := hw'.symm
    clear hw'
    go_wp2
    go_ret2
    exact ⟨rfl, Below.refl _ _⟩
  · rw [ht] at HT
    obtain ⟨hk, hg⟩ : Q.okS k = true ∧ Q.good n zs = true := by simpa using ht
    obtain ⟨N, rfl, h1, h2, h3, hx⟩ := Q.good_nat hg
    have HPl := Lib.hid (l5Plan_any N zs ps A B c d h2 hl hl' w hp)
    cases hpl : Q.planL N zs ps
    · have hX : Q.planOk k N zs ps = false := by simp only [Q.planOk, ht, hpl]; rfl
      rw [show Q.faultsQ k N zs ps = (0, false) by simp [Q.faultsQ, Q.runX, hX]]
      rw [hpl] at HPl
      clear hr hp ht hX hk hg hx hpl
      go_enter Try.func19, Try.ntmps19
      go_wp2_with fail
      go_at_call 49
      refine (HT.out).mono ?_
      rintro e w' ⟨rfl, hw'⟩
      obtain rfl := hw'.symm
      clear hw'
      go_wp2_with fail
      go_at_call 50
      refine (HPl.out).mono ?_
      rintro e w' ⟨rfl, hw'⟩
      obtain rfl := hw'.symm
      clear hw'
      go_wp2
      go_ret2
      exact ⟨rfl, Below.refl _ _⟩
    · have hX : Q.planOk k N zs ps = true := by simp only [Q.planOk, ht, hpl]; rfl
      have HRun := Lib.hid (l5Run_any k N zs ps A B c d w hX hr hp)
      rw [hpl] at HPl
      cases hR : Q.runX k N zs ps
      · rw [show Q.faultsQ k N zs ps = (0, false) by simp [Q.faultsQ, hR]]
        rw [hR] at HRun
        clear hr hp ht hX hk hg hx hpl hR
        go_enter Try.func19, Try.ntmps19
        go_wp2_with fail
        go_at_call 49
        refine (HT.out).mono ?_
        rintro e w' ⟨rfl, hw'⟩
        obtain rfl := hw'.symm
        clear hw'
        go_wp2_with fail
        go_at_call 50
        refine (HPl.out).mono ?_
        rintro e w' ⟨rfl, hw'⟩
        obtain rfl := hw'.symm
        clear hw'
        go_wp2_with fail
        go_at_call 51
        refine HRun.out.mono ?_
        rintro e w1 ⟨v1, rfl, ho, hb⟩
        have HO := Lib.hid ho
        have HB := Lib.hid hb
        clear ho hb
        go_wp2
        go_ret2
        exact ⟨rfl, HB.out⟩
      · rename_i X
        rw [show Q.faultsQ k N zs ps = ((X.2 : Int), true) by simp [Q.faultsQ, hR]]
        rw [hR] at HRun
        clear hr hp ht hX hk hg hx hpl hR
        obtain ⟨us, f⟩ := X
        go_enter Try.func19, Try.ntmps19
        go_wp2_with fail
        go_at_call 49
        refine (HT.out).mono ?_
        rintro e w' ⟨rfl, hw'⟩
        obtain rfl := hw'.symm
        clear hw'
        go_wp2_with fail
        go_at_call 50
        refine (HPl.out).mono ?_
        rintro e w' ⟨rfl, hw'⟩
        obtain rfl := hw'.symm
        clear hw'
        go_wp2_with fail
        go_at_call 51
        refine HRun.out.mono ?_
        rintro e w1 ⟨v1, xs, rfl, ho, hn, hb⟩
        have HO := Lib.hid ho
        have HN := Lib.hid hn
        have HB := Lib.hid hb
        simp only [] at HO HN
        clear ho hb hn
        go_wp2
        go_ret2
        exact ⟨rfl, HB.out⟩
set_option maxHeartbeats 1600000 in
theorem specCaches_any (k n : Int) (zs ps : List Int) (A B : Option Addr) (c d : Nat) (hl : zs.length ≤ 1048576) (hl' : ps.length ≤ 1048576) (w : World) (hr : Law.Row w A (ivs zs)) (hp : Law.Row w B (ivs ps)) :
    Calls Try.prog 21 #[.int .i64 k, .int .i64 n, .slice A zs.length c, .slice B ps.length d] w (nestSays (Q.cachesQ k n zs ps) w) := by
  have HT := Lib.hid (l5Takes_any k n A c zs w hl hr)
  cases ht : (Q.okS k && Q.good n zs)
  · have hX : Q.planOk k n zs ps = false := by simp only [Q.planOk, ht]; rfl
    rw [show Q.cachesQ k n zs ps = ([], false) by simp [Q.cachesQ, Q.runX, hX]]
    rw [ht] at HT
    clear hr hp ht hX
    go_enter Try.func21, Try.ntmps21
    go_wp2_with fail
    go_at_call 49
    refine (HT.out).mono ?_
    rintro e w' ⟨rfl, hw'⟩
    obtain rfl := hw'.symm
    clear hw'
    go_wp2
    go_ret2
    exact ⟨_, [], rfl, ownsRow_nil _ _, NOwn.nil _ _, (Below.refl _ _).alloc (Nat.le_refl _) _⟩
  · rw [ht] at HT
    obtain ⟨hk, hg⟩ : Q.okS k = true ∧ Q.good n zs = true := by simpa using ht
    obtain ⟨N, rfl, h1, h2, h3, hx⟩ := Q.good_nat hg
    have HPl := Lib.hid (l5Plan_any N zs ps A B c d h2 hl hl' w hp)
    cases hpl : Q.planL N zs ps
    · have hX : Q.planOk k N zs ps = false := by simp only [Q.planOk, ht, hpl]; rfl
      rw [show Q.cachesQ k N zs ps = ([], false) by simp [Q.cachesQ, Q.runX, hX]]
      rw [hpl] at HPl
      clear hr hp ht hX hk hg hx hpl
      go_enter Try.func21, Try.ntmps21
      go_wp2_with fail
      go_at_call 49
      refine (HT.out).mono ?_
      rintro e w' ⟨rfl, hw'⟩
      obtain rfl := hw'.symm
      clear hw'
      go_wp2_with fail
      go_at_call 50
      refine (HPl.out).mono ?_
      rintro e w' ⟨rfl, hw'⟩
      obtain rfl := hw'.symm
      clear hw'
      go_wp2
      go_ret2
      exact ⟨_, [], rfl, ownsRow_nil _ _, NOwn.nil _ _, (Below.refl _ _).alloc (Nat.le_refl _) _⟩
    · have hX : Q.planOk k N zs ps = true := by simp only [Q.planOk, ht, hpl]; rfl
      have HRun := Lib.hid (l5Run_any k N zs ps A B c d w hX hr hp)
      rw [hpl] at HPl
      cases hR : Q.runX k N zs ps
      · rw [show Q.cachesQ k N zs ps = ([], false) by simp [Q.cachesQ, hR]]
        rw [hR] at HRun
        clear hr hp ht hX hk hg hx hpl hR
        go_enter Try.func21, Try.ntmps21
        go_wp2_with fail
        go_at_call 49
        refine (HT.out).mono ?_
        rintro e w' ⟨rfl, hw'⟩
        obtain rfl := hw'.symm
        clear hw'
        go_wp2_with fail
        go_at_call 50
        refine (HPl.out).mono ?_
        rintro e w' ⟨rfl, hw'⟩
        obtain rfl := hw'.symm
        clear hw'
        go_wp2_with fail
        go_at_call 51
        refine HRun.out.mono ?_
        rintro e w1 ⟨v1, rfl, ho, hb⟩
        have HO := Lib.hid ho
        have HB := Lib.hid hb
        clear ho hb
        go_wp2
        go_ret2
        exact ⟨_, [], rfl, HO.out, NOwn.nil _ _, HB.out⟩
      · rename_i X
        rw [show Q.cachesQ k N zs ps = (X.1.map Q.pl, true) by simp [Q.cachesQ, hR]]
        rw [hR] at HRun
        clear hr hp ht hX hk hg hx hpl hR
        obtain ⟨us, f⟩ := X
        go_enter Try.func21, Try.ntmps21
        go_wp2_with fail
        go_at_call 49
        refine (HT.out).mono ?_
        rintro e w' ⟨rfl, hw'⟩
        obtain rfl := hw'.symm
        clear hw'
        go_wp2_with fail
        go_at_call 50
        refine (HPl.out).mono ?_
        rintro e w' ⟨rfl, hw'⟩
        obtain rfl := hw'.symm
        clear hw'
        go_wp2_with fail
        go_at_call 51
        refine HRun.out.mono ?_
        rintro e w1 ⟨v1, xs, rfl, ho, hn, hb⟩
        have HO := Lib.hid ho
        have HN := Lib.hid hn
        have HB := Lib.hid hb
        simp only [] at HO HN
        clear ho hb hn
        go_wp2
        go_ret2
        exact ⟨_, xs, rfl, (by show World.ownsRow _ _ _ _ _ (us.map Q.pl).length _; rw [List.length_map]; exact HO.out), HN.out, HB.out⟩
theorem impFaults_any (k n : Int) (zs ps : List Int) (A B : Option Addr) (c d : Nat) (hl : zs.length ≤ 1048576) (hl' : ps.length ≤ 1048576) (w : World) (hr : Law.Row w A (ivs zs)) (hp : Law.Row w B (ivs ps)) :
    Calls Try.prog 20 #[.int .i64 k, .int .i64 n, .slice A zs.length c, .slice B ps.length d] w (fun e w' => e = .returned (.tuple #[.int .i64 (Q.faultsQ k n zs ps).1, .bool (Q.faultsQ k n zs ps).2]) ∧ Below w.heap.size w w') := by
  have HRun := Lib.hid (runPlan_any k n zs ps A B c d hl hl' w hr hp)
  have HP := Lib.hid (isPlanList_any k n zs ps A B c d hl hl' w hr hp)
  cases hR : Q.runX k n zs ps
  · rw [show Q.faultsQ k n zs ps = (0, false) by simp [Q.faultsQ, hR]]
    rw [hR] at HRun
    clear hr hp hR
    go_enter Try.func20, Try.ntmps20
    go_wp2_with fail
    go_at_call 53
    refine HRun.out.mono ?_
    rintro e w1 ⟨rfl, hb⟩
    have HB := Lib.hid hb
    clear hb
    go_wp2
    go_ret2
    exact ⟨rfl, HB.out⟩
  · rename_i X
    rw [show Q.faultsQ k n zs ps = ((X.2 : Int), true) by simp [Q.faultsQ, hR]]
    rw [hR] at HRun
    clear hr hp hR
    obtain ⟨us, f⟩ := X
    go_enter Try.func20, Try.ntmps20
    go_wp2_with fail
    go_at_call 53
    refine HRun.out.mono ?_
    rintro e w1 ⟨v1, rfl, ho, hb⟩
    have HB := Lib.hid hb
    clear ho hb
    go_wp2
    go_ret2
    exact ⟨rfl, HB.out⟩
theorem impIsPlan_any (k n : Int) (zs ps : List Int) (A B : Option Addr) (c d : Nat) (hl : zs.length ≤ 1048576) (hl' : ps.length ≤ 1048576) (w : World) (hr : Law.Row w A (ivs zs)) (hp : Law.Row w B (ivs ps)) :
    Calls Try.prog 17 #[.int .i64 k, .int .i64 n, .slice A zs.length c, .slice B ps.length d] w (fun e w' => e = .returned (.tuple #[.bool (Q.isQ k n zs ps).1, .bool (Q.isQ k n zs ps).2]) ∧ Below w.heap.size w w') := by
  have HRun := Lib.hid (runPlan_any k n zs ps A B c d hl hl' w hr hp)
  have HP := Lib.hid (isPlanList_any k n zs ps A B c d hl hl' w hr hp)
  cases hok : Q.planOk k n zs ps
  · rw [show Q.isQ k n zs ps = (false, false) by simp [Q.isQ, hok]]
    rw [hok] at HP
    clear hr hp hok HRun
    go_enter Try.func17, Try.ntmps17
    go_wp2_with fail
    go_at_call 52
    refine (HP.out).mono ?_
    rintro e w' ⟨rfl, hw'⟩
    obtain rfl := hw'.symm
    clear hw'
    go_wp2
    go_ret2
    exact ⟨rfl, Below.refl _ _⟩
  · cases hR : Q.runX k n zs ps
    · rw [show Q.isQ k n zs ps = (false, true) by simp [Q.isQ, hok, hR]]
      rw [hR] at HRun
      rw [hok] at HP
      clear hr hp hR hok
      go_enter Try.func17, Try.ntmps17
      go_wp2_with fail
      go_at_call 52
      refine (HP.out).mono ?_
      rintro e w' ⟨rfl, hw'⟩
      obtain rfl := hw'.symm
      clear hw'
      go_wp2_with fail
      go_at_call 53
      refine HRun.out.mono ?_
      rintro e w1 ⟨rfl, hb⟩
      have HB := Lib.hid hb
      clear hb
      go_wp2
      go_ret2
      exact ⟨rfl, HB.out⟩
    · rename_i X
      rw [show Q.isQ k n zs ps = (true, true) by simp [Q.isQ, hok, hR]]
      rw [hR] at HRun
      rw [hok] at HP
      clear hr hp hR hok
      obtain ⟨us, f⟩ := X
      go_enter Try.func17, Try.ntmps17
      go_wp2_with fail
      go_at_call 52
      refine (HP.out).mono ?_
      rintro e w' ⟨rfl, hw'⟩
      obtain rfl := hw'.symm
      clear hw'
      go_wp2_with fail
      go_at_call 53
      refine HRun.out.mono ?_
      rintro e w1 ⟨v1, rfl, ho, hb⟩
      have HB := Lib.hid hb
      clear ho hb
      go_wp2
      go_ret2
      exact ⟨rfl, HB.out⟩
end Go.Proofs.Ytklpdfilhgjllaa
