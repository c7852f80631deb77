/-
  ProvesFewest, both sides.
-/
import Derived.Test.YtklpdfilhgjllaaPlnS
import Derived.Test.YtklpdfilhgjllaaBndI
namespace Go.Proofs.Ytklpdfilhgjllaa
open Go.RowKit
set_option linter.unusedVariables false
namespace Q
def provesQ (k n : Int) (zs ps ms : List Int) : Bool × Bool := match runX k n zs ps with | some x => if rises zs.length ms then (bnd k zs ms == (x.2 : Int), true) else (false, false) | none => (false, false)
end Q
set_option maxHeartbeats 1600000 in
theorem specPrv_any (k n : Int) (zs ps ms : List Int) (A B D : Option Addr) (c d g : Nat) (hl : zs.length ≤ 1048576) (hl' : ps.length ≤ 1048576) (hl2 : ms.length ≤ 1048576) (w : World) (hcap : zs.length ≤ c) (hr : Law.Row w A (ivs zs)) (hp : Law.Row w B (ivs ps)) (hm : Law.Row w D (ivs ms)) :
    Calls Try.prog 45 #[.int .i64 k, .int .i64 n, .slice A zs.length c, .slice B ps.length d, .slice D ms.length g] w fun e w' => e = .returned (.tuple #[.bool (Q.provesQ k n zs ps ms).1, .bool (Q.provesQ k n zs ps ms).2]) ∧ Below w.heap.size w w' := by
  have HT := Lib.hid (l5Takes_any k n A c zs w hl hr)
  cases ht : (Q.okS k && Q.good n zs)
  · have hX : Q.planOk k n zs ps = false := by simp only [Q.planOk, ht]; rfl
    rw [show Q.provesQ k n zs ps ms = (false, false) by simp [Q.provesQ, Q.runX, hX]]
    rw [ht] at HT
    clear hr hp hm ht hX
    go_enter Try.func45, Try.ntmps45
    go_wp2_with fail
    go_at_call 49
    refine (HT.out).mono ?_
    rintro e w' ⟨rfl, hw'⟩
    obtain rfl := hw'.symm
    clear hw'
    go_wp2
    go_ret2
    exact ⟨rfl, Below.refl _ _⟩
  · rw [ht] at HT
    obtain ⟨hk, hg⟩ : Q.okS k = true ∧ Q.good n zs = true := by simpa using ht
    obtain ⟨N, rfl, h1, h2, h3, hx⟩ := Q.good_nat hg
    have hk' := Q.okS_iff.1 hk
    have HPl := Lib.hid (l5Plan_any N zs ps A B c d h2 hl hl' w hp)
    cases hpl : Q.planL N zs ps
    · have hX : Q.planOk k N zs ps = false := by simp only [Q.planOk, ht, hpl]; rfl
      rw [show Q.provesQ k N zs ps ms = (false, false) by simp [Q.provesQ, Q.runX, hX]]
      rw [hpl] at HPl
      clear hr hp hm ht hX hk hg hx hpl
      go_enter Try.func45, Try.ntmps45
      go_wp2_with fail
      go_at_call 49
      refine (HT.out).mono ?_
      rintro e w' ⟨rfl, hw'⟩
      obtain rfl := hw'.symm
      clear hw'
      go_wp2_with fail
      go_at_call 50
      refine (HPl.out).mono ?_
      rintro e w' ⟨rfl, hw'⟩
      obtain rfl := hw'.symm
      clear hw'
      go_wp2
      go_ret2
      exact ⟨rfl, Below.refl _ _⟩
    · have hX : Q.planOk k N zs ps = true := by simp only [Q.planOk, ht, hpl]; rfl
      rw [hpl] at HPl
      have HMk := Lib.hid (l5Marks_any zs.length A c D g ms w h3 hl2 hm)
      cases hms : Q.rises zs.length ms
      · rw [show Q.provesQ k N zs ps ms = (false, false) by unfold Q.provesQ; split <;> simp [hms]]
        rw [hms] at HMk
        clear hr hp hm ht hX hk hg hx hpl hms
        go_enter Try.func45, Try.ntmps45
        go_wp2_with fail
        go_at_call 49
        refine (HT.out).mono ?_
        rintro e w' ⟨rfl, hw'⟩
        obtain rfl := hw'.symm
        clear hw'
        go_wp2_with fail
        go_at_call 50
        refine (HPl.out).mono ?_
        rintro e w' ⟨rfl, hw'⟩
        obtain rfl := hw'.symm
        clear hw'
        go_wp2_with fail
        go_at_call 74
        refine HMk.out.mono ?_
        rintro e w1 ⟨rfl, hb⟩
        have HB := Lib.hid hb
        clear hb
        go_wp2
        go_ret2
        exact ⟨rfl, HB.out⟩
      · have HBd := Lib.hid fun (W : World) (h : Below w.heap.size w W) => l5Bound_any k A c zs D g ms W hk'.1 hk'.2 h3 hcap hms (hr.stays h) (hm.stays h)
        rw [hms] at HMk
        have HRun := Lib.hid fun (W : World) (h : Below w.heap.size w W) => l5Run_any k N zs ps A B c d W hX (hr.stays h) (hp.stays h)
        cases hR : Q.runX k N zs ps
        · rw [show Q.provesQ k N zs ps ms = (false, false) by simp [Q.provesQ, hR]]
          rw [hR] at HRun
          clear hr hp hm ht hX hk hg hx hpl hR hms
          go_enter Try.func45, Try.ntmps45
          go_wp2_with fail
          go_at_call 49
          refine (HT.out).mono ?_
          rintro e w' ⟨rfl, hw'⟩
          obtain rfl := hw'.symm
          clear hw'
          go_wp2_with fail
          go_at_call 50
          refine (HPl.out).mono ?_
          rintro e w' ⟨rfl, hw'⟩
          obtain rfl := hw'.symm
          clear hw'
          go_wp2_with fail
          go_at_call 74
          refine HMk.out.mono ?_
          rintro e w1 ⟨rfl, hb⟩
          have HB := Lib.hid hb
          clear hb
          go_wp2_with fail
          go_at_call 51
          refine (HRun.out _ HB.out).mono ?_
          rintro e w2 ⟨v2, rfl, ho, hb⟩
          have HB2 := Lib.hid (Law.then_ HB.out hb)
          clear ho hb
          go_wp2
          go_ret2
          exact ⟨rfl, HB2.out⟩
        · rename_i X
          obtain ⟨us, f⟩ := X
          rw [show Q.provesQ k N zs ps ms = (Q.bnd k zs ms == (f : Int), true) by simp [Q.provesQ, hR, hms]]
          rw [hR] at HRun
          clear hr hp hm ht hX hk hg hx hpl hR hms
          generalize Q.bnd k zs ms = V at HBd ⊢
          go_enter Try.func45, Try.ntmps45
          go_wp2_with fail
          go_at_call 49
          refine (HT.out).mono ?_
          rintro e w' ⟨rfl, hw'⟩
          obtain rfl := hw'.symm
          clear hw'
          go_wp2_with fail
          go_at_call 50
          refine (HPl.out).mono ?_
          rintro e w' ⟨rfl, hw'⟩
          obtain rfl := hw'.symm
          clear hw'
          go_wp2_with fail
          go_at_call 74
          refine HMk.out.mono ?_
          rintro e w1 ⟨rfl, hb⟩
          have HB := Lib.hid hb
          clear hb
          go_wp2_with fail
          go_at_call 51
          refine (HRun.out _ HB.out).mono ?_
          rintro e w2 ⟨v2, xs, rfl, ho, hn, hb⟩
          have HB2 := Lib.hid (Law.then_ HB.out hb)
          clear ho hb hn
          go_wp2_with fail
          go_at_call 75
          refine (HBd.out _ HB2.out).mono ?_
          rintro e w3 ⟨rfl, hb⟩
          have HB3 := Lib.hid (Law.then_ HB2.out hb)
          clear hb
          go_wp2
          go_ret2
          exact ⟨rfl, HB3.out⟩
theorem impPrv_any (k n : Int) (zs ps ms : List Int) (A B D : Option Addr) (c d g : Nat) (hl : zs.length ≤ 1048576) (hl' : ps.length ≤ 1048576) (hl2 : ms.length ≤ 1048576) (w : World) (hcap : zs.length ≤ c) (hr : Law.Row w A (ivs zs)) (hp : Law.Row w B (ivs ps)) (hm : Law.Row w D (ivs ms)) :
    Calls Try.prog 46 #[.int .i64 k, .int .i64 n, .slice A zs.length c, .slice B ps.length d, .slice D ms.length g] w fun e w' => e = .returned (.tuple #[.bool (Q.provesQ k n zs ps ms).1, .bool (Q.provesQ k n zs ps ms).2]) ∧ Below w.heap.size w w' := by
  have HF := Lib.hid (impFaults_any k n zs ps A B c d hl hl' w hr hp)
  have HBd := Lib.hid fun (W : World) (h : Below w.heap.size w W) => impBnd_any k n zs ms A D c g hl hl2 W hcap (hr.stays h) (hm.stays h)
  cases hR : Q.runX k n zs ps
  · rw [show Q.provesQ k n zs ps ms = (false, false) by simp [Q.provesQ, hR]]
    rw [show Q.faultsQ k n zs ps = (0, false) by simp [Q.faultsQ, hR]] at HF
    clear hr hp hm hR
    generalize Q.bndQ k n zs ms = Y at HBd
    obtain ⟨y1, y2⟩ := Y
    go_enter Try.func46, Try.ntmps46
    go_wp2_with fail
    go_at_call 20
    refine HF.out.mono ?_
    rintro e w1 ⟨rfl, hb⟩
    have HB := Lib.hid hb
    clear hb
    go_wp2_with fail
    go_at_call 42
    refine (HBd.out _ HB.out).mono ?_
    rintro e w2 ⟨rfl, hb⟩
    have HB2 := Lib.hid (Law.then_ HB.out hb)
    clear hb
    go_wp2
    go_ret2
    exact ⟨rfl, HB2.out⟩
  · rename_i X
    obtain ⟨us, f⟩ := X
    have hok : Q.planOk k n zs ps = true := by
      cases h : Q.planOk k n zs ps
      · simp [Q.runX, h] at hR
      · rfl
    have ht : (Q.okS k && Q.good n zs) = true := by
      simp only [Q.planOk, Bool.and_eq_true] at hok
      simp [hok.1.1, hok.1.2]
    rw [show Q.faultsQ k n zs ps = ((f : Int), true) by simp [Q.faultsQ, hR]] at HF
    cases hms : Q.rises zs.length ms
    · rw [show Q.provesQ k n zs ps ms = (false, false) by simp [Q.provesQ, hR, hms]]
      rw [show Q.bndQ k n zs ms = (0, false) by simp only [Q.bndQ, Q.bndOk, ht, hms]; rfl] at HBd
      clear hr hp hm hR hok ht hms
      go_enter Try.func46, Try.ntmps46
      go_wp2_with fail
      go_at_call 20
      refine HF.out.mono ?_
      rintro e w1 ⟨rfl, hb⟩
      have HB := Lib.hid hb
      clear hb
      go_wp2_with fail
      go_at_call 42
      refine (HBd.out _ HB.out).mono ?_
      rintro e w2 ⟨rfl, hb⟩
      have HB2 := Lib.hid (Law.then_ HB.out hb)
      clear hb
      go_wp2
      go_ret2
      exact ⟨rfl, HB2.out⟩
    · rw [show Q.provesQ k n zs ps ms = (Q.bnd k zs ms == (f : Int), true) by simp [Q.provesQ, hR, hms]]
      rw [show Q.bndQ k n zs ms = (Q.bnd k zs ms, true) by simp only [Q.bndQ, Q.bndOk, ht, hms]; rfl] at HBd
      clear hr hp hm hR hok ht hms
      generalize Q.bnd k zs ms = V at HBd ⊢
      go_enter Try.func46, Try.ntmps46
      go_wp2_with fail
      go_at_call 20
      refine HF.out.mono ?_
      rintro e w1 ⟨rfl, hb⟩
      have HB := Lib.hid hb
      clear hb
      go_wp2_with fail
      go_at_call 42
      refine (HBd.out _ HB.out).mono ?_
      rintro e w2 ⟨rfl, hb⟩
      have HB2 := Lib.hid (Law.then_ HB.out hb)
      clear hb
      go_wp2
      go_ret2
      exact ⟨rfl, HB2.out⟩
end Go.Proofs.Ytklpdfilhgjllaa
