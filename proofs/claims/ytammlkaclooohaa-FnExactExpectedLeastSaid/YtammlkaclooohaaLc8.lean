/-
  LeastCost and WorkFunction: both sides.
-/
import Derived.Test.YtammlkaclooohaaWx8
namespace Go.Proofs.Ytammlkaclooohaa
open Go.RowKit
set_option linter.unusedVariables false
namespace Q
noncomputable def wfQ (L S : List (List Int)) (start : Int) (reqs : List Int) : List Int × Bool := if askQ L S start reqs then (workK L S start.toNat reqs reqs.length, true) else ([], false)
theorem wf_no {L S : List (List Int)} {start : Int} {reqs : List Int} (h : askQ L S start reqs = false) : wfQ L S start reqs = ([], false) := if_neg (by simp [h])
theorem wf_yes {L S : List (List Int)} {start : Int} {reqs : List Int} (h : askQ L S start reqs = true) : wfQ L S start reqs = (workK L S start.toNat reqs reqs.length, true) := if_pos h
noncomputable def lcQ (L S : List (List Int)) (start : Int) (reqs : List Int) : Int × Bool := if askQ L S start reqs then (leastK (workK L S start.toNat reqs reqs.length) (workK L S start.toNat reqs reqs.length).length, true) else (0, false)
theorem lc_no {L S : List (List Int)} {start : Int} {reqs : List Int} (h : askQ L S start reqs = false) : lcQ L S start reqs = (0, false) := if_neg (by simp [h])
theorem lc_yes {L S : List (List Int)} {start : Int} {reqs : List Int} (h : askQ L S start reqs = true) : lcQ L S start reqs = (leastK (workK L S start.toNat reqs reqs.length) (workK L S start.toNat reqs reqs.length).length, true) := if_pos h
end Q
set_option maxHeartbeats 800000 in
theorem l8Opt_any (A : Option Addr) (c : Nat) (xs : List Value) (L : List (List Int)) (B : Option Addr) (d : Nat) (ys : List Value) (S : List (List Int)) (w : World) (s0 : Nat) (reqs : List Int) (R : Option Addr) (e : Nat) (hpr : Q.Pr L S) (h0 : s0 < L.length) (h60 : reqs.length ≤ 60) (hrq : ∀ k, k < reqs.length → ∃ x : Nat, reqs[k]? = some (x : Int) ∧ x < S.length) (hL : NRow w A xs L) (hS : NRow w B ys S) (hR : Law.Row w R (ivs reqs)) :
    Calls Try.prog 101 #[pv A L.length c B S.length d, .int .i64 (s0 : Int), .slice R reqs.length e] w fun e w' => e = .returned (.int .i64 (Q.leastK (Q.workK L S s0 reqs reqs.length) (Q.workK L S s0 reqs reqs.length).length)) ∧ Below w.heap.size w w' := by
  have HP := Lib.hid (PIn.start (c := c) (d := d) hL hS 35)
  have HW := Lib.hid fun (W : World) (h : Below w.heap.size w W) (h1 : NRow W A xs L) (h2 : NRow W B ys S) => l8Work_any A c xs L B d ys S W s0 reqs R e hpr h0 h60 hrq h1 h2 (hR.stays h)
  have hwl := (Q.workK_vals hpr h0 hrq reqs.length (Nat.le_refl _)).1
  have hn1 := hpr.n1
  have hn4 := hpr.n4
  generalize Q.workK L S s0 reqs reqs.length = K at HW hwl ⊢
  clear hL hS hR hpr hrq
  go_enter Try.func101, Try.ntmps101
  go_wp2_with fail
  generalize w.alloc (.cells #[.slice A L.length c, .slice B S.length d] 35) = wa at HP ⊢
  obtain ⟨p0, p1, _, _, _⟩ := HP.out.bk
  go_wp2_with fail
  go_at_call 160
  refine (HW.out _ HP.out.bl HP.out.mv HP.out.sv).mono ?_
  rintro e w2 ⟨v2, rfl, ho, hb⟩
  obtain ⟨V, f, rfl, _, _, _⟩ := Law.own_len ho
  have HB := Lib.hid (Law.then_ HP.out.bl hb)
  have HMn := Lib.hid (l8Least_any V f K w2 (by omega) (by omega) (Law.Row.own ho))
  clear ho hb p0 p1 hwl
  go_wp2_with fail
  go_at_call 159
  refine HMn.out.mono ?_
  rintro e w3 ⟨rfl, hw⟩
  obtain rfl := hw.symm
  clear hw
  go_wp2
  go_ret
  exact ⟨rfl, HB.out⟩
end Go.Proofs.Ytammlkaclooohaa
