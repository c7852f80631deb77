/-
  LeastCost and WorkFunction: both sides.
-/
import Derived.Test.YthpoeeadhjnljaaWx8
namespace Go.Proofs.Ythpoeeadhjnljaa
open Go.RowKit
set_option linter.unusedVariables false
namespace Q
noncomputable def wfQ (L S : List (List Int)) (start : Int) (reqs : List Int) : List Int × Bool := if askQ L S start reqs then (workK L S start.toNat reqs reqs.length, true) else ([], false)
theorem wf_no {L S : List (List Int)} {start : Int} {reqs : List Int} (h : askQ L S start reqs = false) : wfQ L S start reqs = ([], false) := if_neg (by simp [h])
theorem wf_yes {L S : List (List Int)} {start : Int} {reqs : List Int} (h : askQ L S start reqs = true) : wfQ L S start reqs = (workK L S start.toNat reqs reqs.length, true) := if_pos h
noncomputable def lcQ (L S : List (List Int)) (start : Int) (reqs : List Int) : Int × Bool := if askQ L S start reqs then (leastK (workK L S start.toNat reqs reqs.length) (workK L S start.toNat reqs reqs.length).length, true) else (0, false)
theorem lc_no {L S : List (List Int)} {start : Int} {reqs : List Int} (h : askQ L S start reqs = false) : lcQ L S start reqs = (0, false) := if_neg (by simp [h])
theorem lc_yes {L S : List (List Int)} {start : Int} {reqs : List Int} (h : askQ L S start reqs = true) : lcQ L S start reqs = (leastK (workK L S start.toNat reqs reqs.length) (workK L S start.toNat reqs reqs.length).length, true) := if_pos h
end Q
set_option maxHeartbeats 800000 in
theorem l8Opt_any (A : Option Addr) (c : Nat) (xs : List Value) (L : List (List Int)) (B : Option Addr) (d : Nat) (ys : List Value) (S : List (List Int)) (w : World) (s0 : Nat) (reqs : List Int) (R : Option Addr) (e : Nat) (hpr : Q.Pr L S) (h0 : s0 < L.length) (h60 : reqs.length ≤ 60) (hrq : ∀ k, k < reqs.length → ∃ x : Nat, reqs[k]? = some (x : Int) ∧ x < S.length) (hL : NRow w A xs L) (hS : NRow w B ys S) (hR : Law.Row w R (ivs reqs)) :
    Calls Try.prog 70 #[pv A L.length c B S.length d, .int .i64 (s0 : Int), .slice R reqs.length e] w fun e w' => e = .returned (.int .i64 (Q.leastK (Q.workK L S s0 reqs reqs.length) (Q.workK L S s0 reqs reqs.length).length)) ∧ Below w.heap.size w w' := by
  have HP := Lib.hid (PIn.start (c := c) (d := d) hL hS 29)
  have HW := Lib.hid fun (W : World) (h : Below w.heap.size w W) (h1 : NRow W A xs L) (h2 : NRow W B ys S) => l8Work_any A c xs L B d ys S W s0 reqs R e hpr h0 h60 hrq h1 h2 (hR.stays h)
  have hwl := (Q.workK_vals hpr h0 hrq reqs.length (Nat.le_refl _)).1
  have hn1 := hpr.n1
  have hn4 := hpr.n4
  generalize Q.workK L S s0 reqs reqs.length = K at HW hwl ⊢
  clear hL hS hR hpr hrq
  go_enter Try.func70, Try.ntmps70
  go_wp2_with fail
  generalize w.alloc (.cells #[.slice A L.length c, .slice B S.length d] 29) = wa at HP ⊢
  obtain ⟨p0, p1, _, _, _⟩ := HP.out.bk
  go_wp2_with fail
  go_at_call 73
  refine (HW.out _ HP.out.bl HP.out.mv HP.out.sv).mono ?_
  rintro e w2 ⟨v2, rfl, ho, hb⟩
  obtain ⟨V, f, rfl, _, _, _⟩ := Law.own_len ho
  have HB := Lib.hid (Law.then_ HP.out.bl hb)
  have HMn := Lib.hid (l8Least_any V f K w2 (by omega) (by omega) (Law.Row.own ho))
  clear ho hb p0 p1 hwl
  go_wp2_with fail
  go_at_call 103
  refine HMn.out.mono ?_
  rintro e w3 ⟨rfl, hw⟩
  obtain rfl := hw.symm
  clear hw
  go_wp2
  go_ret
  exact ⟨rfl, HB.out⟩
set_option maxHeartbeats 800000 in
theorem impWf_any (A : Option Addr) (c : Nat) (xs : List Value) (L : List (List Int)) (B : Option Addr) (d : Nat) (ys : List Value) (S : List (List Int)) (w : World) (start : Int) (reqs : List Int) (R : Option Addr) (e : Nat) (hlL : ∀ l ∈ L, l.length ≤ 1048576) (hlS : ∀ l ∈ S, l.length ≤ 1048576) (hlr : reqs.length ≤ 1048576) (hL : NRow w A xs L) (hS : NRow w B ys S) (hR : Law.Row w R (ivs reqs)) :
    Calls Try.prog 36 #[pv A L.length c B S.length d, .int .i64 start, .slice R reqs.length e] w (rowSays (Q.wfQ L S start reqs) w) := by
  have HP := Lib.hid (PIn.start (c := c) (d := d) hL hS 29)
  have HG := Lib.hid fun (W : World) (h : Below w.heap.size w W) (h1 : NRow W A xs L) (h2 : NRow W B ys S) => isAsked_any A c xs L B d ys S W start reqs R e hlL hlS hlr h1 h2 (hR.stays h)
  cases hq : Q.askQ L S start reqs
  · rw [Q.wf_no hq]
    rw [hq] at HG
    clear hL hS hR hq
    go_enter Try.func36, Try.ntmps36
    go_wp2_with fail
    generalize w.alloc (.cells #[.slice A L.length c, .slice B S.length d] 29) = wa at HP ⊢
    obtain ⟨p0, p1, _, _, _⟩ := HP.out.bk
    go_wp2_with fail
    go_at_call 66
    refine (HG.out _ HP.out.bl HP.out.mv HP.out.sv).mono ?_
    rintro e w1 ⟨rfl, hb⟩
    have HP1 := Lib.hid (HP.out.on hb)
    clear p0 p1 hb
    obtain ⟨p0, p1, _, _, _⟩ := HP1.out.bk
    go_wp2
    go_ret2
    exact ⟨_, rfl, own_down (ownsRow_nil _ _) HP1.out.bl.size, HP1.out.bl.alloc HP1.out.bl.size _⟩
  · rw [Q.wf_yes hq]
    rw [hq] at HG
    have hask := Q.ask_iff.1 hq
    obtain ⟨s0, e0, hs0⟩ := hask.st
    subst e0
    rw [Int.toNat_natCast]
    have HW := Lib.hid fun (W : World) (h : Below w.heap.size w W) (h1 : NRow W A xs L) (h2 : NRow W B ys S) => workOf_any A c xs L B d ys S W s0 reqs R e hask.pr hs0 hask.len hask.rq h1 h2 (hR.stays h)
    have hwl := (Q.workK_vals hask.pr hs0 hask.rq reqs.length (Nat.le_refl _)).1
    have hn1 := hask.pr.n1
    have hn4 := hask.pr.n4
    generalize Q.workK L S s0 reqs reqs.length = K at HW hwl ⊢
    clear hL hS hR hq hask
    go_enter Try.func36, Try.ntmps36
    go_wp2_with fail
    generalize w.alloc (.cells #[.slice A L.length c, .slice B S.length d] 29) = wa at HP ⊢
    obtain ⟨p0, p1, _, _, _⟩ := HP.out.bk
    go_wp2_with fail
    go_at_call 66
    refine (HG.out _ HP.out.bl HP.out.mv HP.out.sv).mono ?_
    rintro e w1 ⟨rfl, hb⟩
    have HP1 := Lib.hid (HP.out.on hb)
    clear p0 p1 hb
    obtain ⟨p0, p1, _, _, _⟩ := HP1.out.bk
    go_wp2_with fail
    go_at_call 72
    refine (HW.out _ HP1.out.bl HP1.out.mv HP1.out.sv).mono ?_
    rintro e w2 ⟨v2, rfl, ho, hb⟩
    have HB := Lib.hid (Law.then_ HP1.out.bl hb)
    have HO := Lib.hid (own_down ho HP1.out.bl.size)
    clear ho hb p0 p1
    go_wp2
    go_ret2
    exact ⟨_, rfl, HO.out, HB.out⟩
set_option maxHeartbeats 800000 in
theorem specWf_any (A : Option Addr) (c : Nat) (xs : List Value) (L : List (List Int)) (B : Option Addr) (d : Nat) (ys : List Value) (S : List (List Int)) (w : World) (start : Int) (reqs : List Int) (R : Option Addr) (e : Nat) (hlS : ∀ l ∈ S, l.length ≤ 1048576) (hlr : reqs.length ≤ 1048576) (hL : NRow w A xs L) (hS : NRow w B ys S) (hR : Law.Row w R (ivs reqs)) :
    Calls Try.prog 35 #[pv A L.length c B S.length d, .int .i64 start, .slice R reqs.length e] w (rowSays (Q.wfQ L S start reqs) w) := by
  have HP := Lib.hid (PIn.start (c := c) (d := d) hL hS 29)
  have HG := Lib.hid fun (W : World) (h : Below w.heap.size w W) (h1 : NRow W A xs L) (h2 : NRow W B ys S) => l8Takes_any A c xs L B d ys S W start reqs R e hlS hlr h1 h2 (hR.stays h)
  cases hq : Q.askQ L S start reqs
  · rw [Q.wf_no hq]
    rw [hq] at HG
    clear hL hS hR hq
    go_enter Try.func35, Try.ntmps35
    go_wp2_with fail
    generalize w.alloc (.cells #[.slice A L.length c, .slice B S.length d] 29) = wa at HP ⊢
    obtain ⟨p0, p1, _, _, _⟩ := HP.out.bk
    go_wp2_with fail
    go_at_call 64
    refine (HG.out _ HP.out.bl HP.out.mv HP.out.sv).mono ?_
    rintro e w1 ⟨rfl, hb⟩
    have HP1 := Lib.hid (HP.out.on hb)
    clear p0 p1 hb
    obtain ⟨p0, p1, _, _, _⟩ := HP1.out.bk
    go_wp2
    go_ret2
    exact ⟨_, rfl, own_down (ownsRow_nil _ _) HP1.out.bl.size, HP1.out.bl.alloc HP1.out.bl.size _⟩
  · rw [Q.wf_yes hq]
    rw [hq] at HG
    have hask := Q.ask_iff.1 hq
    obtain ⟨s0, e0, hs0⟩ := hask.st
    subst e0
    rw [Int.toNat_natCast]
    have HW := Lib.hid fun (W : World) (h : Below w.heap.size w W) (h1 : NRow W A xs L) (h2 : NRow W B ys S) => l8Work_any A c xs L B d ys S W s0 reqs R e hask.pr hs0 hask.len hask.rq h1 h2 (hR.stays h)
    have hwl := (Q.workK_vals hask.pr hs0 hask.rq reqs.length (Nat.le_refl _)).1
    have hn1 := hask.pr.n1
    have hn4 := hask.pr.n4
    generalize Q.workK L S s0 reqs reqs.length = K at HW hwl ⊢
    clear hL hS hR hq hask
    go_enter Try.func35, Try.ntmps35
    go_wp2_with fail
    generalize w.alloc (.cells #[.slice A L.length c, .slice B S.length d] 29) = wa at HP ⊢
    obtain ⟨p0, p1, _, _, _⟩ := HP.out.bk
    go_wp2_with fail
    go_at_call 64
    refine (HG.out _ HP.out.bl HP.out.mv HP.out.sv).mono ?_
    rintro e w1 ⟨rfl, hb⟩
    have HP1 := Lib.hid (HP.out.on hb)
    clear p0 p1 hb
    obtain ⟨p0, p1, _, _, _⟩ := HP1.out.bk
    go_wp2_with fail
    go_at_call 73
    refine (HW.out _ HP1.out.bl HP1.out.mv HP1.out.sv).mono ?_
    rintro e w2 ⟨v2, rfl, ho, hb⟩
    have HB := Lib.hid (Law.then_ HP1.out.bl hb)
    have HO := Lib.hid (own_down ho HP1.out.bl.size)
    clear ho hb p0 p1
    go_wp2
    go_ret2
    exact ⟨_, rfl, HO.out, HB.out⟩
set_option maxHeartbeats 800000 in
theorem impLc_any (A : Option Addr) (c : Nat) (xs : List Value) (L : List (List Int)) (B : Option Addr) (d : Nat) (ys : List Value) (S : List (List Int)) (w : World) (start : Int) (reqs : List Int) (R : Option Addr) (e : Nat) (hlL : ∀ l ∈ L, l.length ≤ 1048576) (hlS : ∀ l ∈ S, l.length ≤ 1048576) (hlr : reqs.length ≤ 1048576) (hL : NRow w A xs L) (hS : NRow w B ys S) (hR : Law.Row w R (ivs reqs)) :
    Calls Try.prog 34 #[pv A L.length c B S.length d, .int .i64 start, .slice R reqs.length e] w fun e w' => e = .returned (.tuple #[.int .i64 (Q.lcQ L S start reqs).1, .bool (Q.lcQ L S start reqs).2]) ∧ Below w.heap.size w w' := by
  have HP := Lib.hid (PIn.start (c := c) (d := d) hL hS 29)
  have HG := Lib.hid fun (W : World) (h : Below w.heap.size w W) (h1 : NRow W A xs L) (h2 : NRow W B ys S) => isAsked_any A c xs L B d ys S W start reqs R e hlL hlS hlr h1 h2 (hR.stays h)
  cases hq : Q.askQ L S start reqs
  · rw [Q.lc_no hq]
    rw [hq] at HG
    clear hL hS hR hq
    go_enter Try.func34, Try.ntmps34
    go_wp2_with fail
    generalize w.alloc (.cells #[.slice A L.length c, .slice B S.length d] 29) = wa at HP ⊢
    obtain ⟨p0, p1, _, _, _⟩ := HP.out.bk
    go_wp2_with fail
    go_at_call 66
    refine (HG.out _ HP.out.bl HP.out.mv HP.out.sv).mono ?_
    rintro e w1 ⟨rfl, hb⟩
    have HP1 := Lib.hid (HP.out.on hb)
    clear p0 p1 hb
    obtain ⟨p0, p1, _, _, _⟩ := HP1.out.bk
    go_wp2
    go_ret2
    exact ⟨rfl, HP1.out.bl⟩
  · rw [Q.lc_yes hq]
    rw [hq] at HG
    have hask := Q.ask_iff.1 hq
    obtain ⟨s0, e0, hs0⟩ := hask.st
    subst e0
    rw [Int.toNat_natCast]
    have HW := Lib.hid fun (W : World) (h : Below w.heap.size w W) (h1 : NRow W A xs L) (h2 : NRow W B ys S) => workOf_any A c xs L B d ys S W s0 reqs R e hask.pr hs0 hask.len hask.rq h1 h2 (hR.stays h)
    have hwl := (Q.workK_vals hask.pr hs0 hask.rq reqs.length (Nat.le_refl _)).1
    have hn1 := hask.pr.n1
    have hn4 := hask.pr.n4
    generalize Q.workK L S s0 reqs reqs.length = K at HW hwl ⊢
    clear hL hS hR hq hask
    go_enter Try.func34, Try.ntmps34
    go_wp2_with fail
    generalize w.alloc (.cells #[.slice A L.length c, .slice B S.length d] 29) = wa at HP ⊢
    obtain ⟨p0, p1, _, _, _⟩ := HP.out.bk
    go_wp2_with fail
    go_at_call 66
    refine (HG.out _ HP.out.bl HP.out.mv HP.out.sv).mono ?_
    rintro e w1 ⟨rfl, hb⟩
    have HP1 := Lib.hid (HP.out.on hb)
    clear p0 p1 hb
    obtain ⟨p0, p1, _, _, _⟩ := HP1.out.bk
    go_wp2_with fail
    go_at_call 72
    refine (HW.out _ HP1.out.bl HP1.out.mv HP1.out.sv).mono ?_
    rintro e w2 ⟨v2, rfl, ho, hb⟩
    have HB := Lib.hid (Law.then_ HP1.out.bl hb)
    obtain ⟨V, f, rfl, _, _, _⟩ := Law.own_len ho
    have HMn := Lib.hid (min_row (c := f) (Law.Row.own ho) (by omega) (by omega))
    rw [Q.minOf_least (by omega)] at HMn
    clear ho hb p0 p1 hwl
    go_wp2_with fail
    go_at_call 71
    refine HMn.out.mono ?_
    rintro e w3 ⟨rfl, hw⟩
    obtain rfl := hw.symm
    clear hw
    go_wp2
    go_ret2
    exact ⟨rfl, HB.out⟩
set_option maxHeartbeats 800000 in
theorem specLc_any (A : Option Addr) (c : Nat) (xs : List Value) (L : List (List Int)) (B : Option Addr) (d : Nat) (ys : List Value) (S : List (List Int)) (w : World) (start : Int) (reqs : List Int) (R : Option Addr) (e : Nat) (hlS : ∀ l ∈ S, l.length ≤ 1048576) (hlr : reqs.length ≤ 1048576) (hL : NRow w A xs L) (hS : NRow w B ys S) (hR : Law.Row w R (ivs reqs)) :
    Calls Try.prog 33 #[pv A L.length c B S.length d, .int .i64 start, .slice R reqs.length e] w fun e w' => e = .returned (.tuple #[.int .i64 (Q.lcQ L S start reqs).1, .bool (Q.lcQ L S start reqs).2]) ∧ Below w.heap.size w w' := by
  have HP := Lib.hid (PIn.start (c := c) (d := d) hL hS 29)
  have HG := Lib.hid fun (W : World) (h : Below w.heap.size w W) (h1 : NRow W A xs L) (h2 : NRow W B ys S) => l8Takes_any A c xs L B d ys S W start reqs R e hlS hlr h1 h2 (hR.stays h)
  cases hq : Q.askQ L S start reqs
  · rw [Q.lc_no hq]
    rw [hq] at HG
    clear hL hS hR hq
    go_enter Try.func33, Try.ntmps33
    go_wp2_with fail
    generalize w.alloc (.cells #[.slice A L.length c, .slice B S.length d] 29) = wa at HP ⊢
    obtain ⟨p0, p1, _, _, _⟩ := HP.out.bk
    go_wp2_with fail
    go_at_call 64
    refine (HG.out _ HP.out.bl HP.out.mv HP.out.sv).mono ?_
    rintro e w1 ⟨rfl, hb⟩
    have HP1 := Lib.hid (HP.out.on hb)
    clear p0 p1 hb
    obtain ⟨p0, p1, _, _, _⟩ := HP1.out.bk
    go_wp2
    go_ret2
    exact ⟨rfl, HP1.out.bl⟩
  · rw [Q.lc_yes hq]
    rw [hq] at HG
    have hask := Q.ask_iff.1 hq
    obtain ⟨s0, e0, hs0⟩ := hask.st
    subst e0
    rw [Int.toNat_natCast]
    have HW := Lib.hid fun (W : World) (h : Below w.heap.size w W) (h1 : NRow W A xs L) (h2 : NRow W B ys S) => l8Opt_any A c xs L B d ys S W s0 reqs R e hask.pr hs0 hask.len hask.rq h1 h2 (hR.stays h)
    have hwl := (Q.workK_vals hask.pr hs0 hask.rq reqs.length (Nat.le_refl _)).1
    have hn1 := hask.pr.n1
    have hn4 := hask.pr.n4
    generalize Q.workK L S s0 reqs reqs.length = K at HW hwl ⊢
    clear hL hS hR hq hask
    go_enter Try.func33, Try.ntmps33
    go_wp2_with fail
    generalize w.alloc (.cells #[.slice A L.length c, .slice B S.length d] 29) = wa at HP ⊢
    obtain ⟨p0, p1, _, _, _⟩ := HP.out.bk
    go_wp2_with fail
    go_at_call 64
    refine (HG.out _ HP.out.bl HP.out.mv HP.out.sv).mono ?_
    rintro e w1 ⟨rfl, hb⟩
    have HP1 := Lib.hid (HP.out.on hb)
    clear p0 p1 hb
    obtain ⟨p0, p1, _, _, _⟩ := HP1.out.bk
    go_wp2_with fail
    go_at_call 70
    refine (HW.out _ HP1.out.bl HP1.out.mv HP1.out.sv).mono ?_
    rintro e w2 ⟨rfl, hb⟩
    have HB := Lib.hid (Law.then_ HP1.out.bl hb)
    clear hb p0 p1 hwl
    go_wp2
    go_ret2
    exact ⟨rfl, HB.out⟩
end Go.Proofs.Ythpoeeadhjnljaa
