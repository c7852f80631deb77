/-
  CoverStep: the model's.
-/
import Derived.Test.YtndjpkeenbbgiaaCov
import Derived.Test.YtndjpkeenbbgiaaRw3
import Derived.Test.YtndjpkeenbbgiaaOwnS
namespace Go.Proofs.Ytndjpkeenbbgiaa
open Go.RowKit
set_option linter.unusedVariables false
def covSays2 (X : List Int × Int) (w : World) (e : Ending) (w' : World) : Prop :=
  ∃ v, e = .returned (.tuple #[v, .int .i64 X.2]) ∧ w'.ownsRow w.heap.size 3 1 v X.1.length (ivs X.1) ∧ Below w.heap.size w w'
/-- A row, a number, and whether they are told. -/
def rowInt (X : List Int × Int × Bool) (w : World) (e : Ending) (w' : World) : Prop :=
  ∃ v, e = .returned (.tuple #[v, .int .i64 X.2.1, .bool X.2.2]) ∧ w'.ownsRow w.heap.size 3 1 v X.1.length (ivs X.1) ∧ Below w.heap.size w w'
theorem l1Least_by (x y r : Int) (w : World) : Calls Try.prog 93 #[.int .i64 (r - x), .int .i64 (y - r)] w fun e w' => e = .returned (.int .i64 (Q.byQ x y r)) ∧ w' = w := by
  have HE : Hid (Q.byQ x y r = if r - x ≤ y - r then r - x else y - r) := rfl
  generalize Q.byQ x y r = q at HE ⊢
  generalize r - x = a at HE ⊢
  generalize y - r = b at HE ⊢
  by_cases h : a < b
  · have HQ : Hid (q = a) := by show _ = _; rw [HE.out, if_pos (by omega)]
    go_enter Try.func93, Try.ntmps93
    go_wp2
    go_ret
    exact ⟨by rw [HQ.out]; rfl, rfl⟩
  · have HQ : Hid (q = b) := by
      show _ = _
      rw [HE.out]
      split <;> omega
    go_enter Try.func93, Try.ntmps93
    go_wp2
    go_ret
    exact ⟨by rw [HQ.out]; rfl, rfl⟩
set_option maxHeartbeats 1600000 in
theorem l6Cover_any (A : Option Addr) (c : Nat) (l : List Int) (r : Int) (w : World) (hq : Q.rowQ l = true) (h0 : 0 ≤ r) (h1 : r ≤ 99) (hr : Law.Row w A (ivs l)) :
    Calls Try.prog 60 #[.slice A l.length c, .int .i64 r] w (covSays2 (Q.covX l r) w) := by
  obtain ⟨hl1, hl3, hwi, _⟩ := Q.servers_iff.1 hq
  obtain ⟨_, hpos⟩ := Q.cov_pos hq h0 h1
  have HW := Lib.hid (fun k (h : k < l.length) => Q.within_at hwi h)
  have HOwn := Lib.hid (l1Own_any A c l w (by omega) hr)
  have HHas := Lib.hid fun (W : World) (h : Below w.heap.size w W) => l1Has_any A c l r W (by omega) (hr.stays h)
  have HR := Lib.hid hr
  have hlI : (1 : Int) ≤ (l.length : Int) := by omega
  have hlw : IntKind.i64.wrap ((l.length : Int) - 1) = (l.length : Int) - 1 := IntWalk.i64_in _ (by omega)
  clear hr hq hwi
  rcases hpos with hm | ⟨hm, hk, x, hx, hrx, e⟩ | ⟨hm, k, x, y, hlk, hk, hx, hxr, hy, hyr, e⟩ | ⟨hm, k, x, y, z, t, hlk, hk, hx, hxr, hy, hry, hz, hzr, ht, hrt, hj, e⟩
  · rw [Q.covX_in hm]
    rw [show decide (r ∈ l) = true from decide_eq_true hm] at HHas
    clear hm
    go_enter Try.func60, Try.ntmps60
    go_wp2_with fail
    go_at_call 64
    refine HOwn.out.mono ?_
    rintro e w1 ⟨v, rfl, ho, hb1⟩
    have HO := Lib.hid ho
    have HB := Lib.hid hb1
    have HH := Lib.hid (HHas.out _ hb1)
    clear ho hb1
    go_wp2_with fail
    go_at_call 68
    refine (HH.out).mono ?_
    rintro e w' ⟨rfl, hw'⟩
    obtain rfl := hw'.symm
    clear hw'
    go_wp2
    go_ret2
    exact ⟨_, rfl, HO.out, HB.out⟩
  all_goals
    rw [e]
    have HSL : Hid ((Q.covX l r).1.length = l.length) := by show _ = _; rw [e]; simp
    rw [e] at HSL
    rw [show decide (r ∈ l) = false from decide_eq_false hm] at HHas
    clear hm e hk
  · have HX := Lib.hid hx
    obtain ⟨x', hx', hx0, hx1⟩ := HW.out 0 (by omega)
    rw [hx] at hx'
    obtain rfl := Option.some.inj hx'
    have hwx : IntKind.i64.wrap (x - r) = x - r := IntWalk.i64_in _ (by omega)
    clear hx'
    go_enter Try.func60, Try.ntmps60
    go_wp2_with fail
    go_at_call 64
    refine HOwn.out.mono ?_
    rintro e w1 ⟨v, rfl, ho, hb1⟩
    obtain ⟨g, cg, rfl, hg0, hg1⟩ := own_some ho (by omega)
    have HB' := Lib.hid (hb1.setCell (p := ⟨g, 0, none⟩) hg0 (.int .i64 r))
    obtain ⟨b, off, rfl, hbl, hc⟩ := (HR.out.stays hb1).at_ (ivs_some HX.out)
    obtain ⟨b', off', hbe, hbl', hc2⟩ := (HR.out.stays HB'.out).at_ (ivs_some HX.out)
    cases hbe
    rw [Nat.add_zero] at hc hc2
    have HH := Lib.hid (HHas.out _ hb1)
    have hcU := own_cell ho HX.out
    have hfU := ho.frozenAt 0
    have HU := Lib.hid (own_put ho 0 r)
    clear ho hb1 hx
    go_wp2_with fail
    go_at_call 68
    refine (HH.out).mono ?_
    rintro e w' ⟨rfl, hw'⟩
    obtain rfl := hw'.symm
    clear hw'
    go_wp2
    go_quiet (fail)
    go_wp2
    go_ret2
    refine ⟨_, rfl, ?_, Law.up HB'.out _⟩
    simp only [HSL.out]
    exact own_past HU.out (Law.up (Below.refl _ _) _)
  · have HX := Lib.hid hx
    have HY := Lib.hid hy
    have hkI : (l.length : Int) - 1 = (k : Int) := by omega
    have hklt : (k : Int) < (l.length : Int) := by omega
    obtain ⟨x', hx', hx0, hx1⟩ := HW.out k (by omega)
    rw [hx] at hx'
    obtain rfl := Option.some.inj hx'
    have hwx : IntKind.i64.wrap (r - x) = r - x := IntWalk.i64_in _ (by omega)
    have hyr' : ¬ r < y := by omega
    have HLK := Lib.hid hlk
    clear hx' hlk
    go_enter Try.func60, Try.ntmps60
    go_wp2_with fail
    go_at_call 64
    refine HOwn.out.mono ?_
    rintro e w1 ⟨v, rfl, ho, hb1⟩
    obtain ⟨g, cg, rfl, hg0, hg1⟩ := own_some ho (by omega)
    have HB' := Lib.hid (hb1.setCell (p := ⟨g, k, none⟩) hg0 (.int .i64 r))
    obtain ⟨b, off, rfl, hbl, hc⟩ := (HR.out.stays hb1).at_ (ivs_some HX.out)
    obtain ⟨b', off', hbe, hbl', hc2⟩ := (HR.out.stays HB'.out).at_ (ivs_some HX.out)
    cases hbe
    obtain ⟨b', off', hbe, _, hc3⟩ := (HR.out.stays hb1).at_ (ivs_some HY.out)
    cases hbe
    rw [Nat.add_zero] at hc3
    have HH := Lib.hid (HHas.out _ hb1)
    have hcU := own_cell ho HX.out
    have hfU := ho.frozenAt k
    have HU := Lib.hid (own_put ho k r)
    clear ho hb1 hx hy
    go_wp2_with fail
    go_at_call 68
    refine (HH.out).mono ?_
    rintro e w' ⟨rfl, hw'⟩
    obtain rfl := hw'.symm
    clear hw'
    go_wp2
    go_quiet (fail)
    go_wp2
    go_ret2
    refine ⟨_, rfl, ?_, Law.up HB'.out _⟩
    simp only [HSL.out]
    exact own_past HU.out (Law.up (Below.refl _ _) _)
  · have HX := Lib.hid hx
    have HY := Lib.hid hy
    have HZ := Lib.hid hz
    have HT := Lib.hid ht
    have HJ := Lib.hid hj
    obtain ⟨x', hx', hx0, hx1⟩ := HW.out k (by omega)
    rw [hx] at hx'
    obtain rfl := Option.some.inj hx'
    obtain ⟨y', hy', hy0, hy1⟩ := HW.out (k + 1) hlk
    rw [hy] at hy'
    obtain rfl := Option.some.inj hy'
    have hby : 0 ≤ Q.byQ x y r ∧ Q.byQ x y r ≤ 99 := by unfold Q.byQ; split <;> omega
    have HLe := Lib.hid fun W => l1Least_by x y r W
    generalize Q.byQ x y r = q at hby HLe HSL ⊢
    have hklt : (k : Int) < (l.length : Int) := by omega
    have hklt2 : (k : Int) + 1 < (l.length : Int) := by omega
    have hlm : (l.length : Int) - 1 < (l.length : Int) := by omega
    have hl0 : (0 : Int) ≤ (l.length : Int) - 1 := by omega
    have hln : ((l.length : Int) - 1).toNat = l.length - 1 := by omega
    have hrz : ¬ r < z := by omega
    have hrt' : ¬ t < r := by omega
    have hw1 : IntKind.i64.wrap (r - x) = r - x := IntWalk.i64_in _ (by omega)
    have hw2 : IntKind.i64.wrap (y - r) = y - r := IntWalk.i64_in _ (by omega)
    have hw3 : IntKind.i64.wrap (x + q) = x + q := IntWalk.i64_in _ (by omega)
    have hw4 : IntKind.i64.wrap (y - q) = y - q := IntWalk.i64_in _ (by omega)
    have hw5 : IntKind.i64.wrap (2 * q) = 2 * q := IntWalk.i64_in _ (by omega)
    have hkw : IntKind.i64.wrap ((k : Int) + 1) = (k : Int) + 1 := IntWalk.i64_in _ (by omega)
    clear hx' hy' hx hy hz ht hj
    go_enter Try.func60, Try.ntmps60
    go_wp2_with fail
    go_at_call 64
    refine HOwn.out.mono ?_
    rintro e w1 ⟨v, rfl, ho, hb1⟩
    obtain ⟨g, cg, rfl, hg0, hg1⟩ := own_some ho (by omega)
    obtain ⟨b, off, rfl, hbl, hc⟩ := (HR.out.stays hb1).at_ (ivs_some HX.out)
    obtain ⟨b', off', hbe, _, hcy⟩ := (HR.out.stays hb1).at_ (ivs_some HY.out)
    cases hbe
    obtain ⟨b', off', hbe, _, hcz⟩ := (HR.out.stays hb1).at_ (ivs_some HZ.out)
    cases hbe
    rw [Nat.add_zero] at hcz
    obtain ⟨b', off', hbe, _, hct⟩ := (HR.out.stays hb1).at_ (ivs_some HT.out)
    cases hbe
    have HH := Lib.hid (HHas.out _ hb1)
    have HB1 := Lib.hid hb1
    have HO1 := Lib.hid ho
    clear ho hb1
    go_wp2_with fail
    go_at_call 68
    refine (HH.out).mono ?_
    rintro e w' ⟨rfl, hw'⟩
    obtain rfl := hw'.symm
    clear hw'
    go_wp2
    go_loop [8] (fun i => ∃ j : Nat, j ≤ k ∧ i = .int .i64 (j : Int)) (fun i => k - (intOf i).toNat)
    case atStart => exact ⟨0, by omega, rfl⟩
    case round =>
      obtain ⟨j, hj, rfl⟩ := hrel
      have hjw : IntKind.i64.wrap ((j : Int) + 1) = (j : Int) + 1 := IntWalk.i64_in _ (by omega)
      by_cases hlt : j < k
      · obtain ⟨u, hu, hur⟩ := HJ.out j hlt
        obtain ⟨b', off', hbe, _, hcu⟩ := (HR.out.stays HB1.out).at_ (ivs_some hu)
        cases hbe
        have hjI : (j : Int) + 1 < (l.length : Int) := by omega
        have hjI0 : (0 : Int) ≤ (j : Int) + 1 := by omega
        clear hu
        go_wp2
        go_round
        case rel => exact ⟨j + 1, by omega, by go_num⟩
        case measure => simp [intOf]; omega
      · have hjk : j = k := by omega
        subst hjk
        have hry' : ¬ y < r := by omega
        have hjI0 : (0 : Int) ≤ (j : Int) + 1 := by omega
        have HOf : Hid (∀ n, (w1.drewN n).ownsRow w.heap.size 3 1 (.slice (some ⟨g, 0, none⟩) l.length cg) l.length (ivs l)) := fun n => own_past HO1.out (Law.up (Below.refl _ _) n)
        have HBf : Hid (∀ n, Below w.heap.size w (w1.drewN n)) := fun n => Law.up HB1.out n
        go_wp2_with fail
        go_quiet ((go_at_call 93; exact Calls.quiet_of_same (HLe.out _)))
        generalize hW : World.drewN w1 _ = W
        have HO1 : W.ownsRow w.heap.size 3 1 (.slice (some ⟨g, 0, none⟩) l.length cg) l.length (ivs l) := by rw [← hW]; exact HOf.out _
        have HB1 : Below w.heap.size w W := by rw [← hW]; exact HBf.out _
        clear hW HOf HBf hc hcy hcz hct
        obtain ⟨b', off', hbe, hbl, hc⟩ := (HR.out.stays HB1).at_ (ivs_some HX.out)
        cases hbe
        have hcx := own_cell HO1 HX.out
        have hfx := HO1.frozenAt j
        have HO2 := own_put HO1 j (x + q)
        have HB2 := Lib.hid (HB1.setCell (p := ⟨g, j, none⟩) hg0 (.int .i64 (x + q)))
        have hcy2 := own_cell HO2 (k := j + 1) (x := y) (by rw [List.getElem?_set_ne (by omega)]; exact HY.out)
        have hfy := HO2.frozenAt (j + 1)
        have HO3 := own_put HO2 (j + 1) (y - q)
        have HB3 := Lib.hid (HB2.out.setCell (p := ⟨g, j + 1, none⟩) hg0 (.int .i64 (y - q)))
        have HU := Lib.hid HO3
        obtain ⟨b', off', hbe, hbl2, hcy3⟩ := (HR.out.stays HB2.out).at_ (ivs_some HY.out)
        cases hbe
        clear HO2 HO3 HB1 HO1
        go_wp2
        go_ret2
        refine ⟨_, rfl, ?_, HB3.out⟩
        simp only [HSL.out]
        exact HU.out
end Go.Proofs.Ytndjpkeenbbgiaa
