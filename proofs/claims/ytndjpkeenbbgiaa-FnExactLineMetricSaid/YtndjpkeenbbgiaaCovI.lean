/-
  CoverStep: the model's whole, the code's.
-/
import Derived.Test.YtndjpkeenbbgiaaCovS
import Derived.Test.YtndjpkeenbbgiaaRdI
import Derived.Test.YtndjpkeenbbgiaaShelf
namespace Go.Proofs.Ytndjpkeenbbgiaa
open Go.RowKit
set_option linter.unusedVariables false
namespace Q
def okR (r : Int) : Bool := decide (0 ≤ r) && decide (r ≤ 99)
def csQ (l : List Int) (r : Int) : List Int × Int × Bool := if rowQ l && okR r then ((covX l r).1, (covX l r).2, true) else ([], 0, false)
theorem csQ_yes {l : List Int} {r : Int} (h1 : rowQ l = true) (h2 : okR r = true) : csQ l r = ((covX l r).1, (covX l r).2, true) := if_pos (by simp [h1, h2])
theorem csQ_no1 {l : List Int} {r : Int} (h1 : rowQ l = false) : csQ l r = ([], 0, false) := if_neg (by simp [h1])
theorem csQ_no2 {l : List Int} {r : Int} (h1 : okR r = false) : csQ l r = ([], 0, false) := if_neg (by simp [h1])
theorem okR_iff {r : Int} : okR r = true ↔ 0 ≤ r ∧ r ≤ 99 := by simp [okR]
theorem row_pair {l : List Int} (h : rowQ l = true) : l.Pairwise (· ≤ ·) := by
  rcases row_cases h with ⟨a, rfl, _⟩ | ⟨a, b, rfl, _, _, _⟩ | ⟨a, b, c, rfl, _, _, _, _⟩
  · simp
  · simp; omega
  · simp; omega
end Q
set_option maxHeartbeats 800000 in
theorem specCs_any (l : List Int) (r : Int) (A : Option Addr) (c : Nat) (hl : l.length ≤ 1048576) (w : World) (hr : Law.Row w A (ivs l)) :
    Calls Try.prog 23 #[.slice A l.length c, .int .i64 r] w (rowInt (Q.csQ l r) w) := by
  have HQ := Lib.hid (l6Row_any A c l w hl hr)
  cases h1 : Q.rowQ l
  · rw [Q.csQ_no1 h1]
    rw [h1] at HQ
    clear hr h1
    go_enter Try.func23, Try.ntmps23
    go_wp2_with fail
    go_at_call 55
    refine HQ.out.mono ?_
    rintro e w1 ⟨rfl, hb1⟩
    have HB := Lib.hid hb1
    clear hb1
    go_wp2
    go_ret3
    exact ⟨_, rfl, own_down (ownsRow_nil _ _) HB.out.size, HB.out.alloc HB.out.size _⟩
  · rw [h1] at HQ
    have HI : Hid (∀ W, Calls Try.prog 59 #[.int .i64 r, .int .i64 0, .int .i64 99] W fun e w' => e = .returned (.bool (Q.okR r)) ∧ w' = W) := fun W => l1In_any r 0 99 W
    cases h2 : Q.okR r
    · rw [Q.csQ_no2 h2]
      rw [h2] at HI
      clear hr h1 h2
      go_enter Try.func23, Try.ntmps23
      go_wp2_with fail
      go_at_call 55
      refine HQ.out.mono ?_
      rintro e w1 ⟨rfl, hb1⟩
      have HB := Lib.hid hb1
      clear hb1
      go_wp2_with fail
      go_at_call 59
      refine (HI.out _).mono ?_
      rintro e w' ⟨rfl, hw'⟩
      obtain rfl := hw'.symm
      clear hw'
      go_wp2
      go_ret3
      exact ⟨_, rfl, own_down (ownsRow_nil _ _) HB.out.size, HB.out.alloc HB.out.size _⟩
    · obtain ⟨g0, g1⟩ := Q.okR_iff.1 h2
      rw [Q.csQ_yes h1 h2]
      have HC := Lib.hid fun (W : World) (h : Below w.heap.size w W) => l6Cover_any A c l r W h1 g0 g1 (hr.stays h)
      rw [h2] at HI
      clear hr h1 h2
      generalize Q.covX l r = X at HC ⊢
      go_enter Try.func23, Try.ntmps23
      go_wp2_with fail
      go_at_call 55
      refine HQ.out.mono ?_
      rintro e w1 ⟨rfl, hb1⟩
      have HB := Lib.hid hb1
      clear hb1
      go_wp2_with fail
      go_at_call 59
      refine (HI.out _).mono ?_
      rintro e w' ⟨rfl, hw'⟩
      obtain rfl := hw'.symm
      clear hw'
      go_wp2_with fail
      go_at_call 60
      refine (HC.out _ HB.out).mono ?_
      rintro e w2 ⟨v, rfl, ho, hb⟩
      have HO := Lib.hid (own_down ho HB.out.size)
      have HB2 := Lib.hid (Law.then_ HB.out hb)
      clear ho hb
      go_wp2
      go_ret3
      exact ⟨_, rfl, HO.out, HB2.out⟩
theorem clone1_any (A : Option Addr) (c : Nat) (zs : List Int) (w : World) (h0 : 1 ≤ zs.length) (hn : zs.length ≤ 1048576) (hr : Law.Row w A (ivs zs)) :
    Calls Try.prog 61 #[.slice A zs.length c] w (rowSays1 zs w) := by
  obtain ⟨b, off, rfl, hbl, hc⟩ := hr.at_ (ivs_at (show 0 < zs.length by omega))
  have h := Try.slices_Clone_int b off zs.length c zs w (Nat.le_refl _) (by omega) (fun j hj => by
    obtain ⟨b', off', hbe, _, hc'⟩ := hr.at_ (ivs_at hj)
    cases hbe
    rw [hc', List.getD_eq_getElem?_getD, List.getElem?_eq_getElem hj]
    rfl)
  rw [List.take_length] at h
  exact h.mono fun e w' ⟨v', he, ho, _, hb⟩ => ⟨v', he, ho, hb⟩
theorem bsearch_any (A : Option Addr) (c : Nat) (l : List Int) (r : Int) (w : World) (hq : Q.rowQ l = true) (hr : Law.Row w A (ivs l)) :
    Calls Try.prog 62 #[.slice A l.length c, .int .i64 r] w fun e w' => e = .returned (.tuple #[.int .i64 (Q.lo l r : Nat), .bool (decide (r ∈ l))]) ∧ Below w.heap.size w w' := by
  obtain ⟨hl1, hl3, _, _⟩ := Q.servers_iff.1 hq
  obtain ⟨b, off, rfl, hbl, hc⟩ := hr.at_ (ivs_at (show 0 < l.length by omega))
  have h := Try.slices_BinarySearch_int b off l.length c l r w (Nat.le_refl _) (by omega) (fun j hj => by
    obtain ⟨b', off', hbe, _, hc'⟩ := hr.at_ (ivs_at hj)
    cases hbe
    rw [hc', List.getD_eq_getElem?_getD, List.getElem?_eq_getElem hj]
    rfl) (by rw [List.take_length]; exact Q.row_pair hq)
  rw [List.take_length] at h
  refine h.mono fun e w' ⟨he, q, hw⟩ => ⟨?_, by rw [hw]; exact Law.up (Below.refl _ _) q⟩
  rw [he, show l.contains r = decide (r ∈ l) by rw [Bool.eq_iff_iff]; simp]
  rfl
set_option maxHeartbeats 1600000 in
theorem impCs_good (A : Option Addr) (c : Nat) (l : List Int) (r : Int) (w : World) (hq : Q.rowQ l = true) (h0 : 0 ≤ r) (h1 : r ≤ 99) (hr : Law.Row w A (ivs l)) :
    Calls Try.prog 24 #[.slice A l.length c, .int .i64 r] w (rowInt ((Q.covX l r).1, (Q.covX l r).2, true) w) := by
  obtain ⟨hl1, hl3, hwi, _⟩ := Q.servers_iff.1 hq
  obtain ⟨⟨hf1, hf2, hf3⟩, hpos⟩ := Q.cov_pos hq h0 h1
  have HW := Lib.hid (fun k (h : k < l.length) => Q.within_at hwi h)
  have HQ := Lib.hid (isRow_any A c l w (by omega) hr)
  rw [hq] at HQ
  have HCl := Lib.hid fun (W : World) (h : Below w.heap.size w W) => clone1_any A c l W hl1 (by omega) (hr.stays h)
  have HBs := Lib.hid fun (W : World) (h : Below w.heap.size w W) => bsearch_any A c l r W hq (hr.stays h)
  have HRd : Hid (∀ (W : World) (B : Option Addr) (d : Nat), Below w.heap.size w W → Law.Row W B (ivs (Q.covX l r).1) → Calls Try.prog 22 #[.slice A l.length c, .slice B l.length d] W fun e w' => e = .returned (.tuple #[.int .i64 (Q.covX l r).2, .bool true]) ∧ Below W.heap.size W w') := fun W B d hW hB => by
    have h := impRd_any l (Q.covX l r).1 A B c d (by omega) (by omega) W (hr.stays hW) hB
    rw [Q.rdQ_yes hq hf1 hf2.symm, hf3, hf2] at h
    exact h
  have HR := Lib.hid hr
  have HSL : Hid ((Q.covX l r).1.length = l.length) := hf2
  have hlI : (1 : Int) ≤ (l.length : Int) := by omega
  clear hr hq hwi hf1 hf2 hf3
  rcases hpos with hm | ⟨hm, hk, x, hx, hrx, e⟩ | ⟨hm, k, x, y, hlk, hk, hx, hxr, hy, hyr, e⟩ | ⟨hm, k, x, y, z, t, hlk, hk, hx, hxr, hy, hry, hz, hzr, ht, hrt, hj, e⟩
  · rw [Q.covX_in hm] at HRd HSL ⊢
    rw [show decide (r ∈ l) = true from decide_eq_true hm] at HBs
    clear hm
    generalize Q.lo l r = K at HBs
    go_enter Try.func24, Try.ntmps24
    go_wp2_with fail
    go_at_call 57
    refine HQ.out.mono ?_
    rintro e w1 ⟨rfl, hb1⟩
    have HB1 := Lib.hid hb1
    clear hb1
    go_wp2_with fail
    go_at_call 61
    refine (HCl.out _ HB1.out).mono ?_
    rintro e w2 ⟨v, rfl, ho2, hb2⟩
    obtain ⟨g, cg, rfl, hg0', hg1'⟩ := own_some ho2 (by omega)
    have hg0 : w.heap.size ≤ g := Nat.le_trans HB1.out.size hg0'
    have HO2 := Lib.hid (own_down ho2 HB1.out.size)
    have HB2 := Lib.hid (Law.then_ HB1.out hb2)
    clear ho2 hb2 hg0' hg1'
    go_wp2_with fail
    go_at_call 62
    refine (HBs.out _ HB2.out).mono ?_
    rintro e w3 ⟨rfl, hb3⟩
    have ho := own_past HO2.out hb3
    have hb1 := Law.then_ HB2.out hb3
    clear hb3
    have HU := Lib.hid ho
    have HBn := Lib.hid hb1
    have HRn := Lib.hid (Law.Row.own ho)
    clear ho hb1
    go_wp2_with fail
    go_at_call 22
    refine (HRd.out _ _ cg HBn.out HRn.out).mono ?_
    rintro e w4 ⟨rfl, hb4⟩
    have HO4 := Lib.hid (own_past HU.out hb4)
    have HB4 := Lib.hid (Law.then_ HBn.out hb4)
    clear hb4
    go_wp2
    go_ret3
    refine ⟨_, rfl, ?_, HB4.out⟩
    first | exact HO4.out | (simp only [HSL.out]; exact HO4.out)
  all_goals
    rw [e] at HRd HSL ⊢
    rw [show decide (r ∈ l) = false from decide_eq_false hm, hk] at HBs
    clear hm e hk
  · have HX := Lib.hid hx
    clear hx
    go_enter Try.func24, Try.ntmps24
    go_wp2_with fail
    go_at_call 57
    refine HQ.out.mono ?_
    rintro e w1 ⟨rfl, hb1⟩
    have HB1 := Lib.hid hb1
    clear hb1
    go_wp2_with fail
    go_at_call 61
    refine (HCl.out _ HB1.out).mono ?_
    rintro e w2 ⟨v, rfl, ho2, hb2⟩
    obtain ⟨g, cg, rfl, hg0', hg1'⟩ := own_some ho2 (by omega)
    have hg0 : w.heap.size ≤ g := Nat.le_trans HB1.out.size hg0'
    have HO2 := Lib.hid (own_down ho2 HB1.out.size)
    have HB2 := Lib.hid (Law.then_ HB1.out hb2)
    clear ho2 hb2 hg0' hg1'
    go_wp2_with fail
    go_at_call 62
    refine (HBs.out _ HB2.out).mono ?_
    rintro e w3 ⟨rfl, hb3⟩
    have ho := own_past HO2.out hb3
    have hb1 := Law.then_ HB2.out hb3
    clear hb3
    have hcU := own_cell ho HX.out
    have hfU := ho.frozenAt 0
    have HU := Lib.hid (own_put ho 0 r)
    have HBn := Lib.hid (hb1.setCell (p := ⟨g, 0, none⟩) hg0 (.int .i64 r))
    have HRn := Lib.hid (Law.Row.own (own_put ho 0 r))
    clear ho hb1
    go_wp2_with fail
    go_at_call 22
    refine (HRd.out _ _ cg HBn.out HRn.out).mono ?_
    rintro e w4 ⟨rfl, hb4⟩
    have HO4 := Lib.hid (own_past HU.out hb4)
    have HB4 := Lib.hid (Law.then_ HBn.out hb4)
    clear hb4
    go_wp2
    go_ret3
    refine ⟨_, rfl, ?_, HB4.out⟩
    first | exact HO4.out | (simp only [HSL.out]; exact HO4.out)
  · have HX := Lib.hid hx
    have hkI : ((k + 1 : Nat) : Int) = (l.length : Int) := by omega
    rw [hkI] at HBs
    have hk0 : ¬ (l.length : Int) = 0 := by omega
    have hlm : (l.length : Int) - 1 < (l.length : Int) := by omega
    have hl0 : (0 : Int) ≤ (l.length : Int) - 1 := by omega
    have hln : ((l.length : Int) - 1).toNat = k := by omega
    have hlw : IntKind.i64.wrap ((l.length : Int) - 1) = (l.length : Int) - 1 := IntWalk.i64_in _ (by omega)
    have HLK := Lib.hid hlk
    clear hx hkI hlk
    go_enter Try.func24, Try.ntmps24
    go_wp2_with fail
    go_at_call 57
    refine HQ.out.mono ?_
    rintro e w1 ⟨rfl, hb1⟩
    have HB1 := Lib.hid hb1
    clear hb1
    go_wp2_with fail
    go_at_call 61
    refine (HCl.out _ HB1.out).mono ?_
    rintro e w2 ⟨v, rfl, ho2, hb2⟩
    obtain ⟨g, cg, rfl, hg0', hg1'⟩ := own_some ho2 (by omega)
    have hg0 : w.heap.size ≤ g := Nat.le_trans HB1.out.size hg0'
    have HO2 := Lib.hid (own_down ho2 HB1.out.size)
    have HB2 := Lib.hid (Law.then_ HB1.out hb2)
    clear ho2 hb2 hg0' hg1'
    go_wp2_with fail
    go_at_call 62
    refine (HBs.out _ HB2.out).mono ?_
    rintro e w3 ⟨rfl, hb3⟩
    have ho := own_past HO2.out hb3
    have hb1 := Law.then_ HB2.out hb3
    clear hb3
    have hcU := own_cell ho HX.out
    have hfU := ho.frozenAt k
    have HU := Lib.hid (own_put ho k r)
    have HBn := Lib.hid (hb1.setCell (p := ⟨g, k, none⟩) hg0 (.int .i64 r))
    have HRn := Lib.hid (Law.Row.own (own_put ho k r))
    clear ho hb1
    go_wp2_with fail
    go_at_call 22
    refine (HRd.out _ _ cg HBn.out HRn.out).mono ?_
    rintro e w4 ⟨rfl, hb4⟩
    have HO4 := Lib.hid (own_past HU.out hb4)
    have HB4 := Lib.hid (Law.then_ HBn.out hb4)
    clear hb4
    go_wp2
    go_ret3
    refine ⟨_, rfl, ?_, HB4.out⟩
    first | exact HO4.out | (simp only [HSL.out]; exact HO4.out)
  · have HX := Lib.hid hx
    have HY := Lib.hid hy
    obtain ⟨x', hx', hx0, hx1⟩ := HW.out k (by omega)
    rw [hx] at hx'
    obtain rfl := Option.some.inj hx'
    obtain ⟨y', hy', hy0, hy1⟩ := HW.out (k + 1) hlk
    rw [hy] at hy'
    obtain rfl := Option.some.inj hy'
    have hkI : ((k + 1 : Nat) : Int) = (k : Int) + 1 := by omega
    rw [hkI] at HBs
    have hk0 : ¬ (k : Int) + 1 = 0 := by omega
    have hk1 : ¬ (k : Int) + 1 = (l.length : Int) := by omega
    have hkp : (0 : Int) ≤ (k : Int) + 1 := by omega
    have hklt : (k : Int) < (l.length : Int) := by omega
    have hklt2 : (k : Int) + 1 < (l.length : Int) := by omega
    have hkw : IntKind.i64.wrap (k : Int) = (k : Int) := IntWalk.i64_in _ (by omega)
    have hw1 : IntKind.i64.wrap (r - x) = r - x := IntWalk.i64_in _ (by omega)
    have hw2 : IntKind.i64.wrap (y - r) = y - r := IntWalk.i64_in _ (by omega)
    have hby : 0 ≤ Q.byQ x y r ∧ Q.byQ x y r ≤ 99 := by unfold Q.byQ; split <;> omega
    have HQE : Hid (Q.byQ x y r = if r - x ≤ y - r then r - x else y - r) := rfl
    generalize Q.byQ x y r = q at hby HQE HSL HRd ⊢
    have hw3 : IntKind.i64.wrap (x + q) = x + q := IntWalk.i64_in _ (by omega)
    have hw4 : IntKind.i64.wrap (y - q) = y - q := IntWalk.i64_in _ (by omega)
    clear hx' hy' hx hy hz ht hj hkI
    go_enter Try.func24, Try.ntmps24
    go_wp2_with fail
    go_at_call 57
    refine HQ.out.mono ?_
    rintro e w1 ⟨rfl, hb1⟩
    have HB1 := Lib.hid hb1
    clear hb1
    go_wp2_with fail
    go_at_call 61
    refine (HCl.out _ HB1.out).mono ?_
    rintro e w2 ⟨v, rfl, ho2, hb2⟩
    obtain ⟨g, cg, rfl, hg0', hg1'⟩ := own_some ho2 (by omega)
    have hg0 : w.heap.size ≤ g := Nat.le_trans HB1.out.size hg0'
    have HO2 := Lib.hid (own_down ho2 HB1.out.size)
    have HB2 := Lib.hid (Law.then_ HB1.out hb2)
    clear ho2 hb2 hg0' hg1'
    go_wp2_with fail
    go_at_call 62
    refine (HBs.out _ HB2.out).mono ?_
    rintro e w3 ⟨rfl, hb3⟩
    have ho := own_past HO2.out hb3
    have hb1 := Law.then_ HB2.out hb3
    clear hb3
    obtain ⟨b, off, rfl, hbl, hc⟩ := (HR.out.stays hb1).at_ (ivs_some HX.out)
    obtain ⟨b', off', hbe, _, hcy⟩ := (HR.out.stays hb1).at_ (ivs_some HY.out)
    cases hbe
    have HOf : Hid (∀ n, (w3.drewN n).ownsRow w.heap.size 3 1 (.slice (some ⟨g, 0, none⟩) l.length cg) l.length (ivs l)) := fun n => own_past ho (Law.up (Below.refl _ _) n)
    have HBf : Hid (∀ n, Below w.heap.size w (w3.drewN n)) := fun n => Law.up hb1 n
    clear ho hb1
    have hmn : min (r - x) (y - r) = q := by
      rw [HQE.out]
      split <;> omega
    go_wp2
    go_quiet (fail)
    generalize hW : World.drewN w3 _ = W
    have HO1 : W.ownsRow w.heap.size 3 1 (.slice (some ⟨g, 0, none⟩) l.length cg) l.length (ivs l) := by rw [← hW]; exact HOf.out _
    have HB1' : Below w.heap.size w W := by rw [← hW]; exact HBf.out _
    clear hW HOf HBf hc hcy
    have hcx := own_cell HO1 HX.out
    have hfx := HO1.frozenAt k
    have HO2 := own_put HO1 k (x + q)
    have HB2' := Lib.hid (HB1'.setCell (p := ⟨g, k, none⟩) hg0 (.int .i64 (x + q)))
    have hcy2 := own_cell HO2 (k := k + 1) (x := y) (by rw [List.getElem?_set_ne (by omega)]; exact HY.out)
    have hfy := HO2.frozenAt (k + 1)
    have HO3 := own_put HO2 (k + 1) (y - q)
    have HBn := Lib.hid (HB2'.out.setCell (p := ⟨g, k + 1, none⟩) hg0 (.int .i64 (y - q)))
    have HU := Lib.hid HO3
    have HRn := Lib.hid (Law.Row.own HO3)
    clear HO2 HO3 HB1' HO1
    go_wp2_with fail
    go_at_call 22
    refine (HRd.out _ _ cg HBn.out HRn.out).mono ?_
    rintro e w4 ⟨rfl, hb4⟩
    have HO4 := Lib.hid (own_past HU.out hb4)
    have HB4 := Lib.hid (Law.then_ HBn.out hb4)
    clear hb4
    go_wp2
    go_ret3
    refine ⟨_, rfl, ?_, HB4.out⟩
    simp only [HSL.out]
    exact HO4.out
set_option maxHeartbeats 800000 in
theorem impCs_any (l : List Int) (r : Int) (A : Option Addr) (c : Nat) (hl : l.length ≤ 1048576) (w : World) (hr : Law.Row w A (ivs l)) :
    Calls Try.prog 24 #[.slice A l.length c, .int .i64 r] w (rowInt (Q.csQ l r) w) := by
  have HQ := Lib.hid (isRow_any A c l w hl hr)
  cases h1 : Q.rowQ l
  · rw [Q.csQ_no1 h1]
    rw [h1] at HQ
    clear hr h1
    go_enter Try.func24, Try.ntmps24
    go_wp2_with fail
    go_at_call 57
    refine HQ.out.mono ?_
    rintro e w1 ⟨rfl, hb1⟩
    have HB := Lib.hid hb1
    clear hb1
    go_wp2
    go_ret3
    exact ⟨_, rfl, own_down (ownsRow_nil _ _) HB.out.size, HB.out.alloc HB.out.size _⟩
  · cases h2 : Q.okR r
    · rw [Q.csQ_no2 h2]
      rw [h1] at HQ
      have h3 : ¬ (0 ≤ r ∧ r ≤ 99) := fun h => by rw [Q.okR_iff.2 h] at h2; cases h2
      clear hr h1 h2
      by_cases hr0 : r < 0
      · go_enter Try.func24, Try.ntmps24
        go_wp2_with fail
        go_at_call 57
        refine HQ.out.mono ?_
        rintro e w1 ⟨rfl, hb1⟩
        have HB := Lib.hid hb1
        clear hb1 h3
        go_wp2
        go_ret3
        exact ⟨_, rfl, own_down (ownsRow_nil _ _) HB.out.size, HB.out.alloc HB.out.size _⟩
      · have hr1 : 99 < r := by omega
        go_enter Try.func24, Try.ntmps24
        go_wp2_with fail
        go_at_call 57
        refine HQ.out.mono ?_
        rintro e w1 ⟨rfl, hb1⟩
        have HB := Lib.hid hb1
        clear hb1 h3
        go_wp2
        go_ret3
        exact ⟨_, rfl, own_down (ownsRow_nil _ _) HB.out.size, HB.out.alloc HB.out.size _⟩
    · obtain ⟨g0, g1⟩ := Q.okR_iff.1 h2
      rw [Q.csQ_yes h1 h2]
      exact impCs_good A c l r w h1 g0 g1 hr
namespace LCoverStep
theorem lenX (l : List Int) (r : Int) : (Q.csQ l r).1.length ≤ 1048576 := by
  cases h1 : Q.rowQ l
  · rw [Q.csQ_no1 h1]; simp
  · cases h2 : Q.okR r
    · rw [Q.csQ_no2 h2]; simp
    · obtain ⟨g0, g1⟩ := Q.okR_iff.1 h2
      obtain ⟨_, h3, _⟩ := Q.servers_iff.1 h1
      have h := (Q.cov_pos h1 g0 g1).1.2.1
      rw [Q.csQ_yes h1 h2]
      show (Q.covX l r).1.length ≤ _
      omega
end LCoverStep
end Go.Proofs.Ytndjpkeenbbgiaa
