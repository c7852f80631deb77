/-
  FnExactCoverPotential: CoverPotential answers as the model does, whatever it is given, and writes into no argument.
  Conditions: none.
-/
import Derived.Test.YtndjpkeenbbgiaaRows
import Derived.Test.YtndjpkeenbbgiaaChecked
import Derived.Test.YtndjpkeenbbgiaaCpS
import Derived.Test.YtndjpkeenbbgiaaCpI
import Derived.Test.YtndjpkeenbbgiaaMarkI
import Derived.Deep.DeepHandedRow
import Derived.Stop.Joined
namespace Go.Proofs.Ytndjpkeenbbgiaa
open Go.RowKit Go.ChangeShapes Go.WideShapes
set_option linter.unusedVariables false
namespace LCoverPotential
set_option maxHeartbeats 6400000 in
theorem walk_core (row : List Int) (other : List Int) (Arow : Option Addr) (crow : Nat) (Aother : Option Addr) (cother : Nat) (y : Int) (ok : Bool) (w : World) (hnrow : row.length ≤ 1048576) (hnother : other.length ≤ 1048576) (HRrow : Hid (Law.Row w Arow (ivs row))) (HRother : Hid (Law.Row w Aother (ivs other)))
    (HG : Hid (∀ (Brow : Option Addr) (drow : Nat) (Bother : Option Addr) (dother : Nat) (W : World), row.length ≤ drow → Law.Row W Brow (ivs row) → Law.Row W Bother (ivs other) → Calls Try.prog 30 #[.slice Brow row.length drow, .slice Bother other.length dother] W fun e w' => e = .returned (.tuple #[.int .i64 y, .bool ok]) ∧ Below W.heap.size W w'))
    (HH : Hid (∀ (Brow : Option Addr) (drow : Nat) (Bother : Option Addr) (dother : Nat) (W : World), row.length ≤ drow → Law.Row W Brow (ivs row) → Law.Row W Bother (ivs other) → Calls Try.prog 31 #[.slice Brow row.length drow, .slice Bother other.length dother] W fun e w' => e = .returned (.tuple #[.int .i64 y, .bool ok]) ∧ Below W.heap.size W w')) :
    Calls Try.prog 7 #[.slice Arow row.length crow, .slice Aother other.length cother] w fun e w' => e = .returned (.bool true) ∧ Below w.heap.size w w' := by
  have hIrow : (row.length : Int) ≤ 1048576 := by omega
  have hIother : (other.length : Int) ≤ 1048576 := by omega
  go_enter Try.func7, Try.ntmps7
  go_wp2_with fail
  go_at_call 16
  refine (toInt_any Arow crow row _ hnrow HRrow.out).mono ?_
  rintro e w1 ⟨v1, rfl, ho, hb⟩
  have hoarow : w1.ownsRow w.heap.size 3 1 v1 row.length (ivs row) := ho
  obtain ⟨Aarow, carow, rfl, hcarow, _, _⟩ := Law.own_len hoarow
  have Iarow : Hid (In w.heap.size w1.heap.size Aarow) := In.of hoarow
  clear ho
  have hz1 : Below w.heap.size w w1 := by first | exact hb | exact Law.undraw hb
  have S1 : Hid (w.heap.size ≤ w1.heap.size) := hz1.size
  have B1 : Hid (Below w.heap.size w w1) := hz1
  clear hz1
  clear hb
  have Farow_1 := Lib.hid hoarow
  clear hoarow
  go_wp2_with fail
  go_at_call 16
  refine (toInt_any Aother cother other _ hnother (HRother.out.stays B1.out)).mono ?_
  rintro e w2 ⟨v2, rfl, ho, hb⟩
  have hoaother : w2.ownsRow w1.heap.size 3 1 v2 other.length (ivs other) := ho
  obtain ⟨Aaother, caother, rfl, hcaother, _, _⟩ := Law.own_len hoaother
  have Iaother : Hid (In w1.heap.size w2.heap.size Aaother) := In.of hoaother
  clear ho
  have hz2 : Below w1.heap.size w1 w2 := by first | exact hb | exact Law.undraw hb
  have S2 : Hid (w1.heap.size ≤ w2.heap.size) := hz2.size
  have B2 : Hid (Below w.heap.size w w2) := Law.then_ B1.out hz2
  have Farow_2 := Lib.hid (own_on Farow_1.out hz2)
  clear hz2
  clear hb
  have Faother_2 := Lib.hid hoaother
  clear hoaother
  go_wp2_with fail
  go_at_call 30
  refine (HG.out Aarow carow Aaother caother _ hcarow (Law.Row.own Farow_2.out) (Law.Row.own Faother_2.out)).mono ?_
  rintro e w3 ⟨rfl, hb⟩
  have hz3 : Below w2.heap.size w2 w3 := by first | exact hb | exact Law.undraw hb
  have S3 : Hid (w2.heap.size ≤ w3.heap.size) := hz3.size
  have B3 : Hid (Below w.heap.size w w3) := Law.then_ B2.out hz3
  have Farow_3 := Lib.hid (own_on Farow_2.out hz3)
  have Faother_3 := Lib.hid (own_on Faother_2.out hz3)
  clear hz3
  clear hb
  go_wp2_with fail
  go_at_call 16
  refine (toInt_any Arow crow row _ hnrow (HRrow.out.stays B3.out)).mono ?_
  rintro e w4 ⟨v4, rfl, ho, hb⟩
  have hoxrow : w4.ownsRow w3.heap.size 3 1 v4 row.length (ivs row) := ho
  obtain ⟨Axrow, cxrow, rfl, hcxrow, _, _⟩ := Law.own_len hoxrow
  have Ixrow : Hid (In w3.heap.size w4.heap.size Axrow) := In.of hoxrow
  clear ho
  have hz4 : Below w3.heap.size w3 w4 := by first | exact hb | exact Law.undraw hb
  have S4 : Hid (w3.heap.size ≤ w4.heap.size) := hz4.size
  have B4 : Hid (Below w.heap.size w w4) := Law.then_ B3.out hz4
  clear hz4
  clear hb
  have Fxrow_4 := Lib.hid hoxrow
  clear hoxrow
  go_wp2_with fail
  go_at_call 16
  refine (toInt_any Aother cother other _ hnother (HRother.out.stays B4.out)).mono ?_
  rintro e w5 ⟨v5, rfl, ho, hb⟩
  have hoxother : w5.ownsRow w4.heap.size 3 1 v5 other.length (ivs other) := ho
  obtain ⟨Axother, cxother, rfl, hcxother, _, _⟩ := Law.own_len hoxother
  have Ixother : Hid (In w4.heap.size w5.heap.size Axother) := In.of hoxother
  clear ho
  have hz5 : Below w4.heap.size w4 w5 := by first | exact hb | exact Law.undraw hb
  have S5 : Hid (w4.heap.size ≤ w5.heap.size) := hz5.size
  have B5 : Hid (Below w.heap.size w w5) := Law.then_ B4.out hz5
  have Fxrow_5 := Lib.hid (own_on Fxrow_4.out hz5)
  clear hz5
  clear hb
  have Fxother_5 := Lib.hid hoxother
  clear hoxother
  go_wp2_with fail
  go_at_call 31
  refine (HH.out Axrow cxrow Axother cxother _ hcxrow (Law.Row.own Fxrow_5.out) (Law.Row.own Fxother_5.out)).mono ?_
  rintro e w6 ⟨rfl, hb⟩
  have hz6 : Below w5.heap.size w5 w6 := by first | exact hb | exact Law.undraw hb
  have S6 : Hid (w5.heap.size ≤ w6.heap.size) := hz6.size
  have B6 : Hid (Below w.heap.size w w6) := Law.then_ B5.out hz6
  have Fxrow_6 := Lib.hid (own_on Fxrow_5.out hz6)
  have Fxother_6 := Lib.hid (own_on Fxother_5.out hz6)
  clear hz6
  clear hb
  all_goals cases ok
  all_goals
    go_wp2_with fail
    go_at_call 16
    refine (toInt_any Arow crow row _ hnrow (HRrow.out.stays B6.out)).mono ?_
    rintro e w7 ⟨v7, rfl, ho, hb⟩
    have hoyrow : w7.ownsRow w6.heap.size 3 1 v7 row.length (ivs row) := ho
    obtain ⟨Ayrow, cyrow, rfl, hcyrow, _, _⟩ := Law.own_len hoyrow
    have Iyrow : Hid (In w6.heap.size w7.heap.size Ayrow) := In.of hoyrow
    clear ho
    have hz7 : Below w6.heap.size w6 w7 := by first | exact hb | exact Law.undraw hb
    have S7 : Hid (w6.heap.size ≤ w7.heap.size) := hz7.size
    have B7 : Hid (Below w.heap.size w w7) := Law.then_ B6.out hz7
    have Fxrow_7 := Lib.hid (own_on Fxrow_6.out hz7)
    have Fxother_7 := Lib.hid (own_on Fxother_6.out hz7)
    clear hz7
    clear hb
    have Fyrow_7 := Lib.hid hoyrow
    clear hoyrow
    go_wp2_with fail
    go_at_call 18
    refine (eqInt_same Axrow Ayrow cxrow cyrow row _ (by omega) (Law.Row.own Fxrow_7.out) (Law.Row.own Fyrow_7.out)).mono ?_
    rintro e we1 ⟨rfl, m1, rfl⟩
    go_wp2_with fail
    go_at_call 16
    refine (toInt_any Aother cother other _ hnother (Law.Row.drewN ((HRother.out.stays B7.out)) m1)).mono ?_
    rintro e w8 ⟨v8, rfl, ho, hb⟩
    have hoyother : w8.ownsRow w7.heap.size 3 1 v8 other.length (ivs other) := ho
    obtain ⟨Ayother, cyother, rfl, hcyother, _, _⟩ := Law.own_len hoyother
    have Iyother : Hid (In w7.heap.size w8.heap.size Ayother) := In.of hoyother
    clear ho
    have hz8 : Below w7.heap.size w7 w8 := by first | exact hb | exact Law.undraw hb
    have S8 : Hid (w7.heap.size ≤ w8.heap.size) := hz8.size
    have B8 : Hid (Below w.heap.size w w8) := Law.then_ B7.out hz8
    have Fxrow_8 := Lib.hid (own_on Fxrow_7.out hz8)
    have Fxother_8 := Lib.hid (own_on Fxother_7.out hz8)
    clear hz8
    clear hb
    have Fyother_8 := Lib.hid hoyother
    clear hoyother
    go_wp2_with fail
    go_at_call 18
    refine (eqInt_same Axother Ayother cxother cyother other _ (by omega) (Law.Row.own Fxother_8.out) (Law.Row.own Fyother_8.out)).mono ?_
    rintro e we2 ⟨rfl, m2, rfl⟩
    go_wp2
    go_ret
    exact ⟨rfl, Law.up B8.out _⟩
theorem walk (Arow : Option Addr) (nrow crow : Nat) (row : List Int) (Aother : Option Addr) (nother cother : Nat) (other : List Int) (w : World) (hrow : row.length = nrow ∧ nrow ≤ crow ∧ crow ≤ maxLen ∧ (∀ z ∈ row, (Lit.int .i64 z).wf = true) ∧ Law.Row w Arow (row.map (Value.int .i64))) (hother : other.length = nother ∧ nother ≤ cother ∧ cother ≤ maxLen ∧ (∀ z ∈ other, (Lit.int .i64 z).wf = true) ∧ Law.Row w Aother (other.map (Value.int .i64))) (hL : laidMetH Try.prog Rows.fnExactCoverPotentialRow.laid w) (hsh : w.ShapedOpen Try.prog) :
    Calls Try.prog 7 #[.slice Arow nrow crow, .slice Aother nother cother] w fun e w' => e = .returned (.bool true) ∧ Below w.heap.size w w' := by
  obtain ⟨rfl, hArow, hBrow, _, hrrow⟩ := hrow
  obtain ⟨rfl, hAother, hBother, _, hrother⟩ := hother
  clear hL hsh
  by_cases hlrow : row.length ≤ 1048576
  · skip
    by_cases hlother : other.length ≤ 1048576
    · skip
      exact walk_core row other Arow crow Aother cother ((Q.cpQ row other)).1 ((Q.cpQ row other)).2 w hlrow hlother hrrow hrother (fun Brow drow Bother dother W qrow hrow hother => specCp_any row other Brow Bother drow dother hlrow hlother W qrow hrow hother) (fun Brow drow Bother dother W qrow hrow hother => impCp_any row other Brow Bother drow dother hlrow hlother W qrow hrow hother)
    · have hIother : ¬ (other.length : Int) ≤ 1048576 := by omega
      have hIrow : (row.length : Int) ≤ 1048576 := by omega
      clear hrrow hrother
      go_enter Try.func7, Try.ntmps7
      go_wp2
      go_ret
      exact ⟨rfl, Below.refl _ _⟩
  · have hIrow : ¬ (row.length : Int) ≤ 1048576 := by omega
    clear hrrow hrother
    go_enter Try.func7, Try.ntmps7
    go_wp2
    go_ret
    exact ⟨rfl, Below.refl _ _⟩
theorem lawOwn : ownKnob Try.prog.godebug = none := by kernel_rfl
theorem lawLaidOut : laidOutB Try.prog = true := by kernel_rfl
set_option maxRecDepth 100000 in
theorem contract (H : Type) (enc : TypeId × Value → H) (W : World) (base : Nat) (args : Array Value) (ds : List (DataW H)) (gs : List (DataW H)) (before : List MemPlace)
    (hval0 : ∀ (j : Nat) t v, Try.f7.params[j]? = some t → args[j]? = some v → Value.okWide Try.prog W .any base t v)
    (hW : DataW.Whole enc Try.prog Try.f7.params.toList Rows.fnExactCoverPotentialSpec.vars false W args.toList ds gs before) (hL : laidMetH Try.prog Rows.fnExactCoverPotentialRow.laid W) (hsh : W.ShapedOpen Try.prog) :
    Calls Try.prog 7 args W fun e W' => ∃ v, e = .returned v ∧ Rows.fnExactCoverPotentialSpec.post enc Try.prog Try.f7 false true false false W args v W' := by
  have hval : ∀ (j : Nat) t v, Try.f7.params[j]? = some t → args[j]? = some v → Value.okWide Try.prog W .any base t v := hval0
  have hW' := hW
  obtain ⟨p, q, hA0, hV, rfl, hfz, hnd⟩ := hW
  have hA : DataW.TrodAll enc Try.prog W 0 (fun _ => true) true Try.f7.params.toList args.toList ds p := hA0
  rw [Try.params7] at hA hval
  obtain ⟨v0, vs0, d0, ds0, p0, q0, hargs0, rfl, rfl, h0, r0⟩ := trodAll_cons hA
  obtain ⟨v1, vs1, d1, ds1, p1, q1, hargs1, rfl, rfl, h1, r1⟩ := trodAll_cons r0
  obtain ⟨rfl, rfl, rfl⟩ := trodAll_nil r1
  obtain rfl : args = #[v0, v1] := by cases args; simp_all
  obtain ⟨rfl, rfl⟩ := trodVars_none hV
  obtain ⟨A0, n0, c0, xs0, rfl, w0⟩ := Law.in_ints Try.underlying22 Try.underlying3 (by kernel_rfl) (hval 0 22 v0 rfl rfl) h0 (fun x hx => hW'.lt x (by simp [hx]))
  obtain ⟨A1, n1, c1, xs1, rfl, w1⟩ := Law.in_ints Try.underlying22 Try.underlying3 (by kernel_rfl) (hval 1 22 v1 rfl rfl) h1 (fun x hx => hW'.lt x (by simp [hx]))
  clear hA0 hval0
  refine (walk A0 n0 c0 xs0 A1 n1 c1 xs1 W w0 w1 hL hsh).mono fun e W' ⟨he, hb⟩ => ?_
  subst he
  exact ⟨_, rfl, Law.close hW' rfl rfl lawLaidOut (by kernel_rfl) Try.underlying4 (by kernel_rfl) hb⟩
theorem reads (os : Os) {H : Type} (enc : TypeId × Value → H) : ∃ places, DataW.whole enc Try.prog ((World.holding Try.prog os ⟨#[], #[], []⟩).forCall (fun _ _ => 0) ⟨#[], #[.slice none 0 0, .slice none 0 0], []⟩).memory Try.f7.params.toList Rows.fnExactCoverPotentialSpec.vars false (#[.slice none 0 0, .slice none 0 0] : Array Value).toList 8 = some ([.nil, .nil], [], places) :=
  ⟨[], by kernel_rfl⟩
set_option maxRecDepth 100000 in
theorem lifted (os : Os) (started : os.Started) (H : Type) (enc : TypeId × Value → H) (F : Stop.Interp) :
    ReturnsInHanded {} Try.checked os 7 .any ((OpenSpec.ofChange Rows.fnExactCoverPotentialSpec).preRow enc Try.prog Try.f7 Rows.fnExactCoverPotentialRow.domain false Rows.fnExactCoverPotentialRow.laid) (((OpenSpec.ofChange Rows.fnExactCoverPotentialSpec).at F).post enc Try.prog Try.f7 false true false false) := by
  obtain ⟨places, hx⟩ := reads os enc
  refine returnsInHanded_of_row (C := Try.checked) (s := OpenSpec.ofChange Rows.fnExactCoverPotentialSpec) lawOwn started (by kernel_rfl) Try.func7
    (witness_row_at (enc := enc) (C := Try.checked) false (World.holding Try.prog os ⟨#[], #[], []⟩) #[.slice none 0 0, .slice none 0 0] rfl (by kernel_rfl) (by kernel_rfl) (by kernel_rfl)
      (OpenSpec.preRow_of_cond 8 hx (by kernel_rfl) (fun k hk => by cases hk) (by kernel_rfl) (laidMet_nil _ _))) ?_
  intro W base args ds gs before hval hW _ _ _ hL hsh _
  exact contract H enc W base args ds gs before hval hW hL hsh
theorem proved : Rows.FnExactCoverPotentialSaid :=
  OpenClaim.holds_of_cond 7 Try.f7 rfl rfl rfl rfl rfl rfl rfl ⟨rfl, rfl, rfl, rfl, rfl⟩ rfl rfl rfl rfl rfl (by kernel_rfl) Try.func7 (by kernel_rfl)
    (of_decide_eq_true (by kernel_rfl)) (by unfold Func.isWrapper; first | (rw [if_pos (by decide +kernel)]; kernel_rfl) | (rw [if_neg (by decide +kernel)]; exact ⟨rfl, rfl⟩))
    (fun os started H enc _ F => by rw [OpenClaim.pre_eq_preRow]; exact lifted os started H enc F)
end LCoverPotential
end Go.Proofs.Ytndjpkeenbbgiaa
