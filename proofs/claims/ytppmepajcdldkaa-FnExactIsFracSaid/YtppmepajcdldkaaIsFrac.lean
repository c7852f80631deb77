/-
  FnExactIsFrac: IsFrac answers as the model does, whatever the fraction, and leaves its argument as it was.
  Conditions: none.
-/
import Derived.Test.YtppmepajcdldkaaRows
import Derived.Test.YtppmepajcdldkaaConv
import Derived.Test.YtppmepajcdldkaaLaw2
import Derived.Deep.DeepHandedRow
import Derived.Stop.Joined
namespace Go.Proofs.Ytppmepajcdldkaa
open Go.RowKit Go.ChangeShapes Go.WideShapes
set_option linter.unusedVariables false
theorem specIsFrac_any (n d : Int) (w : World) : Calls Try.prog 13 #[fr n d] w fun e w' => e = .returned (.bool (F.good n d)) ∧ Below w.heap.size w w' := by
  go_enter Try.func13, Try.ntmps13
  go_wp2_with (go_at_call 38; refine (l2Good_any n d _).mono ?_; rintro e w1 ⟨rfl, hb1⟩; have B1 := Lib.hid hb1; clear hb1)
  go_ret
  refine ⟨rfl, ?_⟩
  (repeat (first | exact Below.refl _ _ | refine Below.setCell ?_ (by simp; try omega) _ | refine Below.drew ?_ | refine Law.up ?_ _ | refine Below.alloc ?_ (by simp; try omega) _ | refine Law.then_ ?_ (Hid.out (by assumption))))
namespace FIs
theorem walk (n d : Int) (w : World) (wn : (Lit.int .i64 n).wf = true) (wd : (Lit.int .i64 d).wf = true) (hL : laidMetH Try.prog Rows.fnExactIsFracRow.laid w) (hsh : w.ShapedOpen Try.prog) :
    Calls Try.prog 3 #[fr n d] w fun e w' => e = .returned (.bool true) ∧ Below w.heap.size w w' := by
  clear hL hsh
  have W := And.intro wn wd
  have HW := Lib.hid W
  clear wn wd W
  have HG := Lib.hid (fun W => specIsFrac_any n d W)
  have HH := Lib.hid (fun W => isFrac_any n d W HW.out.1 HW.out.2)
  generalize F.good n d = g at HG HH
  go_enter Try.func3, Try.ntmps3
  go_wp2_with fail
  go_at_call 14
  refine (toFrac_any n d _).mono ?_
  rintro e w1 ⟨rfl, hb1⟩
  have B1 := Lib.hid hb1
  obtain ⟨c10, c11, f10, f11⟩ := Blk.below (b := w.heap.size) (x := .int .i64 n) (y := .int .i64 d) ⟨by go_simp, by go_simp, by go_simp, by go_simp⟩ hb1 (by simp; try omega)
  clear hb1
  go_wp2_with fail
  go_at_call 13
  refine (HG.out _).mono ?_
  rintro e w2 ⟨rfl, hb2⟩
  replace hb2 := Law.then_ B1.out hb2
  have B2 := Lib.hid hb2
  obtain ⟨c20, c21, f20, f21⟩ := Blk.below (b := w.heap.size) (x := .int .i64 n) (y := .int .i64 d) ⟨by go_simp, by go_simp, by go_simp, by go_simp⟩ hb2 (by simp; try omega)
  clear hb2
  clear B1 c10 c11 f10 f11
  go_wp2_with fail
  go_at_call 14
  refine (toFrac_any n d _).mono ?_
  rintro e w3 ⟨rfl, hb3⟩
  replace hb3 := Law.then_ B2.out hb3
  have B3 := Lib.hid hb3
  obtain ⟨c30, c31, f30, f31⟩ := Blk.below (b := w.heap.size) (x := .int .i64 n) (y := .int .i64 d) ⟨by go_simp, by go_simp, by go_simp, by go_simp⟩ hb3 (by simp; try omega)
  clear hb3
  clear B2 c20 c21 f20 f21
  go_wp2_with fail
  go_at_call 15
  refine (HH.out _).mono ?_
  rintro e w4 ⟨rfl, hb4⟩
  replace hb4 := Law.then_ B3.out hb4
  have B4 := Lib.hid hb4
  obtain ⟨c40, c41, f40, f41⟩ := Blk.below (b := w.heap.size) (x := .int .i64 n) (y := .int .i64 d) ⟨by go_simp, by go_simp, by go_simp, by go_simp⟩ hb4 (by simp; try omega)
  clear hb4
  clear B3 c30 c31 f30 f31
  cases g
  all_goals
    go_wp2
    go_ret
    refine ⟨rfl, ?_⟩
    (repeat (first | exact Below.refl _ _ | refine Below.setCell ?_ (by simp; try omega) _ | refine Below.drew ?_ | refine Law.up ?_ _ | refine Below.alloc ?_ (by simp; try omega) _ | refine Law.then_ ?_ (Hid.out (by assumption))))
theorem lawOwn : ownKnob Try.prog.godebug = none := by kernel_rfl
theorem lawLaidOut : laidOutB Try.prog = true := by kernel_rfl
theorem contract (H : Type) (enc : TypeId × Value → H) (W : World) (base : Nat) (args : Array Value) (ds : List (DataW H)) (gs : List (DataW H)) (before : List MemPlace)
    (hval0 : ∀ (j : Nat) t v, Try.f3.params[j]? = some t → args[j]? = some v → Value.okWide Try.prog W .any base t v)
    (hW : DataW.Whole enc Try.prog Try.f3.params.toList Rows.fnExactIsFracSpec.vars false W args.toList ds gs before) (hL : laidMetH Try.prog Rows.fnExactIsFracRow.laid W) (hsh : W.ShapedOpen Try.prog) :
    Calls Try.prog 3 args W fun e W' => ∃ v, e = .returned v ∧ Rows.fnExactIsFracSpec.post enc Try.prog Try.f3 false true false false W args v W' := by
  have hval : ∀ (j : Nat) t v, Try.f3.params[j]? = some t → args[j]? = some v → Value.okWide Try.prog W .any base t v := hval0
  have hW' := hW
  obtain ⟨p, q, hA0, hV, rfl, hfz, hnd⟩ := hW
  have hA : DataW.TrodAll enc Try.prog W 0 (fun _ => true) true Try.f3.params.toList args.toList ds p := hA0
  rw [Try.params3] at hA hval
  obtain ⟨v0, vs0, d0, ds0, p0, q0, hargs0, rfl, rfl, h0, r0⟩ := trodAll_cons hA
  obtain ⟨rfl, rfl, rfl⟩ := trodAll_nil r0
  obtain rfl : args = #[v0] := by cases args; simp_all
  obtain ⟨rfl, rfl⟩ := trodVars_none hV
  obtain ⟨a0, b0, rfl, wa0, wb0⟩ := Law.in_pair Try.underlying23 Try.underlying3 Try.underlying3 (by kernel_rfl) (by kernel_rfl) (hval 0 23 v0 rfl rfl) h0
  clear hA0 hval0
  refine (walk a0 b0 W wa0 wb0 hL hsh).mono fun e W' ⟨he, hb⟩ => ?_
  subst he
  exact ⟨_, rfl, Law.close hW' rfl rfl lawLaidOut (by kernel_rfl) Try.underlying4 (by kernel_rfl) hb⟩
theorem reads (os : Os) {H : Type} (enc : TypeId × Value → H) : ∃ places, DataW.whole enc Try.prog ((World.holding Try.prog os ⟨#[], #[], []⟩).forCall (fun _ _ => 0) ⟨#[], #[.agg #[.int .i64 0, .int .i64 0]], []⟩).memory Try.f3.params.toList Rows.fnExactIsFracSpec.vars false (#[.agg #[.int .i64 0, .int .i64 0]] : Array Value).toList 8 = some ([.agg [.lit (.int .i64 0), .lit (.int .i64 0)]], [], places) :=
  ⟨[], by kernel_rfl⟩
set_option maxRecDepth 100000 in
theorem lifted (os : Os) (started : os.Started) (H : Type) (enc : TypeId × Value → H) (F : Stop.Interp) :
    ReturnsInHanded {} Try.checked os 3 .any ((OpenSpec.ofChange Rows.fnExactIsFracSpec).preRow enc Try.prog Try.f3 Rows.fnExactIsFracRow.domain false Rows.fnExactIsFracRow.laid) (((OpenSpec.ofChange Rows.fnExactIsFracSpec).at F).post enc Try.prog Try.f3 false true false false) := by
  obtain ⟨places, hx⟩ := reads os enc
  refine returnsInHanded_of_row (C := Try.checked) (s := OpenSpec.ofChange Rows.fnExactIsFracSpec) lawOwn started (by kernel_rfl) Try.func3
    (witness_row_at (enc := enc) (C := Try.checked) false (World.holding Try.prog os ⟨#[], #[], []⟩) #[.agg #[.int .i64 0, .int .i64 0]] rfl (by kernel_rfl) (by kernel_rfl) (by kernel_rfl)
      (OpenSpec.preRow_of_cond 8 hx (by kernel_rfl) (fun k hk => by cases hk) (by kernel_rfl) (laidMet_nil _ _))) ?_
  intro W base args ds gs before hval hW _ _ _ hL hsh _
  exact contract H enc W base args ds gs before hval hW hL hsh
theorem proved : Rows.FnExactIsFracSaid :=
  OpenClaim.holds_of_cond 3 Try.f3 rfl rfl rfl rfl rfl rfl rfl ⟨rfl, rfl, rfl, rfl, rfl⟩ rfl rfl rfl rfl rfl (by kernel_rfl) Try.func3 (by kernel_rfl)
    (of_decide_eq_true (by kernel_rfl)) (by unfold Func.isWrapper; first | (rw [if_pos (by decide +kernel)]; kernel_rfl) | (rw [if_neg (by decide +kernel)]; exact ⟨rfl, rfl⟩))
    (fun os started H enc _ F => by rw [OpenClaim.pre_eq_preRow]; exact lifted os started H enc F)
end FIs
end Go.Proofs.Ytppmepajcdldkaa
