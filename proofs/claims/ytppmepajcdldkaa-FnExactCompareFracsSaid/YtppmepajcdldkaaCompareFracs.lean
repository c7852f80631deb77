/-
  FnExactCompareFracs: CompareFracs answers as the model does, whatever the fractions, and leaves its arguments as they were.
  Conditions: none.
-/
import Derived.Test.YtppmepajcdldkaaRows
import Derived.Test.YtppmepajcdldkaaConv
import Derived.Test.YtppmepajcdldkaaCmp
import Derived.Test.YtppmepajcdldkaaLaw2
import Derived.Deep.DeepHandedRow
import Derived.Stop.Joined
import Derived.Deep.RegionHeld3
namespace Go.Proofs.Ytppmepajcdldkaa
open Go.RowKit Go.ChangeShapes Go.WideShapes
set_option linter.unusedVariables false
namespace FCmp
set_option maxHeartbeats 1600000 in
theorem walk (n1 d1 n2 d2 : Int) (w : World) (wn1 : (Lit.int .i64 n1).wf = true) (wd1 : (Lit.int .i64 d1).wf = true) (wn2 : (Lit.int .i64 n2).wf = true) (wd2 : (Lit.int .i64 d2).wf = true) (hL : laidMetH Try.prog Rows.fnExactCompareFracsRow.laid w) (hsh : w.ShapedOpen Try.prog) :
    Calls Try.prog 9 #[fr n1 d1, fr n2 d2] w fun e w' => e = .returned (.bool true) ∧ Below w.heap.size w w' := by
  clear hL hsh
  have HG := Lib.hid (fun W => specCmp_any n1 d1 n2 d2 W)
  have HH := Lib.hid (fun W => implCmp_any n1 d1 n2 d2 W wn1 wd1 wn2 wd2)
  clear wn1 wd1 wn2 wd2
  generalize F.cmpG n1 d1 n2 d2 = c at HG HH
  generalize (F.good n1 d1 && F.good n2 d2) = ok at HG HH
  have hold0 : ((w.alloc (.cells #[.int .i64 n1, .int .i64 d1] 23)).alloc (.cells #[.int .i64 n2, .int .i64 d2] 23)).drew.cell? ⟨w.heap.size, 0, none⟩ = some (.int .i64 n1) ∧ ((w.alloc (.cells #[.int .i64 n1, .int .i64 d1] 23)).alloc (.cells #[.int .i64 n2, .int .i64 d2] 23)).drew.cell? ⟨w.heap.size, 1, none⟩ = some (.int .i64 d1) ∧ ((w.alloc (.cells #[.int .i64 n1, .int .i64 d1] 23)).alloc (.cells #[.int .i64 n2, .int .i64 d2] 23)).drew.cell? ⟨w.heap.size + 1, 0, none⟩ = some (.int .i64 n2) ∧ ((w.alloc (.cells #[.int .i64 n1, .int .i64 d1] 23)).alloc (.cells #[.int .i64 n2, .int .i64 d2] 23)).drew.cell? ⟨w.heap.size + 1, 1, none⟩ = some (.int .i64 d2) ∧ Below w.heap.size w ((w.alloc (.cells #[.int .i64 n1, .int .i64 d1] 23)).alloc (.cells #[.int .i64 n2, .int .i64 d2] 23)).drew ∧ w.heap.size + 2 ≤ ((w.alloc (.cells #[.int .i64 n1, .int .i64 d1] 23)).alloc (.cells #[.int .i64 n2, .int .i64 d2] 23)).drew.heap.size := ⟨by go_simp, by go_simp, by go_simp, by go_simp, (((Below.refl _ _).alloc (Nat.le_refl _) _).alloc (by simp) _).drew, by simp⟩
  go_enter Try.func9, Try.ntmps9
  go_wp2_with fail
  go_region_held3 (fun w' => w'.cell? ⟨w.heap.size, 0, none⟩ = some (.int .i64 n1) ∧ w'.cell? ⟨w.heap.size, 1, none⟩ = some (.int .i64 d1) ∧ w'.cell? ⟨w.heap.size + 1, 0, none⟩ = some (.int .i64 n2) ∧ w'.cell? ⟨w.heap.size + 1, 1, none⟩ = some (.int .i64 d2) ∧ Below w.heap.size w w' ∧ w.heap.size + 2 ≤ w'.heap.size) ((first | exact hold0 | exact held_call (by assumption) (by assumption))) (first
    | (go_at_call_of 14 n1; refine (toFrac_any n1 d1 _).mono ?_; rintro e w11 ⟨rfl, hb11⟩)
    | (go_at_call_of 14 n2; refine (toFrac_any n2 d2 _).mono ?_; rintro e w12 ⟨rfl, hb12⟩)
    | (go_at_call 27; refine (HG.out _).mono ?_; rintro e w13 ⟨rfl, hb13⟩))
  have hh1 := (by assumption : w13.cell? ⟨w.heap.size, 0, none⟩ = some (.int .i64 n1) ∧ w13.cell? ⟨w.heap.size, 1, none⟩ = some (.int .i64 d1) ∧ w13.cell? ⟨w.heap.size + 1, 0, none⟩ = some (.int .i64 n2) ∧ w13.cell? ⟨w.heap.size + 1, 1, none⟩ = some (.int .i64 d2) ∧ Below w.heap.size w w13 ∧ w.heap.size + 2 ≤ w13.heap.size)
  clear hold0 hb11 hb12 hb13 HG
  have hold1 : w13.drew.cell? ⟨w.heap.size, 0, none⟩ = some (.int .i64 n1) ∧ w13.drew.cell? ⟨w.heap.size, 1, none⟩ = some (.int .i64 d1) ∧ w13.drew.cell? ⟨w.heap.size + 1, 0, none⟩ = some (.int .i64 n2) ∧ w13.drew.cell? ⟨w.heap.size + 1, 1, none⟩ = some (.int .i64 d2) ∧ Below w.heap.size w w13.drew ∧ w.heap.size + 2 ≤ w13.drew.heap.size := ⟨hh1.1, hh1.2.1, hh1.2.2.1, hh1.2.2.2.1, hh1.2.2.2.2.1.drew, hh1.2.2.2.2.2⟩
  go_wp2_with fail
  go_region_held3 (fun w' => w'.cell? ⟨w.heap.size, 0, none⟩ = some (.int .i64 n1) ∧ w'.cell? ⟨w.heap.size, 1, none⟩ = some (.int .i64 d1) ∧ w'.cell? ⟨w.heap.size + 1, 0, none⟩ = some (.int .i64 n2) ∧ w'.cell? ⟨w.heap.size + 1, 1, none⟩ = some (.int .i64 d2) ∧ Below w.heap.size w w' ∧ w.heap.size + 2 ≤ w'.heap.size) ((first | exact hold1 | exact held_call (by assumption) (by assumption))) (first
    | (go_at_call_of 14 n1; refine (toFrac_any n1 d1 _).mono ?_; rintro e w21 ⟨rfl, hb21⟩)
    | (go_at_call_of 14 n2; refine (toFrac_any n2 d2 _).mono ?_; rintro e w22 ⟨rfl, hb22⟩)
    | (go_at_call 28; refine (HH.out _).mono ?_; rintro e w23 ⟨rfl, hb23⟩))
  have hh2 := (by assumption : w23.cell? ⟨w.heap.size, 0, none⟩ = some (.int .i64 n1) ∧ w23.cell? ⟨w.heap.size, 1, none⟩ = some (.int .i64 d1) ∧ w23.cell? ⟨w.heap.size + 1, 0, none⟩ = some (.int .i64 n2) ∧ w23.cell? ⟨w.heap.size + 1, 1, none⟩ = some (.int .i64 d2) ∧ Below w.heap.size w w23 ∧ w.heap.size + 2 ≤ w23.heap.size)
  have B0 := Lib.hid hh2.2.2.2.2.1
  clear hold1 hb21 hb22 hb23 HH hh1 hh2
  cases ok
  all_goals
    go_wp2
    go_ret
    exact ⟨rfl, B0.out⟩
theorem lawOwn : ownKnob Try.prog.godebug = none := by kernel_rfl
theorem lawLaidOut : laidOutB Try.prog = true := by kernel_rfl
theorem contract (H : Type) (enc : TypeId × Value → H) (W : World) (base : Nat) (args : Array Value) (ds : List (DataW H)) (gs : List (DataW H)) (before : List MemPlace)
    (hval0 : ∀ (j : Nat) t v, Try.f9.params[j]? = some t → args[j]? = some v → Value.okWide Try.prog W .any base t v)
    (hW : DataW.Whole enc Try.prog Try.f9.params.toList Rows.fnExactCompareFracsSpec.vars false W args.toList ds gs before) (hL : laidMetH Try.prog Rows.fnExactCompareFracsRow.laid W) (hsh : W.ShapedOpen Try.prog) :
    Calls Try.prog 9 args W fun e W' => ∃ v, e = .returned v ∧ Rows.fnExactCompareFracsSpec.post enc Try.prog Try.f9 false true false false W args v W' := by
  have hval : ∀ (j : Nat) t v, Try.f9.params[j]? = some t → args[j]? = some v → Value.okWide Try.prog W .any base t v := hval0
  have hW' := hW
  obtain ⟨p, q, hA0, hV, rfl, hfz, hnd⟩ := hW
  have hA : DataW.TrodAll enc Try.prog W 0 (fun _ => true) true Try.f9.params.toList args.toList ds p := hA0
  rw [Try.params9] at hA hval
  obtain ⟨v0, vs0, d0, ds0, p0, q0, hargs0, rfl, rfl, h0, r0⟩ := trodAll_cons hA
  obtain ⟨v1, vs1, d1, ds1, p1, q1, hargs1, rfl, rfl, h1, r1⟩ := trodAll_cons r0
  obtain ⟨rfl, rfl, rfl⟩ := trodAll_nil r1
  obtain rfl : args = #[v0, v1] := by cases args; simp_all
  obtain ⟨rfl, rfl⟩ := trodVars_none hV
  obtain ⟨a0, b0, rfl, wa0, wb0⟩ := Law.in_pair Try.underlying23 Try.underlying3 Try.underlying3 (by kernel_rfl) (by kernel_rfl) (hval 0 23 v0 rfl rfl) h0
  obtain ⟨a1, b1, rfl, wa1, wb1⟩ := Law.in_pair Try.underlying23 Try.underlying3 Try.underlying3 (by kernel_rfl) (by kernel_rfl) (hval 1 23 v1 rfl rfl) h1
  clear hA0 hval0
  refine (walk a0 b0 a1 b1 W wa0 wb0 wa1 wb1 hL hsh).mono fun e W' ⟨he, hb⟩ => ?_
  subst he
  exact ⟨_, rfl, Law.close hW' rfl rfl lawLaidOut (by kernel_rfl) Try.underlying4 (by kernel_rfl) hb⟩
theorem reads (os : Os) {H : Type} (enc : TypeId × Value → H) : ∃ places, DataW.whole enc Try.prog ((World.holding Try.prog os ⟨#[], #[], []⟩).forCall (fun _ _ => 0) ⟨#[], #[.agg #[.int .i64 0, .int .i64 0], .agg #[.int .i64 0, .int .i64 0]], []⟩).memory Try.f9.params.toList Rows.fnExactCompareFracsSpec.vars false (#[.agg #[.int .i64 0, .int .i64 0], .agg #[.int .i64 0, .int .i64 0]] : Array Value).toList 8 = some ([.agg [.lit (.int .i64 0), .lit (.int .i64 0)], .agg [.lit (.int .i64 0), .lit (.int .i64 0)]], [], places) :=
  ⟨[], by kernel_rfl⟩
set_option maxRecDepth 100000 in
theorem lifted (os : Os) (started : os.Started) (H : Type) (enc : TypeId × Value → H) (F : Stop.Interp) :
    ReturnsInHanded {} Try.checked os 9 .any ((OpenSpec.ofChange Rows.fnExactCompareFracsSpec).preRow enc Try.prog Try.f9 Rows.fnExactCompareFracsRow.domain false Rows.fnExactCompareFracsRow.laid) (((OpenSpec.ofChange Rows.fnExactCompareFracsSpec).at F).post enc Try.prog Try.f9 false true false false) := by
  obtain ⟨places, hx⟩ := reads os enc
  refine returnsInHanded_of_row (C := Try.checked) (s := OpenSpec.ofChange Rows.fnExactCompareFracsSpec) lawOwn started (by kernel_rfl) Try.func9
    (witness_row_at (enc := enc) (C := Try.checked) false (World.holding Try.prog os ⟨#[], #[], []⟩) #[.agg #[.int .i64 0, .int .i64 0], .agg #[.int .i64 0, .int .i64 0]] rfl (by kernel_rfl) (by kernel_rfl) (by kernel_rfl)
      (OpenSpec.preRow_of_cond 8 hx (by kernel_rfl) (fun k hk => by cases hk) (by kernel_rfl) (laidMet_nil _ _))) ?_
  intro W base args ds gs before hval hW _ _ _ hL hsh _
  exact contract H enc W base args ds gs before hval hW hL hsh
theorem proved : Rows.FnExactCompareFracsSaid :=
  OpenClaim.holds_of_cond 9 Try.f9 rfl rfl rfl rfl rfl rfl rfl ⟨rfl, rfl, rfl, rfl, rfl⟩ rfl rfl rfl rfl rfl (by kernel_rfl) Try.func9 (by kernel_rfl)
    (of_decide_eq_true (by kernel_rfl)) (by unfold Func.isWrapper; first | (rw [if_pos (by decide +kernel)]; kernel_rfl) | (rw [if_neg (by decide +kernel)]; exact ⟨rfl, rfl⟩))
    (fun os started H enc _ F => by rw [OpenClaim.pre_eq_preRow]; exact lifted os started H enc F)
end FCmp
end Go.Proofs.Ytppmepajcdldkaa
