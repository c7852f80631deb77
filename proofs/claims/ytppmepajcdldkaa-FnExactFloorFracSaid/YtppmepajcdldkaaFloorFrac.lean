/-
  FnExactFloorFrac: FloorFrac answers as the model does, whatever the fraction, and leaves its argument as it was.
  Conditions: none.
-/
import Derived.Test.YtppmepajcdldkaaRows
import Derived.Test.YtppmepajcdldkaaConv
import Derived.Test.YtppmepajcdldkaaFloor
import Derived.Test.YtppmepajcdldkaaLaw2
import Derived.Deep.DeepHandedRow
import Derived.Stop.Joined
namespace Go.Proofs.Ytppmepajcdldkaa
open Go.RowKit Go.ChangeShapes Go.WideShapes
set_option linter.unusedVariables false
namespace FFloor
theorem small {n d : Int} (h : F.good n d = true) : (1 ≤ d ∧ d ≤ 100000) ∧ (-100000000 ≤ n ∧ n ≤ 100000000) ∧ (-100000000 ≤ n / d ∧ n / d ≤ 100000000) := by
  have g := F.good_iff.1 h
  obtain ⟨p1, p2⟩ := F.floor_parts (n := n) (d := d) (by omega)
  obtain ⟨b1, b2⟩ := F.tdiv_small (n := n) (d := d) (by omega)
  refine ⟨by omega, by omega, ?_, ?_⟩
  · exact (Int.le_ediv_iff_mul_le (by omega)).2 (by omega)
  · exact Int.le_trans (Int.ediv_le_ediv (by omega) (show n ≤ 100000000 by omega)) (Int.ediv_le_self _ (by omega))
theorem spec_any (n d : Int) (w : World) : Calls Try.prog 29 #[fr n d] w fun e w' => e = .returned (.tuple #[.int .i64 (if F.good n d = true then n / d else 0), .bool (F.good n d)]) ∧ Below w.heap.size w w' := by
  have HG := Lib.hid fun W => l2Good_any n d W
  by_cases h : F.good n d = true
  · rw [if_pos h, h]
    rw [h] at HG
    obtain ⟨⟨s1, s2⟩, ⟨s3, s4⟩, s5, s6⟩ := small h
    have HC := Lib.hid fun W => Law.of_same (l2Floor_any n d W (by omega) (by omega) (by omega) (by omega))
    generalize n / d = q at HC s5 s6 ⊢
    clear h
    go_enter Try.func29, Try.ntmps29
    go_wp2_with fail
    go_at_call 38
    refine (HG.out _).mono ?_
    rintro e w1 ⟨rfl, hb1⟩
    have B1 : Hid (Below w.heap.size w w1) := Lib.hid (Law.then_ (by (repeat (first | exact Below.refl _ _ | refine Below.setCell ?_ (by first | omega | (simp; omega) | (simp; done)) _ | refine Below.drew ?_ | refine Law.up ?_ _ | refine Below.alloc ?_ (by first | omega | (simp; omega) | (simp; done)) _ | refine Law.then_ ?_ (Hid.out (by assumption))))) hb1)
    have sz1 := hb1.size; (try simp at sz1)
    obtain ⟨c10, c11, f10, f11⟩ := Blk.below (b := w.heap.size) (x := .int .i64 n) (y := .int .i64 d) ⟨by go_simp, by go_simp, by go_simp, by go_simp⟩ hb1 (by first | omega | (simp; omega) | (simp; done))
    clear hb1
    go_wp2_with fail
    go_at_call 50
    refine (HC.out _).mono ?_
    rintro e w2 ⟨rfl, hb2⟩
    have B2 : Hid (Below w.heap.size w w2) := Lib.hid (Law.then_ (by (repeat (first | exact Below.refl _ _ | refine Below.setCell ?_ (by first | omega | (simp; omega) | (simp; done)) _ | refine Below.drew ?_ | refine Law.up ?_ _ | refine Below.alloc ?_ (by first | omega | (simp; omega) | (simp; done)) _ | refine Law.then_ ?_ (Hid.out (by assumption))))) hb2)
    have sz2 := hb2.size; (try simp at sz2)
    clear hb2
    go_wp2
    go_ret2
    refine ⟨rfl, ?_⟩
    (repeat (first | exact Below.refl _ _ | refine Below.setCell ?_ (by first | omega | (simp; omega) | (simp; done)) _ | refine Below.drew ?_ | refine Law.up ?_ _ | refine Below.alloc ?_ (by first | omega | (simp; omega) | (simp; done)) _ | refine Law.then_ ?_ (Hid.out (by assumption))))
  · rw [if_neg h]
    rw [Bool.eq_false_iff.2 h] at HG ⊢
    clear h
    go_enter Try.func29, Try.ntmps29
    go_wp2_with fail
    go_at_call 38
    refine (HG.out _).mono ?_
    rintro e w1 ⟨rfl, hb1⟩
    have B1 : Hid (Below w.heap.size w w1) := Lib.hid (Law.then_ (by (repeat (first | exact Below.refl _ _ | refine Below.setCell ?_ (by first | omega | (simp; omega) | (simp; done)) _ | refine Below.drew ?_ | refine Law.up ?_ _ | refine Below.alloc ?_ (by first | omega | (simp; omega) | (simp; done)) _ | refine Law.then_ ?_ (Hid.out (by assumption))))) hb1)
    have sz1 := hb1.size; (try simp at sz1)
    clear hb1
    go_wp2
    go_ret2
    refine ⟨rfl, ?_⟩
    (repeat (first | exact Below.refl _ _ | refine Below.setCell ?_ (by first | omega | (simp; omega) | (simp; done)) _ | refine Below.drew ?_ | refine Law.up ?_ _ | refine Below.alloc ?_ (by first | omega | (simp; omega) | (simp; done)) _ | refine Law.then_ ?_ (Hid.out (by assumption))))
theorem impl_any (n d : Int) (w : World) (wn : (Lit.int .i64 n).wf = true) (wd : (Lit.int .i64 d).wf = true) : Calls Try.prog 30 #[fr n d] w fun e w' => e = .returned (.tuple #[.int .i64 (if F.good n d = true then n / d else 0), .bool (F.good n d)]) ∧ Below w.heap.size w w' := by
  have HG := Lib.hid fun W => isFrac_any n d W wn wd
  clear wn wd
  by_cases h : F.good n d = true
  · rw [if_pos h, h]
    rw [h] at HG
    obtain ⟨⟨s1, s2⟩, ⟨s3, s4⟩, s5, s6⟩ := small h
    have HC := Lib.hid fun W => Law.of_same (floorOf_any n d W (by omega) (by omega) (by omega))
    generalize n / d = q at HC s5 s6 ⊢
    clear h
    go_enter Try.func30, Try.ntmps30
    go_wp2_with fail
    go_at_call 15
    refine (HG.out _).mono ?_
    rintro e w1 ⟨rfl, hb1⟩
    have B1 : Hid (Below w.heap.size w w1) := Lib.hid (Law.then_ (by (repeat (first | exact Below.refl _ _ | refine Below.setCell ?_ (by first | omega | (simp; omega) | (simp; done)) _ | refine Below.drew ?_ | refine Law.up ?_ _ | refine Below.alloc ?_ (by first | omega | (simp; omega) | (simp; done)) _ | refine Law.then_ ?_ (Hid.out (by assumption))))) hb1)
    have sz1 := hb1.size; (try simp at sz1)
    obtain ⟨c10, c11, f10, f11⟩ := Blk.below (b := w.heap.size) (x := .int .i64 n) (y := .int .i64 d) ⟨by go_simp, by go_simp, by go_simp, by go_simp⟩ hb1 (by first | omega | (simp; omega) | (simp; done))
    clear hb1
    go_wp2_with fail
    go_at_call 51
    refine (HC.out _).mono ?_
    rintro e w2 ⟨rfl, hb2⟩
    have B2 : Hid (Below w.heap.size w w2) := Lib.hid (Law.then_ (by (repeat (first | exact Below.refl _ _ | refine Below.setCell ?_ (by first | omega | (simp; omega) | (simp; done)) _ | refine Below.drew ?_ | refine Law.up ?_ _ | refine Below.alloc ?_ (by first | omega | (simp; omega) | (simp; done)) _ | refine Law.then_ ?_ (Hid.out (by assumption))))) hb2)
    have sz2 := hb2.size; (try simp at sz2)
    clear hb2
    go_wp2
    go_ret2
    refine ⟨rfl, ?_⟩
    (repeat (first | exact Below.refl _ _ | refine Below.setCell ?_ (by first | omega | (simp; omega) | (simp; done)) _ | refine Below.drew ?_ | refine Law.up ?_ _ | refine Below.alloc ?_ (by first | omega | (simp; omega) | (simp; done)) _ | refine Law.then_ ?_ (Hid.out (by assumption))))
  · rw [if_neg h]
    rw [Bool.eq_false_iff.2 h] at HG ⊢
    clear h
    go_enter Try.func30, Try.ntmps30
    go_wp2_with fail
    go_at_call 15
    refine (HG.out _).mono ?_
    rintro e w1 ⟨rfl, hb1⟩
    have B1 : Hid (Below w.heap.size w w1) := Lib.hid (Law.then_ (by (repeat (first | exact Below.refl _ _ | refine Below.setCell ?_ (by first | omega | (simp; omega) | (simp; done)) _ | refine Below.drew ?_ | refine Law.up ?_ _ | refine Below.alloc ?_ (by first | omega | (simp; omega) | (simp; done)) _ | refine Law.then_ ?_ (Hid.out (by assumption))))) hb1)
    have sz1 := hb1.size; (try simp at sz1)
    clear hb1
    go_wp2
    go_ret2
    refine ⟨rfl, ?_⟩
    (repeat (first | exact Below.refl _ _ | refine Below.setCell ?_ (by first | omega | (simp; omega) | (simp; done)) _ | refine Below.drew ?_ | refine Law.up ?_ _ | refine Below.alloc ?_ (by first | omega | (simp; omega) | (simp; done)) _ | refine Law.then_ ?_ (Hid.out (by assumption))))
theorem walk (n d : Int) (w : World) (wn : (Lit.int .i64 n).wf = true) (wd : (Lit.int .i64 d).wf = true) (hL : laidMetH Try.prog Rows.fnExactFloorFracRow.laid w) (hsh : w.ShapedOpen Try.prog) :
    Calls Try.prog 10 #[fr n d] w fun e w' => e = .returned (.bool true) ∧ Below w.heap.size w w' := by
  clear hL hsh
  have HG := Lib.hid (fun W => spec_any n d W)
  have HH := Lib.hid (fun W => impl_any n d W wn wd)
  clear wn wd
  generalize (if F.good n d = true then n / d else 0) = q at HG HH
  generalize F.good n d = ok at HG HH
  go_enter Try.func10, Try.ntmps10
  go_wp2_with fail
  go_at_call 14
  refine (toFrac_any n d _).mono ?_
  rintro e w1 ⟨rfl, hb1⟩
  have B1 : Hid (Below w.heap.size w w1) := Lib.hid (Law.then_ (by (repeat (first | exact Below.refl _ _ | refine Below.setCell ?_ (by first | omega | (simp; omega) | (simp; done)) _ | refine Below.drew ?_ | refine Law.up ?_ _ | refine Below.alloc ?_ (by first | omega | (simp; omega) | (simp; done)) _ | refine Law.then_ ?_ (Hid.out (by assumption))))) hb1)
  have sz1 := hb1.size; (try simp at sz1)
  obtain ⟨c10, c11, f10, f11⟩ := Blk.below (b := w.heap.size) (x := .int .i64 n) (y := .int .i64 d) ⟨by go_simp, by go_simp, by go_simp, by go_simp⟩ hb1 (by first | omega | (simp; omega) | (simp; done))
  clear hb1
  go_wp2_with fail
  go_at_call 29
  refine (HG.out _).mono ?_
  rintro e w2 ⟨rfl, hb2⟩
  have B2 : Hid (Below w.heap.size w w2) := Lib.hid (Law.then_ (by (repeat (first | exact Below.refl _ _ | refine Below.setCell ?_ (by first | omega | (simp; omega) | (simp; done)) _ | refine Below.drew ?_ | refine Law.up ?_ _ | refine Below.alloc ?_ (by first | omega | (simp; omega) | (simp; done)) _ | refine Law.then_ ?_ (Hid.out (by assumption))))) hb2)
  have sz2 := hb2.size; (try simp at sz2)
  obtain ⟨c20, c21, f20, f21⟩ := Blk.below (b := w.heap.size) (x := .int .i64 n) (y := .int .i64 d) ⟨by go_simp, by go_simp, by go_simp, by go_simp⟩ hb2 (by first | omega | (simp; omega) | (simp; done))
  clear hb2 c10 c11 f10 f11
  go_wp2_with fail
  go_at_call 14
  refine (toFrac_any n d _).mono ?_
  rintro e w3 ⟨rfl, hb3⟩
  have B3 : Hid (Below w.heap.size w w3) := Lib.hid (Law.then_ (by (repeat (first | exact Below.refl _ _ | refine Below.setCell ?_ (by first | omega | (simp; omega) | (simp; done)) _ | refine Below.drew ?_ | refine Law.up ?_ _ | refine Below.alloc ?_ (by first | omega | (simp; omega) | (simp; done)) _ | refine Law.then_ ?_ (Hid.out (by assumption))))) hb3)
  have sz3 := hb3.size; (try simp at sz3)
  clear hb3
  go_wp2_with fail
  go_at_call 30
  refine (HH.out _).mono ?_
  rintro e w4 ⟨rfl, hb4⟩
  have B4 : Hid (Below w.heap.size w w4) := Lib.hid (Law.then_ (by (repeat (first | exact Below.refl _ _ | refine Below.setCell ?_ (by first | omega | (simp; omega) | (simp; done)) _ | refine Below.drew ?_ | refine Law.up ?_ _ | refine Below.alloc ?_ (by first | omega | (simp; omega) | (simp; done)) _ | refine Law.then_ ?_ (Hid.out (by assumption))))) hb4)
  have sz4 := hb4.size; (try simp at sz4)
  clear hb4
  cases ok
  all_goals
    go_wp2
    go_ret
    refine ⟨rfl, ?_⟩
    (repeat (first | exact Below.refl _ _ | refine Below.setCell ?_ (by first | omega | (simp; omega) | (simp; done)) _ | refine Below.drew ?_ | refine Law.up ?_ _ | refine Below.alloc ?_ (by first | omega | (simp; omega) | (simp; done)) _ | refine Law.then_ ?_ (Hid.out (by assumption))))
theorem lawOwn : ownKnob Try.prog.godebug = none := by kernel_rfl
theorem lawLaidOut : laidOutB Try.prog = true := by kernel_rfl
theorem contract (H : Type) (enc : TypeId × Value → H) (W : World) (base : Nat) (args : Array Value) (ds : List (DataW H)) (gs : List (DataW H)) (before : List MemPlace)
    (hval0 : ∀ (j : Nat) t v, Try.f10.params[j]? = some t → args[j]? = some v → Value.okWide Try.prog W .any base t v)
    (hW : DataW.Whole enc Try.prog Try.f10.params.toList Rows.fnExactFloorFracSpec.vars false W args.toList ds gs before) (hL : laidMetH Try.prog Rows.fnExactFloorFracRow.laid W) (hsh : W.ShapedOpen Try.prog) :
    Calls Try.prog 10 args W fun e W' => ∃ v, e = .returned v ∧ Rows.fnExactFloorFracSpec.post enc Try.prog Try.f10 false true false false W args v W' := by
  have hval : ∀ (j : Nat) t v, Try.f10.params[j]? = some t → args[j]? = some v → Value.okWide Try.prog W .any base t v := hval0
  have hW' := hW
  obtain ⟨p, q, hA0, hV, rfl, hfz, hnd⟩ := hW
  have hA : DataW.TrodAll enc Try.prog W 0 (fun _ => true) true Try.f10.params.toList args.toList ds p := hA0
  rw [Try.params10] at hA hval
  obtain ⟨v0, vs0, d0, ds0, p0, q0, hargs0, rfl, rfl, h0, r0⟩ := trodAll_cons hA
  obtain ⟨rfl, rfl, rfl⟩ := trodAll_nil r0
  obtain rfl : args = #[v0] := by cases args; simp_all
  obtain ⟨rfl, rfl⟩ := trodVars_none hV
  obtain ⟨a0, b0, rfl, wa0, wb0⟩ := Law.in_pair Try.underlying23 Try.underlying3 Try.underlying3 (by kernel_rfl) (by kernel_rfl) (hval 0 23 v0 rfl rfl) h0
  clear hA0 hval0
  refine (walk a0 b0 W wa0 wb0 hL hsh).mono fun e W' ⟨he, hb⟩ => ?_
  subst he
  exact ⟨_, rfl, Law.close hW' rfl rfl lawLaidOut (by kernel_rfl) Try.underlying4 (by kernel_rfl) hb⟩
theorem reads (os : Os) {H : Type} (enc : TypeId × Value → H) : ∃ places, DataW.whole enc Try.prog ((World.holding Try.prog os ⟨#[], #[], []⟩).forCall (fun _ _ => 0) ⟨#[], #[.agg #[.int .i64 0, .int .i64 0]], []⟩).memory Try.f10.params.toList Rows.fnExactFloorFracSpec.vars false (#[.agg #[.int .i64 0, .int .i64 0]] : Array Value).toList 8 = some ([.agg [.lit (.int .i64 0), .lit (.int .i64 0)]], [], places) :=
  ⟨[], by kernel_rfl⟩
set_option maxRecDepth 100000 in
theorem lifted (os : Os) (started : os.Started) (H : Type) (enc : TypeId × Value → H) (F : Stop.Interp) :
    ReturnsInHanded {} Try.checked os 10 .any ((OpenSpec.ofChange Rows.fnExactFloorFracSpec).preRow enc Try.prog Try.f10 Rows.fnExactFloorFracRow.domain false Rows.fnExactFloorFracRow.laid) (((OpenSpec.ofChange Rows.fnExactFloorFracSpec).at F).post enc Try.prog Try.f10 false true false false) := by
  obtain ⟨places, hx⟩ := reads os enc
  refine returnsInHanded_of_row (C := Try.checked) (s := OpenSpec.ofChange Rows.fnExactFloorFracSpec) lawOwn started (by kernel_rfl) Try.func10
    (witness_row_at (enc := enc) (C := Try.checked) false (World.holding Try.prog os ⟨#[], #[], []⟩) #[.agg #[.int .i64 0, .int .i64 0]] rfl (by kernel_rfl) (by kernel_rfl) (by kernel_rfl)
      (OpenSpec.preRow_of_cond 8 hx (by kernel_rfl) (fun k hk => by cases hk) (by kernel_rfl) (laidMet_nil _ _))) ?_
  intro W base args ds gs before hval hW _ _ _ hL hsh _
  exact contract H enc W base args ds gs before hval hW hL hsh
theorem proved : Rows.FnExactFloorFracSaid :=
  OpenClaim.holds_of_cond 10 Try.f10 rfl rfl rfl rfl rfl rfl rfl ⟨rfl, rfl, rfl, rfl, rfl⟩ rfl rfl rfl rfl rfl (by kernel_rfl) Try.func10 (by kernel_rfl)
    (of_decide_eq_true (by kernel_rfl)) (by unfold Func.isWrapper; first | (rw [if_pos (by decide +kernel)]; kernel_rfl) | (rw [if_neg (by decide +kernel)]; exact ⟨rfl, rfl⟩))
    (fun os started H enc _ F => by rw [OpenClaim.pre_eq_preRow]; exact lifted os started H enc F)
end FFloor
end Go.Proofs.Ytppmepajcdldkaa
