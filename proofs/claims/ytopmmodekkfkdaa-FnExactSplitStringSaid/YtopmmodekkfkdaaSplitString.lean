/-
  PROVED HERE: 'Rows.FnExactSplitStringSaid': the law FnExactSplitString returns true for every two strings, and both read afterwards as before. Conditions: none but the row's own cells.
-/
import Derived.Test.YtopmmodekkfkdaaSplitBoth
import Derived.Test.YtopmmodekkfkdaaMark
import Derived.Deep.DeepHandedRow
import Derived.Stop.Joined
namespace Go.Proofs.Ytopmmodekkfkdaa.splitString
open Go.ChangeShapes Go.WideShapes Go.ChangeAt Go.RowKit
open Go.ChangeMaps (open_string shut_string)
set_option linter.unusedVariables false
set_option maxHeartbeats 3200000 in
theorem walk (s sep : ByteArray) (w : World) (hs : s.size ≤ maxLen) (hz : sep.size ≤ maxLen) (hL : laidMetH Try.prog Rows.fnExactSplitStringRow.laid w) (hsh : w.ShapedOpen Try.prog) :
    Calls Try.prog 4 #[.string s, .string sep] w fun e w' => e = .returned (.bool true) ∧ Below w.heap.size w w' := by
  clear hL hsh
  unfold maxLen at hs hz
  by_cases h1 : s.size ≤ 1048576
  · by_cases h2 : sep.size ≤ 1048576
    · have hlen := sq_len s sep
      obtain ⟨ps, hps⟩ : ∃ ps, ps = (sq s sep).1 := ⟨_, rfl⟩
      rw [← hps] at hlen
      have HPS := Lib.hid hps.symm
      clear hps
      go_enter Try.func4, Try.ntmps4
      go_wp2_with fail
      go_at_call 17
      refine (specSplit_any s sep _ h1 h2).mono ?_
      rintro e w1 ⟨v1, rfl, ho1, hb1⟩
      rw [HPS.out] at ho1
      obtain ⟨A1, c1, rfl, hc1, _, _⟩ := Law.own_len ho1
      have R1 := Lib.hid (Law.Row.own ho1)
      have B1 := Lib.hid hb1
      clear ho1 hb1
      go_wp2_with fail
      go_at_call 10
      refine (implSplit_any s sep _ h1 h2).mono ?_
      rintro e w2 ⟨v2, rfl, ho2, hb2⟩
      rw [HPS.out] at ho2
      obtain ⟨A2, c2, rfl, hc2, _, _⟩ := Law.own_len ho2
      have O2 := Lib.hid ho2
      have R12 := Lib.hid (R1.out.stays hb2)
      have S2 : Hid (w1.heap.size ≤ w2.heap.size) := hb2.size
      have B12 := Lib.hid hb2
      clear ho2 hb2
      go_wp2_with fail
      go_at_call 18
      refine (eqStr_same A2 A1 c2 c1 ps _ (by omega) (Law.Row.own O2.out) R12.out).mono ?_
      rintro e w3 ⟨rfl, m3, rfl⟩
      go_wp2_with fail
      go_at_call 19
      refine (markStr_one w1.heap.size ps.length m3 (.slice A2 ps.length c2) (svs ps) w2 (by omega) S2.out O2.out).mono ?_
      rintro e w4 ⟨rfl, ho4, hb4⟩
      have B14 : Hid (Below w1.heap.size w1 w4) := B12.out.trans hb4
      have M4 := Lib.hid (Law.Row.own ho4)
      clear ho4 hb4
      go_wp2_with fail
      go_at_call 20
      refine (heldStr_one ps.length c2 A2 _ (by omega) M4.out).mono ?_
      rintro e w5 ⟨rfl, hb5⟩
      have B15 : Hid (Below w1.heap.size w1 w5) := Law.then_ B14.out hb5
      have M5 := Lib.hid (M4.out.stays hb5)
      clear hb5
      go_wp2_with fail
      go_at_call 10
      refine (implSplit_any s sep _ h1 h2).mono ?_
      rintro e w6 ⟨v6, rfl, ho6, hb6⟩
      rw [HPS.out] at ho6
      obtain ⟨A6, c6, rfl, hc6, _, _⟩ := Law.own_len ho6
      have R6 := Lib.hid (Law.Row.own ho6)
      have B16 : Hid (Below w1.heap.size w1 w6) := Law.then_ B15.out hb6
      have M6 := Lib.hid (M5.out.stays hb6)
      have R16 := Lib.hid (R1.out.stays B16.out)
      clear ho6 hb6
      go_wp2_with fail
      go_at_call 18
      refine (eqStr_same A6 A1 c6 c1 ps _ (by omega) R6.out R16.out).mono ?_
      rintro e w7 ⟨rfl, m7, rfl⟩
      go_wp2_with fail
      go_at_call 20
      refine (heldStr_one ps.length c2 A2 _ (by omega) (M6.out.drewN m7)).mono ?_
      rintro e w8 ⟨rfl, hb8⟩
      have B18 : Hid (Below w1.heap.size w1 w8) := Law.then_ B16.out (Law.undraw hb8)
      clear hb8
      go_wp2
      go_ret
      exact ⟨rfl, Law.then_ B1.out B18.out⟩
    · go_enter Try.func4, Try.ntmps4
      go_wp2
      go_ret
      exact ⟨rfl, Below.refl _ _⟩
  · go_enter Try.func4, Try.ntmps4
    go_wp2
    go_ret
    exact ⟨rfl, Below.refl _ _⟩
theorem lawOwn : ownKnob Try.prog.godebug = none := by kernel_rfl
theorem lawLaidOut : laidOutB Try.prog = true := by kernel_rfl
theorem contract (H : Type) (enc : TypeId × Value → H) (W : World) (base : Nat) (args : Array Value) (ds : List (DataW H)) (gs : List (DataW H)) (before : List MemPlace)
    (hval0 : ∀ (j : Nat) t v, Try.f4.params[j]? = some t → args[j]? = some v → Value.okWide Try.prog W .any base t v)
    (hW : DataW.Whole enc Try.prog Try.f4.params.toList Rows.fnExactSplitStringSpec.vars false W args.toList ds gs before) (hL : laidMetH Try.prog Rows.fnExactSplitStringRow.laid W) (hsh : W.ShapedOpen Try.prog) :
    Calls Try.prog 4 args W fun e W' => ∃ v, e = .returned v ∧ Rows.fnExactSplitStringSpec.post enc Try.prog Try.f4 false true false false W args v W' := by
  have hval : ∀ (j : Nat) t v, Try.f4.params[j]? = some t → args[j]? = some v → Value.okWide Try.prog W .any base t v := hval0
  have hW' := hW
  obtain ⟨p, q, hA0, hV, rfl, hfz, hnd⟩ := hW
  have hA : DataW.TrodAll enc Try.prog W 0 (fun _ => true) true Try.f4.params.toList args.toList ds p := hA0
  rw [Try.params4] at hA hval
  obtain ⟨v0, vs0, d0, ds0, p0, q0, hargs0, rfl, rfl, h0, r0⟩ := trodAll_cons hA
  obtain ⟨v1, vs1, d1, ds1, p1, q1, hargs1, rfl, rfl, h1, r1⟩ := trodAll_cons r0
  obtain ⟨rfl, rfl, rfl⟩ := trodAll_nil r1
  obtain rfl : args = #[v0, v1] := by cases args; simp_all
  obtain ⟨rfl, rfl⟩ := trodVars_none hV
  obtain ⟨a0, rfl, rfl, rfl, w0⟩ := open_string Try.underlying9 (hval 0 9 v0 rfl rfl) h0
  obtain ⟨a1, rfl, rfl, rfl, w1⟩ := open_string Try.underlying9 (hval 1 9 v1 rfl rfl) h1
  clear hA0 hval0
  refine (walk a0 a1 W w0 w1 hL hsh).mono fun e W' ⟨he, hb⟩ => ?_
  subst he
  exact ⟨_, rfl, Law.close hW' rfl rfl lawLaidOut (by kernel_rfl) Try.underlying4 (by kernel_rfl) hb⟩
theorem reads (os : Os) {H : Type} (enc : TypeId × Value → H) : ∃ places, DataW.whole enc Try.prog ((World.holding Try.prog os ⟨#[], #[], []⟩).forCall (fun _ _ => 0) ⟨#[], #[.string ⟨#[]⟩, .string ⟨#[]⟩], []⟩).memory Try.f4.params.toList Rows.fnExactSplitStringSpec.vars false (#[.string ⟨#[]⟩, .string ⟨#[]⟩] : Array Value).toList 8 = some ([.lit (.string []), .lit (.string [])], [], places) :=
  ⟨[], by kernel_rfl⟩
set_option maxRecDepth 100000 in
theorem lifted (os : Os) (started : os.Started) (H : Type) (enc : TypeId × Value → H) (F : Stop.Interp) :
    ReturnsInHanded {} Try.checked os 4 .any ((OpenSpec.ofChange Rows.fnExactSplitStringSpec).preRow enc Try.prog Try.f4 Rows.fnExactSplitStringRow.domain false Rows.fnExactSplitStringRow.laid) (((OpenSpec.ofChange Rows.fnExactSplitStringSpec).at F).post enc Try.prog Try.f4 false true false false) := by
  obtain ⟨places, hx⟩ := reads os enc
  refine returnsInHanded_of_row (C := Try.checked) (s := OpenSpec.ofChange Rows.fnExactSplitStringSpec) lawOwn started (by kernel_rfl) Try.func4
    (witness_row_at (enc := enc) (C := Try.checked) false (World.holding Try.prog os ⟨#[], #[], []⟩) #[.string ⟨#[]⟩, .string ⟨#[]⟩] rfl (by kernel_rfl) (by kernel_rfl) (by kernel_rfl)
      (OpenSpec.preRow_of_cond 8 hx (by kernel_rfl) (fun k hk => by cases hk) (by kernel_rfl) (laidMet_nil _ _))) ?_
  intro W base args ds gs before hval hW _ _ _ hL hsh _
  exact contract H enc W base args ds gs before hval hW hL hsh
theorem proved : Rows.FnExactSplitStringSaid :=
  OpenClaim.holds_of_cond 4 Try.f4 rfl rfl rfl rfl rfl rfl rfl ⟨rfl, rfl, rfl, rfl, rfl⟩ rfl rfl rfl rfl rfl (by kernel_rfl) Try.func4 (by kernel_rfl)
    (of_decide_eq_true (by kernel_rfl)) (by unfold Func.isWrapper; first | (rw [if_pos (by decide +kernel)]; kernel_rfl) | (rw [if_neg (by decide +kernel)]; exact ⟨rfl, rfl⟩))
    (fun os started H enc _ F => by rw [OpenClaim.pre_eq_preRow]; exact lifted os started H enc F)
end Go.Proofs.Ytopmmodekkfkdaa.splitString
