/-
  FnExactIntervalsOf: IntervalsOf answers as the model does, whatever it is given, and hands out a row of its own.
  Conditions: none.
-/
import Derived.Test.YtklpdfilhgjllaaRows
import Derived.Test.YtklpdfilhgjllaaChecked
import Derived.Test.YtklpdfilhgjllaaIvl
import Derived.Test.YtklpdfilhgjllaaRow2
import Derived.Deep.DeepHandedRow
import Derived.Stop.Joined
namespace Go.Proofs.Ytklpdfilhgjllaa
open Go.RowKit Go.ChangeShapes Go.WideShapes
set_option linter.unusedVariables false
namespace LIntervalsOf
theorem lenX (n : Int) (zs : List Int) : (Q.ivlQ n zs).1.length ≤ 1048576 := by
  cases hg : Q.good n zs
  · simp [Q.ivlQ, hg]
  · obtain ⟨N, rfl, h1, h2, h3, hx⟩ := Q.good_nat hg
    simp only [Q.ivlQ, hg, if_true, Q.ivl_len]
    omega
set_option maxHeartbeats 6400000 in
theorem walk_core (n : Int) (reqs : List Int) (Areqs : Option Addr) (creqs : Nat) (X : List (Int × Int) × Bool) (w : World) (hl : X.1.length ≤ 1048576) (hnreqs : reqs.length ≤ 1048576) (HRreqs : Hid (Law.Row w Areqs (ivs reqs)))
    (HG : Hid (∀ (Breqs : Option Addr) (dreqs : Nat) (W : World), Law.Row W Breqs (ivs reqs) → Calls Try.prog 36 #[.int .i64 n, .slice Breqs reqs.length dreqs] W (rowSays2 X W)))
    (HH : Hid (∀ (Breqs : Option Addr) (dreqs : Nat) (W : World), Law.Row W Breqs (ivs reqs) → Calls Try.prog 37 #[.int .i64 n, .slice Breqs reqs.length dreqs] W (rowSays2 X W))) :
    Calls Try.prog 10 #[.int .i64 n, .slice Areqs reqs.length creqs] w fun e w' => e = .returned (.bool true) ∧ Below w.heap.size w w' := by
  obtain ⟨ps, ok⟩ := X
  simp only [] at hl
  have hIreqs : (reqs.length : Int) ≤ 1048576 := by omega
  go_enter Try.func10, Try.ntmps10
  go_wp2_with fail
  go_at_call 16
  refine (toInt_any Areqs creqs reqs _ hnreqs HRreqs.out).mono ?_
  rintro e w1 ⟨v1, rfl, ho, hb⟩
  have hoareqs : w1.ownsRow w.heap.size 3 1 v1 reqs.length (ivs reqs) := ho
  obtain ⟨Aareqs, careqs, rfl, hcareqs, _, _⟩ := Law.own_len hoareqs
  have Iareqs : Hid (In w.heap.size w1.heap.size Aareqs) := In.of hoareqs
  clear ho
  have hz1 : Below w.heap.size w w1 := by first | exact hb | exact Law.undraw hb
  have S1 : Hid (w.heap.size ≤ w1.heap.size) := hz1.size
  have B1 : Hid (Below w.heap.size w w1) := hz1
  clear hz1
  clear hb
  have Fareqs_1 := Lib.hid hoareqs
  clear hoareqs
  go_wp2_with fail
  go_at_call 36
  refine (HG.out Aareqs careqs _ (Law.Row.own Fareqs_1.out)).mono ?_
  rintro e w2 ⟨v2, rfl, ho, hb⟩
  simp only [] at ho
  have hoW : w2.ownsRow w1.heap.size 76 2 v2 ps.length (pvs ps) := ho
  obtain ⟨AW, cW, rfl, hcW, _, _⟩ := own2_len hoW
  have IW : Hid (In w1.heap.size w2.heap.size AW) := In.of2 hoW
  clear ho
  have hz2 : Below w1.heap.size w1 w2 := by first | exact hb | exact Law.undraw hb
  have S2 : Hid (w1.heap.size ≤ w2.heap.size) := hz2.size
  have B2 : Hid (Below w.heap.size w w2) := Law.then_ B1.out hz2
  have Fareqs_2 := Lib.hid (own_on Fareqs_1.out hz2)
  clear hz2
  clear hb
  have FW_2 := Lib.hid hoW
  clear hoW
  go_wp2_with fail
  go_at_call 16
  refine (toInt_any Areqs creqs reqs _ hnreqs (HRreqs.out.stays B2.out)).mono ?_
  rintro e w3 ⟨v3, rfl, ho, hb⟩
  have hoxreqs : w3.ownsRow w2.heap.size 3 1 v3 reqs.length (ivs reqs) := ho
  obtain ⟨Axreqs, cxreqs, rfl, hcxreqs, _, _⟩ := Law.own_len hoxreqs
  have Ixreqs : Hid (In w2.heap.size w3.heap.size Axreqs) := In.of hoxreqs
  clear ho
  have hz3 : Below w2.heap.size w2 w3 := by first | exact hb | exact Law.undraw hb
  have S3 : Hid (w2.heap.size ≤ w3.heap.size) := hz3.size
  have B3 : Hid (Below w.heap.size w w3) := Law.then_ B2.out hz3
  have FW_3 := Lib.hid (own_past FW_2.out hz3)
  clear hz3
  clear hb
  have Fxreqs_3 := Lib.hid hoxreqs
  clear hoxreqs
  go_wp2_with fail
  go_at_call 37
  refine (HH.out Axreqs cxreqs _ (Law.Row.own Fxreqs_3.out)).mono ?_
  rintro e w4 ⟨v4, rfl, ho, hb⟩
  simp only [] at ho
  have hoG : w4.ownsRow w3.heap.size 76 2 v4 ps.length (pvs ps) := ho
  obtain ⟨AG, cG, rfl, hcG, _, _⟩ := own2_len hoG
  have IG : Hid (In w3.heap.size w4.heap.size AG) := In.of2 hoG
  clear ho
  have hz4 : Below w3.heap.size w3 w4 := by first | exact hb | exact Law.undraw hb
  have S4 : Hid (w3.heap.size ≤ w4.heap.size) := hz4.size
  have B4 : Hid (Below w.heap.size w w4) := Law.then_ B3.out hz4
  have FW_4 := Lib.hid (own_past FW_3.out hz4)
  have Fxreqs_4 := Lib.hid (own_on Fxreqs_3.out hz4)
  clear hz4
  clear hb
  have FG_4 := Lib.hid hoG
  clear hoG
  go_wp2_with fail
  go_at_call 38
  refine (eqA2S_same AG AW cG cW ps _ hl (row2_own FG_4.out) (row2_own FW_4.out)).mono ?_
  rintro e w5 ⟨rfl, hb⟩
  have hz5 : Below w4.heap.size w4 w5 := by first | exact hb | exact Law.undraw hb
  have S5 : Hid (w4.heap.size ≤ w5.heap.size) := hz5.size
  have B5 : Hid (Below w.heap.size w w5) := Law.then_ B4.out hz5
  have FW_5 := Lib.hid (own_past FW_4.out hz5)
  have Fxreqs_5 := Lib.hid (own_on Fxreqs_4.out hz5)
  have FG_5 := Lib.hid (own_past FG_4.out hz5)
  clear hz5
  clear hb
  cases ok
  all_goals
    go_wp2_with fail
    go_at_call 16
    refine (toInt_any Areqs creqs reqs _ hnreqs (HRreqs.out.stays B5.out)).mono ?_
    rintro e w6 ⟨v6, rfl, ho, hb⟩
    have hoyreqs : w6.ownsRow w5.heap.size 3 1 v6 reqs.length (ivs reqs) := ho
    obtain ⟨Ayreqs, cyreqs, rfl, hcyreqs, _, _⟩ := Law.own_len hoyreqs
    have Iyreqs : Hid (In w5.heap.size w6.heap.size Ayreqs) := In.of hoyreqs
    clear ho
    have hz6 : Below w5.heap.size w5 w6 := by first | exact hb | exact Law.undraw hb
    have S6 : Hid (w5.heap.size ≤ w6.heap.size) := hz6.size
    have B6 : Hid (Below w.heap.size w w6) := Law.then_ B5.out hz6
    have FW_6 := Lib.hid (own_past FW_5.out hz6)
    have Fxreqs_6 := Lib.hid (own_on Fxreqs_5.out hz6)
    have FG_6 := Lib.hid (own_past FG_5.out hz6)
    clear hz6
    clear hb
    have Fyreqs_6 := Lib.hid hoyreqs
    clear hoyreqs
    go_wp2_with fail
    go_at_call 18
    refine (eqInt_same Axreqs Ayreqs cxreqs cyreqs reqs _ (by omega) (Law.Row.own Fxreqs_6.out) (Law.Row.own Fyreqs_6.out)).mono ?_
    rintro e we1 ⟨rfl, m1, rfl⟩
    go_wp2_with fail
    go_at_call 24
    refine (markInt_one _ reqs.length cxreqs _ Axreqs (ivs reqs) w6 (by omega) Fxreqs_6.out).mono ?_
    rintro e w7 ⟨rfl, ho, hb⟩
    clear ho
    have S7 : Hid (w6.heap.size ≤ w7.heap.size) := hb.size
    have B7 : Hid (Below w.heap.size w w7) := B6.out.grown hb (by have s1 := S1.out; have s2 := S2.out; have s3 := S3.out; have s4 := S4.out; have s5 := S5.out; have s6 := S6.out; omega) (Ixreqs.out.base (by have s1 := S1.out; have s2 := S2.out; have s3 := S3.out; have s4 := S4.out; have s5 := S5.out; have s6 := S6.out; omega))
    have FW_7 := Lib.hid (own_far2 FW_6.out hb IW.out Ixreqs.out (by have s1 := S1.out; have s2 := S2.out; have s3 := S3.out; have s4 := S4.out; have s5 := S5.out; have s6 := S6.out; first | exact .inl (by omega) | exact .inr (by omega)))
    have FG_7 := Lib.hid (own_far2 FG_6.out hb IG.out Ixreqs.out (by have s1 := S1.out; have s2 := S2.out; have s3 := S3.out; have s4 := S4.out; have s5 := S5.out; have s6 := S6.out; first | exact .inl (by omega) | exact .inr (by omega)))
    clear hb
    go_wp2_with fail
    go_at_call 38
    refine (eqA2S_same AG AW cG cW ps _ hl (row2_own FG_7.out) (row2_own FW_7.out)).mono ?_
    rintro e w8 ⟨rfl, hb⟩
    have hz8 : Below w7.heap.size w7 w8 := by first | exact hb | exact Law.undraw hb
    have S8 : Hid (w7.heap.size ≤ w8.heap.size) := hz8.size
    have B8 : Hid (Below w.heap.size w w8) := Law.then_ B7.out hz8
    have FW_8 := Lib.hid (own_past FW_7.out hz8)
    have FG_8 := Lib.hid (own_past FG_7.out hz8)
    clear hz8
    clear hb
    go_wp2_with fail
    go_at_call 39
    refine (markA2_one _ ps.length cG AG (pvs ps) w8 hl FG_8.out).mono ?_
    rintro e w9 ⟨rfl, ho, hb⟩
    have FM := Lib.hid (Row.own2 ho)
    clear ho
    have S9 : Hid (w8.heap.size ≤ w9.heap.size) := hb.size
    have B9 : Hid (Below w.heap.size w w9) := B8.out.grown hb (by have s1 := S1.out; have s2 := S2.out; have s3 := S3.out; have s4 := S4.out; have s5 := S5.out; have s6 := S6.out; have s7 := S7.out; have s8 := S8.out; omega) (IG.out.base (by have s1 := S1.out; have s2 := S2.out; have s3 := S3.out; have s4 := S4.out; have s5 := S5.out; have s6 := S6.out; have s7 := S7.out; have s8 := S8.out; omega))
    have FW_9 := Lib.hid (own_far2 FW_8.out hb IW.out IG.out (by have s1 := S1.out; have s2 := S2.out; have s3 := S3.out; have s4 := S4.out; have s5 := S5.out; have s6 := S6.out; have s7 := S7.out; have s8 := S8.out; first | exact .inl (by omega) | exact .inr (by omega)))
    clear hb
    have FM_9 := FM
    clear FM
    go_wp2_with fail
    go_at_call 40
    refine (heldA2_one ps.length cG AG _ hl (FM_9.out)).mono ?_
    rintro e w10 ⟨rfl, hb⟩
    have hz10 : Below w9.heap.size w9 w10 := by first | exact hb | exact Law.undraw hb
    have S10 : Hid (w9.heap.size ≤ w10.heap.size) := hz10.size
    have B10 : Hid (Below w.heap.size w w10) := Law.then_ B9.out hz10
    have FW_10 := Lib.hid (own_past FW_9.out hz10)
    have FM_10 := Lib.hid (FM_9.out.stays hz10)
    clear hz10
    clear hb
    go_wp2_with fail
    go_at_call 16
    refine (toInt_any Areqs creqs reqs _ hnreqs (HRreqs.out.stays B10.out)).mono ?_
    rintro e w11 ⟨v11, rfl, ho, hb⟩
    have hozreqs : w11.ownsRow w10.heap.size 3 1 v11 reqs.length (ivs reqs) := ho
    obtain ⟨Azreqs, czreqs, rfl, hczreqs, _, _⟩ := Law.own_len hozreqs
    have Izreqs : Hid (In w10.heap.size w11.heap.size Azreqs) := In.of hozreqs
    clear ho
    have hz11 : Below w10.heap.size w10 w11 := by first | exact hb | exact Law.undraw hb
    have S11 : Hid (w10.heap.size ≤ w11.heap.size) := hz11.size
    have B11 : Hid (Below w.heap.size w w11) := Law.then_ B10.out hz11
    have FW_11 := Lib.hid (own_past FW_10.out hz11)
    have FM_11 := Lib.hid (FM_10.out.stays hz11)
    clear hz11
    clear hb
    have Fzreqs_11 := Lib.hid hozreqs
    clear hozreqs
    go_wp2_with fail
    go_at_call 37
    refine (HH.out Azreqs czreqs _ (Law.Row.own Fzreqs_11.out)).mono ?_
    rintro e w12 ⟨v12, rfl, ho, hb⟩
    simp only [] at ho
    have hoH : w12.ownsRow w11.heap.size 76 2 v12 ps.length (pvs ps) := ho
    obtain ⟨AH, cH, rfl, hcH, _, _⟩ := own2_len hoH
    have IH : Hid (In w11.heap.size w12.heap.size AH) := In.of2 hoH
    clear ho
    have hz12 : Below w11.heap.size w11 w12 := by first | exact hb | exact Law.undraw hb
    have S12 : Hid (w11.heap.size ≤ w12.heap.size) := hz12.size
    have B12 : Hid (Below w.heap.size w w12) := Law.then_ B11.out hz12
    have FW_12 := Lib.hid (own_past FW_11.out hz12)
    have FM_12 := Lib.hid (FM_11.out.stays hz12)
    have Fzreqs_12 := Lib.hid (own_on Fzreqs_11.out hz12)
    clear hz12
    clear hb
    have FH_12 := Lib.hid hoH
    clear hoH
    go_wp2_with fail
    go_at_call 38
    refine (eqA2S_same AH AW cH cW ps _ hl (row2_own FH_12.out) (row2_own FW_12.out)).mono ?_
    rintro e w13 ⟨rfl, hb⟩
    have hz13 : Below w12.heap.size w12 w13 := by first | exact hb | exact Law.undraw hb
    have S13 : Hid (w12.heap.size ≤ w13.heap.size) := hz13.size
    have B13 : Hid (Below w.heap.size w w13) := Law.then_ B12.out hz13
    have FW_13 := Lib.hid (own_past FW_12.out hz13)
    have FM_13 := Lib.hid (FM_12.out.stays hz13)
    have FH_13 := Lib.hid (own_past FH_12.out hz13)
    clear hz13
    clear hb
    go_wp2_with fail
    go_at_call 40
    refine (heldA2_one ps.length cG AG _ hl (FM_13.out)).mono ?_
    rintro e w14 ⟨rfl, hb⟩
    have hz14 : Below w13.heap.size w13 w14 := by first | exact hb | exact Law.undraw hb
    have S14 : Hid (w13.heap.size ≤ w14.heap.size) := hz14.size
    have B14 : Hid (Below w.heap.size w w14) := Law.then_ B13.out hz14
    have FW_14 := Lib.hid (own_past FW_13.out hz14)
    have FM_14 := Lib.hid (FM_13.out.stays hz14)
    clear hz14
    clear hb
    go_wp2
    go_ret
    exact ⟨rfl, B14.out⟩
theorem walk (n : Int) (Areqs : Option Addr) (nreqs creqs : Nat) (reqs : List Int) (w : World) (hn : (Lit.int .i64 n).wf = true) (hreqs : reqs.length = nreqs ∧ nreqs ≤ creqs ∧ creqs ≤ maxLen ∧ (∀ z ∈ reqs, (Lit.int .i64 z).wf = true) ∧ Law.Row w Areqs (reqs.map (Value.int .i64))) (hL : laidMetH Try.prog Rows.fnExactIntervalsOfRow.laid w) (hsh : w.ShapedOpen Try.prog) :
    Calls Try.prog 10 #[.int .i64 n, .slice Areqs nreqs creqs] w fun e w' => e = .returned (.bool true) ∧ Below w.heap.size w w' := by
  obtain ⟨rfl, hAreqs, hBreqs, _, hrreqs⟩ := hreqs
  clear hL hsh
  by_cases hlreqs : reqs.length ≤ 1048576
  · skip
    refine walk_core n reqs Areqs creqs (Q.ivlQ n reqs) w ?_ hlreqs hrreqs (fun Breqs dreqs W hreqs => specIvl_any n reqs Breqs dreqs hlreqs W hreqs) (fun Breqs dreqs W hreqs => impIvl_any n reqs Breqs dreqs hlreqs W hreqs)
    exact lenX n reqs
  · have hIreqs : ¬ (reqs.length : Int) ≤ 1048576 := by omega
    clear hrreqs
    go_enter Try.func10, Try.ntmps10
    go_wp2
    go_ret
    exact ⟨rfl, Below.refl _ _⟩
theorem lawOwn : ownKnob Try.prog.godebug = none := by kernel_rfl
theorem lawLaidOut : laidOutB Try.prog = true := by kernel_rfl
set_option maxRecDepth 100000 in
theorem contract (H : Type) (enc : TypeId × Value → H) (W : World) (base : Nat) (args : Array Value) (ds : List (DataW H)) (gs : List (DataW H)) (before : List MemPlace)
    (hval0 : ∀ (j : Nat) t v, Try.f10.params[j]? = some t → args[j]? = some v → Value.okWide Try.prog W .any base t v)
    (hW : DataW.Whole enc Try.prog Try.f10.params.toList Rows.fnExactIntervalsOfSpec.vars false W args.toList ds gs before) (hL : laidMetH Try.prog Rows.fnExactIntervalsOfRow.laid W) (hsh : W.ShapedOpen Try.prog) :
    Calls Try.prog 10 args W fun e W' => ∃ v, e = .returned v ∧ Rows.fnExactIntervalsOfSpec.post enc Try.prog Try.f10 false true false false W args v W' := by
  have hval : ∀ (j : Nat) t v, Try.f10.params[j]? = some t → args[j]? = some v → Value.okWide Try.prog W .any base t v := hval0
  have hW' := hW
  obtain ⟨p, q, hA0, hV, rfl, hfz, hnd⟩ := hW
  have hA : DataW.TrodAll enc Try.prog W 0 (fun _ => true) true Try.f10.params.toList args.toList ds p := hA0
  rw [Try.params10] at hA hval
  obtain ⟨v0, vs0, d0, ds0, p0, q0, hargs0, rfl, rfl, h0, r0⟩ := trodAll_cons hA
  obtain ⟨v1, vs1, d1, ds1, p1, q1, hargs1, rfl, rfl, h1, r1⟩ := trodAll_cons r0
  obtain ⟨rfl, rfl, rfl⟩ := trodAll_nil r1
  obtain rfl : args = #[v0, v1] := by cases args; simp_all
  obtain ⟨rfl, rfl⟩ := trodVars_none hV
  obtain ⟨a0, rfl, rfl, rfl, w0⟩ := open_int Try.underlying3 (hval 0 3 v0 rfl rfl) h0
  obtain ⟨A1, n1, c1, xs1, rfl, w1⟩ := Law.in_ints Try.underlying22 Try.underlying3 (by kernel_rfl) (hval 1 22 v1 rfl rfl) h1 (fun x hx => hW'.lt x (by simp [hx]))
  clear hA0 hval0
  refine (walk a0 A1 n1 c1 xs1 W w0 w1 hL hsh).mono fun e W' ⟨he, hb⟩ => ?_
  subst he
  exact ⟨_, rfl, Law.close hW' rfl rfl lawLaidOut (by kernel_rfl) Try.underlying4 (by kernel_rfl) hb⟩
theorem reads (os : Os) {H : Type} (enc : TypeId × Value → H) : ∃ places, DataW.whole enc Try.prog ((World.holding Try.prog os ⟨#[], #[], []⟩).forCall (fun _ _ => 0) ⟨#[], #[.int .i64 0, .slice none 0 0], []⟩).memory Try.f10.params.toList Rows.fnExactIntervalsOfSpec.vars false (#[.int .i64 0, .slice none 0 0] : Array Value).toList 8 = some ([.lit (.int .i64 0), .nil], [], places) :=
  ⟨[], by kernel_rfl⟩
set_option maxRecDepth 100000 in
theorem lifted (os : Os) (started : os.Started) (H : Type) (enc : TypeId × Value → H) (F : Stop.Interp) :
    ReturnsInHanded {} Try.checked os 10 .any ((OpenSpec.ofChange Rows.fnExactIntervalsOfSpec).preRow enc Try.prog Try.f10 Rows.fnExactIntervalsOfRow.domain false Rows.fnExactIntervalsOfRow.laid) (((OpenSpec.ofChange Rows.fnExactIntervalsOfSpec).at F).post enc Try.prog Try.f10 false true false false) := by
  obtain ⟨places, hx⟩ := reads os enc
  refine returnsInHanded_of_row (C := Try.checked) (s := OpenSpec.ofChange Rows.fnExactIntervalsOfSpec) lawOwn started (by kernel_rfl) Try.func10
    (witness_row_at (enc := enc) (C := Try.checked) false (World.holding Try.prog os ⟨#[], #[], []⟩) #[.int .i64 0, .slice none 0 0] rfl (by kernel_rfl) (by kernel_rfl) (by kernel_rfl)
      (OpenSpec.preRow_of_cond 8 hx (by kernel_rfl) (fun k hk => by cases hk) (by kernel_rfl) (laidMet_nil _ _))) ?_
  intro W base args ds gs before hval hW _ _ _ hL hsh _
  exact contract H enc W base args ds gs before hval hW hL hsh
theorem proved : Rows.FnExactIntervalsOfSaid :=
  OpenClaim.holds_of_cond 10 Try.f10 rfl rfl rfl rfl rfl rfl rfl ⟨rfl, rfl, rfl, rfl, rfl⟩ rfl rfl rfl rfl rfl (by kernel_rfl) Try.func10 (by kernel_rfl)
    (of_decide_eq_true (by kernel_rfl)) (by unfold Func.isWrapper; first | (rw [if_pos (by decide +kernel)]; kernel_rfl) | (rw [if_neg (by decide +kernel)]; exact ⟨rfl, rfl⟩))
    (fun os started H enc _ F => by rw [OpenClaim.pre_eq_preRow]; exact lifted os started H enc F)
end LIntervalsOf
end Go.Proofs.Ytklpdfilhgjllaa
