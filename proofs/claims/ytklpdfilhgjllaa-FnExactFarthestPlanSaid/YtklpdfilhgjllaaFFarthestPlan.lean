/-
  FnExactFarthestPlan: FarthestPlan answers as the model does, whatever it is given, and hands out a row of its own.
  Conditions: none.
-/
import Derived.Test.YtklpdfilhgjllaaRows
import Derived.Test.YtklpdfilhgjllaaChecked
import Derived.Test.YtklpdfilhgjllaaFarS
import Derived.Test.YtklpdfilhgjllaaMarkI
import Derived.Deep.DeepHandedRow
import Derived.Stop.Joined
namespace Go.Proofs.Ytklpdfilhgjllaa
open Go.RowKit Go.ChangeShapes Go.WideShapes
set_option linter.unusedVariables false
namespace LFarthestPlan
theorem lenX (k n : Int) (zs : List Int) : (Q.farQ k n zs).1.length ≤ 1048576 := by
  unfold Q.farQ
  split
  · rename_i h
    obtain ⟨hk, hg⟩ : Q.okS k = true ∧ Q.good n zs = true := by simpa using h
    obtain ⟨N, rfl, h1, h2, h3, hx⟩ := Q.good_nat hg
    simp only [Q.planC_len]
    omega
  · simp
set_option maxHeartbeats 6400000 in
theorem walk_core (k : Int) (n : Int) (reqs : List Int) (Areqs : Option Addr) (creqs : Nat) (X : List Int × Bool) (w : World) (hl : X.1.length ≤ 1048576) (hnreqs : reqs.length ≤ 1048576) (HRreqs : Hid (Law.Row w Areqs (ivs reqs)))
    (HG : Hid (∀ (Breqs : Option Addr) (dreqs : Nat) (W : World), reqs.length ≤ dreqs → Law.Row W Breqs (ivs reqs) → Calls Try.prog 27 #[.int .i64 k, .int .i64 n, .slice Breqs reqs.length dreqs] W (rowSays X W)))
    (HH : Hid (∀ (Breqs : Option Addr) (dreqs : Nat) (W : World), reqs.length ≤ dreqs → Law.Row W Breqs (ivs reqs) → Calls Try.prog 28 #[.int .i64 k, .int .i64 n, .slice Breqs reqs.length dreqs] W (rowSays X W))) :
    Calls Try.prog 6 #[.int .i64 k, .int .i64 n, .slice Areqs reqs.length creqs] w fun e w' => e = .returned (.bool true) ∧ Below w.heap.size w w' := by
  obtain ⟨ps, ok⟩ := X
  simp only [] at hl
  have hIreqs : (reqs.length : Int) ≤ 1048576 := by omega
  go_enter Try.func6, Try.ntmps6
  go_wp2_with fail
  go_at_call 16
  refine (toInt_any Areqs creqs reqs _ hnreqs HRreqs.out).mono ?_
  rintro e w1 ⟨v1, rfl, ho, hb⟩
  have hoareqs : w1.ownsRow w.heap.size 3 1 v1 reqs.length (ivs reqs) := ho
  obtain ⟨Aareqs, careqs, rfl, hcareqs, _, _⟩ := Law.own_len hoareqs
  have Iareqs : Hid (In w.heap.size w1.heap.size Aareqs) := In.of hoareqs
  clear ho
  have hz1 : Below w.heap.size w w1 := by first | exact hb | exact Law.undraw hb
  have S1 : Hid (w.heap.size ≤ w1.heap.size) := hz1.size
  have B1 : Hid (Below w.heap.size w w1) := hz1
  clear hz1
  clear hb
  have Fareqs_1 := Lib.hid hoareqs
  clear hoareqs
  go_wp2_with fail
  go_at_call 27
  refine (HG.out Aareqs careqs _ hcareqs (Law.Row.own Fareqs_1.out)).mono ?_
  rintro e w2 ⟨v2, rfl, ho, hb⟩
  simp only [] at ho
  have hoW : w2.ownsRow w1.heap.size 3 1 v2 ps.length (ivs ps) := ho
  obtain ⟨AW, cW, rfl, hcW, _, _⟩ := Law.own_len hoW
  have IW : Hid (In w1.heap.size w2.heap.size AW) := In.of hoW
  clear ho
  have hz2 : Below w1.heap.size w1 w2 := by first | exact hb | exact Law.undraw hb
  have S2 : Hid (w1.heap.size ≤ w2.heap.size) := hz2.size
  have B2 : Hid (Below w.heap.size w w2) := Law.then_ B1.out hz2
  have Fareqs_2 := Lib.hid (own_on Fareqs_1.out hz2)
  clear hz2
  clear hb
  have FW_2 := Lib.hid hoW
  clear hoW
  have FWr := Lib.hid (Law.Row.own FW_2.out)
  clear FW_2
  have FW_2 := FWr
  clear FWr
  go_wp2_with fail
  go_at_call 16
  refine (toInt_any Areqs creqs reqs _ hnreqs (HRreqs.out.stays B2.out)).mono ?_
  rintro e w3 ⟨v3, rfl, ho, hb⟩
  have hoxreqs : w3.ownsRow w2.heap.size 3 1 v3 reqs.length (ivs reqs) := ho
  obtain ⟨Axreqs, cxreqs, rfl, hcxreqs, _, _⟩ := Law.own_len hoxreqs
  have Ixreqs : Hid (In w2.heap.size w3.heap.size Axreqs) := In.of hoxreqs
  clear ho
  have hz3 : Below w2.heap.size w2 w3 := by first | exact hb | exact Law.undraw hb
  have S3 : Hid (w2.heap.size ≤ w3.heap.size) := hz3.size
  have B3 : Hid (Below w.heap.size w w3) := Law.then_ B2.out hz3
  have FW_3 := Lib.hid (FW_2.out.stays hz3)
  clear hz3
  clear hb
  have Fxreqs_3 := Lib.hid hoxreqs
  clear hoxreqs
  go_wp2_with fail
  go_at_call 28
  refine (HH.out Axreqs cxreqs _ hcxreqs (Law.Row.own Fxreqs_3.out)).mono ?_
  rintro e w4 ⟨v4, rfl, ho, hb⟩
  simp only [] at ho
  have hoG : w4.ownsRow w3.heap.size 3 1 v4 ps.length (ivs ps) := ho
  obtain ⟨AG, cG, rfl, hcG, _, _⟩ := Law.own_len hoG
  have IG : Hid (In w3.heap.size w4.heap.size AG) := In.of hoG
  clear ho
  have hz4 : Below w3.heap.size w3 w4 := by first | exact hb | exact Law.undraw hb
  have S4 : Hid (w3.heap.size ≤ w4.heap.size) := hz4.size
  have B4 : Hid (Below w.heap.size w w4) := Law.then_ B3.out hz4
  have FW_4 := Lib.hid (FW_3.out.stays hz4)
  have Fxreqs_4 := Lib.hid (own_on Fxreqs_3.out hz4)
  clear hz4
  clear hb
  have FG_4 := Lib.hid hoG
  clear hoG
  go_wp2_with fail
  go_at_call 18
  refine (eqInt_same AG AW cG cW ps _ (by omega) (Law.Row.own FG_4.out) (FW_4.out)).mono ?_
  rintro e we1 ⟨rfl, m1, rfl⟩
  cases ok
  all_goals
    go_wp2_with fail
    go_at_call 16
    refine (toInt_any Areqs creqs reqs _ hnreqs (Law.Row.drewN ((HRreqs.out.stays B4.out)) m1)).mono ?_
    rintro e w5 ⟨v5, rfl, ho, hb⟩
    have hoyreqs : w5.ownsRow w4.heap.size 3 1 v5 reqs.length (ivs reqs) := ho
    obtain ⟨Ayreqs, cyreqs, rfl, hcyreqs, _, _⟩ := Law.own_len hoyreqs
    have Iyreqs : Hid (In w4.heap.size w5.heap.size Ayreqs) := In.of hoyreqs
    clear ho
    have hz5 : Below w4.heap.size w4 w5 := by first | exact hb | exact Law.undraw hb
    have S5 : Hid (w4.heap.size ≤ w5.heap.size) := hz5.size
    have B5 : Hid (Below w.heap.size w w5) := Law.then_ B4.out hz5
    have FW_5 := Lib.hid (FW_4.out.stays hz5)
    have Fxreqs_5 := Lib.hid (own_on Fxreqs_4.out hz5)
    have FG_5 := Lib.hid (own_on FG_4.out hz5)
    clear hz5
    clear hb
    have Fyreqs_5 := Lib.hid hoyreqs
    clear hoyreqs
    go_wp2_with fail
    go_at_call 18
    refine (eqInt_same Axreqs Ayreqs cxreqs cyreqs reqs _ (by omega) (Law.Row.own Fxreqs_5.out) (Law.Row.own Fyreqs_5.out)).mono ?_
    rintro e we2 ⟨rfl, m2, rfl⟩
    go_wp2_with fail
    go_at_call 24
    refine (markInt_one _ reqs.length cxreqs _ Axreqs (ivs reqs) w5 (by omega) Fxreqs_5.out).mono ?_
    rintro e w6 ⟨rfl, ho, hb⟩
    clear ho
    have S6 : Hid (w5.heap.size ≤ w6.heap.size) := hb.size
    have B6 : Hid (Below w.heap.size w w6) := B5.out.grown hb (by have s1 := S1.out; have s2 := S2.out; have s3 := S3.out; have s4 := S4.out; have s5 := S5.out; omega) (Ixreqs.out.base (by have s1 := S1.out; have s2 := S2.out; have s3 := S3.out; have s4 := S4.out; have s5 := S5.out; omega))
    have FW_6 := Lib.hid (FW_5.out.far hb IW.out Ixreqs.out (by have s1 := S1.out; have s2 := S2.out; have s3 := S3.out; have s4 := S4.out; have s5 := S5.out; first | exact .inl (by omega) | exact .inr (by omega)))
    have FG_6 := Lib.hid (own_far FG_5.out hb IG.out Ixreqs.out (by have s1 := S1.out; have s2 := S2.out; have s3 := S3.out; have s4 := S4.out; have s5 := S5.out; first | exact .inl (by omega) | exact .inr (by omega)))
    clear hb
    go_wp2_with fail
    go_at_call 18
    refine (eqInt_same AG AW cG cW ps _ (by omega) (Law.Row.own FG_6.out) (FW_6.out)).mono ?_
    rintro e we3 ⟨rfl, m3, rfl⟩
    go_wp2_with fail
    go_at_call 24
    refine (markInt_one _ ps.length cG _ AG (ivs ps) w6 (by omega) FG_6.out).mono ?_
    rintro e w7 ⟨rfl, ho, hb⟩
    have FM := Lib.hid (Law.Row.own ho)
    clear ho
    have S7 : Hid (w6.heap.size ≤ w7.heap.size) := hb.size
    have B7 : Hid (Below w.heap.size w w7) := B6.out.grown hb (by have s1 := S1.out; have s2 := S2.out; have s3 := S3.out; have s4 := S4.out; have s5 := S5.out; have s6 := S6.out; omega) (IG.out.base (by have s1 := S1.out; have s2 := S2.out; have s3 := S3.out; have s4 := S4.out; have s5 := S5.out; have s6 := S6.out; omega))
    have FW_7 := Lib.hid (FW_6.out.far hb IW.out IG.out (by have s1 := S1.out; have s2 := S2.out; have s3 := S3.out; have s4 := S4.out; have s5 := S5.out; have s6 := S6.out; first | exact .inl (by omega) | exact .inr (by omega)))
    clear hb
    have FM_7 := FM
    clear FM
    go_wp2_with fail
    go_at_call 29
    refine (heldInt_one ps.length cG AG _ hl (FM_7.out)).mono ?_
    rintro e w8 ⟨rfl, hb⟩
    have hz8 : Below w7.heap.size w7 w8 := by first | exact hb | exact Law.undraw hb
    have S8 : Hid (w7.heap.size ≤ w8.heap.size) := hz8.size
    have B8 : Hid (Below w.heap.size w w8) := Law.then_ B7.out hz8
    have FW_8 := Lib.hid (FW_7.out.stays hz8)
    have FM_8 := Lib.hid (FM_7.out.stays hz8)
    clear hz8
    clear hb
    go_wp2_with fail
    go_at_call 16
    refine (toInt_any Areqs creqs reqs _ hnreqs (HRreqs.out.stays B8.out)).mono ?_
    rintro e w9 ⟨v9, rfl, ho, hb⟩
    have hozreqs : w9.ownsRow w8.heap.size 3 1 v9 reqs.length (ivs reqs) := ho
    obtain ⟨Azreqs, czreqs, rfl, hczreqs, _, _⟩ := Law.own_len hozreqs
    have Izreqs : Hid (In w8.heap.size w9.heap.size Azreqs) := In.of hozreqs
    clear ho
    have hz9 : Below w8.heap.size w8 w9 := by first | exact hb | exact Law.undraw hb
    have S9 : Hid (w8.heap.size ≤ w9.heap.size) := hz9.size
    have B9 : Hid (Below w.heap.size w w9) := Law.then_ B8.out hz9
    have FW_9 := Lib.hid (FW_8.out.stays hz9)
    have FM_9 := Lib.hid (FM_8.out.stays hz9)
    clear hz9
    clear hb
    have Fzreqs_9 := Lib.hid hozreqs
    clear hozreqs
    go_wp2_with fail
    go_at_call 28
    refine (HH.out Azreqs czreqs _ hczreqs (Law.Row.own Fzreqs_9.out)).mono ?_
    rintro e w10 ⟨v10, rfl, ho, hb⟩
    simp only [] at ho
    have hoH : w10.ownsRow w9.heap.size 3 1 v10 ps.length (ivs ps) := ho
    obtain ⟨AH, cH, rfl, hcH, _, _⟩ := Law.own_len hoH
    have IH : Hid (In w9.heap.size w10.heap.size AH) := In.of hoH
    clear ho
    have hz10 : Below w9.heap.size w9 w10 := by first | exact hb | exact Law.undraw hb
    have S10 : Hid (w9.heap.size ≤ w10.heap.size) := hz10.size
    have B10 : Hid (Below w.heap.size w w10) := Law.then_ B9.out hz10
    have FW_10 := Lib.hid (FW_9.out.stays hz10)
    have FM_10 := Lib.hid (FM_9.out.stays hz10)
    have Fzreqs_10 := Lib.hid (own_on Fzreqs_9.out hz10)
    clear hz10
    clear hb
    have FH_10 := Lib.hid hoH
    clear hoH
    go_wp2_with fail
    go_at_call 18
    refine (eqInt_same AH AW cH cW ps _ (by omega) (Law.Row.own FH_10.out) (FW_10.out)).mono ?_
    rintro e we4 ⟨rfl, m4, rfl⟩
    go_wp2_with fail
    go_at_call 29
    refine (heldInt_one ps.length cG AG _ hl ((Law.Row.drewN (FM_10.out) m4))).mono ?_
    rintro e w11 ⟨rfl, hb⟩
    have hz11 : Below w10.heap.size w10 w11 := by first | exact hb | exact Law.undraw hb
    have S11 : Hid (w10.heap.size ≤ w11.heap.size) := hz11.size
    have B11 : Hid (Below w.heap.size w w11) := Law.then_ B10.out hz11
    have FW_11 := Lib.hid (FW_10.out.stays hz11)
    have FM_11 := Lib.hid (FM_10.out.stays hz11)
    clear hz11
    clear hb
    go_wp2
    go_ret
    exact ⟨rfl, B11.out⟩
theorem walk (k : Int) (n : Int) (Areqs : Option Addr) (nreqs creqs : Nat) (reqs : List Int) (w : World) (hk : (Lit.int .i64 k).wf = true) (hn : (Lit.int .i64 n).wf = true) (hreqs : reqs.length = nreqs ∧ nreqs ≤ creqs ∧ creqs ≤ maxLen ∧ (∀ z ∈ reqs, (Lit.int .i64 z).wf = true) ∧ Law.Row w Areqs (reqs.map (Value.int .i64))) (hL : laidMetH Try.prog Rows.fnExactFarthestPlanRow.laid w) (hsh : w.ShapedOpen Try.prog) :
    Calls Try.prog 6 #[.int .i64 k, .int .i64 n, .slice Areqs nreqs creqs] w fun e w' => e = .returned (.bool true) ∧ Below w.heap.size w w' := by
  obtain ⟨rfl, hAreqs, hBreqs, _, hrreqs⟩ := hreqs
  clear hL hsh
  by_cases hlreqs : reqs.length ≤ 1048576
  · skip
    refine walk_core k n reqs Areqs creqs (Q.farQ k n reqs) w ?_ hlreqs hrreqs (fun Breqs dreqs W qreqs hreqs => specFar_any k n reqs Breqs dreqs hlreqs W qreqs hreqs) (fun Breqs dreqs W qreqs hreqs => impFar_any k n reqs Breqs dreqs hlreqs W qreqs hreqs)
    exact lenX k n reqs
  · have hIreqs : ¬ (reqs.length : Int) ≤ 1048576 := by omega
    clear hrreqs
    go_enter Try.func6, Try.ntmps6
    go_wp2
    go_ret
    exact ⟨rfl, Below.refl _ _⟩
theorem lawOwn : ownKnob Try.prog.godebug = none := by kernel_rfl
theorem lawLaidOut : laidOutB Try.prog = true := by kernel_rfl
set_option maxRecDepth 100000 in
theorem contract (H : Type) (enc : TypeId × Value → H) (W : World) (base : Nat) (args : Array Value) (ds : List (DataW H)) (gs : List (DataW H)) (before : List MemPlace)
    (hval0 : ∀ (j : Nat) t v, Try.f6.params[j]? = some t → args[j]? = some v → Value.okWide Try.prog W .any base t v)
    (hW : DataW.Whole enc Try.prog Try.f6.params.toList Rows.fnExactFarthestPlanSpec.vars false W args.toList ds gs before) (hL : laidMetH Try.prog Rows.fnExactFarthestPlanRow.laid W) (hsh : W.ShapedOpen Try.prog) :
    Calls Try.prog 6 args W fun e W' => ∃ v, e = .returned v ∧ Rows.fnExactFarthestPlanSpec.post enc Try.prog Try.f6 false true false false W args v W' := by
  have hval : ∀ (j : Nat) t v, Try.f6.params[j]? = some t → args[j]? = some v → Value.okWide Try.prog W .any base t v := hval0
  have hW' := hW
  obtain ⟨p, q, hA0, hV, rfl, hfz, hnd⟩ := hW
  have hA : DataW.TrodAll enc Try.prog W 0 (fun _ => true) true Try.f6.params.toList args.toList ds p := hA0
  rw [Try.params6] at hA hval
  obtain ⟨v0, vs0, d0, ds0, p0, q0, hargs0, rfl, rfl, h0, r0⟩ := trodAll_cons hA
  obtain ⟨v1, vs1, d1, ds1, p1, q1, hargs1, rfl, rfl, h1, r1⟩ := trodAll_cons r0
  obtain ⟨v2, vs2, d2, ds2, p2, q2, hargs2, rfl, rfl, h2, r2⟩ := trodAll_cons r1
  obtain ⟨rfl, rfl, rfl⟩ := trodAll_nil r2
  obtain rfl : args = #[v0, v1, v2] := by cases args; simp_all
  obtain ⟨rfl, rfl⟩ := trodVars_none hV
  obtain ⟨a0, rfl, rfl, rfl, w0⟩ := open_int Try.underlying3 (hval 0 3 v0 rfl rfl) h0
  obtain ⟨a1, rfl, rfl, rfl, w1⟩ := open_int Try.underlying3 (hval 1 3 v1 rfl rfl) h1
  obtain ⟨A2, n2, c2, xs2, rfl, w2⟩ := Law.in_ints Try.underlying22 Try.underlying3 (by kernel_rfl) (hval 2 22 v2 rfl rfl) h2 (fun x hx => hW'.lt x (by simp [hx]))
  clear hA0 hval0
  refine (walk a0 a1 A2 n2 c2 xs2 W w0 w1 w2 hL hsh).mono fun e W' ⟨he, hb⟩ => ?_
  subst he
  exact ⟨_, rfl, Law.close hW' rfl rfl lawLaidOut (by kernel_rfl) Try.underlying4 (by kernel_rfl) hb⟩
theorem reads (os : Os) {H : Type} (enc : TypeId × Value → H) : ∃ places, DataW.whole enc Try.prog ((World.holding Try.prog os ⟨#[], #[], []⟩).forCall (fun _ _ => 0) ⟨#[], #[.int .i64 0, .int .i64 0, .slice none 0 0], []⟩).memory Try.f6.params.toList Rows.fnExactFarthestPlanSpec.vars false (#[.int .i64 0, .int .i64 0, .slice none 0 0] : Array Value).toList 8 = some ([.lit (.int .i64 0), .lit (.int .i64 0), .nil], [], places) :=
  ⟨[], by kernel_rfl⟩
set_option maxRecDepth 100000 in
theorem lifted (os : Os) (started : os.Started) (H : Type) (enc : TypeId × Value → H) (F : Stop.Interp) :
    ReturnsInHanded {} Try.checked os 6 .any ((OpenSpec.ofChange Rows.fnExactFarthestPlanSpec).preRow enc Try.prog Try.f6 Rows.fnExactFarthestPlanRow.domain false Rows.fnExactFarthestPlanRow.laid) (((OpenSpec.ofChange Rows.fnExactFarthestPlanSpec).at F).post enc Try.prog Try.f6 false true false false) := by
  obtain ⟨places, hx⟩ := reads os enc
  refine returnsInHanded_of_row (C := Try.checked) (s := OpenSpec.ofChange Rows.fnExactFarthestPlanSpec) lawOwn started (by kernel_rfl) Try.func6
    (witness_row_at (enc := enc) (C := Try.checked) false (World.holding Try.prog os ⟨#[], #[], []⟩) #[.int .i64 0, .int .i64 0, .slice none 0 0] rfl (by kernel_rfl) (by kernel_rfl) (by kernel_rfl)
      (OpenSpec.preRow_of_cond 8 hx (by kernel_rfl) (fun k hk => by cases hk) (by kernel_rfl) (laidMet_nil _ _))) ?_
  intro W base args ds gs before hval hW _ _ _ hL hsh _
  exact contract H enc W base args ds gs before hval hW hL hsh
theorem proved : Rows.FnExactFarthestPlanSaid :=
  OpenClaim.holds_of_cond 6 Try.f6 rfl rfl rfl rfl rfl rfl rfl ⟨rfl, rfl, rfl, rfl, rfl⟩ rfl rfl rfl rfl rfl (by kernel_rfl) Try.func6 (by kernel_rfl)
    (of_decide_eq_true (by kernel_rfl)) (by unfold Func.isWrapper; first | (rw [if_pos (by decide +kernel)]; kernel_rfl) | (rw [if_neg (by decide +kernel)]; exact ⟨rfl, rfl⟩))
    (fun os started H enc _ F => by rw [OpenClaim.pre_eq_preRow]; exact lifted os started H enc F)
end LFarthestPlan
end Go.Proofs.Ytklpdfilhgjllaa
