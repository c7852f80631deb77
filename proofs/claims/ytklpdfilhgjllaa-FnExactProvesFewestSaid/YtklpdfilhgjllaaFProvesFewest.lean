/-
  FnExactProvesFewest: ProvesFewest answers as the model does, whatever it is given, and writes into no argument.
  Conditions: none.
-/
import Derived.Test.YtklpdfilhgjllaaRows
import Derived.Test.YtklpdfilhgjllaaChecked
import Derived.Test.YtklpdfilhgjllaaPrv
import Derived.Test.YtklpdfilhgjllaaMarkI
import Derived.Deep.DeepHandedRow
import Derived.Stop.Joined
namespace Go.Proofs.Ytklpdfilhgjllaa
open Go.RowKit Go.ChangeShapes Go.WideShapes
set_option linter.unusedVariables false
namespace LProvesFewest
set_option maxHeartbeats 6400000 in
theorem walk_core (k : Int) (n : Int) (reqs : List Int) (plan : List Int) (marks : List Int) (Areqs : Option Addr) (creqs : Nat) (Aplan : Option Addr) (cplan : Nat) (Amarks : Option Addr) (cmarks : Nat) (y : Bool) (ok : Bool) (w : World) (hnreqs : reqs.length ≤ 1048576) (hnplan : plan.length ≤ 1048576) (hnmarks : marks.length ≤ 1048576) (HRreqs : Hid (Law.Row w Areqs (ivs reqs))) (HRplan : Hid (Law.Row w Aplan (ivs plan))) (HRmarks : Hid (Law.Row w Amarks (ivs marks)))
    (HG : Hid (∀ (Breqs : Option Addr) (dreqs : Nat) (Bplan : Option Addr) (dplan : Nat) (Bmarks : Option Addr) (dmarks : Nat) (W : World), reqs.length ≤ dreqs → Law.Row W Breqs (ivs reqs) → Law.Row W Bplan (ivs plan) → Law.Row W Bmarks (ivs marks) → Calls Try.prog 45 #[.int .i64 k, .int .i64 n, .slice Breqs reqs.length dreqs, .slice Bplan plan.length dplan, .slice Bmarks marks.length dmarks] W fun e w' => e = .returned (.tuple #[.bool y, .bool ok]) ∧ Below W.heap.size W w'))
    (HH : Hid (∀ (Breqs : Option Addr) (dreqs : Nat) (Bplan : Option Addr) (dplan : Nat) (Bmarks : Option Addr) (dmarks : Nat) (W : World), reqs.length ≤ dreqs → Law.Row W Breqs (ivs reqs) → Law.Row W Bplan (ivs plan) → Law.Row W Bmarks (ivs marks) → Calls Try.prog 46 #[.int .i64 k, .int .i64 n, .slice Breqs reqs.length dreqs, .slice Bplan plan.length dplan, .slice Bmarks marks.length dmarks] W fun e w' => e = .returned (.tuple #[.bool y, .bool ok]) ∧ Below W.heap.size W w')) :
    Calls Try.prog 13 #[.int .i64 k, .int .i64 n, .slice Areqs reqs.length creqs, .slice Aplan plan.length cplan, .slice Amarks marks.length cmarks] w fun e w' => e = .returned (.bool true) ∧ Below w.heap.size w w' := by
  have hIreqs : (reqs.length : Int) ≤ 1048576 := by omega
  have hIplan : (plan.length : Int) ≤ 1048576 := by omega
  have hImarks : (marks.length : Int) ≤ 1048576 := by omega
  go_enter Try.func13, Try.ntmps13
  go_wp2_with fail
  go_at_call 16
  refine (toInt_any Areqs creqs reqs _ hnreqs HRreqs.out).mono ?_
  rintro e w1 ⟨v1, rfl, ho, hb⟩
  have hoareqs : w1.ownsRow w.heap.size 3 1 v1 reqs.length (ivs reqs) := ho
  obtain ⟨Aareqs, careqs, rfl, hcareqs, _, _⟩ := Law.own_len hoareqs
  have Iareqs : Hid (In w.heap.size w1.heap.size Aareqs) := In.of hoareqs
  clear ho
  have hz1 : Below w.heap.size w w1 := by first | exact hb | exact Law.undraw hb
  have S1 : Hid (w.heap.size ≤ w1.heap.size) := hz1.size
  have B1 : Hid (Below w.heap.size w w1) := hz1
  clear hz1
  clear hb
  have Fareqs_1 := Lib.hid hoareqs
  clear hoareqs
  go_wp2_with fail
  go_at_call 16
  refine (toInt_any Aplan cplan plan _ hnplan (HRplan.out.stays B1.out)).mono ?_
  rintro e w2 ⟨v2, rfl, ho, hb⟩
  have hoaplan : w2.ownsRow w1.heap.size 3 1 v2 plan.length (ivs plan) := ho
  obtain ⟨Aaplan, caplan, rfl, hcaplan, _, _⟩ := Law.own_len hoaplan
  have Iaplan : Hid (In w1.heap.size w2.heap.size Aaplan) := In.of hoaplan
  clear ho
  have hz2 : Below w1.heap.size w1 w2 := by first | exact hb | exact Law.undraw hb
  have S2 : Hid (w1.heap.size ≤ w2.heap.size) := hz2.size
  have B2 : Hid (Below w.heap.size w w2) := Law.then_ B1.out hz2
  have Fareqs_2 := Lib.hid (own_on Fareqs_1.out hz2)
  clear hz2
  clear hb
  have Faplan_2 := Lib.hid hoaplan
  clear hoaplan
  go_wp2_with fail
  go_at_call 16
  refine (toInt_any Amarks cmarks marks _ hnmarks (HRmarks.out.stays B2.out)).mono ?_
  rintro e w3 ⟨v3, rfl, ho, hb⟩
  have hoamarks : w3.ownsRow w2.heap.size 3 1 v3 marks.length (ivs marks) := ho
  obtain ⟨Aamarks, camarks, rfl, hcamarks, _, _⟩ := Law.own_len hoamarks
  have Iamarks : Hid (In w2.heap.size w3.heap.size Aamarks) := In.of hoamarks
  clear ho
  have hz3 : Below w2.heap.size w2 w3 := by first | exact hb | exact Law.undraw hb
  have S3 : Hid (w2.heap.size ≤ w3.heap.size) := hz3.size
  have B3 : Hid (Below w.heap.size w w3) := Law.then_ B2.out hz3
  have Fareqs_3 := Lib.hid (own_on Fareqs_2.out hz3)
  have Faplan_3 := Lib.hid (own_on Faplan_2.out hz3)
  clear hz3
  clear hb
  have Famarks_3 := Lib.hid hoamarks
  clear hoamarks
  go_wp2_with fail
  go_at_call 45
  refine (HG.out Aareqs careqs Aaplan caplan Aamarks camarks _ hcareqs (Law.Row.own Fareqs_3.out) (Law.Row.own Faplan_3.out) (Law.Row.own Famarks_3.out)).mono ?_
  rintro e w4 ⟨rfl, hb⟩
  have hz4 : Below w3.heap.size w3 w4 := by first | exact hb | exact Law.undraw hb
  have S4 : Hid (w3.heap.size ≤ w4.heap.size) := hz4.size
  have B4 : Hid (Below w.heap.size w w4) := Law.then_ B3.out hz4
  have Fareqs_4 := Lib.hid (own_on Fareqs_3.out hz4)
  have Faplan_4 := Lib.hid (own_on Faplan_3.out hz4)
  have Famarks_4 := Lib.hid (own_on Famarks_3.out hz4)
  clear hz4
  clear hb
  go_wp2_with fail
  go_at_call 16
  refine (toInt_any Areqs creqs reqs _ hnreqs (HRreqs.out.stays B4.out)).mono ?_
  rintro e w5 ⟨v5, rfl, ho, hb⟩
  have hoxreqs : w5.ownsRow w4.heap.size 3 1 v5 reqs.length (ivs reqs) := ho
  obtain ⟨Axreqs, cxreqs, rfl, hcxreqs, _, _⟩ := Law.own_len hoxreqs
  have Ixreqs : Hid (In w4.heap.size w5.heap.size Axreqs) := In.of hoxreqs
  clear ho
  have hz5 : Below w4.heap.size w4 w5 := by first | exact hb | exact Law.undraw hb
  have S5 : Hid (w4.heap.size ≤ w5.heap.size) := hz5.size
  have B5 : Hid (Below w.heap.size w w5) := Law.then_ B4.out hz5
  clear hz5
  clear hb
  have Fxreqs_5 := Lib.hid hoxreqs
  clear hoxreqs
  go_wp2_with fail
  go_at_call 16
  refine (toInt_any Aplan cplan plan _ hnplan (HRplan.out.stays B5.out)).mono ?_
  rintro e w6 ⟨v6, rfl, ho, hb⟩
  have hoxplan : w6.ownsRow w5.heap.size 3 1 v6 plan.length (ivs plan) := ho
  obtain ⟨Axplan, cxplan, rfl, hcxplan, _, _⟩ := Law.own_len hoxplan
  have Ixplan : Hid (In w5.heap.size w6.heap.size Axplan) := In.of hoxplan
  clear ho
  have hz6 : Below w5.heap.size w5 w6 := by first | exact hb | exact Law.undraw hb
  have S6 : Hid (w5.heap.size ≤ w6.heap.size) := hz6.size
  have B6 : Hid (Below w.heap.size w w6) := Law.then_ B5.out hz6
  have Fxreqs_6 := Lib.hid (own_on Fxreqs_5.out hz6)
  clear hz6
  clear hb
  have Fxplan_6 := Lib.hid hoxplan
  clear hoxplan
  go_wp2_with fail
  go_at_call 16
  refine (toInt_any Amarks cmarks marks _ hnmarks (HRmarks.out.stays B6.out)).mono ?_
  rintro e w7 ⟨v7, rfl, ho, hb⟩
  have hoxmarks : w7.ownsRow w6.heap.size 3 1 v7 marks.length (ivs marks) := ho
  obtain ⟨Axmarks, cxmarks, rfl, hcxmarks, _, _⟩ := Law.own_len hoxmarks
  have Ixmarks : Hid (In w6.heap.size w7.heap.size Axmarks) := In.of hoxmarks
  clear ho
  have hz7 : Below w6.heap.size w6 w7 := by first | exact hb | exact Law.undraw hb
  have S7 : Hid (w6.heap.size ≤ w7.heap.size) := hz7.size
  have B7 : Hid (Below w.heap.size w w7) := Law.then_ B6.out hz7
  have Fxreqs_7 := Lib.hid (own_on Fxreqs_6.out hz7)
  have Fxplan_7 := Lib.hid (own_on Fxplan_6.out hz7)
  clear hz7
  clear hb
  have Fxmarks_7 := Lib.hid hoxmarks
  clear hoxmarks
  go_wp2_with fail
  go_at_call 46
  refine (HH.out Axreqs cxreqs Axplan cxplan Axmarks cxmarks _ hcxreqs (Law.Row.own Fxreqs_7.out) (Law.Row.own Fxplan_7.out) (Law.Row.own Fxmarks_7.out)).mono ?_
  rintro e w8 ⟨rfl, hb⟩
  have hz8 : Below w7.heap.size w7 w8 := by first | exact hb | exact Law.undraw hb
  have S8 : Hid (w7.heap.size ≤ w8.heap.size) := hz8.size
  have B8 : Hid (Below w.heap.size w w8) := Law.then_ B7.out hz8
  have Fxreqs_8 := Lib.hid (own_on Fxreqs_7.out hz8)
  have Fxplan_8 := Lib.hid (own_on Fxplan_7.out hz8)
  have Fxmarks_8 := Lib.hid (own_on Fxmarks_7.out hz8)
  clear hz8
  clear hb
  cases y
  all_goals cases ok
  all_goals
    go_wp2_with fail
    go_at_call 16
    refine (toInt_any Areqs creqs reqs _ hnreqs (HRreqs.out.stays B8.out)).mono ?_
    rintro e w9 ⟨v9, rfl, ho, hb⟩
    have hoyreqs : w9.ownsRow w8.heap.size 3 1 v9 reqs.length (ivs reqs) := ho
    obtain ⟨Ayreqs, cyreqs, rfl, hcyreqs, _, _⟩ := Law.own_len hoyreqs
    have Iyreqs : Hid (In w8.heap.size w9.heap.size Ayreqs) := In.of hoyreqs
    clear ho
    have hz9 : Below w8.heap.size w8 w9 := by first | exact hb | exact Law.undraw hb
    have S9 : Hid (w8.heap.size ≤ w9.heap.size) := hz9.size
    have B9 : Hid (Below w.heap.size w w9) := Law.then_ B8.out hz9
    have Fxreqs_9 := Lib.hid (own_on Fxreqs_8.out hz9)
    have Fxplan_9 := Lib.hid (own_on Fxplan_8.out hz9)
    have Fxmarks_9 := Lib.hid (own_on Fxmarks_8.out hz9)
    clear hz9
    clear hb
    have Fyreqs_9 := Lib.hid hoyreqs
    clear hoyreqs
    go_wp2_with fail
    go_at_call 18
    refine (eqInt_same Axreqs Ayreqs cxreqs cyreqs reqs _ (by omega) (Law.Row.own Fxreqs_9.out) (Law.Row.own Fyreqs_9.out)).mono ?_
    rintro e we1 ⟨rfl, m1, rfl⟩
    go_wp2_with fail
    go_at_call 16
    refine (toInt_any Aplan cplan plan _ hnplan (Law.Row.drewN ((HRplan.out.stays B9.out)) m1)).mono ?_
    rintro e w10 ⟨v10, rfl, ho, hb⟩
    have hoyplan : w10.ownsRow w9.heap.size 3 1 v10 plan.length (ivs plan) := ho
    obtain ⟨Ayplan, cyplan, rfl, hcyplan, _, _⟩ := Law.own_len hoyplan
    have Iyplan : Hid (In w9.heap.size w10.heap.size Ayplan) := In.of hoyplan
    clear ho
    have hz10 : Below w9.heap.size w9 w10 := by first | exact hb | exact Law.undraw hb
    have S10 : Hid (w9.heap.size ≤ w10.heap.size) := hz10.size
    have B10 : Hid (Below w.heap.size w w10) := Law.then_ B9.out hz10
    have Fxreqs_10 := Lib.hid (own_on Fxreqs_9.out hz10)
    have Fxplan_10 := Lib.hid (own_on Fxplan_9.out hz10)
    have Fxmarks_10 := Lib.hid (own_on Fxmarks_9.out hz10)
    clear hz10
    clear hb
    have Fyplan_10 := Lib.hid hoyplan
    clear hoyplan
    go_wp2_with fail
    go_at_call 18
    refine (eqInt_same Axplan Ayplan cxplan cyplan plan _ (by omega) (Law.Row.own Fxplan_10.out) (Law.Row.own Fyplan_10.out)).mono ?_
    rintro e we2 ⟨rfl, m2, rfl⟩
    go_wp2_with fail
    go_at_call 16
    refine (toInt_any Amarks cmarks marks _ hnmarks (Law.Row.drewN ((HRmarks.out.stays B10.out)) m2)).mono ?_
    rintro e w11 ⟨v11, rfl, ho, hb⟩
    have hoymarks : w11.ownsRow w10.heap.size 3 1 v11 marks.length (ivs marks) := ho
    obtain ⟨Aymarks, cymarks, rfl, hcymarks, _, _⟩ := Law.own_len hoymarks
    have Iymarks : Hid (In w10.heap.size w11.heap.size Aymarks) := In.of hoymarks
    clear ho
    have hz11 : Below w10.heap.size w10 w11 := by first | exact hb | exact Law.undraw hb
    have S11 : Hid (w10.heap.size ≤ w11.heap.size) := hz11.size
    have B11 : Hid (Below w.heap.size w w11) := Law.then_ B10.out hz11
    have Fxreqs_11 := Lib.hid (own_on Fxreqs_10.out hz11)
    have Fxplan_11 := Lib.hid (own_on Fxplan_10.out hz11)
    have Fxmarks_11 := Lib.hid (own_on Fxmarks_10.out hz11)
    clear hz11
    clear hb
    have Fymarks_11 := Lib.hid hoymarks
    clear hoymarks
    go_wp2_with fail
    go_at_call 18
    refine (eqInt_same Axmarks Aymarks cxmarks cymarks marks _ (by omega) (Law.Row.own Fxmarks_11.out) (Law.Row.own Fymarks_11.out)).mono ?_
    rintro e we3 ⟨rfl, m3, rfl⟩
    go_wp2
    go_ret
    exact ⟨rfl, Law.up B11.out _⟩
theorem walk (k : Int) (n : Int) (Areqs : Option Addr) (nreqs creqs : Nat) (reqs : List Int) (Aplan : Option Addr) (nplan cplan : Nat) (plan : List Int) (Amarks : Option Addr) (nmarks cmarks : Nat) (marks : List Int) (w : World) (hk : (Lit.int .i64 k).wf = true) (hn : (Lit.int .i64 n).wf = true) (hreqs : reqs.length = nreqs ∧ nreqs ≤ creqs ∧ creqs ≤ maxLen ∧ (∀ z ∈ reqs, (Lit.int .i64 z).wf = true) ∧ Law.Row w Areqs (reqs.map (Value.int .i64))) (hplan : plan.length = nplan ∧ nplan ≤ cplan ∧ cplan ≤ maxLen ∧ (∀ z ∈ plan, (Lit.int .i64 z).wf = true) ∧ Law.Row w Aplan (plan.map (Value.int .i64))) (hmarks : marks.length = nmarks ∧ nmarks ≤ cmarks ∧ cmarks ≤ maxLen ∧ (∀ z ∈ marks, (Lit.int .i64 z).wf = true) ∧ Law.Row w Amarks (marks.map (Value.int .i64))) (hL : laidMetH Try.prog Rows.fnExactProvesFewestRow.laid w) (hsh : w.ShapedOpen Try.prog) :
    Calls Try.prog 13 #[.int .i64 k, .int .i64 n, .slice Areqs nreqs creqs, .slice Aplan nplan cplan, .slice Amarks nmarks cmarks] w fun e w' => e = .returned (.bool true) ∧ Below w.heap.size w w' := by
  obtain ⟨rfl, hAreqs, hBreqs, _, hrreqs⟩ := hreqs
  obtain ⟨rfl, hAplan, hBplan, _, hrplan⟩ := hplan
  obtain ⟨rfl, hAmarks, hBmarks, _, hrmarks⟩ := hmarks
  clear hL hsh
  by_cases hlreqs : reqs.length ≤ 1048576
  · skip
    by_cases hlplan : plan.length ≤ 1048576
    · skip
      by_cases hlmarks : marks.length ≤ 1048576
      · skip
        exact walk_core k n reqs plan marks Areqs creqs Aplan cplan Amarks cmarks (Q.provesQ k n reqs plan marks).1 (Q.provesQ k n reqs plan marks).2 w hlreqs hlplan hlmarks hrreqs hrplan hrmarks (fun Breqs dreqs Bplan dplan Bmarks dmarks W qreqs hreqs hplan hmarks => specPrv_any k n reqs plan marks Breqs Bplan Bmarks dreqs dplan dmarks hlreqs hlplan hlmarks W qreqs hreqs hplan hmarks) (fun Breqs dreqs Bplan dplan Bmarks dmarks W qreqs hreqs hplan hmarks => impPrv_any k n reqs plan marks Breqs Bplan Bmarks dreqs dplan dmarks hlreqs hlplan hlmarks W qreqs hreqs hplan hmarks)
      · have hImarks : ¬ (marks.length : Int) ≤ 1048576 := by omega
        have hIreqs : (reqs.length : Int) ≤ 1048576 := by omega
        have hIplan : (plan.length : Int) ≤ 1048576 := by omega
        clear hrreqs hrplan hrmarks
        go_enter Try.func13, Try.ntmps13
        go_wp2
        go_ret
        exact ⟨rfl, Below.refl _ _⟩
    · have hIplan : ¬ (plan.length : Int) ≤ 1048576 := by omega
      have hIreqs : (reqs.length : Int) ≤ 1048576 := by omega
      clear hrreqs hrplan hrmarks
      go_enter Try.func13, Try.ntmps13
      go_wp2
      go_ret
      exact ⟨rfl, Below.refl _ _⟩
  · have hIreqs : ¬ (reqs.length : Int) ≤ 1048576 := by omega
    clear hrreqs hrplan hrmarks
    go_enter Try.func13, Try.ntmps13
    go_wp2
    go_ret
    exact ⟨rfl, Below.refl _ _⟩
theorem lawOwn : ownKnob Try.prog.godebug = none := by kernel_rfl
theorem lawLaidOut : laidOutB Try.prog = true := by kernel_rfl
set_option maxRecDepth 100000 in
theorem contract (H : Type) (enc : TypeId × Value → H) (W : World) (base : Nat) (args : Array Value) (ds : List (DataW H)) (gs : List (DataW H)) (before : List MemPlace)
    (hval0 : ∀ (j : Nat) t v, Try.f13.params[j]? = some t → args[j]? = some v → Value.okWide Try.prog W .any base t v)
    (hW : DataW.Whole enc Try.prog Try.f13.params.toList Rows.fnExactProvesFewestSpec.vars false W args.toList ds gs before) (hL : laidMetH Try.prog Rows.fnExactProvesFewestRow.laid W) (hsh : W.ShapedOpen Try.prog) :
    Calls Try.prog 13 args W fun e W' => ∃ v, e = .returned v ∧ Rows.fnExactProvesFewestSpec.post enc Try.prog Try.f13 false true false false W args v W' := by
  have hval : ∀ (j : Nat) t v, Try.f13.params[j]? = some t → args[j]? = some v → Value.okWide Try.prog W .any base t v := hval0
  have hW' := hW
  obtain ⟨p, q, hA0, hV, rfl, hfz, hnd⟩ := hW
  have hA : DataW.TrodAll enc Try.prog W 0 (fun _ => true) true Try.f13.params.toList args.toList ds p := hA0
  rw [Try.params13] at hA hval
  obtain ⟨v0, vs0, d0, ds0, p0, q0, hargs0, rfl, rfl, h0, r0⟩ := trodAll_cons hA
  obtain ⟨v1, vs1, d1, ds1, p1, q1, hargs1, rfl, rfl, h1, r1⟩ := trodAll_cons r0
  obtain ⟨v2, vs2, d2, ds2, p2, q2, hargs2, rfl, rfl, h2, r2⟩ := trodAll_cons r1
  obtain ⟨v3, vs3, d3, ds3, p3, q3, hargs3, rfl, rfl, h3, r3⟩ := trodAll_cons r2
  obtain ⟨v4, vs4, d4, ds4, p4, q4, hargs4, rfl, rfl, h4, r4⟩ := trodAll_cons r3
  obtain ⟨rfl, rfl, rfl⟩ := trodAll_nil r4
  obtain rfl : args = #[v0, v1, v2, v3, v4] := by cases args; simp_all
  obtain ⟨rfl, rfl⟩ := trodVars_none hV
  obtain ⟨a0, rfl, rfl, rfl, w0⟩ := open_int Try.underlying3 (hval 0 3 v0 rfl rfl) h0
  obtain ⟨a1, rfl, rfl, rfl, w1⟩ := open_int Try.underlying3 (hval 1 3 v1 rfl rfl) h1
  obtain ⟨A2, n2, c2, xs2, rfl, w2⟩ := Law.in_ints Try.underlying22 Try.underlying3 (by kernel_rfl) (hval 2 22 v2 rfl rfl) h2 (fun x hx => hW'.lt x (by simp [hx]))
  obtain ⟨A3, n3, c3, xs3, rfl, w3⟩ := Law.in_ints Try.underlying22 Try.underlying3 (by kernel_rfl) (hval 3 22 v3 rfl rfl) h3 (fun x hx => hW'.lt x (by simp [hx]))
  obtain ⟨A4, n4, c4, xs4, rfl, w4⟩ := Law.in_ints Try.underlying22 Try.underlying3 (by kernel_rfl) (hval 4 22 v4 rfl rfl) h4 (fun x hx => hW'.lt x (by simp [hx]))
  clear hA0 hval0
  refine (walk a0 a1 A2 n2 c2 xs2 A3 n3 c3 xs3 A4 n4 c4 xs4 W w0 w1 w2 w3 w4 hL hsh).mono fun e W' ⟨he, hb⟩ => ?_
  subst he
  exact ⟨_, rfl, Law.close hW' rfl rfl lawLaidOut (by kernel_rfl) Try.underlying4 (by kernel_rfl) hb⟩
theorem reads (os : Os) {H : Type} (enc : TypeId × Value → H) : ∃ places, DataW.whole enc Try.prog ((World.holding Try.prog os ⟨#[], #[], []⟩).forCall (fun _ _ => 0) ⟨#[], #[.int .i64 0, .int .i64 0, .slice none 0 0, .slice none 0 0, .slice none 0 0], []⟩).memory Try.f13.params.toList Rows.fnExactProvesFewestSpec.vars false (#[.int .i64 0, .int .i64 0, .slice none 0 0, .slice none 0 0, .slice none 0 0] : Array Value).toList 8 = some ([.lit (.int .i64 0), .lit (.int .i64 0), .nil, .nil, .nil], [], places) :=
  ⟨[], by kernel_rfl⟩
set_option maxRecDepth 100000 in
theorem lifted (os : Os) (started : os.Started) (H : Type) (enc : TypeId × Value → H) (F : Stop.Interp) :
    ReturnsInHanded {} Try.checked os 13 .any ((OpenSpec.ofChange Rows.fnExactProvesFewestSpec).preRow enc Try.prog Try.f13 Rows.fnExactProvesFewestRow.domain false Rows.fnExactProvesFewestRow.laid) (((OpenSpec.ofChange Rows.fnExactProvesFewestSpec).at F).post enc Try.prog Try.f13 false true false false) := by
  obtain ⟨places, hx⟩ := reads os enc
  refine returnsInHanded_of_row (C := Try.checked) (s := OpenSpec.ofChange Rows.fnExactProvesFewestSpec) lawOwn started (by kernel_rfl) Try.func13
    (witness_row_at (enc := enc) (C := Try.checked) false (World.holding Try.prog os ⟨#[], #[], []⟩) #[.int .i64 0, .int .i64 0, .slice none 0 0, .slice none 0 0, .slice none 0 0] rfl (by kernel_rfl) (by kernel_rfl) (by kernel_rfl)
      (OpenSpec.preRow_of_cond 8 hx (by kernel_rfl) (fun k hk => by cases hk) (by kernel_rfl) (laidMet_nil _ _))) ?_
  intro W base args ds gs before hval hW _ _ _ hL hsh _
  exact contract H enc W base args ds gs before hval hW hL hsh
theorem proved : Rows.FnExactProvesFewestSaid :=
  OpenClaim.holds_of_cond 13 Try.f13 rfl rfl rfl rfl rfl rfl rfl ⟨rfl, rfl, rfl, rfl, rfl⟩ rfl rfl rfl rfl rfl (by kernel_rfl) Try.func13 (by kernel_rfl)
    (of_decide_eq_true (by kernel_rfl)) (by unfold Func.isWrapper; first | (rw [if_pos (by decide +kernel)]; kernel_rfl) | (rw [if_neg (by decide +kernel)]; exact ⟨rfl, rfl⟩))
    (fun os started H enc _ F => by rw [OpenClaim.pre_eq_preRow]; exact lifted os started H enc F)
end LProvesFewest
end Go.Proofs.Ytklpdfilhgjllaa
