/-
  PROVED HERE: 'Rows.FnExactRequestsTextCardSaid': RequestsText answers as the model does, whatever it is given, and writes into no argument. Conditions: the listed package variables hold what the program's text lays (as the card says).
-/
import Derived.Test.YtgnfmbdomofgcaaDoorRows
import Derived.Test.YtgnfmbdomofgcaaDoorChecked
import Derived.Test.YtgnfmbdomofgcaaDoorTxtI
import Derived.Test.YtgnfmbdomofgcaaDoorTab3
import Derived.Test.YtgnfmbdomofgcaaDoorCards
import Derived.Test.YtgnfmbdomofgcaaDoorTie
import Derived.Deep.DeepHandedRow
import Derived.Stop.Joined
namespace Go.Proofs.YtgnfmbdomofgcaaDoor
open Go.RowKit Go.ChangeShapes Go.WideShapes Go.ChangeAt
set_option linter.unusedVariables false
namespace LRequestsText
set_option maxHeartbeats 1600000 in
theorem walk_core (n : Int) (reqs : List Int) (Areqs : Option Addr) (creqs : Nat) (x : ByteArray) (ok : Bool) (w : World) (hnreqs : reqs.length ≤ 1048576) (HR : Hid (Law.Row w Areqs (ivs reqs)))
    (HG : Hid (∀ (B : Option Addr) (d : Nat) (W : World), Law.Row W B (ivs reqs) → Calls Tryd.prog 9 #[.int .i64 n, .slice B reqs.length d] W fun e w' => e = .returned (.tuple #[.string x, .bool ok]) ∧ Below W.heap.size W w'))
    (HH : Hid (∀ (B : Option Addr) (d : Nat) (W : World), Law.Row W B (ivs reqs) → Calls Tryd.prog 8 #[.int .i64 n, .slice B reqs.length d] W fun e w' => e = .returned (.tuple #[.string x, .bool ok]) ∧ Below W.heap.size W w')) :
    Calls Tryd.prog 4 #[.int .i64 n, .slice Areqs reqs.length creqs] w fun e w' => e = .returned (.bool true) ∧ Below w.heap.size w w' := by
  have hIreqs : (reqs.length : Int) ≤ 1048576 := by omega
  go_enter Tryd.func4, Tryd.ntmps4
  go_wp2_with fail
  go_at_call 25
  refine (toInt_any Areqs creqs reqs _ hnreqs HR.out).mono ?_
  rintro e w1 ⟨v1, rfl, ho, hb⟩
  obtain ⟨A1, c1, rfl, hc1, _, _⟩ := Law.own_len ho
  have B1 : Hid (Below w.heap.size w w1) := by first | exact hb | exact Law.undraw hb
  have F1 := Lib.hid (Law.Row.own ho)
  clear ho hb
  go_wp2_with fail
  go_at_call 9
  refine (HG.out A1 c1 _ F1.out).mono ?_
  rintro e w2 ⟨rfl, hb⟩
  have B2 : Hid (Below w.heap.size w w2) := Law.then_ B1.out hb
  clear hb
  go_wp2_with fail
  go_at_call 25
  refine (toInt_any Areqs creqs reqs _ hnreqs (HR.out.stays B2.out)).mono ?_
  rintro e w3 ⟨v3, rfl, ho, hb⟩
  obtain ⟨A3, c3, rfl, hc3, _, _⟩ := Law.own_len ho
  have B3 : Hid (Below w.heap.size w w3) := Law.then_ B2.out (by first | exact hb | exact Law.undraw hb)
  have F3 := Lib.hid ho
  clear ho hb
  go_wp2_with fail
  go_at_call 8
  refine (HH.out A3 c3 _ (Law.Row.own F3.out)).mono ?_
  rintro e w4 ⟨rfl, hb⟩
  have B4 : Hid (Below w.heap.size w w4) := Law.then_ B3.out hb
  have F4 := Lib.hid (own_past F3.out hb)
  clear hb
  cases ok
  all_goals
    go_wp2_with fail
    go_at_call 25
    refine (toInt_any Areqs creqs reqs _ hnreqs (HR.out.stays B4.out)).mono ?_
    rintro e w5 ⟨v5, rfl, ho, hb⟩
    obtain ⟨A5, c5, rfl, hc5, _, _⟩ := Law.own_len ho
    have B5 : Hid (Below w.heap.size w w5) := Law.then_ B4.out (by first | exact hb | exact Law.undraw hb)
    have F5 := Lib.hid (Law.Row.own ho)
    have F6 := Lib.hid (Law.Row.own (own_past F4.out hb))
    clear ho hb
    go_wp2_with fail
    go_at_call 26
    refine (eqInt_same A3 A5 c3 c5 reqs _ (by omega) F6.out F5.out).mono ?_
    rintro e we ⟨rfl, m, rfl⟩
    go_wp2
    go_ret
    exact ⟨rfl, Law.up B5.out _⟩
theorem walk (n : Int) (Areqs : Option Addr) (nreqs creqs : Nat) (reqs : List Int) (w : World) (hn : (Lit.int .i64 n).wf = true) (hreqs : reqs.length = nreqs ∧ nreqs ≤ creqs ∧ creqs ≤ maxLen ∧ (∀ z ∈ reqs, (Lit.int .i64 z).wf = true) ∧ Law.Row w Areqs (reqs.map (Value.int .i64))) (hL : laidMetH Tryd.prog Rows.fnExactRequestsTextRow.laid w) (hsh : w.ShapedOpen Tryd.prog) :
    Calls Tryd.prog 4 #[.int .i64 n, .slice Areqs nreqs creqs] w fun e w' => e = .returned (.bool true) ∧ Below w.heap.size w w' := by
  obtain ⟨rfl, hAreqs, hBreqs, _, hrreqs⟩ := hreqs
  clear hL hsh
  by_cases hlreqs : reqs.length ≤ 1048576
  · exact walk_core n reqs Areqs creqs (Q.txtQ n reqs).1 (Q.txtQ n reqs).2 w hlreqs hrreqs (fun B d W h => specText_any n reqs B d hlreqs W h) (fun B d W h => impText_any n reqs B d hlreqs W h)
  · have hIreqs : ¬ (reqs.length : Int) ≤ 1048576 := by omega
    clear hrreqs
    go_enter Tryd.func4, Tryd.ntmps4
    go_wp2
    go_ret
    exact ⟨rfl, Below.refl _ _⟩
theorem lawOwn : ownKnob Tryd.prog.godebug = none := by kernel_rfl
theorem lawLaidOut : laidOutB Tryd.prog = true := by kernel_rfl
theorem contract (H : Type) (enc : TypeId × Value → H) (W : World) (base : Nat) (args : Array Value) (ds : List (DataW H)) (gs : List (DataW H)) (before : List MemPlace)
    (hval0 : ∀ (j : Nat) t v, Tryd.f4.params[j]? = some t → args[j]? = some v → Value.okWide Tryd.prog W .any base t v)
    (hW : DataW.Whole enc Tryd.prog Tryd.f4.params.toList Rows.fnExactRequestsTextSpec.vars false W args.toList ds gs before) (hL : laidMetH Tryd.prog Rows.fnExactRequestsTextRow.laid W) (hsh : W.ShapedOpen Tryd.prog) :
    Calls Tryd.prog 4 args W fun e W' => ∃ v, e = .returned v ∧ Rows.fnExactRequestsTextSpec.post enc Tryd.prog Tryd.f4 false true false false W args v W' := by
  have hval : ∀ (j : Nat) t v, Tryd.f4.params[j]? = some t → args[j]? = some v → Value.okWide Tryd.prog W .any base t v := hval0
  have hW' := hW
  obtain ⟨p, q, hA0, hV, rfl, hfz, hnd⟩ := hW
  have hA : DataW.TrodAll enc Tryd.prog W 0 (fun _ => true) true Tryd.f4.params.toList args.toList ds p := hA0
  rw [Tryd.params4] at hA hval
  obtain ⟨v0, vs0, d0, ds0, p0, q0, hargs0, rfl, rfl, h0, r0⟩ := trodAll_cons hA
  obtain ⟨v1, vs1, d1, ds1, p1, q1, hargs1, rfl, rfl, h1, r1⟩ := trodAll_cons r0
  obtain ⟨rfl, rfl, rfl⟩ := trodAll_nil r1
  obtain rfl : args = #[v0, v1] := by cases args; simp_all
  obtain ⟨rfl, rfl⟩ := trodVars_none hV
  obtain ⟨a0, rfl, rfl, rfl, w0⟩ := open_int Tryd.underlying3 (hval 0 3 v0 rfl rfl) h0
  obtain ⟨A1, n1, c1, xs1, rfl, w1⟩ := Law.in_ints Tryd.underlying24 Tryd.underlying3 (by kernel_rfl) (hval 1 24 v1 rfl rfl) h1 (fun x hx => hW'.lt x (by simp [hx]))
  clear hA0 hval0
  refine (walk a0 A1 n1 c1 xs1 W w0 w1 hL hsh).mono fun e W' ⟨he, hb⟩ => ?_
  subst he
  exact ⟨_, rfl, Law.close hW' rfl rfl lawLaidOut (by kernel_rfl) Tryd.underlying4 (by kernel_rfl) hb⟩
theorem reads (os : Os) {H : Type} (enc : TypeId × Value → H) : ∃ places, DataW.whole enc Tryd.prog ((laidWorld os).forCall (fun _ _ => 0) ⟨#[], #[.int .i64 0, .slice none 0 0], []⟩).memory Tryd.f4.params.toList Rows.fnExactRequestsTextSpec.vars false (#[.int .i64 0, .slice none 0 0] : Array Value).toList 8 = some ([.lit (.int .i64 0), .nil], [], places) :=
  ⟨[], by kernel_rfl⟩
set_option maxRecDepth 100000 in
theorem lifted (os : Os) (started : os.Started) (H : Type) (enc : TypeId × Value → H) (F : Stop.Interp) :
    ReturnsInHanded {} Tryd.checked os 4 .any ((OpenSpec.ofChange Rows.fnExactRequestsTextSpec).preRow enc Tryd.prog Tryd.f4 Rows.fnExactRequestsTextRow.domain false Rows.fnExactRequestsTextRow.laid) (((OpenSpec.ofChange Rows.fnExactRequestsTextSpec).at F).post enc Tryd.prog Tryd.f4 false true false false) := by
  obtain ⟨places, hx⟩ := reads os enc
  refine returnsInHanded_of_row (C := Tryd.checked) (s := OpenSpec.ofChange Rows.fnExactRequestsTextSpec) lawOwn started (by kernel_rfl) Tryd.func4
    (witness_row_atRef (enc := enc) (C := Tryd.checked) false (laidWorld os) #[.int .i64 0, .slice none 0 0] rfl (by kernel_rfl) (by kernel_rfl) (by kernel_rfl)
      (OpenSpec.preRow_of_cond 8 hx (by kernel_rfl) (fun k hk => by cases hk) (by kernel_rfl) (laid3_met os _))) ?_
  intro W base args ds gs before hval hW _ _ _ hL hsh _
  exact contract H enc W base args ds gs before hval hW hL hsh
theorem proved : Rows.FnExactRequestsTextSaid :=
  OpenClaim.holds_of_cond 4 Tryd.f4 rfl rfl rfl rfl rfl rfl rfl ⟨rfl, rfl, rfl, rfl, rfl⟩ rfl rfl rfl rfl rfl (by kernel_rfl) Tryd.func4 (by kernel_rfl)
    (of_decide_eq_true (by kernel_rfl)) (by unfold Func.isWrapper; first | (rw [if_pos (by decide +kernel)]; kernel_rfl) | (rw [if_neg (by decide +kernel)]; exact ⟨rfl, rfl⟩))
    (fun os started H enc _ F => by rw [OpenClaim.pre_eq_preRow]; exact lifted os started H enc F)
theorem plainLaw (f : FuncId) (fn : Func) (hf : Tryd.pinned.checked.prog.funcNamed "loop.example/g01087/laws.FnExactRequestsText" = some f) (hfn : Tryd.pinned.checked.prog.funcs[f]? = some fn) :
    false = Tryd.pinned.checked.prog.looks [] ∧ ∀ (j : Nat) t, fn.params[j]? = some t → Tryd.pinned.checked.prog.wantsStandIn t = false := by
  obtain rfl : f = 4 := Option.some.inj ((show Tryd.prog.funcNamed "loop.example/g01087/laws.FnExactRequestsText" = some 4 by kernel_rfl).symm.trans hf) |>.symm
  obtain rfl : fn = Tryd.f4 := (Option.some.inj (Tryd.func4.symm.trans hfn)).symm
  refine ⟨by kernel_rfl, fun j t ht => ?_⟩
  rw [Tryd.params4] at ht
  have hm : t ∈ [3, 24] := by simpa using Array.mem_of_getElem? ht
  have hall : ([3, 24].all fun u => !Tryd.prog.wantsStandIn u) = true := by kernel_rfl
  exact (show Tryd.prog.wantsStandIn t = false by simpa using List.all_eq_true.1 hall t hm)
theorem card : Rows.FnExactRequestsTextCardSaid :=
  Claim7.holds_tied_plain_at .later [] _ _ _ _ proved (fun _ h => by cases h) (by kernel_rfl) (fun _ h => by cases h) fnExactRequestsText_row_tie rfl ⟨rfl, rfl⟩ (by kernel_rfl) rfl plainLaw (by kernel_rfl)
end LRequestsText
end Go.Proofs.YtgnfmbdomofgcaaDoor
