/-
  FnExactIsRequests: IsRequests answers as the model does, whatever it is given, and writes into no argument.
  Conditions: none.
-/
import Derived.Test.YtgnfmbdomofgcaaRows
import Derived.Test.YtgnfmbdomofgcaaChecked
import Derived.Test.YtgnfmbdomofgcaaGood
import Derived.Test.YtgnfmbdomofgcaaImpQ
import Derived.Test.YtgnfmbdomofgcaaMarkI
import Derived.Deep.DeepHandedRow
import Derived.Stop.Joined
namespace Go.Proofs.Ytgnfmbdomofgcaa
open Go.RowKit Go.ChangeShapes Go.WideShapes
set_option linter.unusedVariables false
namespace LIsRequests
set_option maxHeartbeats 1600000 in
theorem walk_core (n : Int) (reqs : List Int) (Areqs : Option Addr) (creqs : Nat) (g : Bool) (w : World) (hnreqs : reqs.length ≤ 1048576) (HR : Hid (Law.Row w Areqs (ivs reqs)))
    (HG : Hid (∀ (B : Option Addr) (d : Nat) (W : World), Law.Row W B (ivs reqs) → Calls Try.prog 44 #[.int .i64 n, .slice B reqs.length d] W fun e w' => e = .returned (.bool g) ∧ w' = W))
    (HH : Hid (∀ (B : Option Addr) (d : Nat) (W : World), Law.Row W B (ivs reqs) → Calls Try.prog 46 #[.int .i64 n, .slice B reqs.length d] W fun e w' => e = .returned (.bool g) ∧ w' = W)) :
    Calls Try.prog 5 #[.int .i64 n, .slice Areqs reqs.length creqs] w fun e w' => e = .returned (.bool true) ∧ Below w.heap.size w w' := by
  have hIreqs : (reqs.length : Int) ≤ 1048576 := by omega
  go_enter Try.func5, Try.ntmps5
  go_wp2_with fail
  go_at_call 45
  refine (toInt_any Areqs creqs reqs _ hnreqs HR.out).mono ?_
  rintro e w1 ⟨v1, rfl, ho, hb⟩
  obtain ⟨A1, c1, rfl, hc1, _, _⟩ := Law.own_len ho
  have B1 : Hid (Below w.heap.size w w1) := by first | exact hb | exact Law.undraw hb
  have F1 := Lib.hid (Law.Row.own ho)
  clear ho hb
  go_wp2_with fail
  go_at_call 44
  refine (HG.out A1 c1 _ F1.out).mono ?_
  rintro e w' ⟨rfl, hw'⟩
  obtain rfl := hw'.symm
  go_wp2_with fail
  go_at_call 45
  refine (toInt_any Areqs creqs reqs _ hnreqs (HR.out.stays B1.out)).mono ?_
  rintro e w2 ⟨v2, rfl, ho, hb⟩
  obtain ⟨A2, c2, rfl, hc2, _, _⟩ := Law.own_len ho
  have B2 : Hid (Below w.heap.size w w2) := Law.then_ B1.out (by first | exact hb | exact Law.undraw hb)
  have F2 := Lib.hid ho
  clear ho hb
  go_wp2_with fail
  go_at_call 46
  refine (HH.out A2 c2 _ (Law.Row.own F2.out)).mono ?_
  rintro e w' ⟨rfl, hw'⟩
  obtain rfl := hw'.symm
  cases g
  all_goals
    go_wp2_with fail
    go_at_call 45
    refine (toInt_any Areqs creqs reqs _ hnreqs (HR.out.stays B2.out)).mono ?_
    rintro e w3 ⟨v3, rfl, ho, hb⟩
    obtain ⟨A3, c3, rfl, hc3, _, _⟩ := Law.own_len ho
    have B3 : Hid (Below w.heap.size w w3) := Law.then_ B2.out (by first | exact hb | exact Law.undraw hb)
    have F3 := Lib.hid (Law.Row.own ho)
    have F4 := Lib.hid (Law.Row.own (own_on F2.out hb))
    clear ho hb
    go_wp2_with fail
    go_at_call 47
    refine (eqInt_same A2 A3 c2 c3 reqs _ (by omega) F4.out F3.out).mono ?_
    rintro e we ⟨rfl, m, rfl⟩
    go_wp2
    go_ret
    exact ⟨rfl, Law.up B3.out _⟩
theorem walk (n : Int) (Areqs : Option Addr) (nreqs creqs : Nat) (reqs : List Int) (w : World) (hn : (Lit.int .i64 n).wf = true) (hreqs : reqs.length = nreqs ∧ nreqs ≤ creqs ∧ creqs ≤ maxLen ∧ (∀ z ∈ reqs, (Lit.int .i64 z).wf = true) ∧ Law.Row w Areqs (reqs.map (Value.int .i64))) (hL : laidMetH Try.prog Rows.fnExactIsRequestsRow.laid w) (hsh : w.ShapedOpen Try.prog) :
    Calls Try.prog 5 #[.int .i64 n, .slice Areqs nreqs creqs] w fun e w' => e = .returned (.bool true) ∧ Below w.heap.size w w' := by
  obtain ⟨rfl, hAreqs, hBreqs, _, hrreqs⟩ := hreqs
  clear hL hsh
  by_cases hlreqs : reqs.length ≤ 1048576
  · exact walk_core n reqs Areqs creqs (Q.good n reqs) w hlreqs hrreqs (fun B d W h => specIsReq_any n B d reqs W hlreqs h) (fun B d W h => impIsReq_any n B d reqs W hlreqs h)
  · have hIreqs : ¬ (reqs.length : Int) ≤ 1048576 := by omega
    clear hrreqs
    go_enter Try.func5, Try.ntmps5
    go_wp2
    go_ret
    exact ⟨rfl, Below.refl _ _⟩
theorem lawOwn : ownKnob Try.prog.godebug = none := by kernel_rfl
theorem lawLaidOut : laidOutB Try.prog = true := by kernel_rfl
theorem contract (H : Type) (enc : TypeId × Value → H) (W : World) (base : Nat) (args : Array Value) (ds : List (DataW H)) (gs : List (DataW H)) (before : List MemPlace)
    (hval0 : ∀ (j : Nat) t v, Try.f5.params[j]? = some t → args[j]? = some v → Value.okWide Try.prog W .any base t v)
    (hW : DataW.Whole enc Try.prog Try.f5.params.toList Rows.fnExactIsRequestsSpec.vars false W args.toList ds gs before) (hL : laidMetH Try.prog Rows.fnExactIsRequestsRow.laid W) (hsh : W.ShapedOpen Try.prog) :
    Calls Try.prog 5 args W fun e W' => ∃ v, e = .returned v ∧ Rows.fnExactIsRequestsSpec.post enc Try.prog Try.f5 false true false false W args v W' := by
  have hval : ∀ (j : Nat) t v, Try.f5.params[j]? = some t → args[j]? = some v → Value.okWide Try.prog W .any base t v := hval0
  have hW' := hW
  obtain ⟨p, q, hA0, hV, rfl, hfz, hnd⟩ := hW
  have hA : DataW.TrodAll enc Try.prog W 0 (fun _ => true) true Try.f5.params.toList args.toList ds p := hA0
  rw [Try.params5] at hA hval
  obtain ⟨v0, vs0, d0, ds0, p0, q0, hargs0, rfl, rfl, h0, r0⟩ := trodAll_cons hA
  obtain ⟨v1, vs1, d1, ds1, p1, q1, hargs1, rfl, rfl, h1, r1⟩ := trodAll_cons r0
  obtain ⟨rfl, rfl, rfl⟩ := trodAll_nil r1
  obtain rfl : args = #[v0, v1] := by cases args; simp_all
  obtain ⟨rfl, rfl⟩ := trodVars_none hV
  obtain ⟨a0, rfl, rfl, rfl, w0⟩ := open_int Try.underlying3 (hval 0 3 v0 rfl rfl) h0
  obtain ⟨A1, n1, c1, xs1, rfl, w1⟩ := Law.in_ints Try.underlying24 Try.underlying3 (by kernel_rfl) (hval 1 24 v1 rfl rfl) h1 (fun x hx => hW'.lt x (by simp [hx]))
  clear hA0 hval0
  refine (walk a0 A1 n1 c1 xs1 W w0 w1 hL hsh).mono fun e W' ⟨he, hb⟩ => ?_
  subst he
  exact ⟨_, rfl, Law.close hW' rfl rfl lawLaidOut (by kernel_rfl) Try.underlying4 (by kernel_rfl) hb⟩
theorem reads (os : Os) {H : Type} (enc : TypeId × Value → H) : ∃ places, DataW.whole enc Try.prog ((World.holding Try.prog os ⟨#[], #[], []⟩).forCall (fun _ _ => 0) ⟨#[], #[.int .i64 0, .slice none 0 0], []⟩).memory Try.f5.params.toList Rows.fnExactIsRequestsSpec.vars false (#[.int .i64 0, .slice none 0 0] : Array Value).toList 8 = some ([.lit (.int .i64 0), .nil], [], places) :=
  ⟨[], by kernel_rfl⟩
set_option maxRecDepth 100000 in
theorem lifted (os : Os) (started : os.Started) (H : Type) (enc : TypeId × Value → H) (F : Stop.Interp) :
    ReturnsInHanded {} Try.checked os 5 .any ((OpenSpec.ofChange Rows.fnExactIsRequestsSpec).preRow enc Try.prog Try.f5 Rows.fnExactIsRequestsRow.domain false Rows.fnExactIsRequestsRow.laid) (((OpenSpec.ofChange Rows.fnExactIsRequestsSpec).at F).post enc Try.prog Try.f5 false true false false) := by
  obtain ⟨places, hx⟩ := reads os enc
  refine returnsInHanded_of_row (C := Try.checked) (s := OpenSpec.ofChange Rows.fnExactIsRequestsSpec) lawOwn started (by kernel_rfl) Try.func5
    (witness_row_at (enc := enc) (C := Try.checked) false (World.holding Try.prog os ⟨#[], #[], []⟩) #[.int .i64 0, .slice none 0 0] rfl (by kernel_rfl) (by kernel_rfl) (by kernel_rfl)
      (OpenSpec.preRow_of_cond 8 hx (by kernel_rfl) (fun k hk => by cases hk) (by kernel_rfl) (laidMet_nil _ _))) ?_
  intro W base args ds gs before hval hW _ _ _ hL hsh _
  exact contract H enc W base args ds gs before hval hW hL hsh
theorem proved : Rows.FnExactIsRequestsSaid :=
  OpenClaim.holds_of_cond 5 Try.f5 rfl rfl rfl rfl rfl rfl rfl ⟨rfl, rfl, rfl, rfl, rfl⟩ rfl rfl rfl rfl rfl (by kernel_rfl) Try.func5 (by kernel_rfl)
    (of_decide_eq_true (by kernel_rfl)) (by unfold Func.isWrapper; first | (rw [if_pos (by decide +kernel)]; kernel_rfl) | (rw [if_neg (by decide +kernel)]; exact ⟨rfl, rfl⟩))
    (fun os started H enc _ F => by rw [OpenClaim.pre_eq_preRow]; exact lifted os started H enc F)
end LIsRequests
end Go.Proofs.Ytgnfmbdomofgcaa
