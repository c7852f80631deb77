/-
  FnExactAnomalyOf: AnomalyOf answers as the model does, whatever it is given, and writes into no argument.
  Conditions: none.
-/
import Derived.Test.YtdjafooabpcbmaaRows
import Derived.Test.YtdjafooabpcbmaaChecked
import Derived.Test.YtdjafooabpcbmaaAno
import Derived.Test.YtdjafooabpcbmaaBa
import Derived.Deep.DeepHandedRow
import Derived.Stop.Joined
namespace Go.Proofs.Ytdjafooabpcbmaa
open Go.RowKit Go.ChangeShapes Go.WideShapes
set_option linter.unusedVariables false
namespace LAnomalyOf
set_option maxHeartbeats 3200000 in
theorem walk_core (n : Int) (policy : Int) (reqs : List Int) (A0 : Option Addr) (c0 : Nat) (y : Int) (ok : Bool) (w : World) (hn : reqs.length ≤ 1048576) (HR : Hid (Law.Row w A0 (ivs reqs)))
    (HG : Hid (∀ (B : Option Addr) (d : Nat) (W : World), Law.Row W B (ivs reqs) → Calls Try.prog 44 #[.int .i64 n, .int .i64 policy, .slice B reqs.length d] W fun e w' => e = .returned (.tuple #[.int .i64 y, .bool ok]) ∧ Below W.heap.size W w'))
    (HH : Hid (∀ (B : Option Addr) (d : Nat) (W : World), Law.Row W B (ivs reqs) → Calls Try.prog 45 #[.int .i64 n, .int .i64 policy, .slice B reqs.length d] W fun e w' => e = .returned (.tuple #[.int .i64 y, .bool ok]) ∧ Below W.heap.size W w')) :
    Calls Try.prog 11 #[.int .i64 n, .int .i64 policy, .slice A0 reqs.length c0] w fun e w' => e = .returned (.bool true) ∧ Below w.heap.size w w' := by
  have hI : (reqs.length : Int) ≤ 1048576 := by omega
  go_enter Try.func11, Try.ntmps11
  go_wp2_with fail
  go_at_call 23
  refine (toInt_any A0 c0 reqs _ hn HR.out).mono ?_
  rintro e w1 ⟨v1, rfl, ho, hb⟩
  have B1 : Hid (Below w.heap.size w w1) := by first | exact hb | exact Law.undraw hb
  obtain ⟨A1, c1, rfl, hc1, _, _⟩ := Law.own_len ho
  have F1 := Lib.hid (Law.Row.own ho)
  clear ho hb
  go_wp2_with fail
  go_at_call 44
  refine (HG.out A1 c1 _ F1.out).mono ?_
  rintro e w2 ⟨rfl, hb⟩
  have B2 : Hid (Below w.heap.size w w2) := Law.then_ B1.out (by first | exact hb | exact Law.undraw hb)
  clear hb
  go_wp2_with fail
  go_at_call 23
  refine (toInt_any A0 c0 reqs _ hn (HR.out.stays B2.out)).mono ?_
  rintro e w3 ⟨v3, rfl, ho, hb⟩
  have B3 : Hid (Below w.heap.size w w3) := Law.then_ B2.out (by first | exact hb | exact Law.undraw hb)
  obtain ⟨A2, c2, rfl, hc2, _, _⟩ := Law.own_len ho
  have F2 := Lib.hid ho
  clear ho hb
  go_wp2_with fail
  go_at_call 45
  refine (HH.out A2 c2 _ (Law.Row.own F2.out)).mono ?_
  rintro e w4 ⟨rfl, hb⟩
  have B4 : Hid (Below w.heap.size w w4) := Law.then_ B3.out (by first | exact hb | exact Law.undraw hb)
  have F3 := Lib.hid (own_on F2.out hb)
  clear hb
  cases ok
  all_goals
    go_wp2_with fail
    go_at_call 23
    refine (toInt_any A0 c0 reqs _ hn (HR.out.stays B4.out)).mono ?_
    rintro e w6 ⟨v6, rfl, ho, hb⟩
    have B6 : Hid (Below w.heap.size w w6) := Law.then_ B4.out (by first | exact hb | exact Law.undraw hb)
    obtain ⟨A3, c3, rfl, hc3, _, _⟩ := Law.own_len ho
    have F5 := Lib.hid (Law.Row.own ho)
    have F6 := Lib.hid (Law.Row.own (own_on F3.out hb))
    clear ho hb
    go_wp2_with fail
    go_at_call 25
    refine (eqInt_same A2 A3 c2 c3 reqs _ (by omega) F6.out F5.out).mono ?_
    rintro e we ⟨rfl, m, rfl⟩
    go_wp2
    go_ret
    exact ⟨rfl, Law.up B6.out _⟩
theorem walk (n : Int) (policy : Int) (Areqs : Option Addr) (nreqs creqs : Nat) (reqs : List Int) (w : World) (hn : (Lit.int .i64 n).wf = true) (hpolicy : (Lit.int .i64 policy).wf = true) (hreqs : reqs.length = nreqs ∧ nreqs ≤ creqs ∧ creqs ≤ maxLen ∧ (∀ z ∈ reqs, (Lit.int .i64 z).wf = true) ∧ Law.Row w Areqs (reqs.map (Value.int .i64))) (hL : laidMetH Try.prog Rows.fnExactAnomalyOfRow.laid w) (hsh : w.ShapedOpen Try.prog) :
    Calls Try.prog 11 #[.int .i64 n, .int .i64 policy, .slice Areqs nreqs creqs] w fun e w' => e = .returned (.bool true) ∧ Below w.heap.size w w' := by
  obtain ⟨rfl, hA, hB, _, hr⟩ := hreqs
  clear hL hsh
  by_cases hl : reqs.length ≤ 1048576
  · exact walk_core n policy reqs Areqs creqs ((Q.anoQ n policy reqs)).1 ((Q.anoQ n policy reqs)).2 w hl hr (fun B d W h => specAno_any n policy reqs B d hl W h) (fun B d W h => impAno_any n policy reqs B d hl W h)
  · have hI : ¬ (reqs.length : Int) ≤ 1048576 := by omega
    clear hr
    go_enter Try.func11, Try.ntmps11
    go_wp2
    go_ret
    exact ⟨rfl, Below.refl _ _⟩
theorem lawOwn : ownKnob Try.prog.godebug = none := by kernel_rfl
theorem lawLaidOut : laidOutB Try.prog = true := by kernel_rfl
set_option maxRecDepth 100000 in
theorem contract (H : Type) (enc : TypeId × Value → H) (W : World) (base : Nat) (args : Array Value) (ds : List (DataW H)) (gs : List (DataW H)) (before : List MemPlace)
    (hval0 : ∀ (j : Nat) t v, Try.f11.params[j]? = some t → args[j]? = some v → Value.okWide Try.prog W .any base t v)
    (hW : DataW.Whole enc Try.prog Try.f11.params.toList Rows.fnExactAnomalyOfSpec.vars false W args.toList ds gs before) (hL : laidMetH Try.prog Rows.fnExactAnomalyOfRow.laid W) (hsh : W.ShapedOpen Try.prog) :
    Calls Try.prog 11 args W fun e W' => ∃ v, e = .returned v ∧ Rows.fnExactAnomalyOfSpec.post enc Try.prog Try.f11 false true false false W args v W' := by
  have hval : ∀ (j : Nat) t v, Try.f11.params[j]? = some t → args[j]? = some v → Value.okWide Try.prog W .any base t v := hval0
  have hW' := hW
  obtain ⟨p, q, hA0, hV, rfl, hfz, hnd⟩ := hW
  have hA : DataW.TrodAll enc Try.prog W 0 (fun _ => true) true Try.f11.params.toList args.toList ds p := hA0
  rw [Try.params11] at hA hval
  obtain ⟨v0, vs0, d0, ds0, p0, q0, hargs0, rfl, rfl, h0, r0⟩ := trodAll_cons hA
  obtain ⟨v1, vs1, d1, ds1, p1, q1, hargs1, rfl, rfl, h1, r1⟩ := trodAll_cons r0
  obtain ⟨v2, vs2, d2, ds2, p2, q2, hargs2, rfl, rfl, h2, r2⟩ := trodAll_cons r1
  obtain ⟨rfl, rfl, rfl⟩ := trodAll_nil r2
  obtain rfl : args = #[v0, v1, v2] := by cases args; simp_all
  obtain ⟨rfl, rfl⟩ := trodVars_none hV
  obtain ⟨a0, rfl, rfl, rfl, w0⟩ := open_int Try.underlying3 (hval 0 3 v0 rfl rfl) h0
  obtain ⟨a1, rfl, rfl, rfl, w1⟩ := open_int Try.underlying3 (hval 1 3 v1 rfl rfl) h1
  obtain ⟨A2, n2, c2, xs2, rfl, w2⟩ := Law.in_ints Try.underlying22 Try.underlying3 (by kernel_rfl) (hval 2 22 v2 rfl rfl) h2 (fun x hx => hW'.lt x (by simp [hx]))
  clear hA0 hval0
  refine (walk a0 a1 A2 n2 c2 xs2 W w0 w1 w2 hL hsh).mono fun e W' ⟨he, hb⟩ => ?_
  subst he
  exact ⟨_, rfl, Law.close hW' rfl rfl lawLaidOut (by kernel_rfl) Try.underlying4 (by kernel_rfl) hb⟩
theorem reads (os : Os) {H : Type} (enc : TypeId × Value → H) : ∃ places, DataW.whole enc Try.prog ((World.holding Try.prog os ⟨#[], #[], []⟩).forCall (fun _ _ => 0) ⟨#[], #[.int .i64 0, .int .i64 0, .slice none 0 0], []⟩).memory Try.f11.params.toList Rows.fnExactAnomalyOfSpec.vars false (#[.int .i64 0, .int .i64 0, .slice none 0 0] : Array Value).toList 8 = some ([.lit (.int .i64 0), .lit (.int .i64 0), .nil], [], places) :=
  ⟨[], by kernel_rfl⟩
set_option maxRecDepth 100000 in
theorem lifted (os : Os) (started : os.Started) (H : Type) (enc : TypeId × Value → H) (F : Stop.Interp) :
    ReturnsInHanded {} Try.checked os 11 .any ((OpenSpec.ofChange Rows.fnExactAnomalyOfSpec).preRow enc Try.prog Try.f11 Rows.fnExactAnomalyOfRow.domain false Rows.fnExactAnomalyOfRow.laid) (((OpenSpec.ofChange Rows.fnExactAnomalyOfSpec).at F).post enc Try.prog Try.f11 false true false false) := by
  obtain ⟨places, hx⟩ := reads os enc
  refine returnsInHanded_of_row (C := Try.checked) (s := OpenSpec.ofChange Rows.fnExactAnomalyOfSpec) lawOwn started (by kernel_rfl) Try.func11
    (witness_row_at (enc := enc) (C := Try.checked) false (World.holding Try.prog os ⟨#[], #[], []⟩) #[.int .i64 0, .int .i64 0, .slice none 0 0] rfl (by kernel_rfl) (by kernel_rfl) (by kernel_rfl)
      (OpenSpec.preRow_of_cond 8 hx (by kernel_rfl) (fun k hk => by cases hk) (by kernel_rfl) (laidMet_nil _ _))) ?_
  intro W base args ds gs before hval hW _ _ _ hL hsh _
  exact contract H enc W base args ds gs before hval hW hL hsh
theorem proved : Rows.FnExactAnomalyOfSaid :=
  OpenClaim.holds_of_cond 11 Try.f11 rfl rfl rfl rfl rfl rfl rfl ⟨rfl, rfl, rfl, rfl, rfl⟩ rfl rfl rfl rfl rfl (by kernel_rfl) Try.func11 (by kernel_rfl)
    (of_decide_eq_true (by kernel_rfl)) (by unfold Func.isWrapper; first | (rw [if_pos (by decide +kernel)]; kernel_rfl) | (rw [if_neg (by decide +kernel)]; exact ⟨rfl, rfl⟩))
    (fun os started H enc _ F => by rw [OpenClaim.pre_eq_preRow]; exact lifted os started H enc F)
end LAnomalyOf
end Go.Proofs.Ytdjafooabpcbmaa
