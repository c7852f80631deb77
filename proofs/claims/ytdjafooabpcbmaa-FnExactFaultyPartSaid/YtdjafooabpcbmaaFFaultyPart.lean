/-
  FnExactFaultyPart: FaultyPart answers as the model does, whatever it is given, and writes into no argument.
  Conditions: none.
-/
import Derived.Test.YtdjafooabpcbmaaRows
import Derived.Test.YtdjafooabpcbmaaChecked
import Derived.Test.YtdjafooabpcbmaaFptS
import Derived.Test.YtdjafooabpcbmaaFptE
import Derived.Deep.DeepHandedRow
import Derived.Stop.Joined
namespace Go.Proofs.Ytdjafooabpcbmaa
open Go.RowKit Go.ChangeShapes Go.WideShapes
set_option linter.unusedVariables false
namespace LFaultyPart
set_option maxHeartbeats 3200000 in
theorem walk_core (n : Int) (policy : Int) (size : Int) (reqs : List Int) (A0 : Option Addr) (c0 : Nat) (y z : Int) (ok : Bool) (w : World) (hn : reqs.length ≤ 1048576) (HR : Hid (Law.Row w A0 (ivs reqs)))
    (HG : Hid (∀ (B : Option Addr) (d : Nat) (W : World), reqs.length ≤ d → Law.Row W B (ivs reqs) → Calls Try.prog 48 #[.int .i64 n, .int .i64 policy, .int .i64 size, .slice B reqs.length d] W fun e w' => e = .returned (.tuple #[.agg #[.int .i64 y, .int .i64 z], .bool ok]) ∧ Below W.heap.size W w'))
    (HH : Hid (∀ (B : Option Addr) (d : Nat) (W : World), reqs.length ≤ d → Law.Row W B (ivs reqs) → Calls Try.prog 49 #[.int .i64 n, .int .i64 policy, .int .i64 size, .slice B reqs.length d] W fun e w' => e = .returned (.tuple #[.agg #[.int .i64 y, .int .i64 z], .bool ok]) ∧ Below W.heap.size W w')) :
    Calls Try.prog 13 #[.int .i64 n, .int .i64 policy, .int .i64 size, .slice A0 reqs.length c0] w fun e w' => e = .returned (.bool true) ∧ Below w.heap.size w w' := by
  have hI : (reqs.length : Int) ≤ 1048576 := by omega
  go_enter Try.func13, Try.ntmps13
  go_wp2_with fail
  go_at_call 23
  refine (toInt_any A0 c0 reqs _ hn HR.out).mono ?_
  rintro e w1 ⟨v1, rfl, ho, hb⟩
  have B1 : Hid (Below w.heap.size w w1) := hb
  obtain ⟨A1, c1, rfl, hc1, _, _⟩ := Law.own_len ho
  have F1 := Lib.hid (Law.Row.own ho)
  clear ho hb
  go_wp2_with fail
  go_at_call 48
  refine (HG.out A1 c1 _ hc1 F1.out).mono ?_
  rintro e w2 ⟨rfl, hb⟩
  have B2 : Hid (Below w.heap.size w w2) := Law.then_ B1.out hb
  clear hb
  have b2 : Below w2.heap.size w2 (w2.alloc (.cells #[.int .i64 y, .int .i64 z] 58)) := (Below.refl _ _).alloc (Nat.le_refl _) _
  have K2 : Hid (Blk (w2.alloc (.cells #[.int .i64 y, .int .i64 z] 58)) w2.heap.size (.int .i64 y) (.int .i64 z)) := Lib.hid ⟨by simp, by simp, by simp, by simp⟩
  have B2b : Hid (Below w.heap.size w (w2.alloc (.cells #[.int .i64 y, .int .i64 z] 58))) := Lib.hid (Law.then_ B2.out b2)
  have hs2 : w2.heap.size < (w2.alloc (.cells #[.int .i64 y, .int .i64 z] 58)).heap.size := by simp
  clear b2
  go_wp2_with fail
  generalize w2.alloc (.cells #[.int .i64 y, .int .i64 z] 58) = w2b at K2 B2b hs2 ⊢
  go_wp2_with fail
  go_at_call 23
  refine (toInt_any A0 c0 reqs _ hn (HR.out.stays B2b.out)).mono ?_
  rintro e w3 ⟨v3, rfl, ho, hb⟩
  have B3 : Hid (Below w.heap.size w w3) := Law.then_ B2b.out hb
  obtain ⟨A2, c2, rfl, hc2, _, _⟩ := Law.own_len ho
  have F3 := Lib.hid ho
  have K3 := Lib.hid (K2.out.below hb hs2)
  have ht3 : w2.heap.size < w3.heap.size := Nat.lt_of_lt_of_le hs2 hb.size
  clear ho hb
  go_wp2_with fail
  go_at_call 49
  refine (HH.out A2 c2 _ hc2 (Law.Row.own F3.out)).mono ?_
  rintro e w4 ⟨rfl, hb⟩
  have B4 : Hid (Below w.heap.size w w4) := Law.then_ B3.out hb
  have F4 := Lib.hid (own_on F3.out hb)
  have K4o := Lib.hid (K3.out.below hb ht3)
  have ht4 : w2.heap.size < w4.heap.size := Nat.lt_of_lt_of_le ht3 hb.size
  clear hb
  have b4 : Below w4.heap.size w4 (w4.alloc (.cells #[.int .i64 y, .int .i64 z] 58)) := (Below.refl _ _).alloc (Nat.le_refl _) _
  have K4 : Hid (Blk (w4.alloc (.cells #[.int .i64 y, .int .i64 z] 58)) w4.heap.size (.int .i64 y) (.int .i64 z)) := Lib.hid ⟨by simp, by simp, by simp, by simp⟩
  have B4b : Hid (Below w.heap.size w (w4.alloc (.cells #[.int .i64 y, .int .i64 z] 58))) := Lib.hid (Law.then_ B4.out b4)
  have hs4 : w4.heap.size < (w4.alloc (.cells #[.int .i64 y, .int .i64 z] 58)).heap.size := by simp
  have F5 := Lib.hid (own_on F4.out b4)
  have K5 := Lib.hid (K4o.out.below b4 ht4)
  clear b4
  obtain ⟨k0, k1, _, _⟩ := K5.out
  obtain ⟨g0, g1, _, _⟩ := K4.out
  go_wp2_with fail
  generalize w4.alloc (.cells #[.int .i64 y, .int .i64 z] 58) = w4b at K4 B4b hs4 k0 k1 g0 g1 F5 K5 ⊢
  go_wp2_with fail
  go_at_call 50
  refine (eqA2_same y z _).mono ?_
  rintro e w6 ⟨rfl, hb⟩
  have B6 : Hid (Below w.heap.size w w6) := Law.then_ B4b.out hb
  have F6 := Lib.hid (own_on F5.out hb)
  have K6 := Lib.hid (K4.out.below hb hs4)
  clear hb k0 k1 g0 g1
  cases ok
  all_goals
    go_wp2_with fail
    go_at_call 23
    refine (toInt_any A0 c0 reqs _ hn (HR.out.stays B6.out)).mono ?_
    rintro e w7 ⟨v7, rfl, ho, hb⟩
    have B7 : Hid (Below w.heap.size w w7) := Law.then_ B6.out hb
    obtain ⟨A3, c3, rfl, hc3, _, _⟩ := Law.own_len ho
    have F7 := Lib.hid (Law.Row.own ho)
    have F8 := Lib.hid (Law.Row.own (own_on F6.out hb))
    clear ho hb
    go_wp2_with fail
    go_at_call 25
    refine (eqInt_same A2 A3 c2 c3 reqs _ (by omega) F8.out F7.out).mono ?_
    rintro e we ⟨rfl, m, rfl⟩
    go_wp2
    go_ret
    exact ⟨rfl, Law.up B7.out _⟩
theorem walk (n : Int) (policy : Int) (size : Int) (Areqs : Option Addr) (nreqs creqs : Nat) (reqs : List Int) (w : World) (hn : (Lit.int .i64 n).wf = true) (hpolicy : (Lit.int .i64 policy).wf = true) (hsize : (Lit.int .i64 size).wf = true) (hreqs : reqs.length = nreqs ∧ nreqs ≤ creqs ∧ creqs ≤ maxLen ∧ (∀ z ∈ reqs, (Lit.int .i64 z).wf = true) ∧ Law.Row w Areqs (reqs.map (Value.int .i64))) (hL : laidMetH Try.prog Rows.fnExactFaultyPartRow.laid w) (hsh : w.ShapedOpen Try.prog) :
    Calls Try.prog 13 #[.int .i64 n, .int .i64 policy, .int .i64 size, .slice Areqs nreqs creqs] w fun e w' => e = .returned (.bool true) ∧ Below w.heap.size w w' := by
  obtain ⟨rfl, hA, hB, _, hr⟩ := hreqs
  clear hL hsh
  by_cases hl : reqs.length ≤ 1048576
  · exact walk_core n policy size reqs Areqs creqs (Q.fptQ n policy size reqs).1.1 (Q.fptQ n policy size reqs).1.2 (Q.fptQ n policy size reqs).2 w hl hr (fun B d W hd h => specFpt_any n policy size reqs B d hd hl W h) (fun B d W hd h => impFpt_any n policy size reqs B d hd hl W h)
  · have hI : ¬ (reqs.length : Int) ≤ 1048576 := by omega
    clear hr
    go_enter Try.func13, Try.ntmps13
    go_wp2
    go_ret
    exact ⟨rfl, Below.refl _ _⟩
theorem lawOwn : ownKnob Try.prog.godebug = none := by kernel_rfl
theorem lawLaidOut : laidOutB Try.prog = true := by kernel_rfl
set_option maxRecDepth 100000 in
theorem contract (H : Type) (enc : TypeId × Value → H) (W : World) (base : Nat) (args : Array Value) (ds : List (DataW H)) (gs : List (DataW H)) (before : List MemPlace)
    (hval0 : ∀ (j : Nat) t v, Try.f13.params[j]? = some t → args[j]? = some v → Value.okWide Try.prog W .any base t v)
    (hW : DataW.Whole enc Try.prog Try.f13.params.toList Rows.fnExactFaultyPartSpec.vars false W args.toList ds gs before) (hL : laidMetH Try.prog Rows.fnExactFaultyPartRow.laid W) (hsh : W.ShapedOpen Try.prog) :
    Calls Try.prog 13 args W fun e W' => ∃ v, e = .returned v ∧ Rows.fnExactFaultyPartSpec.post enc Try.prog Try.f13 false true false false W args v W' := by
  have hval : ∀ (j : Nat) t v, Try.f13.params[j]? = some t → args[j]? = some v → Value.okWide Try.prog W .any base t v := hval0
  have hW' := hW
  obtain ⟨p, q, hA0, hV, rfl, hfz, hnd⟩ := hW
  have hA : DataW.TrodAll enc Try.prog W 0 (fun _ => true) true Try.f13.params.toList args.toList ds p := hA0
  rw [Try.params13] at hA hval
  obtain ⟨v0, vs0, d0, ds0, p0, q0, hargs0, rfl, rfl, h0, r0⟩ := trodAll_cons hA
  obtain ⟨v1, vs1, d1, ds1, p1, q1, hargs1, rfl, rfl, h1, r1⟩ := trodAll_cons r0
  obtain ⟨v2, vs2, d2, ds2, p2, q2, hargs2, rfl, rfl, h2, r2⟩ := trodAll_cons r1
  obtain ⟨v3, vs3, d3, ds3, p3, q3, hargs3, rfl, rfl, h3, r3⟩ := trodAll_cons r2
  obtain ⟨rfl, rfl, rfl⟩ := trodAll_nil r3
  obtain rfl : args = #[v0, v1, v2, v3] := by cases args; simp_all
  obtain ⟨rfl, rfl⟩ := trodVars_none hV
  obtain ⟨a0, rfl, rfl, rfl, w0⟩ := open_int Try.underlying3 (hval 0 3 v0 rfl rfl) h0
  obtain ⟨a1, rfl, rfl, rfl, w1⟩ := open_int Try.underlying3 (hval 1 3 v1 rfl rfl) h1
  obtain ⟨a2, rfl, rfl, rfl, w2⟩ := open_int Try.underlying3 (hval 2 3 v2 rfl rfl) h2
  obtain ⟨A3, n3, c3, xs3, rfl, w3⟩ := Law.in_ints Try.underlying22 Try.underlying3 (by kernel_rfl) (hval 3 22 v3 rfl rfl) h3 (fun x hx => hW'.lt x (by simp [hx]))
  clear hA0 hval0
  refine (walk a0 a1 a2 A3 n3 c3 xs3 W w0 w1 w2 w3 hL hsh).mono fun e W' ⟨he, hb⟩ => ?_
  subst he
  exact ⟨_, rfl, Law.close hW' rfl rfl lawLaidOut (by kernel_rfl) Try.underlying4 (by kernel_rfl) hb⟩
theorem reads (os : Os) {H : Type} (enc : TypeId × Value → H) : ∃ places, DataW.whole enc Try.prog ((World.holding Try.prog os ⟨#[], #[], []⟩).forCall (fun _ _ => 0) ⟨#[], #[.int .i64 0, .int .i64 0, .int .i64 0, .slice none 0 0], []⟩).memory Try.f13.params.toList Rows.fnExactFaultyPartSpec.vars false (#[.int .i64 0, .int .i64 0, .int .i64 0, .slice none 0 0] : Array Value).toList 8 = some ([.lit (.int .i64 0), .lit (.int .i64 0), .lit (.int .i64 0), .nil], [], places) :=
  ⟨[], by kernel_rfl⟩
set_option maxRecDepth 100000 in
theorem lifted (os : Os) (started : os.Started) (H : Type) (enc : TypeId × Value → H) (F : Stop.Interp) :
    ReturnsInHanded {} Try.checked os 13 .any ((OpenSpec.ofChange Rows.fnExactFaultyPartSpec).preRow enc Try.prog Try.f13 Rows.fnExactFaultyPartRow.domain false Rows.fnExactFaultyPartRow.laid) (((OpenSpec.ofChange Rows.fnExactFaultyPartSpec).at F).post enc Try.prog Try.f13 false true false false) := by
  obtain ⟨places, hx⟩ := reads os enc
  refine returnsInHanded_of_row (C := Try.checked) (s := OpenSpec.ofChange Rows.fnExactFaultyPartSpec) lawOwn started (by kernel_rfl) Try.func13
    (witness_row_at (enc := enc) (C := Try.checked) false (World.holding Try.prog os ⟨#[], #[], []⟩) #[.int .i64 0, .int .i64 0, .int .i64 0, .slice none 0 0] rfl (by kernel_rfl) (by kernel_rfl) (by kernel_rfl)
      (OpenSpec.preRow_of_cond 8 hx (by kernel_rfl) (fun k hk => by cases hk) (by kernel_rfl) (laidMet_nil _ _))) ?_
  intro W base args ds gs before hval hW _ _ _ hL hsh _
  exact contract H enc W base args ds gs before hval hW hL hsh
theorem proved : Rows.FnExactFaultyPartSaid :=
  OpenClaim.holds_of_cond 13 Try.f13 rfl rfl rfl rfl rfl rfl rfl ⟨rfl, rfl, rfl, rfl, rfl⟩ rfl rfl rfl rfl rfl (by kernel_rfl) Try.func13 (by kernel_rfl)
    (of_decide_eq_true (by kernel_rfl)) (by unfold Func.isWrapper; first | (rw [if_pos (by decide +kernel)]; kernel_rfl) | (rw [if_neg (by decide +kernel)]; exact ⟨rfl, rfl⟩))
    (fun os started H enc _ F => by rw [OpenClaim.pre_eq_preRow]; exact lifted os started H enc F)
end LFaultyPart
end Go.Proofs.Ytdjafooabpcbmaa
