/-
  FnExactRowDistance: RowDistance answers as the model does, whatever it is given, and writes into no argument.
  Conditions: none.
-/
import Derived.Test.YtndjpkeenbbgiaaRows
import Derived.Test.YtndjpkeenbbgiaaChecked
import Derived.Test.YtndjpkeenbbgiaaRd
import Derived.Test.YtndjpkeenbbgiaaRdI
import Derived.Test.YtndjpkeenbbgiaaMarkI
import Derived.Deep.DeepHandedRow
import Derived.Stop.Joined
namespace Go.Proofs.Ytndjpkeenbbgiaa
open Go.RowKit Go.ChangeShapes Go.WideShapes
set_option linter.unusedVariables false
namespace LRowDistance
set_option maxHeartbeats 6400000 in
theorem walk_core (a : List Int) (b : List Int) (Aa : Option Addr) (ca : Nat) (Ab : Option Addr) (cb : Nat) (y : Int) (ok : Bool) (w : World) (hna : a.length ≤ 1048576) (hnb : b.length ≤ 1048576) (HRa : Hid (Law.Row w Aa (ivs a))) (HRb : Hid (Law.Row w Ab (ivs b)))
    (HG : Hid (∀ (Ba : Option Addr) (da : Nat) (Bb : Option Addr) (db : Nat) (W : World), Law.Row W Ba (ivs a) → Law.Row W Bb (ivs b) → Calls Try.prog 21 #[.slice Ba a.length da, .slice Bb b.length db] W fun e w' => e = .returned (.tuple #[.int .i64 y, .bool ok]) ∧ Below W.heap.size W w'))
    (HH : Hid (∀ (Ba : Option Addr) (da : Nat) (Bb : Option Addr) (db : Nat) (W : World), Law.Row W Ba (ivs a) → Law.Row W Bb (ivs b) → Calls Try.prog 22 #[.slice Ba a.length da, .slice Bb b.length db] W fun e w' => e = .returned (.tuple #[.int .i64 y, .bool ok]) ∧ Below W.heap.size W w')) :
    Calls Try.prog 4 #[.slice Aa a.length ca, .slice Ab b.length cb] w fun e w' => e = .returned (.bool true) ∧ Below w.heap.size w w' := by
  have hIa : (a.length : Int) ≤ 1048576 := by omega
  have hIb : (b.length : Int) ≤ 1048576 := by omega
  go_enter Try.func4, Try.ntmps4
  go_wp2_with fail
  go_at_call 16
  refine (toInt_any Aa ca a _ hna HRa.out).mono ?_
  rintro e w1 ⟨v1, rfl, ho, hb⟩
  have hoaa : w1.ownsRow w.heap.size 3 1 v1 a.length (ivs a) := ho
  obtain ⟨Aaa, caa, rfl, hcaa, _, _⟩ := Law.own_len hoaa
  have Iaa : Hid (In w.heap.size w1.heap.size Aaa) := In.of hoaa
  clear ho
  have hz1 : Below w.heap.size w w1 := by first | exact hb | exact Law.undraw hb
  have S1 : Hid (w.heap.size ≤ w1.heap.size) := hz1.size
  have B1 : Hid (Below w.heap.size w w1) := hz1
  clear hz1
  clear hb
  have Faa_1 := Lib.hid hoaa
  clear hoaa
  go_wp2_with fail
  go_at_call 16
  refine (toInt_any Ab cb b _ hnb (HRb.out.stays B1.out)).mono ?_
  rintro e w2 ⟨v2, rfl, ho, hb⟩
  have hoab : w2.ownsRow w1.heap.size 3 1 v2 b.length (ivs b) := ho
  obtain ⟨Aab, cab, rfl, hcab, _, _⟩ := Law.own_len hoab
  have Iab : Hid (In w1.heap.size w2.heap.size Aab) := In.of hoab
  clear ho
  have hz2 : Below w1.heap.size w1 w2 := by first | exact hb | exact Law.undraw hb
  have S2 : Hid (w1.heap.size ≤ w2.heap.size) := hz2.size
  have B2 : Hid (Below w.heap.size w w2) := Law.then_ B1.out hz2
  have Faa_2 := Lib.hid (own_on Faa_1.out hz2)
  clear hz2
  clear hb
  have Fab_2 := Lib.hid hoab
  clear hoab
  go_wp2_with fail
  go_at_call 21
  refine (HG.out Aaa caa Aab cab _ (Law.Row.own Faa_2.out) (Law.Row.own Fab_2.out)).mono ?_
  rintro e w3 ⟨rfl, hb⟩
  have hz3 : Below w2.heap.size w2 w3 := by first | exact hb | exact Law.undraw hb
  have S3 : Hid (w2.heap.size ≤ w3.heap.size) := hz3.size
  have B3 : Hid (Below w.heap.size w w3) := Law.then_ B2.out hz3
  have Faa_3 := Lib.hid (own_on Faa_2.out hz3)
  have Fab_3 := Lib.hid (own_on Fab_2.out hz3)
  clear hz3
  clear hb
  go_wp2_with fail
  go_at_call 16
  refine (toInt_any Aa ca a _ hna (HRa.out.stays B3.out)).mono ?_
  rintro e w4 ⟨v4, rfl, ho, hb⟩
  have hoxa : w4.ownsRow w3.heap.size 3 1 v4 a.length (ivs a) := ho
  obtain ⟨Axa, cxa, rfl, hcxa, _, _⟩ := Law.own_len hoxa
  have Ixa : Hid (In w3.heap.size w4.heap.size Axa) := In.of hoxa
  clear ho
  have hz4 : Below w3.heap.size w3 w4 := by first | exact hb | exact Law.undraw hb
  have S4 : Hid (w3.heap.size ≤ w4.heap.size) := hz4.size
  have B4 : Hid (Below w.heap.size w w4) := Law.then_ B3.out hz4
  clear hz4
  clear hb
  have Fxa_4 := Lib.hid hoxa
  clear hoxa
  go_wp2_with fail
  go_at_call 16
  refine (toInt_any Ab cb b _ hnb (HRb.out.stays B4.out)).mono ?_
  rintro e w5 ⟨v5, rfl, ho, hb⟩
  have hoxb : w5.ownsRow w4.heap.size 3 1 v5 b.length (ivs b) := ho
  obtain ⟨Axb, cxb, rfl, hcxb, _, _⟩ := Law.own_len hoxb
  have Ixb : Hid (In w4.heap.size w5.heap.size Axb) := In.of hoxb
  clear ho
  have hz5 : Below w4.heap.size w4 w5 := by first | exact hb | exact Law.undraw hb
  have S5 : Hid (w4.heap.size ≤ w5.heap.size) := hz5.size
  have B5 : Hid (Below w.heap.size w w5) := Law.then_ B4.out hz5
  have Fxa_5 := Lib.hid (own_on Fxa_4.out hz5)
  clear hz5
  clear hb
  have Fxb_5 := Lib.hid hoxb
  clear hoxb
  go_wp2_with fail
  go_at_call 22
  refine (HH.out Axa cxa Axb cxb _ (Law.Row.own Fxa_5.out) (Law.Row.own Fxb_5.out)).mono ?_
  rintro e w6 ⟨rfl, hb⟩
  have hz6 : Below w5.heap.size w5 w6 := by first | exact hb | exact Law.undraw hb
  have S6 : Hid (w5.heap.size ≤ w6.heap.size) := hz6.size
  have B6 : Hid (Below w.heap.size w w6) := Law.then_ B5.out hz6
  have Fxa_6 := Lib.hid (own_on Fxa_5.out hz6)
  have Fxb_6 := Lib.hid (own_on Fxb_5.out hz6)
  clear hz6
  clear hb
  all_goals cases ok
  all_goals
    go_wp2_with fail
    go_at_call 16
    refine (toInt_any Aa ca a _ hna (HRa.out.stays B6.out)).mono ?_
    rintro e w7 ⟨v7, rfl, ho, hb⟩
    have hoya : w7.ownsRow w6.heap.size 3 1 v7 a.length (ivs a) := ho
    obtain ⟨Aya, cya, rfl, hcya, _, _⟩ := Law.own_len hoya
    have Iya : Hid (In w6.heap.size w7.heap.size Aya) := In.of hoya
    clear ho
    have hz7 : Below w6.heap.size w6 w7 := by first | exact hb | exact Law.undraw hb
    have S7 : Hid (w6.heap.size ≤ w7.heap.size) := hz7.size
    have B7 : Hid (Below w.heap.size w w7) := Law.then_ B6.out hz7
    have Fxa_7 := Lib.hid (own_on Fxa_6.out hz7)
    have Fxb_7 := Lib.hid (own_on Fxb_6.out hz7)
    clear hz7
    clear hb
    have Fya_7 := Lib.hid hoya
    clear hoya
    go_wp2_with fail
    go_at_call 18
    refine (eqInt_same Axa Aya cxa cya a _ (by omega) (Law.Row.own Fxa_7.out) (Law.Row.own Fya_7.out)).mono ?_
    rintro e we1 ⟨rfl, m1, rfl⟩
    go_wp2_with fail
    go_at_call 16
    refine (toInt_any Ab cb b _ hnb (Law.Row.drewN ((HRb.out.stays B7.out)) m1)).mono ?_
    rintro e w8 ⟨v8, rfl, ho, hb⟩
    have hoyb : w8.ownsRow w7.heap.size 3 1 v8 b.length (ivs b) := ho
    obtain ⟨Ayb, cyb, rfl, hcyb, _, _⟩ := Law.own_len hoyb
    have Iyb : Hid (In w7.heap.size w8.heap.size Ayb) := In.of hoyb
    clear ho
    have hz8 : Below w7.heap.size w7 w8 := by first | exact hb | exact Law.undraw hb
    have S8 : Hid (w7.heap.size ≤ w8.heap.size) := hz8.size
    have B8 : Hid (Below w.heap.size w w8) := Law.then_ B7.out hz8
    have Fxa_8 := Lib.hid (own_on Fxa_7.out hz8)
    have Fxb_8 := Lib.hid (own_on Fxb_7.out hz8)
    clear hz8
    clear hb
    have Fyb_8 := Lib.hid hoyb
    clear hoyb
    go_wp2_with fail
    go_at_call 18
    refine (eqInt_same Axb Ayb cxb cyb b _ (by omega) (Law.Row.own Fxb_8.out) (Law.Row.own Fyb_8.out)).mono ?_
    rintro e we2 ⟨rfl, m2, rfl⟩
    go_wp2
    go_ret
    exact ⟨rfl, Law.up B8.out _⟩
theorem walk (Aa : Option Addr) (na ca : Nat) (a : List Int) (Ab : Option Addr) (nb cb : Nat) (b : List Int) (w : World) (ha : a.length = na ∧ na ≤ ca ∧ ca ≤ maxLen ∧ (∀ z ∈ a, (Lit.int .i64 z).wf = true) ∧ Law.Row w Aa (a.map (Value.int .i64))) (hb : b.length = nb ∧ nb ≤ cb ∧ cb ≤ maxLen ∧ (∀ z ∈ b, (Lit.int .i64 z).wf = true) ∧ Law.Row w Ab (b.map (Value.int .i64))) (hL : laidMetH Try.prog Rows.fnExactRowDistanceRow.laid w) (hsh : w.ShapedOpen Try.prog) :
    Calls Try.prog 4 #[.slice Aa na ca, .slice Ab nb cb] w fun e w' => e = .returned (.bool true) ∧ Below w.heap.size w w' := by
  obtain ⟨rfl, hAa, hBa, _, hra⟩ := ha
  obtain ⟨rfl, hAb, hBb, _, hrb⟩ := hb
  clear hL hsh
  by_cases hla : a.length ≤ 1048576
  · skip
    by_cases hlb : b.length ≤ 1048576
    · skip
      exact walk_core a b Aa ca Ab cb ((Q.rdQ a b)).1 ((Q.rdQ a b)).2 w hla hlb hra hrb (fun Ba da Bb db W ha hb => specRd_any a b Ba Bb da db hla hlb W ha hb) (fun Ba da Bb db W ha hb => impRd_any a b Ba Bb da db hla hlb W ha hb)
    · have hIb : ¬ (b.length : Int) ≤ 1048576 := by omega
      have hIa : (a.length : Int) ≤ 1048576 := by omega
      clear hra hrb
      go_enter Try.func4, Try.ntmps4
      go_wp2
      go_ret
      exact ⟨rfl, Below.refl _ _⟩
  · have hIa : ¬ (a.length : Int) ≤ 1048576 := by omega
    clear hra hrb
    go_enter Try.func4, Try.ntmps4
    go_wp2
    go_ret
    exact ⟨rfl, Below.refl _ _⟩
theorem lawOwn : ownKnob Try.prog.godebug = none := by kernel_rfl
theorem lawLaidOut : laidOutB Try.prog = true := by kernel_rfl
set_option maxRecDepth 100000 in
theorem contract (H : Type) (enc : TypeId × Value → H) (W : World) (base : Nat) (args : Array Value) (ds : List (DataW H)) (gs : List (DataW H)) (before : List MemPlace)
    (hval0 : ∀ (j : Nat) t v, Try.f4.params[j]? = some t → args[j]? = some v → Value.okWide Try.prog W .any base t v)
    (hW : DataW.Whole enc Try.prog Try.f4.params.toList Rows.fnExactRowDistanceSpec.vars false W args.toList ds gs before) (hL : laidMetH Try.prog Rows.fnExactRowDistanceRow.laid W) (hsh : W.ShapedOpen Try.prog) :
    Calls Try.prog 4 args W fun e W' => ∃ v, e = .returned v ∧ Rows.fnExactRowDistanceSpec.post enc Try.prog Try.f4 false true false false W args v W' := by
  have hval : ∀ (j : Nat) t v, Try.f4.params[j]? = some t → args[j]? = some v → Value.okWide Try.prog W .any base t v := hval0
  have hW' := hW
  obtain ⟨p, q, hA0, hV, rfl, hfz, hnd⟩ := hW
  have hA : DataW.TrodAll enc Try.prog W 0 (fun _ => true) true Try.f4.params.toList args.toList ds p := hA0
  rw [Try.params4] at hA hval
  obtain ⟨v0, vs0, d0, ds0, p0, q0, hargs0, rfl, rfl, h0, r0⟩ := trodAll_cons hA
  obtain ⟨v1, vs1, d1, ds1, p1, q1, hargs1, rfl, rfl, h1, r1⟩ := trodAll_cons r0
  obtain ⟨rfl, rfl, rfl⟩ := trodAll_nil r1
  obtain rfl : args = #[v0, v1] := by cases args; simp_all
  obtain ⟨rfl, rfl⟩ := trodVars_none hV
  obtain ⟨A0, n0, c0, xs0, rfl, w0⟩ := Law.in_ints Try.underlying22 Try.underlying3 (by kernel_rfl) (hval 0 22 v0 rfl rfl) h0 (fun x hx => hW'.lt x (by simp [hx]))
  obtain ⟨A1, n1, c1, xs1, rfl, w1⟩ := Law.in_ints Try.underlying22 Try.underlying3 (by kernel_rfl) (hval 1 22 v1 rfl rfl) h1 (fun x hx => hW'.lt x (by simp [hx]))
  clear hA0 hval0
  refine (walk A0 n0 c0 xs0 A1 n1 c1 xs1 W w0 w1 hL hsh).mono fun e W' ⟨he, hb⟩ => ?_
  subst he
  exact ⟨_, rfl, Law.close hW' rfl rfl lawLaidOut (by kernel_rfl) Try.underlying4 (by kernel_rfl) hb⟩
theorem reads (os : Os) {H : Type} (enc : TypeId × Value → H) : ∃ places, DataW.whole enc Try.prog ((World.holding Try.prog os ⟨#[], #[], []⟩).forCall (fun _ _ => 0) ⟨#[], #[.slice none 0 0, .slice none 0 0], []⟩).memory Try.f4.params.toList Rows.fnExactRowDistanceSpec.vars false (#[.slice none 0 0, .slice none 0 0] : Array Value).toList 8 = some ([.nil, .nil], [], places) :=
  ⟨[], by kernel_rfl⟩
set_option maxRecDepth 100000 in
theorem lifted (os : Os) (started : os.Started) (H : Type) (enc : TypeId × Value → H) (F : Stop.Interp) :
    ReturnsInHanded {} Try.checked os 4 .any ((OpenSpec.ofChange Rows.fnExactRowDistanceSpec).preRow enc Try.prog Try.f4 Rows.fnExactRowDistanceRow.domain false Rows.fnExactRowDistanceRow.laid) (((OpenSpec.ofChange Rows.fnExactRowDistanceSpec).at F).post enc Try.prog Try.f4 false true false false) := by
  obtain ⟨places, hx⟩ := reads os enc
  refine returnsInHanded_of_row (C := Try.checked) (s := OpenSpec.ofChange Rows.fnExactRowDistanceSpec) lawOwn started (by kernel_rfl) Try.func4
    (witness_row_at (enc := enc) (C := Try.checked) false (World.holding Try.prog os ⟨#[], #[], []⟩) #[.slice none 0 0, .slice none 0 0] rfl (by kernel_rfl) (by kernel_rfl) (by kernel_rfl)
      (OpenSpec.preRow_of_cond 8 hx (by kernel_rfl) (fun k hk => by cases hk) (by kernel_rfl) (laidMet_nil _ _))) ?_
  intro W base args ds gs before hval hW _ _ _ hL hsh _
  exact contract H enc W base args ds gs before hval hW hL hsh
theorem proved : Rows.FnExactRowDistanceSaid :=
  OpenClaim.holds_of_cond 4 Try.f4 rfl rfl rfl rfl rfl rfl rfl ⟨rfl, rfl, rfl, rfl, rfl⟩ rfl rfl rfl rfl rfl (by kernel_rfl) Try.func4 (by kernel_rfl)
    (of_decide_eq_true (by kernel_rfl)) (by unfold Func.isWrapper; first | (rw [if_pos (by decide +kernel)]; kernel_rfl) | (rw [if_neg (by decide +kernel)]; exact ⟨rfl, rfl⟩))
    (fun os started H enc _ F => by rw [OpenClaim.pre_eq_preRow]; exact lifted os started H enc F)
end LRowDistance
end Go.Proofs.Ytndjpkeenbbgiaa
