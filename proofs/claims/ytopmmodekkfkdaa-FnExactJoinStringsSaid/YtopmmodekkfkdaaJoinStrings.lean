/-
  PROVED HERE: 'Rows.FnExactJoinStringsSaid': the law FnExactJoinStrings returns true for every slice of strings and every string, and both read afterwards as before. Conditions: none but the row's own cells.
-/
import Derived.Test.YtopmmodekkfkdaaJoin
import Derived.Deep.DeepHandedRow
import Derived.Stop.Joined
namespace Go.Proofs.Ytopmmodekkfkdaa.joinStrings
open Go.ChangeShapes Go.WideShapes Go.ChangeAt Go.RowKit
open Go.ChangeMaps (open_string shut_string)
set_option linter.unusedVariables false
theorem tot_each {ss : List ByteArray} {B : Nat} (h : tot ss ss.length ≤ B) : ∀ s ∈ ss, s.size ≤ B := fun s hs => by
  obtain ⟨k, hk, e⟩ := List.getElem_of_mem hs
  have := tot_le hk
  rw [e] at this
  omega
theorem implJoin_any (A : Option Addr) (c : Nat) (ss : List ByteArray) (sep : ByteArray) (w : World) (hc : ss.length ≤ c) (hn : ss.length ≤ 1048576) (hz : ∀ s ∈ ss, s.size ≤ 1048576) (hr : Law.Row w A (svs ss)) :
    Calls Try.prog 12 #[.slice A ss.length c, .string sep] w fun e w' => e = .returned (.tuple #[.string (jq ss sep).1, .bool (jq ss sep).2]) ∧ Below w.heap.size w w' := by
  by_cases h : ss.length = 0 ∨ sep.size ≠ 1
  · rw [jq_bad h]
    exact (implJoin_bad A c ss sep w h).mono fun e w' ⟨he, hw⟩ => ⟨he, hw ▸ Below.refl _ _⟩
  · have h0 : 0 < sep.size := by omega
    rw [jq_good h h0]
    exact implJoin_good A c ss sep w hc hn (by omega) hz h0 (by omega) hr
theorem specJoin_any (A : Option Addr) (c : Nat) (ss : List ByteArray) (sep : ByteArray) (w : World) (hn : ss.length ≤ 1048576) (hz : ∀ s ∈ ss, s.size ≤ 1048576) (hr : Law.Row w A (svs ss)) :
    Calls Try.prog 13 #[.slice A ss.length c, .string sep] w fun e w' => e = .returned (.tuple #[.string (jq ss sep).1, .bool (jq ss sep).2]) ∧ ∃ m, w' = w.drewN m := by
  by_cases h : ss.length = 0 ∨ sep.size ≠ 1
  · rw [jq_bad h]
    exact (specJoin_bad A c ss sep w h).mono fun e w' ⟨he, hw⟩ => ⟨he, 0, hw.symm⟩
  · have h0 : 0 < sep.size := by omega
    rw [jq_good h h0]
    exact specJoin_good A c ss sep w hn (by omega) hz h0 (by omega) hr
set_option maxHeartbeats 1600000 in
theorem walk_core (A : Option Addr) (c : Nat) (ss : List ByteArray) (sep : ByteArray) (w : World) (hc : ss.length ≤ c) (hn : ss.length ≤ 9223372036854775807) (hz : ∀ s ∈ ss, s.size ≤ 9223372036854775807) (hs : sep.size ≤ 9223372036854775807) (hr : Law.Row w A (svs ss)) :
    Calls Try.prog 5 #[.slice A ss.length c, .string sep] w fun e w' => e = .returned (.bool true) ∧ Below w.heap.size w w' := by
  have HR := Lib.hid hr
  have HZ := Lib.hid hz
  clear hr hz
  by_cases h1 : sep.size ≤ 1048576
  · go_enter Try.func5, Try.ntmps5
    go_wp2_with fail
    go_at_call 21
    refine (szStr_any A c ss 1048576 _ hn HZ.out (by omega) (by omega) HR.out).mono ?_
    rintro e w' ⟨r, rfl, rfl, hr1, hr2, hsz⟩
    by_cases hr0 : r < 0
    · have HS := Lib.hid hsz
      clear hsz
      go_wp2
      go_ret
      exact ⟨rfl, Below.refl _ _⟩
    · have hsz' := hsz (by omega)
      have HZ2 : Hid (∀ s ∈ ss, s.size ≤ 1048576) := tot_each (by omega)
      have hn2 : ss.length ≤ 1048576 := by omega
      clear hsz hsz'
      go_wp2_with fail
      go_at_call 22
      refine (toStr_any A c ss _ hn2 HR.out).mono ?_
      rintro e w1 ⟨v1, rfl, ho1, hb1⟩
      obtain ⟨A1, c1, rfl, hc1, _, _⟩ := Law.own_len ho1
      have R1 := Lib.hid (Law.Row.own ho1)
      have B1 := Lib.hid hb1
      clear ho1 hb1
      go_wp2_with fail
      go_at_call 13
      refine (specJoin_any A1 c1 ss sep _ hn2 HZ2.out R1.out).mono ?_
      rintro e w2 ⟨rfl, m, rfl⟩
      go_wp2_with fail
      go_at_call 22
      refine (toStr_any A c ss _ hn2 ((HR.out.stays B1.out).drewN m)).mono ?_
      rintro e w3 ⟨v3, rfl, ho3, hb3⟩
      obtain ⟨A3, c3, rfl, hc3, _, _⟩ := Law.own_len ho3
      have R3 := Lib.hid (Law.Row.own ho3)
      have B3 : Hid (Below w.heap.size w w3) := B1.out.trans ((Law.undraw hb3).mono B1.out.size)
      clear ho3 hb3
      go_wp2_with fail
      go_at_call 12
      refine (implJoin_any A3 c3 ss sep _ hc3 hn2 HZ2.out R3.out).mono ?_
      rintro e w4 ⟨rfl, hb4⟩
      have B4 : Hid (Below w.heap.size w w4) := B3.out.trans (hb4.mono B3.out.size)
      have R4 := Lib.hid (R3.out.stays hb4)
      clear hb4
      go_wp2_with fail
      go_at_call 22
      refine (toStr_any A c ss _ hn2 (HR.out.stays B4.out)).mono ?_
      rintro e w5 ⟨v5, rfl, ho5, hb5⟩
      obtain ⟨A5, c5, rfl, hc5, _, _⟩ := Law.own_len ho5
      have R5 := Lib.hid (Law.Row.own ho5)
      have R6 := Lib.hid (R4.out.stays hb5)
      have B5 : Hid (Below w.heap.size w w5) := B4.out.trans (hb5.mono B4.out.size)
      clear ho5 hb5
      go_wp2_with fail
      go_at_call 18
      refine (eqStr_same A3 A5 c3 c5 ss _ hn R6.out R5.out).mono ?_
      rintro e w6 ⟨rfl, m6, rfl⟩
      go_wp2
      go_ret
      exact ⟨rfl, B5.out.trans ⟨rfl, rfl, rfl, Nat.le_refl _, fun _ _ => rfl⟩⟩
  · go_enter Try.func5, Try.ntmps5
    go_wp2
    go_ret
    exact ⟨rfl, Below.refl _ _⟩
theorem walk (A : Option Addr) (n c : Nat) (ss : List ByteArray) (sep : ByteArray) (w : World) (h : ss.length = n ∧ n ≤ c ∧ c ≤ maxLen ∧ (∀ s ∈ ss, s.size ≤ maxLen) ∧ Law.Row w A (svs ss)) (hs : sep.size ≤ maxLen) (hL : laidMetH Try.prog Rows.fnExactJoinStringsRow.laid w) (hsh : w.ShapedOpen Try.prog) :
    Calls Try.prog 5 #[.slice A n c, .string sep] w fun e w' => e = .returned (.bool true) ∧ Below w.heap.size w w' := by
  obtain ⟨rfl, h1, h2, h3, h4⟩ := h
  unfold maxLen at h2 hs h3
  exact walk_core A c ss sep w h1 (by omega) h3 hs h4
theorem lawOwn : ownKnob Try.prog.godebug = none := by kernel_rfl
theorem lawLaidOut : laidOutB Try.prog = true := by kernel_rfl
theorem contract (H : Type) (enc : TypeId × Value → H) (W : World) (base : Nat) (args : Array Value) (ds : List (DataW H)) (gs : List (DataW H)) (before : List MemPlace)
    (hval0 : ∀ (j : Nat) t v, Try.f5.params[j]? = some t → args[j]? = some v → Value.okWide Try.prog W .any base t v)
    (hW : DataW.Whole enc Try.prog Try.f5.params.toList Rows.fnExactJoinStringsSpec.vars false W args.toList ds gs before) (hL : laidMetH Try.prog Rows.fnExactJoinStringsRow.laid W) (hsh : W.ShapedOpen Try.prog) :
    Calls Try.prog 5 args W fun e W' => ∃ v, e = .returned v ∧ Rows.fnExactJoinStringsSpec.post enc Try.prog Try.f5 false true false false W args v W' := by
  have hval : ∀ (j : Nat) t v, Try.f5.params[j]? = some t → args[j]? = some v → Value.okWide Try.prog W .any base t v := hval0
  have hW' := hW
  obtain ⟨p, q, hA0, hV, rfl, hfz, hnd⟩ := hW
  have hA : DataW.TrodAll enc Try.prog W 0 (fun _ => true) true Try.f5.params.toList args.toList ds p := hA0
  rw [Try.params5] at hA hval
  obtain ⟨v0, vs0, d0, ds0, p0, q0, hargs0, rfl, rfl, h0, r0⟩ := trodAll_cons hA
  obtain ⟨v1, vs1, d1, ds1, p1, q1, hargs1, rfl, rfl, h1, r1⟩ := trodAll_cons r0
  obtain ⟨rfl, rfl, rfl⟩ := trodAll_nil r1
  obtain rfl : args = #[v0, v1] := by cases args; simp_all
  obtain ⟨rfl, rfl⟩ := trodVars_none hV
  obtain ⟨A0, n0, c0, xs0, rfl, w0⟩ := Law.in_strings Try.underlying26 Try.underlying9 (by kernel_rfl) (hval 0 26 v0 rfl rfl) h0 (fun x hx => hW'.lt x (by simp [hx]))
  obtain ⟨a1, rfl, rfl, rfl, w1⟩ := open_string Try.underlying9 (hval 1 9 v1 rfl rfl) h1
  clear hA0 hval0
  refine (walk A0 n0 c0 xs0 a1 W w0 w1 hL hsh).mono fun e W' ⟨he, hb⟩ => ?_
  subst he
  exact ⟨_, rfl, Law.close hW' rfl rfl lawLaidOut (by kernel_rfl) Try.underlying4 (by kernel_rfl) hb⟩
theorem reads (os : Os) {H : Type} (enc : TypeId × Value → H) : ∃ places, DataW.whole enc Try.prog ((World.holding Try.prog os ⟨#[], #[], []⟩).forCall (fun _ _ => 0) ⟨#[], #[.slice none 0 0, .string ⟨#[]⟩], []⟩).memory Try.f5.params.toList Rows.fnExactJoinStringsSpec.vars false (#[.slice none 0 0, .string ⟨#[]⟩] : Array Value).toList 8 = some ([.nil, .lit (.string [])], [], places) :=
  ⟨[], by kernel_rfl⟩
set_option maxRecDepth 100000 in
theorem lifted (os : Os) (started : os.Started) (H : Type) (enc : TypeId × Value → H) (F : Stop.Interp) :
    ReturnsInHanded {} Try.checked os 5 .any ((OpenSpec.ofChange Rows.fnExactJoinStringsSpec).preRow enc Try.prog Try.f5 Rows.fnExactJoinStringsRow.domain false Rows.fnExactJoinStringsRow.laid) (((OpenSpec.ofChange Rows.fnExactJoinStringsSpec).at F).post enc Try.prog Try.f5 false true false false) := by
  obtain ⟨places, hx⟩ := reads os enc
  refine returnsInHanded_of_row (C := Try.checked) (s := OpenSpec.ofChange Rows.fnExactJoinStringsSpec) lawOwn started (by kernel_rfl) Try.func5
    (witness_row_at (enc := enc) (C := Try.checked) false (World.holding Try.prog os ⟨#[], #[], []⟩) #[.slice none 0 0, .string ⟨#[]⟩] rfl (by kernel_rfl) (by kernel_rfl) (by kernel_rfl)
      (OpenSpec.preRow_of_cond 8 hx (by kernel_rfl) (fun k hk => by cases hk) (by kernel_rfl) (laidMet_nil _ _))) ?_
  intro W base args ds gs before hval hW _ _ _ hL hsh _
  exact contract H enc W base args ds gs before hval hW hL hsh
theorem proved : Rows.FnExactJoinStringsSaid :=
  OpenClaim.holds_of_cond 5 Try.f5 rfl rfl rfl rfl rfl rfl rfl ⟨rfl, rfl, rfl, rfl, rfl⟩ rfl rfl rfl rfl rfl (by kernel_rfl) Try.func5 (by kernel_rfl)
    (of_decide_eq_true (by kernel_rfl)) (by unfold Func.isWrapper; first | (rw [if_pos (by decide +kernel)]; kernel_rfl) | (rw [if_neg (by decide +kernel)]; exact ⟨rfl, rfl⟩))
    (fun os started H enc _ F => by rw [OpenClaim.pre_eq_preRow]; exact lifted os started H enc F)
end Go.Proofs.Ytopmmodekkfkdaa.joinStrings
