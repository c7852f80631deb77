/-
  FnExactIsIsometry: IsIsometry answers as the model does, whatever it is given, and writes into no argument.
  Conditions: none.
-/
import Derived.Test.YtndjpkeenbbgiabRows
import Derived.Test.YtndjpkeenbbgiabChecked
import Derived.Test.YtndjpkeenbbgiabLawM
import Derived.Test.YtndjpkeenbbgiabMet
import Derived.Test.YtndjpkeenbbgiabTb
import Derived.Test.YtndjpkeenbbgiabMarkI
import Derived.Test.YtndjpkeenbbgiabIsoI
import Derived.Deep.DeepHandedRow
import Derived.Stop.Joined
namespace Go.Proofs.Ytndjpkeenbbgiab
open Go.RowKit Go.ChangeShapes Go.WideShapes
set_option linter.unusedVariables false
namespace LIsIsometry
set_option maxRecDepth 20000 in
set_option maxHeartbeats 6400000 in
theorem walk_core (A0 : Option Addr) (c0 : Nat) (xs0 : List Value) (L : List (List Int)) (to : List Int) (Ato : Option Addr) (cto : Nat) (y z : Bool) (w : World) (hs : szOk L = true) (hn0 : L.length ≤ maxLen) (hl0 : ∀ l ∈ L, l.length ≤ maxLen) (h : NRow w A0 xs0 L) (hnto : to.length ≤ 1048576) (HRto : Hid (Law.Row w Ato (ivs to)))
    (HG : Hid (∀ (A : Option Addr) (c : Nat) (xs : List Value) (Bto : Option Addr) (dto : Nat) (W : World), NRow W A xs L → Law.Row W Bto (ivs to) → Calls Try.prog 24 #[mv A L.length c, .slice Bto to.length dto] W fun r W' => r = .returned (.tuple #[.bool y, .bool z]) ∧ Below W.heap.size W W'))
    (HH : Hid (∀ (A : Option Addr) (c : Nat) (xs : List Value) (Bto : Option Addr) (dto : Nat) (W : World), NRow W A xs L → Law.Row W Bto (ivs to) → Calls Try.prog 26 #[mv A L.length c, .slice Bto to.length dto] W fun r W' => r = .returned (.tuple #[.bool y, .bool z]) ∧ Below W.heap.size W W')) :
    Calls Try.prog 4 #[mv A0 L.length c0, .slice Ato to.length cto] w fun e w' => e = .returned (.bool true) ∧ Below w.heap.size w w' := by
  have hIto : (to.length : Int) ≤ 1048576 := by omega
  have HM : Hid (MetIn w (w.alloc (.cells #[.slice A0 L.length c0] 24)) A0 c0 xs0 L) := Lib.hid (MetIn.start h 24)
  have HSz := Lib.hid fun (W : World) (h : NRow W A0 xs0 L) => szMet_any A0 c0 xs0 L W hn0 hl0 h
  have HTo := Lib.hid fun (W : World) (h : NRow W A0 xs0 L) => toMet_any A0 c0 xs0 L W hs h
  have HEq := Lib.hid fun (W : World) A B c d xs ys (h1 : NRow W A xs L) (h2 : NRow W B ys L) => eqMet_same A B c d xs ys L W hs h1 h2
  clear h hl0
  go_enter Try.func4, Try.ntmps4
  go_wp2_with fail
  generalize w.alloc (.cells #[.slice A0 L.length c0] 24) = w0 at HM ⊢
  have HM_0 := HM
  clear HM
  obtain ⟨p0, _, _⟩ := HM_0.out.bk
  go_wp2_with fail
  go_at_call 15
  refine (HSz.out w0 HM_0.out.rows).mono ?_
  rintro r w1 ⟨⟨sz, rfl, h1, h2⟩, hb⟩
  have hs0 : ¬ sz < 0 := by have := h1 hs; omega
  clear h1 h2
  have HM_1 := Lib.hid (HM_0.out.on hb)
  clear hb
  clear p0
  obtain ⟨p0, _, _⟩ := HM_1.out.bk
  go_wp2_with fail
  go_at_call 17
  refine (HTo.out w1 HM_1.out.rows).mono ?_
  rintro r w2 ⟨v2, ys2, rfl, ho, hn, hb⟩
  obtain ⟨A2, c2, rfl, _, _, _⟩ := Law.own_len ho
  have FV_2 := Lib.hid (NRow.of ho hn)
  clear ho hn
  have HM_2 := Lib.hid (HM_1.out.on hb)
  clear hb
  clear p0
  obtain ⟨p0, _, _⟩ := HM_2.out.bk
  go_wp2_with fail
  go_at_call 25
  refine (toInt_any Ato cto to w2 hnto (HRto.out.stays HM_2.out.bl)).mono ?_
  rintro r w3 ⟨v3, rfl, ho, hb⟩
  obtain ⟨A3, c3, rfl, hc3, _, _⟩ := Law.own_len ho
  have Fato_3 := Lib.hid (Law.Row.own ho)
  clear ho
  have HM_3 := Lib.hid (HM_2.out.on hb)
  have FV_3 := Lib.hid (FV_2.out.stays hb)
  clear hb
  clear p0
  obtain ⟨p0, _, _⟩ := HM_3.out.bk
  go_wp2_with fail
  go_at_call 24
  refine (HG.out A2 c2 ys2 A3 c3 w3 FV_3.out Fato_3.out).mono ?_
  rintro r w4 ⟨rfl, hb⟩
  have HM_4 := Lib.hid (HM_3.out.on hb)
  have FV_4 := Lib.hid (FV_3.out.stays hb)
  have Fato_4 := Lib.hid (Fato_3.out.stays hb)
  clear hb
  clear p0
  obtain ⟨p0, _, _⟩ := HM_4.out.bk
  go_wp2_with fail
  go_at_call 17
  refine (HTo.out w4 HM_4.out.rows).mono ?_
  rintro r w5 ⟨v5, ys5, rfl, ho, hn, hb⟩
  obtain ⟨A5, c5, rfl, _, _, _⟩ := Law.own_len ho
  have FX_5 := Lib.hid (NRow.of ho hn)
  clear ho hn
  have HM_5 := Lib.hid (HM_4.out.on hb)
  clear hb
  clear p0
  obtain ⟨p0, _, _⟩ := HM_5.out.bk
  have b6 : Below w5.heap.size w5 (w5.alloc (.cells #[.slice A5 L.length c5] 29)) := (Below.refl _ _).alloc (Nat.le_refl _) _
  have FQ_6 := Lib.hid (Bk1.new w5 (.slice A5 L.length c5) 29)
  obtain ⟨bq, hbq⟩ : ∃ bq, bq = w5.heap.size := ⟨_, rfl⟩
  have HM_6 := Lib.hid (HM_5.out.on b6)
  have FX_6 := Lib.hid (FX_5.out.stays b6)
  clear b6
  go_wp2_with fail
  generalize w5.alloc (.cells #[.slice A5 L.length c5] 29) = w6 at HM_6 FX_6 FQ_6 ⊢
  rw [← hbq] at FQ_6 ⊢
  clear hbq
  clear p0
  obtain ⟨p0, _, _⟩ := HM_6.out.bk
  obtain ⟨q0, _, _⟩ := FQ_6.out
  clear q0
  go_wp2_with fail
  go_at_call 25
  refine (toInt_any Ato cto to w6 hnto (HRto.out.stays HM_6.out.bl)).mono ?_
  rintro r w7 ⟨v7, rfl, ho, hb⟩
  obtain ⟨A7, c7, rfl, hc7, _, _⟩ := Law.own_len ho
  have Fxto_7 := Lib.hid (Law.Row.own ho)
  clear ho
  have HM_7 := Lib.hid (HM_6.out.on hb)
  have FX_7 := Lib.hid (FX_6.out.stays hb)
  have FQ_7 := Lib.hid (FQ_6.out.on hb)
  clear hb
  clear p0
  obtain ⟨p0, _, _⟩ := HM_7.out.bk
  obtain ⟨q0, _, _⟩ := FQ_7.out
  go_wp2_with fail
  go_at_call 26
  refine (HH.out A5 c5 ys5 A7 c7 w7 FX_7.out Fxto_7.out).mono ?_
  rintro r w8 ⟨rfl, hb⟩
  have HM_8 := Lib.hid (HM_7.out.on hb)
  have FX_8 := Lib.hid (FX_7.out.stays hb)
  have FQ_8 := Lib.hid (FQ_7.out.on hb)
  have Fxto_8 := Lib.hid (Fxto_7.out.stays hb)
  clear hb
  clear p0
  obtain ⟨p0, _, _⟩ := HM_8.out.bk
  clear q0
  cases y <;> cases z
  all_goals
    obtain ⟨q0, _, _⟩ := FQ_8.out
    go_wp2_with fail
    go_region_law ((first
      | (go_simp; go_at_call 17; refine (HTo.out _ (HM_8.out.rows.stays ((Below.refl _ _).drew))).mono ?_; rintro r w9 ⟨v9, ys9, rfl, ho, hn, hb⟩; have hb := ((Below.refl w8.heap.size w8).drew).trans hb; obtain ⟨A9, c9, rfl, _, _, _⟩ := Law.own_len ho; have FZ_9 := Lib.hid (NRow.of ho hn); clear ho hn; have HM_9 := Lib.hid (HM_8.out.on hb); have FX_9 := Lib.hid (FX_8.out.stays hb); have FQ_9 := Lib.hid (FQ_8.out.on hb); have Fxto_9 := Lib.hid (Fxto_8.out.stays hb); clear hb; clear q0; obtain ⟨q0, _, _⟩ := FQ_9.out)
      | (go_simp; go_at_call 20; refine (HEq.out _ A5 A9 c5 c9 ys5 ys9 FX_9.out FZ_9.out).mono ?_; rintro r w10 ⟨rfl, hb⟩; have HM_10 := Lib.hid (HM_9.out.on hb); have FX_10 := Lib.hid (FX_9.out.stays hb); have FQ_10 := Lib.hid (FQ_9.out.on hb); have Fxto_10 := Lib.hid (Fxto_9.out.stays hb); clear hb)))
    all_goals
      clear p0 q0
      obtain ⟨p0, _, _⟩ := HM_10.out.bk
      go_wp2_with fail
      go_at_call 25
      refine (toInt_any Ato cto to w10 hnto (HRto.out.stays HM_10.out.bl)).mono ?_
      rintro r w11 ⟨v11, rfl, ho, hb⟩
      obtain ⟨A11, c11, rfl, hc11, _, _⟩ := Law.own_len ho
      have Fyto_11 := Lib.hid (Law.Row.own ho)
      clear ho
      have HM_11 := Lib.hid (HM_10.out.on hb)
      have FX_11 := Lib.hid (FX_10.out.stays hb)
      have FQ_11 := Lib.hid (FQ_10.out.on hb)
      have Fxto_11 := Lib.hid (Fxto_10.out.stays hb)
      clear hb
      clear p0
      obtain ⟨p0, _, _⟩ := HM_11.out.bk
      go_wp2_with fail
      go_at_call 19
      refine (eqInt_same A7 A11 c7 c11 to w11 (by omega) Fxto_11.out Fyto_11.out).mono ?_
      rintro r we1 ⟨rfl, m1, rfl⟩
      have hbd1 : Below w11.heap.size w11 (w11.drewN m1) := Law.up (Below.refl _ _) _
      have HM_12 := Lib.hid (HM_11.out.on hbd1)
      have FX_12 := Lib.hid (FX_11.out.stays hbd1)
      have FQ_12 := Lib.hid (FQ_11.out.on hbd1)
      have Fxto_12 := Lib.hid (Fxto_11.out.stays hbd1)
      have Fyto_12 := Lib.hid (Fyto_11.out.stays hbd1)
      clear hbd1
      generalize World.drewN w11 m1 = w12 at HM_12 FX_12 FQ_12 Fxto_12 Fyto_12 ⊢
      clear p0
      go_wp2
      go_ret
      exact ⟨rfl, HM_12.out.bl⟩
set_option maxHeartbeats 1600000 in
theorem walk_big (A0 : Option Addr) (c0 : Nat) (xs0 : List Value) (L : List (List Int)) (to : List Int) (Ato : Option Addr) (cto : Nat) (w : World) (hs : szOk L = false) (hn0 : L.length ≤ maxLen) (hl0 : ∀ l ∈ L, l.length ≤ maxLen) (h : NRow w A0 xs0 L) (hnto : to.length ≤ 1048576) :
    Calls Try.prog 4 #[mv A0 L.length c0, .slice Ato to.length cto] w fun e w' => e = .returned (.bool true) ∧ Below w.heap.size w w' := by
  have hIto : (to.length : Int) ≤ 1048576 := by omega
  have HM : Hid (MetIn w (w.alloc (.cells #[.slice A0 L.length c0] 24)) A0 c0 xs0 L) := Lib.hid (MetIn.start h 24)
  have HSz := Lib.hid fun (W : World) (h : NRow W A0 xs0 L) => szMet_any A0 c0 xs0 L W hn0 hl0 h
  clear h hl0
  go_enter Try.func4, Try.ntmps4
  go_wp2_with fail
  generalize w.alloc (.cells #[.slice A0 L.length c0] 24) = w0 at HM ⊢
  go_at_call 15
  refine (HSz.out w0 HM.out.rows).mono ?_
  rintro r w1 ⟨⟨sz, rfl, h1, h2⟩, hb⟩
  have hs0 : sz < 0 := by have := h2 hs; omega
  have HB := Lib.hid (HM.out.on hb).bl
  clear h1 h2 hb
  go_wp2
  go_ret
  exact ⟨rfl, HB.out⟩
theorem walk (A0 : Option Addr) (n0 c0 : Nat) (xs0 : List Value) (L : List (List Int)) (Ato : Option Addr) (nto cto : Nat) (to : List Int) (w : World) (h0 : L.length = n0 ∧ n0 ≤ c0 ∧ c0 ≤ maxLen ∧ (∀ l ∈ L, l.length ≤ maxLen) ∧ NRow w A0 xs0 L) (hto : to.length = nto ∧ nto ≤ cto ∧ cto ≤ maxLen ∧ (∀ z ∈ to, (Lit.int .i64 z).wf = true) ∧ Law.Row w Ato (to.map (Value.int .i64))) (hL : laidMetH Try.prog Rows.fnExactIsIsometryRow.laid w) (hsh : w.ShapedOpen Try.prog) :
    Calls Try.prog 4 #[.agg #[.slice A0 n0 c0], .slice Ato nto cto] w fun e w' => e = .returned (.bool true) ∧ Below w.heap.size w w' := by
  obtain ⟨rfl, hcA, hcB, hlL, hrL⟩ := h0
  obtain ⟨rfl, hAto, hBto, _, hrto⟩ := hto
  clear hL hsh
  by_cases hlto : to.length ≤ 1048576
  · skip
    cases hz : szOk L
    · exact walk_big A0 c0 xs0 L to Ato cto w hz (by omega) hlL hrL hlto
    · have hz' := sz_rows hz
      exact walk_core A0 c0 xs0 L to Ato cto (Q.isoQ L to).1 (Q.isoQ L to).2 w hz (by omega) hlL hrL hlto hrto (fun A c xs Bto dto W h hto => specIso_any A c xs L to Bto dto hlto W h hto) (fun A c xs Bto dto W h hto => impIso_any A c xs L to Bto dto hlto W hz'.2.1 h hto)
  · have hIto : ¬ (to.length : Int) ≤ 1048576 := by omega
    clear hrL hlL hrto
    go_enter Try.func4, Try.ntmps4
    go_wp2
    go_ret
    exact ⟨rfl, (Below.refl _ _).alloc (Nat.le_refl _) _⟩
theorem lawOwn : ownKnob Try.prog.godebug = none := by kernel_rfl
theorem lawLaidOut : laidOutB Try.prog = true := by kernel_rfl
set_option maxRecDepth 100000 in
theorem contract (H : Type) (enc : TypeId × Value → H) (W : World) (base : Nat) (args : Array Value) (ds : List (DataW H)) (gs : List (DataW H)) (before : List MemPlace)
    (hval0 : ∀ (j : Nat) t v, Try.f4.params[j]? = some t → args[j]? = some v → Value.okWide Try.prog W .any base t v)
    (hW : DataW.Whole enc Try.prog Try.f4.params.toList Rows.fnExactIsIsometrySpec.vars false W args.toList ds gs before) (hL : laidMetH Try.prog Rows.fnExactIsIsometryRow.laid W) (hsh : W.ShapedOpen Try.prog) :
    Calls Try.prog 4 args W fun e W' => ∃ v, e = .returned v ∧ Rows.fnExactIsIsometrySpec.post enc Try.prog Try.f4 false true false false W args v W' := by
  have hval : ∀ (j : Nat) t v, Try.f4.params[j]? = some t → args[j]? = some v → Value.okWide Try.prog W .any base t v := hval0
  have hW' := hW
  obtain ⟨p, q, hA0, hV, rfl, hfz, hnd⟩ := hW
  have hA : DataW.TrodAll enc Try.prog W 0 (fun _ => true) true Try.f4.params.toList args.toList ds p := hA0
  rw [Try.params4] at hA hval
  obtain ⟨v0, vs0, d0, ds0, p0, q0, hargs0, rfl, rfl, h0, r0⟩ := trodAll_cons hA
  obtain ⟨v1, vs1, d1, ds1, p1, q1, hargs1, rfl, rfl, h1, r1⟩ := trodAll_cons r0
  obtain ⟨rfl, rfl, rfl⟩ := trodAll_nil r1
  obtain rfl : args = #[v0, v1] := by cases args; simp_all
  obtain ⟨rfl, rfl⟩ := trodVars_none hV
  obtain ⟨A0, n0, c0, xs0, L0, rfl, w0⟩ := Law.in_metric Try.underlying24 Try.underlying22 Try.underlying26 Try.underlying3 (by kernel_rfl) (by kernel_rfl) (by kernel_rfl) (by kernel_rfl) (hval 0 24 v0 rfl rfl) h0
  obtain ⟨A1, n1, c1, xs1, rfl, w1⟩ := Law.in_ints Try.underlying26 Try.underlying3 (by kernel_rfl) (hval 1 26 v1 rfl rfl) h1 (fun x hx => hW'.lt x (by simp [hx]))
  clear hA0 hval0
  refine (walk A0 n0 c0 xs0 L0 A1 n1 c1 xs1 W w0 w1 hL hsh).mono fun e W' ⟨he, hb⟩ => ?_
  subst he
  exact ⟨_, rfl, Law.close hW' rfl rfl lawLaidOut (by kernel_rfl) Try.underlying4 (by kernel_rfl) hb⟩
theorem reads (os : Os) {H : Type} (enc : TypeId × Value → H) : ∃ places, DataW.whole enc Try.prog ((World.holding Try.prog os ⟨#[], #[], []⟩).forCall (fun _ _ => 0) ⟨#[], #[.agg #[.slice none 0 0], .slice none 0 0], []⟩).memory Try.f4.params.toList Rows.fnExactIsIsometrySpec.vars false (#[.agg #[.slice none 0 0], .slice none 0 0] : Array Value).toList 8 = some ([.agg [.nil], .nil], [], places) :=
  ⟨[], by kernel_rfl⟩
set_option maxRecDepth 100000 in
theorem lifted (os : Os) (started : os.Started) (H : Type) (enc : TypeId × Value → H) (F : Stop.Interp) :
    ReturnsInHanded {} Try.checked os 4 .any ((OpenSpec.ofChange Rows.fnExactIsIsometrySpec).preRow enc Try.prog Try.f4 Rows.fnExactIsIsometryRow.domain false Rows.fnExactIsIsometryRow.laid) (((OpenSpec.ofChange Rows.fnExactIsIsometrySpec).at F).post enc Try.prog Try.f4 false true false false) := by
  obtain ⟨places, hx⟩ := reads os enc
  refine returnsInHanded_of_row (C := Try.checked) (s := OpenSpec.ofChange Rows.fnExactIsIsometrySpec) lawOwn started (by kernel_rfl) Try.func4
    (witness_row_at (enc := enc) (C := Try.checked) false (World.holding Try.prog os ⟨#[], #[], []⟩) #[.agg #[.slice none 0 0], .slice none 0 0] rfl (by kernel_rfl) (by kernel_rfl) (by kernel_rfl)
      (OpenSpec.preRow_of_cond 8 hx (by kernel_rfl) (fun k hk => by cases hk) (by kernel_rfl) (laidMet_nil _ _))) ?_
  intro W base args ds gs before hval hW _ _ _ hL hsh _
  exact contract H enc W base args ds gs before hval hW hL hsh
theorem proved : Rows.FnExactIsIsometrySaid :=
  OpenClaim.holds_of_cond 4 Try.f4 rfl rfl rfl rfl rfl rfl rfl ⟨rfl, rfl, rfl, rfl, rfl⟩ rfl rfl rfl rfl rfl (by kernel_rfl) Try.func4 (by kernel_rfl)
    (of_decide_eq_true (by kernel_rfl)) (by unfold Func.isWrapper; first | (rw [if_pos (by decide +kernel)]; kernel_rfl) | (rw [if_neg (by decide +kernel)]; exact ⟨rfl, rfl⟩))
    (fun os started H enc _ F => by rw [OpenClaim.pre_eq_preRow]; exact lifted os started H enc F)
end LIsIsometry
end Go.Proofs.Ytndjpkeenbbgiab
