/-
  FnExactMoveCost: MoveCost answers as the model does, whatever it is given, and writes into no argument.
  Conditions: none.
-/
import Derived.Test.YtphfjhnmnehfkaaRows
import Derived.Test.YtphfjhnmnehfkaaChecked
import Derived.Test.YtphfjhnmnehfkaaLawM
import Derived.Test.YtphfjhnmnehfkaaMet
import Derived.Test.YtphfjhnmnehfkaaTb
import Derived.Test.YtphfjhnmnehfkaaMarkI
import Derived.Test.YtphfjhnmnehfkaaMtd
import Derived.Deep.DeepHandedRow
import Derived.Stop.Joined
namespace Go.Proofs.Ytphfjhnmnehfkaa
open Go.RowKit Go.ChangeShapes Go.WideShapes
set_option linter.unusedVariables false
namespace LMoveCost
set_option maxRecDepth 20000 in
set_option maxHeartbeats 6400000 in
theorem walk_core (A0 : Option Addr) (c0 : Nat) (xs0 : List Value) (L : List (List Int)) (a : List Int) (b : List Int) (Aa : Option Addr) (ca : Nat) (Ab : Option Addr) (cb : Nat) (y : Int) (z : Bool) (w : World) (hs : szOk L = true) (hn0 : L.length ≤ maxLen) (hl0 : ∀ l ∈ L, l.length ≤ maxLen) (h : NRow w A0 xs0 L) (hna : a.length ≤ 1048576) (HRa : Hid (Law.Row w Aa (ivs a))) (hnb : b.length ≤ 1048576) (HRb : Hid (Law.Row w Ab (ivs b)))
    (HG : Hid (∀ (A : Option Addr) (c : Nat) (xs : List Value) (Ba : Option Addr) (da : Nat) (Bb : Option Addr) (db : Nat) (W : World), NRow W A xs L → Law.Row W Ba (ivs a) → Law.Row W Bb (ivs b) → Calls Try.prog 42 #[mv A L.length c, .slice Ba a.length da, .slice Bb b.length db] W fun r W' => r = .returned (.tuple #[.int .i64 y, .bool z]) ∧ Below W.heap.size W W'))
    (HH : Hid (∀ (A : Option Addr) (c : Nat) (xs : List Value) (Ba : Option Addr) (da : Nat) (Bb : Option Addr) (db : Nat) (W : World), NRow W A xs L → Law.Row W Ba (ivs a) → Law.Row W Bb (ivs b) → Calls Try.prog 43 #[mv A L.length c, .slice Ba a.length da, .slice Bb b.length db] W fun r W' => r = .returned (.tuple #[.int .i64 y, .bool z]) ∧ Below W.heap.size W W')) :
    Calls Try.prog 11 #[mv A0 L.length c0, .slice Aa a.length ca, .slice Ab b.length cb] w fun e w' => e = .returned (.bool true) ∧ Below w.heap.size w w' := by
  have hIa : (a.length : Int) ≤ 1048576 := by omega
  have hIb : (b.length : Int) ≤ 1048576 := by omega
  have HM : Hid (MetIn w (w.alloc (.cells #[.slice A0 L.length c0] 24)) A0 c0 xs0 L) := Lib.hid (MetIn.start h 24)
  have HSz := Lib.hid fun (W : World) (h : NRow W A0 xs0 L) => szMet_any A0 c0 xs0 L W hn0 hl0 h
  have HTo := Lib.hid fun (W : World) (h : NRow W A0 xs0 L) => toMet_any A0 c0 xs0 L W hs h
  have HEq := Lib.hid fun (W : World) A B c d xs ys (h1 : NRow W A xs L) (h2 : NRow W B ys L) => eqMet_same A B c d xs ys L W hs h1 h2
  clear h hl0
  go_enter Try.func11, Try.ntmps11
  go_wp2_with fail
  generalize w.alloc (.cells #[.slice A0 L.length c0] 24) = w0 at HM ⊢
  have HM_0 := HM
  clear HM
  obtain ⟨p0, _, _⟩ := HM_0.out.bk
  go_wp2_with fail
  go_at_call 15
  refine (HSz.out w0 HM_0.out.rows).mono ?_
  rintro r w1 ⟨⟨sz, rfl, h1, h2⟩, hb⟩
  have hs0 : ¬ sz < 0 := by have := h1 hs; omega
  clear h1 h2
  have HM_1 := Lib.hid (HM_0.out.on hb)
  clear hb
  clear p0
  obtain ⟨p0, _, _⟩ := HM_1.out.bk
  go_wp2_with fail
  go_at_call 17
  refine (HTo.out w1 HM_1.out.rows).mono ?_
  rintro r w2 ⟨v2, ys2, rfl, ho, hn, hb⟩
  obtain ⟨A2, c2, rfl, _, _, _⟩ := Law.own_len ho
  have FV_2 := Lib.hid (NRow.of ho hn)
  clear ho hn
  have HM_2 := Lib.hid (HM_1.out.on hb)
  clear hb
  clear p0
  obtain ⟨p0, _, _⟩ := HM_2.out.bk
  go_wp2_with fail
  go_at_call 18
  refine (toInt_any Aa ca a w2 hna (HRa.out.stays HM_2.out.bl)).mono ?_
  rintro r w3 ⟨v3, rfl, ho, hb⟩
  obtain ⟨A3, c3, rfl, hc3, _, _⟩ := Law.own_len ho
  have Faa_3 := Lib.hid (Law.Row.own ho)
  clear ho
  have HM_3 := Lib.hid (HM_2.out.on hb)
  have FV_3 := Lib.hid (FV_2.out.stays hb)
  clear hb
  clear p0
  obtain ⟨p0, _, _⟩ := HM_3.out.bk
  go_wp2_with fail
  go_at_call 18
  refine (toInt_any Ab cb b w3 hnb (HRb.out.stays HM_3.out.bl)).mono ?_
  rintro r w4 ⟨v4, rfl, ho, hb⟩
  obtain ⟨A4, c4, rfl, hc4, _, _⟩ := Law.own_len ho
  have Fab_4 := Lib.hid (Law.Row.own ho)
  clear ho
  have HM_4 := Lib.hid (HM_3.out.on hb)
  have FV_4 := Lib.hid (FV_3.out.stays hb)
  have Faa_4 := Lib.hid (Faa_3.out.stays hb)
  clear hb
  clear p0
  obtain ⟨p0, _, _⟩ := HM_4.out.bk
  go_wp2_with fail
  go_at_call 42
  refine (HG.out A2 c2 ys2 A3 c3 A4 c4 w4 FV_4.out Faa_4.out Fab_4.out).mono ?_
  rintro r w5 ⟨rfl, hb⟩
  have HM_5 := Lib.hid (HM_4.out.on hb)
  have FV_5 := Lib.hid (FV_4.out.stays hb)
  have Faa_5 := Lib.hid (Faa_4.out.stays hb)
  have Fab_5 := Lib.hid (Fab_4.out.stays hb)
  clear hb
  clear p0
  obtain ⟨p0, _, _⟩ := HM_5.out.bk
  go_wp2_with fail
  go_at_call 17
  refine (HTo.out w5 HM_5.out.rows).mono ?_
  rintro r w6 ⟨v6, ys6, rfl, ho, hn, hb⟩
  obtain ⟨A6, c6, rfl, _, _, _⟩ := Law.own_len ho
  have FX_6 := Lib.hid (NRow.of ho hn)
  clear ho hn
  have HM_6 := Lib.hid (HM_5.out.on hb)
  clear hb
  clear p0
  obtain ⟨p0, _, _⟩ := HM_6.out.bk
  have b7 : Below w6.heap.size w6 (w6.alloc (.cells #[.slice A6 L.length c6] 29)) := (Below.refl _ _).alloc (Nat.le_refl _) _
  have FQ_7 := Lib.hid (Bk1.new w6 (.slice A6 L.length c6) 29)
  obtain ⟨bq, hbq⟩ : ∃ bq, bq = w6.heap.size := ⟨_, rfl⟩
  have HM_7 := Lib.hid (HM_6.out.on b7)
  have FX_7 := Lib.hid (FX_6.out.stays b7)
  clear b7
  go_wp2_with fail
  generalize w6.alloc (.cells #[.slice A6 L.length c6] 29) = w7 at HM_7 FX_7 FQ_7 ⊢
  rw [← hbq] at FQ_7 ⊢
  clear hbq
  clear p0
  obtain ⟨p0, _, _⟩ := HM_7.out.bk
  obtain ⟨q0, _, _⟩ := FQ_7.out
  clear q0
  go_wp2_with fail
  go_at_call 18
  refine (toInt_any Aa ca a w7 hna (HRa.out.stays HM_7.out.bl)).mono ?_
  rintro r w8 ⟨v8, rfl, ho, hb⟩
  obtain ⟨A8, c8, rfl, hc8, _, _⟩ := Law.own_len ho
  have Fxa_8 := Lib.hid (Law.Row.own ho)
  clear ho
  have HM_8 := Lib.hid (HM_7.out.on hb)
  have FX_8 := Lib.hid (FX_7.out.stays hb)
  have FQ_8 := Lib.hid (FQ_7.out.on hb)
  clear hb
  clear p0
  obtain ⟨p0, _, _⟩ := HM_8.out.bk
  obtain ⟨q0, _, _⟩ := FQ_8.out
  clear q0
  go_wp2_with fail
  go_at_call 18
  refine (toInt_any Ab cb b w8 hnb (HRb.out.stays HM_8.out.bl)).mono ?_
  rintro r w9 ⟨v9, rfl, ho, hb⟩
  obtain ⟨A9, c9, rfl, hc9, _, _⟩ := Law.own_len ho
  have Fxb_9 := Lib.hid (Law.Row.own ho)
  clear ho
  have HM_9 := Lib.hid (HM_8.out.on hb)
  have FX_9 := Lib.hid (FX_8.out.stays hb)
  have FQ_9 := Lib.hid (FQ_8.out.on hb)
  have Fxa_9 := Lib.hid (Fxa_8.out.stays hb)
  clear hb
  clear p0
  obtain ⟨p0, _, _⟩ := HM_9.out.bk
  obtain ⟨q0, _, _⟩ := FQ_9.out
  go_wp2_with fail
  go_at_call 43
  refine (HH.out A6 c6 ys6 A8 c8 A9 c9 w9 FX_9.out Fxa_9.out Fxb_9.out).mono ?_
  rintro r w10 ⟨rfl, hb⟩
  have HM_10 := Lib.hid (HM_9.out.on hb)
  have FX_10 := Lib.hid (FX_9.out.stays hb)
  have FQ_10 := Lib.hid (FQ_9.out.on hb)
  have Fxa_10 := Lib.hid (Fxa_9.out.stays hb)
  have Fxb_10 := Lib.hid (Fxb_9.out.stays hb)
  clear hb
  clear p0
  obtain ⟨p0, _, _⟩ := HM_10.out.bk
  clear q0
  cases z
  all_goals
    obtain ⟨q0, _, _⟩ := FQ_10.out
    go_wp2_with fail
    go_region_law ((first
      | (go_simp; go_at_call 17; refine (HTo.out _ (HM_10.out.rows.stays ((Below.refl _ _).drew))).mono ?_; rintro r w11 ⟨v11, ys11, rfl, ho, hn, hb⟩; have hb := ((Below.refl w10.heap.size w10).drew).trans hb; obtain ⟨A11, c11, rfl, _, _, _⟩ := Law.own_len ho; have FZ_11 := Lib.hid (NRow.of ho hn); clear ho hn; have HM_11 := Lib.hid (HM_10.out.on hb); have FX_11 := Lib.hid (FX_10.out.stays hb); have FQ_11 := Lib.hid (FQ_10.out.on hb); have Fxa_11 := Lib.hid (Fxa_10.out.stays hb); have Fxb_11 := Lib.hid (Fxb_10.out.stays hb); clear hb; clear q0; obtain ⟨q0, _, _⟩ := FQ_11.out)
      | (go_simp; go_at_call 20; refine (HEq.out _ A6 A11 c6 c11 ys6 ys11 FX_11.out FZ_11.out).mono ?_; rintro r w12 ⟨rfl, hb⟩; have HM_12 := Lib.hid (HM_11.out.on hb); have FX_12 := Lib.hid (FX_11.out.stays hb); have FQ_12 := Lib.hid (FQ_11.out.on hb); have Fxa_12 := Lib.hid (Fxa_11.out.stays hb); have Fxb_12 := Lib.hid (Fxb_11.out.stays hb); clear hb)))
    all_goals
      clear p0 q0
      obtain ⟨p0, _, _⟩ := HM_12.out.bk
      go_wp2_with fail
      go_at_call 18
      refine (toInt_any Aa ca a w12 hna (HRa.out.stays HM_12.out.bl)).mono ?_
      rintro r w13 ⟨v13, rfl, ho, hb⟩
      obtain ⟨A13, c13, rfl, hc13, _, _⟩ := Law.own_len ho
      have Fya_13 := Lib.hid (Law.Row.own ho)
      clear ho
      have HM_13 := Lib.hid (HM_12.out.on hb)
      have FX_13 := Lib.hid (FX_12.out.stays hb)
      have FQ_13 := Lib.hid (FQ_12.out.on hb)
      have Fxa_13 := Lib.hid (Fxa_12.out.stays hb)
      have Fxb_13 := Lib.hid (Fxb_12.out.stays hb)
      clear hb
      clear p0
      obtain ⟨p0, _, _⟩ := HM_13.out.bk
      go_wp2_with fail
      go_at_call 21
      refine (eqInt_same A8 A13 c8 c13 a w13 (by omega) Fxa_13.out Fya_13.out).mono ?_
      rintro r we1 ⟨rfl, m1, rfl⟩
      have hbd1 : Below w13.heap.size w13 (w13.drewN m1) := Law.up (Below.refl _ _) _
      have HM_14 := Lib.hid (HM_13.out.on hbd1)
      have FX_14 := Lib.hid (FX_13.out.stays hbd1)
      have FQ_14 := Lib.hid (FQ_13.out.on hbd1)
      have Fxa_14 := Lib.hid (Fxa_13.out.stays hbd1)
      have Fxb_14 := Lib.hid (Fxb_13.out.stays hbd1)
      have Fya_14 := Lib.hid (Fya_13.out.stays hbd1)
      clear hbd1
      generalize World.drewN w13 m1 = w14 at HM_14 FX_14 FQ_14 Fxa_14 Fxb_14 Fya_14 ⊢
      clear p0
      obtain ⟨p0, _, _⟩ := HM_14.out.bk
      go_wp2_with fail
      go_at_call 18
      refine (toInt_any Ab cb b w14 hnb (HRb.out.stays HM_14.out.bl)).mono ?_
      rintro r w15 ⟨v15, rfl, ho, hb⟩
      obtain ⟨A15, c15, rfl, hc15, _, _⟩ := Law.own_len ho
      have Fyb_15 := Lib.hid (Law.Row.own ho)
      clear ho
      have HM_15 := Lib.hid (HM_14.out.on hb)
      have FX_15 := Lib.hid (FX_14.out.stays hb)
      have FQ_15 := Lib.hid (FQ_14.out.on hb)
      have Fxa_15 := Lib.hid (Fxa_14.out.stays hb)
      have Fxb_15 := Lib.hid (Fxb_14.out.stays hb)
      clear hb
      clear p0
      obtain ⟨p0, _, _⟩ := HM_15.out.bk
      go_wp2_with fail
      go_at_call 21
      refine (eqInt_same A9 A15 c9 c15 b w15 (by omega) Fxb_15.out Fyb_15.out).mono ?_
      rintro r we2 ⟨rfl, m2, rfl⟩
      have hbd2 : Below w15.heap.size w15 (w15.drewN m2) := Law.up (Below.refl _ _) _
      have HM_16 := Lib.hid (HM_15.out.on hbd2)
      have FX_16 := Lib.hid (FX_15.out.stays hbd2)
      have FQ_16 := Lib.hid (FQ_15.out.on hbd2)
      have Fxa_16 := Lib.hid (Fxa_15.out.stays hbd2)
      have Fxb_16 := Lib.hid (Fxb_15.out.stays hbd2)
      have Fyb_16 := Lib.hid (Fyb_15.out.stays hbd2)
      clear hbd2
      generalize World.drewN w15 m2 = w16 at HM_16 FX_16 FQ_16 Fxa_16 Fxb_16 Fyb_16 ⊢
      clear p0
      go_wp2
      go_ret
      exact ⟨rfl, HM_16.out.bl⟩
set_option maxHeartbeats 1600000 in
theorem walk_big (A0 : Option Addr) (c0 : Nat) (xs0 : List Value) (L : List (List Int)) (a : List Int) (b : List Int) (Aa : Option Addr) (ca : Nat) (Ab : Option Addr) (cb : Nat) (w : World) (hs : szOk L = false) (hn0 : L.length ≤ maxLen) (hl0 : ∀ l ∈ L, l.length ≤ maxLen) (h : NRow w A0 xs0 L) (hna : a.length ≤ 1048576) (hnb : b.length ≤ 1048576) :
    Calls Try.prog 11 #[mv A0 L.length c0, .slice Aa a.length ca, .slice Ab b.length cb] w fun e w' => e = .returned (.bool true) ∧ Below w.heap.size w w' := by
  have hIa : (a.length : Int) ≤ 1048576 := by omega
  have hIb : (b.length : Int) ≤ 1048576 := by omega
  have HM : Hid (MetIn w (w.alloc (.cells #[.slice A0 L.length c0] 24)) A0 c0 xs0 L) := Lib.hid (MetIn.start h 24)
  have HSz := Lib.hid fun (W : World) (h : NRow W A0 xs0 L) => szMet_any A0 c0 xs0 L W hn0 hl0 h
  clear h hl0
  go_enter Try.func11, Try.ntmps11
  go_wp2_with fail
  generalize w.alloc (.cells #[.slice A0 L.length c0] 24) = w0 at HM ⊢
  go_at_call 15
  refine (HSz.out w0 HM.out.rows).mono ?_
  rintro r w1 ⟨⟨sz, rfl, h1, h2⟩, hb⟩
  have hs0 : sz < 0 := by have := h2 hs; omega
  have HB := Lib.hid (HM.out.on hb).bl
  clear h1 h2 hb
  go_wp2
  go_ret
  exact ⟨rfl, HB.out⟩
theorem walk (A0 : Option Addr) (n0 c0 : Nat) (xs0 : List Value) (L : List (List Int)) (Aa : Option Addr) (na ca : Nat) (a : List Int) (Ab : Option Addr) (nb cb : Nat) (b : List Int) (w : World) (h0 : L.length = n0 ∧ n0 ≤ c0 ∧ c0 ≤ maxLen ∧ (∀ l ∈ L, l.length ≤ maxLen) ∧ NRow w A0 xs0 L) (ha : a.length = na ∧ na ≤ ca ∧ ca ≤ maxLen ∧ (∀ z ∈ a, (Lit.int .i64 z).wf = true) ∧ Law.Row w Aa (a.map (Value.int .i64))) (hb : b.length = nb ∧ nb ≤ cb ∧ cb ≤ maxLen ∧ (∀ z ∈ b, (Lit.int .i64 z).wf = true) ∧ Law.Row w Ab (b.map (Value.int .i64))) (hL : laidMetH Try.prog Rows.fnExactMoveCostRow.laid w) (hsh : w.ShapedOpen Try.prog) :
    Calls Try.prog 11 #[.agg #[.slice A0 n0 c0], .slice Aa na ca, .slice Ab nb cb] w fun e w' => e = .returned (.bool true) ∧ Below w.heap.size w w' := by
  obtain ⟨rfl, hcA, hcB, hlL, hrL⟩ := h0
  obtain ⟨rfl, hAa, hBa, _, hra⟩ := ha
  obtain ⟨rfl, hAb, hBb, _, hrb⟩ := hb
  clear hL hsh
  by_cases hla : a.length ≤ 1048576
  · skip
    by_cases hlb : b.length ≤ 1048576
    · skip
      cases hz : szOk L
      · exact walk_big A0 c0 xs0 L a b Aa ca Ab cb w hz (by omega) hlL hrL hla hlb
      · have hz' := sz_rows hz
        exact walk_core A0 c0 xs0 L a b Aa ca Ab cb (Q.mvcQ L a b).1 (Q.mvcQ L a b).2 w hz (by omega) hlL hrL hla hra hlb hrb (fun A c xs Ba da Bb db W h ha hb => specMvc_any A c xs L a b Ba Bb da db hla hlb W h ha hb) (fun A c xs Ba da Bb db W h ha hb => impMvc_any A c xs L a b Ba Bb da db hz'.2.1 hla hlb W h ha hb)
    · have hIb : ¬ (b.length : Int) ≤ 1048576 := by omega
      have hIa : (a.length : Int) ≤ 1048576 := by omega
      clear hrL hlL hra hrb
      go_enter Try.func11, Try.ntmps11
      go_wp2
      go_ret
      exact ⟨rfl, (Below.refl _ _).alloc (Nat.le_refl _) _⟩
  · have hIa : ¬ (a.length : Int) ≤ 1048576 := by omega
    clear hrL hlL hra hrb
    go_enter Try.func11, Try.ntmps11
    go_wp2
    go_ret
    exact ⟨rfl, (Below.refl _ _).alloc (Nat.le_refl _) _⟩
theorem lawOwn : ownKnob Try.prog.godebug = none := by kernel_rfl
theorem lawLaidOut : laidOutB Try.prog = true := by kernel_rfl
set_option maxRecDepth 100000 in
theorem contract (H : Type) (enc : TypeId × Value → H) (W : World) (base : Nat) (args : Array Value) (ds : List (DataW H)) (gs : List (DataW H)) (before : List MemPlace)
    (hval0 : ∀ (j : Nat) t v, Try.f11.params[j]? = some t → args[j]? = some v → Value.okWide Try.prog W .any base t v)
    (hW : DataW.Whole enc Try.prog Try.f11.params.toList Rows.fnExactMoveCostSpec.vars false W args.toList ds gs before) (hL : laidMetH Try.prog Rows.fnExactMoveCostRow.laid W) (hsh : W.ShapedOpen Try.prog) :
    Calls Try.prog 11 args W fun e W' => ∃ v, e = .returned v ∧ Rows.fnExactMoveCostSpec.post enc Try.prog Try.f11 false true false false W args v W' := by
  have hval : ∀ (j : Nat) t v, Try.f11.params[j]? = some t → args[j]? = some v → Value.okWide Try.prog W .any base t v := hval0
  have hW' := hW
  obtain ⟨p, q, hA0, hV, rfl, hfz, hnd⟩ := hW
  have hA : DataW.TrodAll enc Try.prog W 0 (fun _ => true) true Try.f11.params.toList args.toList ds p := hA0
  rw [Try.params11] at hA hval
  obtain ⟨v0, vs0, d0, ds0, p0, q0, hargs0, rfl, rfl, h0, r0⟩ := trodAll_cons hA
  obtain ⟨v1, vs1, d1, ds1, p1, q1, hargs1, rfl, rfl, h1, r1⟩ := trodAll_cons r0
  obtain ⟨v2, vs2, d2, ds2, p2, q2, hargs2, rfl, rfl, h2, r2⟩ := trodAll_cons r1
  obtain ⟨rfl, rfl, rfl⟩ := trodAll_nil r2
  obtain rfl : args = #[v0, v1, v2] := by cases args; simp_all
  obtain ⟨rfl, rfl⟩ := trodVars_none hV
  obtain ⟨A0, n0, c0, xs0, L0, rfl, w0⟩ := Law.in_metric Try.underlying24 Try.underlying22 Try.underlying25 Try.underlying3 (by kernel_rfl) (by kernel_rfl) (by kernel_rfl) (by kernel_rfl) (hval 0 24 v0 rfl rfl) h0
  obtain ⟨A1, n1, c1, xs1, rfl, w1⟩ := Law.in_ints Try.underlying25 Try.underlying3 (by kernel_rfl) (hval 1 25 v1 rfl rfl) h1 (fun x hx => hW'.lt x (by simp [hx]))
  obtain ⟨A2, n2, c2, xs2, rfl, w2⟩ := Law.in_ints Try.underlying25 Try.underlying3 (by kernel_rfl) (hval 2 25 v2 rfl rfl) h2 (fun x hx => hW'.lt x (by simp [hx]))
  clear hA0 hval0
  refine (walk A0 n0 c0 xs0 L0 A1 n1 c1 xs1 A2 n2 c2 xs2 W w0 w1 w2 hL hsh).mono fun e W' ⟨he, hb⟩ => ?_
  subst he
  exact ⟨_, rfl, Law.close hW' rfl rfl lawLaidOut (by kernel_rfl) Try.underlying4 (by kernel_rfl) hb⟩
theorem reads (os : Os) {H : Type} (enc : TypeId × Value → H) : ∃ places, DataW.whole enc Try.prog ((World.holding Try.prog os ⟨#[], #[], []⟩).forCall (fun _ _ => 0) ⟨#[], #[.agg #[.slice none 0 0], .slice none 0 0, .slice none 0 0], []⟩).memory Try.f11.params.toList Rows.fnExactMoveCostSpec.vars false (#[.agg #[.slice none 0 0], .slice none 0 0, .slice none 0 0] : Array Value).toList 8 = some ([.agg [.nil], .nil, .nil], [], places) :=
  ⟨[], by kernel_rfl⟩
set_option maxRecDepth 100000 in
theorem lifted (os : Os) (started : os.Started) (H : Type) (enc : TypeId × Value → H) (F : Stop.Interp) :
    ReturnsInHanded {} Try.checked os 11 .any ((OpenSpec.ofChange Rows.fnExactMoveCostSpec).preRow enc Try.prog Try.f11 Rows.fnExactMoveCostRow.domain false Rows.fnExactMoveCostRow.laid) (((OpenSpec.ofChange Rows.fnExactMoveCostSpec).at F).post enc Try.prog Try.f11 false true false false) := by
  obtain ⟨places, hx⟩ := reads os enc
  refine returnsInHanded_of_row (C := Try.checked) (s := OpenSpec.ofChange Rows.fnExactMoveCostSpec) lawOwn started (by kernel_rfl) Try.func11
    (witness_row_at (enc := enc) (C := Try.checked) false (World.holding Try.prog os ⟨#[], #[], []⟩) #[.agg #[.slice none 0 0], .slice none 0 0, .slice none 0 0] rfl (by kernel_rfl) (by kernel_rfl) (by kernel_rfl)
      (OpenSpec.preRow_of_cond 8 hx (by kernel_rfl) (fun k hk => by cases hk) (by kernel_rfl) (laidMet_nil _ _))) ?_
  intro W base args ds gs before hval hW _ _ _ hL hsh _
  exact contract H enc W base args ds gs before hval hW hL hsh
theorem proved : Rows.FnExactMoveCostSaid :=
  OpenClaim.holds_of_cond 11 Try.f11 rfl rfl rfl rfl rfl rfl rfl ⟨rfl, rfl, rfl, rfl, rfl⟩ rfl rfl rfl rfl rfl (by kernel_rfl) Try.func11 (by kernel_rfl)
    (of_decide_eq_true (by kernel_rfl)) (by unfold Func.isWrapper; first | (rw [if_pos (by decide +kernel)]; kernel_rfl) | (rw [if_neg (by decide +kernel)]; exact ⟨rfl, rfl⟩))
    (fun os started H enc _ F => by rw [OpenClaim.pre_eq_preRow]; exact lifted os started H enc F)
end LMoveCost
end Go.Proofs.Ytphfjhnmnehfkaa
