/-
  FnExactScheduleMoves: ScheduleMoves answers as the model does, whatever it is given, and writes into no argument.
  Conditions: none.
-/
import Derived.Test.YtphfjhnmnehfkaaRows
import Derived.Test.YtphfjhnmnehfkaaChecked
import Derived.Test.YtphfjhnmnehfkaaLawN
import Derived.Test.YtphfjhnmnehfkaaSzg
import Derived.Test.YtphfjhnmnehfkaaTb
import Derived.Test.YtphfjhnmnehfkaaMarkI
import Derived.Test.YtphfjhnmnehfkaaSch
import Derived.Deep.DeepHandedRow
import Derived.Stop.Joined
namespace Go.Proofs.Ytphfjhnmnehfkaa
open Go.RowKit Go.ChangeShapes Go.WideShapes
set_option linter.unusedVariables false
namespace LScheduleMoves
set_option maxRecDepth 20000 in
set_option maxHeartbeats 6400000 in
theorem walk_core (A0 : Option Addr) (c0 : Nat) (xs0 : List Value) (L : List (List Int)) (a : List Int) (q : List Int) (cs : List (List Int)) (Aa : Option Addr) (ca : Nat) (Aq : Option Addr) (cq : Nat) (Acs : Option Addr) (ccs : Nat) (yscs : List Value) (y : Int) (z : Bool) (w : World) (hs : szOk L = true) (hn0 : L.length ≤ maxLen) (hl0 : ∀ l ∈ L, l.length ≤ maxLen) (h : NRow w A0 xs0 L) (hna : a.length ≤ 1048576) (HRa : Hid (Law.Row w Aa (ivs a))) (hnq : q.length ≤ 1048576) (HRq : Hid (Law.Row w Aq (ivs q))) (hncs : szOk cs = true) (hmcs : ∀ l ∈ cs, l.length ≤ maxLen) (hscs : (szN L : Int) + (szN cs : Int) ≤ 1048576) (HRcs : Hid (NRow w Acs yscs cs))
    (HG : Hid (∀ (A : Option Addr) (c : Nat) (xs : List Value) (Ba : Option Addr) (da : Nat) (Bq : Option Addr) (dq : Nat) (Bcs : Option Addr) (dcs : Nat) (yscs : List Value) (W : World), NRow W A xs L → Law.Row W Ba (ivs a) → Law.Row W Bq (ivs q) → NRow W Bcs yscs cs → Calls Try.prog 47 #[mv A L.length c, .slice Ba a.length da, .slice Bq q.length dq, .slice Bcs cs.length dcs] W fun r W' => r = .returned (.tuple #[.int .i64 y, .bool z]) ∧ Below W.heap.size W W'))
    (HH : Hid (∀ (A : Option Addr) (c : Nat) (xs : List Value) (Ba : Option Addr) (da : Nat) (Bq : Option Addr) (dq : Nat) (Bcs : Option Addr) (dcs : Nat) (yscs : List Value) (W : World), NRow W A xs L → Law.Row W Ba (ivs a) → Law.Row W Bq (ivs q) → NRow W Bcs yscs cs → Calls Try.prog 49 #[mv A L.length c, .slice Ba a.length da, .slice Bq q.length dq, .slice Bcs cs.length dcs] W fun r W' => r = .returned (.tuple #[.int .i64 y, .bool z]) ∧ Below W.heap.size W W')) :
    Calls Try.prog 13 #[mv A0 L.length c0, .slice Aa a.length ca, .slice Aq q.length cq, .slice Acs cs.length ccs] w fun e w' => e = .returned (.bool true) ∧ Below w.heap.size w w' := by
  have hIa : (a.length : Int) ≤ 1048576 := by omega
  have hIq : (q.length : Int) ≤ 1048576 := by omega
  have HTcs := Lib.hid fun (W : World) (h : NRow W Acs yscs cs) => toSS_any Acs ccs yscs cs W hncs h
  have HEcs := Lib.hid fun (W : World) A B c d xs ys (h1 : NRow W A xs cs) (h2 : NRow W B ys cs) => eqSS_same A B c d xs ys cs W (sz_rows hncs).1 (sz_rows hncs).2.1 h1 h2
  have HZcs := Lib.hid fun (W : World) (h : NRow W Acs yscs cs) => szSS_g Acs ccs yscs cs ((1048576 : Int) - (szN L : Int)) W (by omega) (by omega) (Nat.le_trans (sz_rows hncs).1 (by unfold maxLen; omega)) hmcs h
  have hzcs : szS ((1048576 : Int) - (szN L : Int)) cs = 1048576 - (szN L : Int) - (szN cs : Int) := if_pos (by omega)
  rw [hzcs] at HZcs
  clear hzcs
  have hzL : szS 1048576 L = 1048576 - (szN L : Int) := by have := of_decide_eq_true (szOk_N.symm.trans hs); exact if_pos (by omega)
  have hNL : (szN L : Int) ≤ 1048576 := by have := of_decide_eq_true (szOk_N.symm.trans hs); omega
  have HM : Hid (MetIn w (w.alloc (.cells #[.slice A0 L.length c0] 24)) A0 c0 xs0 L) := Lib.hid (MetIn.start h 24)
  have HSz := Lib.hid fun (W : World) (h : NRow W A0 xs0 L) => szMet_g A0 c0 xs0 L W hn0 hl0 h
  rw [hzL] at HSz
  clear hzL
  generalize (szN L : Int) = zL at *
  have HTo := Lib.hid fun (W : World) (h : NRow W A0 xs0 L) => toMet_any A0 c0 xs0 L W hs h
  have HEq := Lib.hid fun (W : World) A B c d xs ys (h1 : NRow W A xs L) (h2 : NRow W B ys L) => eqMet_same A B c d xs ys L W hs h1 h2
  clear h hl0
  go_enter Try.func13, Try.ntmps13
  go_wp2_with fail
  generalize w.alloc (.cells #[.slice A0 L.length c0] 24) = w0 at HM ⊢
  have HM_0 := HM
  clear HM
  obtain ⟨p0, _, _⟩ := HM_0.out.bk
  go_wp2_with fail
  go_at_call 15
  refine (HSz.out w0 HM_0.out.rows).mono ?_
  rintro r w1 ⟨rfl, hb⟩
  have hs0 : ¬ (1048576 : Int) - zL < 0 := by omega
  have HM_1 := Lib.hid (HM_0.out.on hb)
  clear hb
  clear p0
  obtain ⟨p0, _, _⟩ := HM_1.out.bk
  have hs9 : ¬ (1048576 : Int) - zL - (szN cs : Int) < 0 := by omega
  go_wp2_with fail
  go_at_call 46
  refine (HZcs.out w1 (HRcs.out.stays HM_1.out.bl)).mono ?_
  rintro r w9 ⟨rfl, e9⟩
  obtain rfl := e9.symm
  clear e9
  go_wp2_with fail
  go_at_call 17
  refine (HTo.out w1 HM_1.out.rows).mono ?_
  rintro r w2 ⟨v2, ys2, rfl, ho, hn, hb⟩
  obtain ⟨A2, c2, rfl, _, _, _⟩ := Law.own_len ho
  have FV_2 := Lib.hid (NRow.of ho hn)
  clear ho hn
  have HM_2 := Lib.hid (HM_1.out.on hb)
  clear hb
  clear p0
  obtain ⟨p0, _, _⟩ := HM_2.out.bk
  go_wp2_with fail
  go_at_call 18
  refine (toInt_any Aa ca a w2 hna (HRa.out.stays HM_2.out.bl)).mono ?_
  rintro r w3 ⟨v3, rfl, ho, hb⟩
  obtain ⟨A3, c3, rfl, hc3, _, _⟩ := Law.own_len ho
  have Faa_3 := Lib.hid (Law.Row.own ho)
  clear ho
  have HM_3 := Lib.hid (HM_2.out.on hb)
  have FV_3 := Lib.hid (FV_2.out.stays hb)
  clear hb
  clear p0
  obtain ⟨p0, _, _⟩ := HM_3.out.bk
  go_wp2_with fail
  go_at_call 18
  refine (toInt_any Aq cq q w3 hnq (HRq.out.stays HM_3.out.bl)).mono ?_
  rintro r w4 ⟨v4, rfl, ho, hb⟩
  obtain ⟨A4, c4, rfl, hc4, _, _⟩ := Law.own_len ho
  have Faq_4 := Lib.hid (Law.Row.own ho)
  clear ho
  have HM_4 := Lib.hid (HM_3.out.on hb)
  have FV_4 := Lib.hid (FV_3.out.stays hb)
  have Faa_4 := Lib.hid (Faa_3.out.stays hb)
  clear hb
  clear p0
  obtain ⟨p0, _, _⟩ := HM_4.out.bk
  go_wp2_with fail
  go_at_call 48
  refine (HTcs.out w4 (HRcs.out.stays HM_4.out.bl)).mono ?_
  rintro r w5 ⟨v5, ys5, rfl, ho, hn, hb⟩
  obtain ⟨A5, c5, rfl, _, _, _⟩ := Law.own_len ho
  have Facs_5 := Lib.hid (NRow.of ho hn)
  clear ho hn
  have HM_5 := Lib.hid (HM_4.out.on hb)
  have FV_5 := Lib.hid (FV_4.out.stays hb)
  have Faa_5 := Lib.hid (Faa_4.out.stays hb)
  have Faq_5 := Lib.hid (Faq_4.out.stays hb)
  clear hb
  clear p0
  obtain ⟨p0, _, _⟩ := HM_5.out.bk
  go_wp2_with fail
  go_at_call 47
  refine (HG.out A2 c2 ys2 A3 c3 A4 c4 A5 c5 ys5 w5 FV_5.out Faa_5.out Faq_5.out Facs_5.out).mono ?_
  rintro r w6 ⟨rfl, hb⟩
  have HM_6 := Lib.hid (HM_5.out.on hb)
  have FV_6 := Lib.hid (FV_5.out.stays hb)
  have Faa_6 := Lib.hid (Faa_5.out.stays hb)
  have Faq_6 := Lib.hid (Faq_5.out.stays hb)
  have Facs_6 := Lib.hid (Facs_5.out.stays hb)
  clear hb
  clear p0
  obtain ⟨p0, _, _⟩ := HM_6.out.bk
  go_wp2_with fail
  go_at_call 17
  refine (HTo.out w6 HM_6.out.rows).mono ?_
  rintro r w7 ⟨v7, ys7, rfl, ho, hn, hb⟩
  obtain ⟨A7, c7, rfl, _, _, _⟩ := Law.own_len ho
  have FX_7 := Lib.hid (NRow.of ho hn)
  clear ho hn
  have HM_7 := Lib.hid (HM_6.out.on hb)
  clear hb
  clear p0
  obtain ⟨p0, _, _⟩ := HM_7.out.bk
  have b8 : Below w7.heap.size w7 (w7.alloc (.cells #[.slice A7 L.length c7] 29)) := (Below.refl _ _).alloc (Nat.le_refl _) _
  have FQ_8 := Lib.hid (Bk1.new w7 (.slice A7 L.length c7) 29)
  obtain ⟨bq, hbq⟩ : ∃ bq, bq = w7.heap.size := ⟨_, rfl⟩
  have HM_8 := Lib.hid (HM_7.out.on b8)
  have FX_8 := Lib.hid (FX_7.out.stays b8)
  clear b8
  go_wp2_with fail
  generalize w7.alloc (.cells #[.slice A7 L.length c7] 29) = w8 at HM_8 FX_8 FQ_8 ⊢
  rw [← hbq] at FQ_8 ⊢
  clear hbq
  clear p0
  obtain ⟨p0, _, _⟩ := HM_8.out.bk
  obtain ⟨q0, _, _⟩ := FQ_8.out
  clear q0
  go_wp2_with fail
  go_at_call 18
  refine (toInt_any Aa ca a w8 hna (HRa.out.stays HM_8.out.bl)).mono ?_
  rintro r w9 ⟨v9, rfl, ho, hb⟩
  obtain ⟨A9, c9, rfl, hc9, _, _⟩ := Law.own_len ho
  have Fxa_9 := Lib.hid (Law.Row.own ho)
  clear ho
  have HM_9 := Lib.hid (HM_8.out.on hb)
  have FX_9 := Lib.hid (FX_8.out.stays hb)
  have FQ_9 := Lib.hid (FQ_8.out.on hb)
  clear hb
  clear p0
  obtain ⟨p0, _, _⟩ := HM_9.out.bk
  obtain ⟨q0, _, _⟩ := FQ_9.out
  clear q0
  go_wp2_with fail
  go_at_call 18
  refine (toInt_any Aq cq q w9 hnq (HRq.out.stays HM_9.out.bl)).mono ?_
  rintro r w10 ⟨v10, rfl, ho, hb⟩
  obtain ⟨A10, c10, rfl, hc10, _, _⟩ := Law.own_len ho
  have Fxq_10 := Lib.hid (Law.Row.own ho)
  clear ho
  have HM_10 := Lib.hid (HM_9.out.on hb)
  have FX_10 := Lib.hid (FX_9.out.stays hb)
  have FQ_10 := Lib.hid (FQ_9.out.on hb)
  have Fxa_10 := Lib.hid (Fxa_9.out.stays hb)
  clear hb
  clear p0
  obtain ⟨p0, _, _⟩ := HM_10.out.bk
  obtain ⟨q0, _, _⟩ := FQ_10.out
  clear q0
  go_wp2_with fail
  go_at_call 48
  refine (HTcs.out w10 (HRcs.out.stays HM_10.out.bl)).mono ?_
  rintro r w11 ⟨v11, ys11, rfl, ho, hn, hb⟩
  obtain ⟨A11, c11, rfl, _, _, _⟩ := Law.own_len ho
  have Fxcs_11 := Lib.hid (NRow.of ho hn)
  clear ho hn
  have HM_11 := Lib.hid (HM_10.out.on hb)
  have FX_11 := Lib.hid (FX_10.out.stays hb)
  have FQ_11 := Lib.hid (FQ_10.out.on hb)
  have Fxa_11 := Lib.hid (Fxa_10.out.stays hb)
  have Fxq_11 := Lib.hid (Fxq_10.out.stays hb)
  clear hb
  clear p0
  obtain ⟨p0, _, _⟩ := HM_11.out.bk
  obtain ⟨q0, _, _⟩ := FQ_11.out
  go_wp2_with fail
  go_at_call 49
  refine (HH.out A7 c7 ys7 A9 c9 A10 c10 A11 c11 ys11 w11 FX_11.out Fxa_11.out Fxq_11.out Fxcs_11.out).mono ?_
  rintro r w12 ⟨rfl, hb⟩
  have HM_12 := Lib.hid (HM_11.out.on hb)
  have FX_12 := Lib.hid (FX_11.out.stays hb)
  have FQ_12 := Lib.hid (FQ_11.out.on hb)
  have Fxa_12 := Lib.hid (Fxa_11.out.stays hb)
  have Fxq_12 := Lib.hid (Fxq_11.out.stays hb)
  have Fxcs_12 := Lib.hid (Fxcs_11.out.stays hb)
  clear hb
  clear p0
  obtain ⟨p0, _, _⟩ := HM_12.out.bk
  clear q0
  cases z
  all_goals
    obtain ⟨q0, _, _⟩ := FQ_12.out
    go_wp2_with fail
    go_region_law ((first
      | (go_simp; go_at_call 17; refine (HTo.out _ (HM_12.out.rows.stays ((Below.refl _ _).drew))).mono ?_; rintro r w13 ⟨v13, ys13, rfl, ho, hn, hb⟩; have hb := ((Below.refl w12.heap.size w12).drew).trans hb; obtain ⟨A13, c13, rfl, _, _, _⟩ := Law.own_len ho; have FZ_13 := Lib.hid (NRow.of ho hn); clear ho hn; have HM_13 := Lib.hid (HM_12.out.on hb); have FX_13 := Lib.hid (FX_12.out.stays hb); have FQ_13 := Lib.hid (FQ_12.out.on hb); have Fxa_13 := Lib.hid (Fxa_12.out.stays hb); have Fxq_13 := Lib.hid (Fxq_12.out.stays hb); have Fxcs_13 := Lib.hid (Fxcs_12.out.stays hb); clear hb; clear q0; obtain ⟨q0, _, _⟩ := FQ_13.out)
      | (go_simp; go_at_call 20; refine (HEq.out _ A7 A13 c7 c13 ys7 ys13 FX_13.out FZ_13.out).mono ?_; rintro r w14 ⟨rfl, hb⟩; have HM_14 := Lib.hid (HM_13.out.on hb); have FX_14 := Lib.hid (FX_13.out.stays hb); have FQ_14 := Lib.hid (FQ_13.out.on hb); have Fxa_14 := Lib.hid (Fxa_13.out.stays hb); have Fxq_14 := Lib.hid (Fxq_13.out.stays hb); have Fxcs_14 := Lib.hid (Fxcs_13.out.stays hb); clear hb)))
    all_goals
      clear p0 q0
      obtain ⟨p0, _, _⟩ := HM_14.out.bk
      go_wp2_with fail
      go_at_call 18
      refine (toInt_any Aa ca a w14 hna (HRa.out.stays HM_14.out.bl)).mono ?_
      rintro r w15 ⟨v15, rfl, ho, hb⟩
      obtain ⟨A15, c15, rfl, hc15, _, _⟩ := Law.own_len ho
      have Fya_15 := Lib.hid (Law.Row.own ho)
      clear ho
      have HM_15 := Lib.hid (HM_14.out.on hb)
      have FX_15 := Lib.hid (FX_14.out.stays hb)
      have FQ_15 := Lib.hid (FQ_14.out.on hb)
      have Fxa_15 := Lib.hid (Fxa_14.out.stays hb)
      have Fxq_15 := Lib.hid (Fxq_14.out.stays hb)
      have Fxcs_15 := Lib.hid (Fxcs_14.out.stays hb)
      clear hb
      clear p0
      obtain ⟨p0, _, _⟩ := HM_15.out.bk
      go_wp2_with fail
      go_at_call 21
      refine (eqInt_same A9 A15 c9 c15 a w15 (by omega) Fxa_15.out Fya_15.out).mono ?_
      rintro r we1 ⟨rfl, m1, rfl⟩
      have hbd1 : Below w15.heap.size w15 (w15.drewN m1) := Law.up (Below.refl _ _) _
      have HM_16 := Lib.hid (HM_15.out.on hbd1)
      have FX_16 := Lib.hid (FX_15.out.stays hbd1)
      have FQ_16 := Lib.hid (FQ_15.out.on hbd1)
      have Fxa_16 := Lib.hid (Fxa_15.out.stays hbd1)
      have Fxq_16 := Lib.hid (Fxq_15.out.stays hbd1)
      have Fxcs_16 := Lib.hid (Fxcs_15.out.stays hbd1)
      have Fya_16 := Lib.hid (Fya_15.out.stays hbd1)
      clear hbd1
      generalize World.drewN w15 m1 = w16 at HM_16 FX_16 FQ_16 Fxa_16 Fxq_16 Fxcs_16 Fya_16 ⊢
      clear p0
      obtain ⟨p0, _, _⟩ := HM_16.out.bk
      go_wp2_with fail
      go_at_call 18
      refine (toInt_any Aq cq q w16 hnq (HRq.out.stays HM_16.out.bl)).mono ?_
      rintro r w17 ⟨v17, rfl, ho, hb⟩
      obtain ⟨A17, c17, rfl, hc17, _, _⟩ := Law.own_len ho
      have Fyq_17 := Lib.hid (Law.Row.own ho)
      clear ho
      have HM_17 := Lib.hid (HM_16.out.on hb)
      have FX_17 := Lib.hid (FX_16.out.stays hb)
      have FQ_17 := Lib.hid (FQ_16.out.on hb)
      have Fxa_17 := Lib.hid (Fxa_16.out.stays hb)
      have Fxq_17 := Lib.hid (Fxq_16.out.stays hb)
      have Fxcs_17 := Lib.hid (Fxcs_16.out.stays hb)
      clear hb
      clear p0
      obtain ⟨p0, _, _⟩ := HM_17.out.bk
      go_wp2_with fail
      go_at_call 21
      refine (eqInt_same A10 A17 c10 c17 q w17 (by omega) Fxq_17.out Fyq_17.out).mono ?_
      rintro r we2 ⟨rfl, m2, rfl⟩
      have hbd2 : Below w17.heap.size w17 (w17.drewN m2) := Law.up (Below.refl _ _) _
      have HM_18 := Lib.hid (HM_17.out.on hbd2)
      have FX_18 := Lib.hid (FX_17.out.stays hbd2)
      have FQ_18 := Lib.hid (FQ_17.out.on hbd2)
      have Fxa_18 := Lib.hid (Fxa_17.out.stays hbd2)
      have Fxq_18 := Lib.hid (Fxq_17.out.stays hbd2)
      have Fxcs_18 := Lib.hid (Fxcs_17.out.stays hbd2)
      have Fyq_18 := Lib.hid (Fyq_17.out.stays hbd2)
      clear hbd2
      generalize World.drewN w17 m2 = w18 at HM_18 FX_18 FQ_18 Fxa_18 Fxq_18 Fxcs_18 Fyq_18 ⊢
      clear p0
      obtain ⟨p0, _, _⟩ := HM_18.out.bk
      go_wp2_with fail
      go_at_call 48
      refine (HTcs.out w18 (HRcs.out.stays HM_18.out.bl)).mono ?_
      rintro r w19 ⟨v19, ys19, rfl, ho, hn, hb⟩
      obtain ⟨A19, c19, rfl, _, _, _⟩ := Law.own_len ho
      have Fycs_19 := Lib.hid (NRow.of ho hn)
      clear ho hn
      have HM_19 := Lib.hid (HM_18.out.on hb)
      have FX_19 := Lib.hid (FX_18.out.stays hb)
      have FQ_19 := Lib.hid (FQ_18.out.on hb)
      have Fxa_19 := Lib.hid (Fxa_18.out.stays hb)
      have Fxq_19 := Lib.hid (Fxq_18.out.stays hb)
      have Fxcs_19 := Lib.hid (Fxcs_18.out.stays hb)
      clear hb
      clear p0
      obtain ⟨p0, _, _⟩ := HM_19.out.bk
      go_wp2_with fail
      go_at_call 35
      refine (HEcs.out w19 A11 A19 c11 c19 ys11 ys19 Fxcs_19.out Fycs_19.out).mono ?_
      rintro r we3 ⟨rfl, m3, rfl⟩
      have hbd3 : Below w19.heap.size w19 (w19.drewN m3) := Law.up (Below.refl _ _) _
      have HM_20 := Lib.hid (HM_19.out.on hbd3)
      have FX_20 := Lib.hid (FX_19.out.stays hbd3)
      have FQ_20 := Lib.hid (FQ_19.out.on hbd3)
      have Fxa_20 := Lib.hid (Fxa_19.out.stays hbd3)
      have Fxq_20 := Lib.hid (Fxq_19.out.stays hbd3)
      have Fxcs_20 := Lib.hid (Fxcs_19.out.stays hbd3)
      have Fycs_20 := Lib.hid (Fycs_19.out.stays hbd3)
      clear hbd3
      generalize World.drewN w19 m3 = w20 at HM_20 FX_20 FQ_20 Fxa_20 Fxq_20 Fxcs_20 Fycs_20 ⊢
      clear p0
      go_wp2
      go_ret
      exact ⟨rfl, HM_20.out.bl⟩
set_option maxHeartbeats 1600000 in
theorem walk_big (A0 : Option Addr) (c0 : Nat) (xs0 : List Value) (L : List (List Int)) (a : List Int) (q : List Int) (cs : List (List Int)) (Aa : Option Addr) (ca : Nat) (Aq : Option Addr) (cq : Nat) (Acs : Option Addr) (ccs : Nat) (yscs : List Value) (w : World) (hs : ¬ (szN L : Int) ≤ 1048576) (hn0 : L.length ≤ maxLen) (hl0 : ∀ l ∈ L, l.length ≤ maxLen) (h : NRow w A0 xs0 L) (hna : a.length ≤ 1048576) (hnq : q.length ≤ 1048576) :
    Calls Try.prog 13 #[mv A0 L.length c0, .slice Aa a.length ca, .slice Aq q.length cq, .slice Acs cs.length ccs] w fun e w' => e = .returned (.bool true) ∧ Below w.heap.size w w' := by
  have hIa : (a.length : Int) ≤ 1048576 := by omega
  have hIq : (q.length : Int) ≤ 1048576 := by omega
  have HM : Hid (MetIn w (w.alloc (.cells #[.slice A0 L.length c0] 24)) A0 c0 xs0 L) := Lib.hid (MetIn.start h 24)
  have HSz := Lib.hid fun (W : World) (h : NRow W A0 xs0 L) => szMet_g A0 c0 xs0 L W hn0 hl0 h
  rw [show szS 1048576 L = -1 from if_neg hs] at HSz
  clear h hl0
  go_enter Try.func13, Try.ntmps13
  go_wp2_with fail
  generalize w.alloc (.cells #[.slice A0 L.length c0] 24) = w0 at HM ⊢
  go_at_call 15
  refine (HSz.out w0 HM.out.rows).mono ?_
  rintro r w1 ⟨rfl, hb⟩
  have HB := Lib.hid (HM.out.on hb).bl
  clear hb
  go_wp2
  go_ret
  exact ⟨rfl, HB.out⟩
set_option maxHeartbeats 1600000 in
theorem walk_big2 (A0 : Option Addr) (c0 : Nat) (xs0 : List Value) (L : List (List Int)) (a : List Int) (q : List Int) (cs : List (List Int)) (Aa : Option Addr) (ca : Nat) (Aq : Option Addr) (cq : Nat) (Acs : Option Addr) (ccs : Nat) (yscs : List Value) (w : World) (hs : (szN L : Int) ≤ 1048576) (hs2 : ¬ (szN L : Int) + (szN cs : Int) ≤ 1048576) (hk : cs.length ≤ maxLen) (hm : ∀ l ∈ cs, l.length ≤ maxLen) (hr : NRow w Acs yscs cs) (hn0 : L.length ≤ maxLen) (hl0 : ∀ l ∈ L, l.length ≤ maxLen) (h : NRow w A0 xs0 L) (hna : a.length ≤ 1048576) (hnq : q.length ≤ 1048576) :
    Calls Try.prog 13 #[mv A0 L.length c0, .slice Aa a.length ca, .slice Aq q.length cq, .slice Acs cs.length ccs] w fun e w' => e = .returned (.bool true) ∧ Below w.heap.size w w' := by
  have hIa : (a.length : Int) ≤ 1048576 := by omega
  have hIq : (q.length : Int) ≤ 1048576 := by omega
  have HM : Hid (MetIn w (w.alloc (.cells #[.slice A0 L.length c0] 24)) A0 c0 xs0 L) := Lib.hid (MetIn.start h 24)
  have HSz := Lib.hid fun (W : World) (h : NRow W A0 xs0 L) => szMet_g A0 c0 xs0 L W hn0 hl0 h
  rw [show szS 1048576 L = 1048576 - (szN L : Int) from if_pos hs] at HSz
  have HZ := Lib.hid fun (W : World) (h : Below w.heap.size w W) => szSS_g Acs ccs yscs cs ((1048576 : Int) - (szN L : Int)) W (by omega) (by omega) hk hm (hr.stays h)
  rw [show szS ((1048576 : Int) - (szN L : Int)) cs = -1 from if_neg (by omega)] at HZ
  have hs0 : ¬ (1048576 : Int) - (szN L : Int) < 0 := by omega
  generalize (szN L : Int) = zL at *
  clear h hl0 hr
  go_enter Try.func13, Try.ntmps13
  go_wp2_with fail
  generalize w.alloc (.cells #[.slice A0 L.length c0] 24) = w0 at HM ⊢
  go_at_call 15
  refine (HSz.out w0 HM.out.rows).mono ?_
  rintro r w1 ⟨rfl, hb⟩
  have HB := Lib.hid (HM.out.on hb).bl
  clear hb
  go_wp2_with fail
  go_at_call 46
  refine (HZ.out w1 HB.out).mono ?_
  rintro r w2 ⟨rfl, e2⟩
  subst e2
  go_wp2
  go_ret
  exact ⟨rfl, HB.out⟩
theorem walk (A0 : Option Addr) (n0 c0 : Nat) (xs0 : List Value) (L : List (List Int)) (Aa : Option Addr) (na ca : Nat) (a : List Int) (Aq : Option Addr) (nq cq : Nat) (q : List Int) (Acs : Option Addr) (ncs ccs : Nat) (yscs : List Value) (cs : List (List Int)) (w : World) (h0 : L.length = n0 ∧ n0 ≤ c0 ∧ c0 ≤ maxLen ∧ (∀ l ∈ L, l.length ≤ maxLen) ∧ NRow w A0 xs0 L) (ha : a.length = na ∧ na ≤ ca ∧ ca ≤ maxLen ∧ (∀ z ∈ a, (Lit.int .i64 z).wf = true) ∧ Law.Row w Aa (a.map (Value.int .i64))) (hq : q.length = nq ∧ nq ≤ cq ∧ cq ≤ maxLen ∧ (∀ z ∈ q, (Lit.int .i64 z).wf = true) ∧ Law.Row w Aq (q.map (Value.int .i64))) (hcs : cs.length = ncs ∧ ncs ≤ ccs ∧ ccs ≤ maxLen ∧ (∀ l ∈ cs, l.length ≤ maxLen) ∧ NRow w Acs yscs cs) (hL : laidMetH Try.prog Rows.fnExactScheduleMovesRow.laid w) (hsh : w.ShapedOpen Try.prog) :
    Calls Try.prog 13 #[.agg #[.slice A0 n0 c0], .slice Aa na ca, .slice Aq nq cq, .slice Acs ncs ccs] w fun e w' => e = .returned (.bool true) ∧ Below w.heap.size w w' := by
  obtain ⟨rfl, hcA, hcB, hlL, hrL⟩ := h0
  obtain ⟨rfl, hAa, hBa, _, hra⟩ := ha
  obtain ⟨rfl, hAq, hBq, _, hrq⟩ := hq
  obtain ⟨rfl, hAcs, hBcs, hlLcs, hrcs⟩ := hcs
  clear hL hsh
  by_cases hla : a.length ≤ 1048576
  · skip
    by_cases hlq : q.length ≤ 1048576
    · skip
      by_cases hzL : (szN L : Int) ≤ 1048576
      · by_cases hzS : (szN L : Int) + (szN cs : Int) ≤ 1048576
        · have hz : szOk L = true := by rw [szOk_N]; exact decide_eq_true (by omega)
          have hzn : szOk cs = true := by rw [szOk_N]; exact decide_eq_true (by omega)
          have hz' := sz_rows hz
          have hzc := sz_rows hzn
          exact walk_core A0 c0 xs0 L a q cs Aa ca Aq cq Acs ccs yscs (Q.schQ L a q cs).1 (Q.schQ L a q cs).2 w hz (by omega) hlL hrL hla hra hlq hrq hzn hlLcs hzS hrcs (fun A c xs Ba da Bq dq Bcs dcs yscs W h ha hq hcs => specSch_any A c xs L a q cs Ba Bq Bcs da dq dcs yscs hla hlq hzc.2.1 W h ha hq hcs) (fun A c xs Ba da Bq dq Bcs dcs yscs W h ha hq hcs => impSch_any A c xs L a q cs Ba Bq Bcs da dq dcs yscs hz'.2.1 hla hlq hzc.2.1 W h ha hq hcs)
        · exact walk_big2 A0 c0 xs0 L a q cs Aa ca Aq cq Acs ccs yscs w hzL hzS (by omega) hlLcs hrcs (by omega) hlL hrL hla hlq
      · exact walk_big A0 c0 xs0 L a q cs Aa ca Aq cq Acs ccs yscs w hzL (by omega) hlL hrL hla hlq
    · have hIq : ¬ (q.length : Int) ≤ 1048576 := by omega
      have hIa : (a.length : Int) ≤ 1048576 := by omega
      clear hrL hlL hra hrq hrcs
      go_enter Try.func13, Try.ntmps13
      go_wp2
      go_ret
      exact ⟨rfl, (Below.refl _ _).alloc (Nat.le_refl _) _⟩
  · have hIa : ¬ (a.length : Int) ≤ 1048576 := by omega
    clear hrL hlL hra hrq hrcs
    go_enter Try.func13, Try.ntmps13
    go_wp2
    go_ret
    exact ⟨rfl, (Below.refl _ _).alloc (Nat.le_refl _) _⟩
theorem lawOwn : ownKnob Try.prog.godebug = none := by kernel_rfl
theorem lawLaidOut : laidOutB Try.prog = true := by kernel_rfl
set_option maxRecDepth 100000 in
theorem contract (H : Type) (enc : TypeId × Value → H) (W : World) (base : Nat) (args : Array Value) (ds : List (DataW H)) (gs : List (DataW H)) (before : List MemPlace)
    (hval0 : ∀ (j : Nat) t v, Try.f13.params[j]? = some t → args[j]? = some v → Value.okWide Try.prog W .any base t v)
    (hW : DataW.Whole enc Try.prog Try.f13.params.toList Rows.fnExactScheduleMovesSpec.vars false W args.toList ds gs before) (hL : laidMetH Try.prog Rows.fnExactScheduleMovesRow.laid W) (hsh : W.ShapedOpen Try.prog) :
    Calls Try.prog 13 args W fun e W' => ∃ v, e = .returned v ∧ Rows.fnExactScheduleMovesSpec.post enc Try.prog Try.f13 false true false false W args v W' := by
  have hval : ∀ (j : Nat) t v, Try.f13.params[j]? = some t → args[j]? = some v → Value.okWide Try.prog W .any base t v := hval0
  have hW' := hW
  obtain ⟨p, q, hA0, hV, rfl, hfz, hnd⟩ := hW
  have hA : DataW.TrodAll enc Try.prog W 0 (fun _ => true) true Try.f13.params.toList args.toList ds p := hA0
  rw [Try.params13] at hA hval
  obtain ⟨v0, vs0, d0, ds0, p0, q0, hargs0, rfl, rfl, h0, r0⟩ := trodAll_cons hA
  obtain ⟨v1, vs1, d1, ds1, p1, q1, hargs1, rfl, rfl, h1, r1⟩ := trodAll_cons r0
  obtain ⟨v2, vs2, d2, ds2, p2, q2, hargs2, rfl, rfl, h2, r2⟩ := trodAll_cons r1
  obtain ⟨v3, vs3, d3, ds3, p3, q3, hargs3, rfl, rfl, h3, r3⟩ := trodAll_cons r2
  obtain ⟨rfl, rfl, rfl⟩ := trodAll_nil r3
  obtain rfl : args = #[v0, v1, v2, v3] := by cases args; simp_all
  obtain ⟨rfl, rfl⟩ := trodVars_none hV
  obtain ⟨A0, n0, c0, xs0, L0, rfl, w0⟩ := Law.in_metric Try.underlying24 Try.underlying22 Try.underlying25 Try.underlying3 (by kernel_rfl) (by kernel_rfl) (by kernel_rfl) (by kernel_rfl) (hval 0 24 v0 rfl rfl) h0
  obtain ⟨A1, n1, c1, xs1, rfl, w1⟩ := Law.in_ints Try.underlying25 Try.underlying3 (by kernel_rfl) (hval 1 25 v1 rfl rfl) h1 (fun x hx => hW'.lt x (by simp [hx]))
  obtain ⟨A2, n2, c2, xs2, rfl, w2⟩ := Law.in_ints Try.underlying25 Try.underlying3 (by kernel_rfl) (hval 2 25 v2 rfl rfl) h2 (fun x hx => hW'.lt x (by simp [hx]))
  obtain ⟨A3, n3, c3, xs3, L3, rfl, w3⟩ := Law.in_nest Try.underlying22 Try.underlying25 Try.underlying3 (by kernel_rfl) (by kernel_rfl) (hval 3 22 v3 rfl rfl) h3
  clear hA0 hval0
  refine (walk A0 n0 c0 xs0 L0 A1 n1 c1 xs1 A2 n2 c2 xs2 A3 n3 c3 xs3 L3 W w0 w1 w2 w3 hL hsh).mono fun e W' ⟨he, hb⟩ => ?_
  subst he
  exact ⟨_, rfl, Law.close hW' rfl rfl lawLaidOut (by kernel_rfl) Try.underlying4 (by kernel_rfl) hb⟩
theorem reads (os : Os) {H : Type} (enc : TypeId × Value → H) : ∃ places, DataW.whole enc Try.prog ((World.holding Try.prog os ⟨#[], #[], []⟩).forCall (fun _ _ => 0) ⟨#[], #[.agg #[.slice none 0 0], .slice none 0 0, .slice none 0 0, .slice none 0 0], []⟩).memory Try.f13.params.toList Rows.fnExactScheduleMovesSpec.vars false (#[.agg #[.slice none 0 0], .slice none 0 0, .slice none 0 0, .slice none 0 0] : Array Value).toList 8 = some ([.agg [.nil], .nil, .nil, .nil], [], places) :=
  ⟨[], by kernel_rfl⟩
set_option maxRecDepth 100000 in
theorem lifted (os : Os) (started : os.Started) (H : Type) (enc : TypeId × Value → H) (F : Stop.Interp) :
    ReturnsInHanded {} Try.checked os 13 .any ((OpenSpec.ofChange Rows.fnExactScheduleMovesSpec).preRow enc Try.prog Try.f13 Rows.fnExactScheduleMovesRow.domain false Rows.fnExactScheduleMovesRow.laid) (((OpenSpec.ofChange Rows.fnExactScheduleMovesSpec).at F).post enc Try.prog Try.f13 false true false false) := by
  obtain ⟨places, hx⟩ := reads os enc
  refine returnsInHanded_of_row (C := Try.checked) (s := OpenSpec.ofChange Rows.fnExactScheduleMovesSpec) lawOwn started (by kernel_rfl) Try.func13
    (witness_row_at (enc := enc) (C := Try.checked) false (World.holding Try.prog os ⟨#[], #[], []⟩) #[.agg #[.slice none 0 0], .slice none 0 0, .slice none 0 0, .slice none 0 0] rfl (by kernel_rfl) (by kernel_rfl) (by kernel_rfl)
      (OpenSpec.preRow_of_cond 8 hx (by kernel_rfl) (fun k hk => by cases hk) (by kernel_rfl) (laidMet_nil _ _))) ?_
  intro W base args ds gs before hval hW _ _ _ hL hsh _
  exact contract H enc W base args ds gs before hval hW hL hsh
theorem proved : Rows.FnExactScheduleMovesSaid :=
  OpenClaim.holds_of_cond 13 Try.f13 rfl rfl rfl rfl rfl rfl rfl ⟨rfl, rfl, rfl, rfl, rfl⟩ rfl rfl rfl rfl rfl (by kernel_rfl) Try.func13 (by kernel_rfl)
    (of_decide_eq_true (by kernel_rfl)) (by unfold Func.isWrapper; first | (rw [if_pos (by decide +kernel)]; kernel_rfl) | (rw [if_neg (by decide +kernel)]; exact ⟨rfl, rfl⟩))
    (fun os started H enc _ F => by rw [OpenClaim.pre_eq_preRow]; exact lifted os started H enc F)
end LScheduleMoves
end Go.Proofs.Ytphfjhnmnehfkaa
