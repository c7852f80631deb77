/-
  FnExactGreedyServers: GreedyServers answers as the model does, whatever it is given, and hands out a row of its own.
  Conditions: none.
-/
import Derived.Test.YtphfjhnmnehfkaaRows
import Derived.Test.YtphfjhnmnehfkaaChecked
import Derived.Test.YtphfjhnmnehfkaaLawM
import Derived.Test.YtphfjhnmnehfkaaMet
import Derived.Test.YtphfjhnmnehfkaaTb
import Derived.Test.YtphfjhnmnehfkaaMarkI
import Derived.Test.YtphfjhnmnehfkaaTcn
import Derived.Test.YtphfjhnmnehfkaaGrI
import Derived.Deep.DeepHandedRow
import Derived.Stop.Joined
namespace Go.Proofs.Ytphfjhnmnehfkaa
open Go.RowKit Go.ChangeShapes Go.WideShapes
set_option linter.unusedVariables false
namespace LGreedyServers
theorem gsL_at (L : List (List Int)) (a q : List Int) : ∀ i, ∀ l ∈ Q.gsL L a q i, ∃ j, j ≤ i ∧ l = Q.gsK L a q j
  | 0, l, h => by simp [Q.gsL] at h
  | i + 1, l, h => by
    rw [Q.gsL] at h
    rcases List.mem_append.1 h with h | h
    · obtain ⟨j, hj, e⟩ := gsL_at L a q i l h
      exact ⟨j, by omega, e⟩
    · obtain rfl := List.mem_singleton.1 h
      exact ⟨i + 1, Nat.le_refl _, rfl⟩
theorem tot_by3 (m : Nat) : ∀ (L : List (List Int)), (∀ l ∈ L, l.length ≤ m) → totL L ≤ m * L.length
  | [], _ => by simp [totL]
  | l :: L, h => by
    have ih := tot_by3 m L fun m hm => h m (List.mem_cons_of_mem _ hm)
    have := h l (List.mem_cons_self ..)
    simp only [totL, List.map_cons, List.sum_cons, List.length_cons, Nat.mul_succ] at ih ⊢
    omega
theorem lenX (L : List (List Int)) (a q : List Int) : (Q.greQ L a q).1.length ≤ 1048576 ∧ (∀ l ∈ (Q.greQ L a q).1, l.length ≤ 1048576) ∧ totL (Q.greQ L a q).1 ≤ 1048576 := by
  cases h : Q.srvQ L a q
  · rw [Q.gre_no h]; simp [totL]
  · rw [Q.gre_yes h]
    obtain ⟨_, ha3, hq60⟩ := Q.srv_len h
    obtain ⟨_, hsa, _, hqw⟩ := Q.srv_iff.1 h
    have hPa : Q.inP L a := fun i hi => Q.within_nat (Q.servers_iff.1 hsa).2.2.1 hi
    have h3 : ∀ l ∈ Q.gsL L a q q.length, l.length ≤ 3 := fun l hl => by
      obtain ⟨j, hj, rfl⟩ := gsL_at L a q _ l hl
      rw [(Q.gs_ok hPa hqw j hj).1]
      exact ha3
    have hlen := Q.gsL_len L a q q.length
    refine ⟨by show (Q.gsL L a q q.length).length ≤ _; omega, fun l hl => by have := h3 l hl; omega, ?_⟩
    have := tot_by3 3 _ h3
    show totL (Q.gsL L a q q.length) ≤ _
    omega
set_option maxRecDepth 20000 in
set_option maxHeartbeats 6400000 in
theorem walk_core (A0 : Option Addr) (c0 : Nat) (xs0 : List Value) (L : List (List Int)) (a : List Int) (q : List Int) (Aa : Option Addr) (ca : Nat) (Aq : Option Addr) (cq : Nat) (X : List (List Int) × Int × Bool) (w : World) (hlX : X.1.length ≤ 1048576) (hllX : ∀ l ∈ X.1, l.length ≤ 1048576) (httX : totL X.1 ≤ 1048576) (hs : szOk L = true) (hn0 : L.length ≤ maxLen) (hl0 : ∀ l ∈ L, l.length ≤ maxLen) (h : NRow w A0 xs0 L) (hna : a.length ≤ 1048576) (HRa : Hid (Law.Row w Aa (ivs a))) (hnq : q.length ≤ 1048576) (HRq : Hid (Law.Row w Aq (ivs q)))
    (HG : Hid (∀ (A : Option Addr) (c : Nat) (xs : List Value) (Ba : Option Addr) (da : Nat) (Bq : Option Addr) (dq : Nat) (W : World), NRow W A xs L → Law.Row W Ba (ivs a) → Law.Row W Bq (ivs q) → Calls Try.prog 50 #[mv A L.length c, .slice Ba a.length da, .slice Bq q.length dq] W (nest7 X W)))
    (HH : Hid (∀ (A : Option Addr) (c : Nat) (xs : List Value) (Ba : Option Addr) (da : Nat) (Bq : Option Addr) (dq : Nat) (W : World), NRow W A xs L → Law.Row W Ba (ivs a) → Law.Row W Bq (ivs q) → Calls Try.prog 51 #[mv A L.length c, .slice Ba a.length da, .slice Bq q.length dq] W (nest7 X W))) :
    Calls Try.prog 14 #[mv A0 L.length c0, .slice Aa a.length ca, .slice Aq q.length cq] w fun e w' => e = .returned (.bool true) ∧ Below w.heap.size w w' := by
  obtain ⟨ps, yy, ok⟩ := X
  simp only [] at hlX hllX httX
  have HLL := Lib.hid hllX
  clear hllX
  have htot := (sz_rows hs).2.2
  have hIa : (a.length : Int) ≤ 1048576 := by omega
  have hIq : (q.length : Int) ≤ 1048576 := by omega
  have H0 := Lib.hid h
  have HM : Hid (MetIn w (w.alloc (.cells #[.slice A0 L.length c0] 24)) A0 c0 xs0 L) := Lib.hid (MetIn.start h 24)
  have HSz := Lib.hid fun (W : World) (h : NRow W A0 xs0 L) => szMet_any A0 c0 xs0 L W hn0 hl0 h
  have HTo := Lib.hid fun (W : World) (h : NRow W A0 xs0 L) => toMet_any A0 c0 xs0 L W hs h
  have HEq := Lib.hid fun (W : World) A B c d xs ys (h1 : NRow W A xs L) (h2 : NRow W B ys L) => eqMet_same A B c d xs ys L W hs h1 h2
  clear h hl0
  go_enter Try.func14, Try.ntmps14
  go_wp2_with fail
  generalize w.alloc (.cells #[.slice A0 L.length c0] 24) = w0 at HM ⊢
  have HM_0 := HM
  clear HM
  obtain ⟨p0, _, _⟩ := HM_0.out.bk
  go_wp2_with fail
  go_at_call 15
  refine (HSz.out w0 HM_0.out.rows).mono ?_
  rintro r w1 ⟨⟨sz, rfl, h1, h2⟩, hb⟩
  have hs0 : ¬ sz < 0 := by have := h1 hs; omega
  clear h1 h2
  have HM_1 := Lib.hid (HM_0.out.on hb)
  clear hb
  clear p0
  obtain ⟨p0, _, _⟩ := HM_1.out.bk
  go_wp2_with fail
  go_at_call 17
  refine (HTo.out w1 HM_1.out.rows).mono ?_
  rintro r w2 ⟨v2, ys2, rfl, ho, hn, hb⟩
  obtain ⟨A2, c2, rfl, _, _, _⟩ := Law.own_len ho
  have FV_2 := Lib.hid (NRow.of ho hn)
  clear ho hn
  have HM_2 := Lib.hid (HM_1.out.on hb)
  clear hb
  clear p0
  obtain ⟨p0, _, _⟩ := HM_2.out.bk
  go_wp2_with fail
  go_at_call 18
  refine (toInt_any Aa ca a w2 hna (HRa.out.stays HM_2.out.bl)).mono ?_
  rintro r w3 ⟨v3, rfl, ho, hb⟩
  obtain ⟨A3, c3, rfl, hc3, _, _⟩ := Law.own_len ho
  have Faa_3 := Lib.hid (Law.Row.own ho)
  clear ho
  have HM_3 := Lib.hid (HM_2.out.on hb)
  have FV_3 := Lib.hid (FV_2.out.stays hb)
  clear hb
  clear p0
  obtain ⟨p0, _, _⟩ := HM_3.out.bk
  go_wp2_with fail
  go_at_call 18
  refine (toInt_any Aq cq q w3 hnq (HRq.out.stays HM_3.out.bl)).mono ?_
  rintro r w4 ⟨v4, rfl, ho, hb⟩
  obtain ⟨A4, c4, rfl, hc4, _, _⟩ := Law.own_len ho
  have Faq_4 := Lib.hid (Law.Row.own ho)
  clear ho
  have HM_4 := Lib.hid (HM_3.out.on hb)
  have FV_4 := Lib.hid (FV_3.out.stays hb)
  have Faa_4 := Lib.hid (Faa_3.out.stays hb)
  clear hb
  clear p0
  obtain ⟨p0, _, _⟩ := HM_4.out.bk
  go_wp2_with fail
  go_at_call 50
  refine (HG.out A2 c2 ys2 A3 c3 A4 c4 w4 FV_4.out (Faa_4.out) (Faq_4.out)).mono ?_
  rintro r w5 ⟨v5, us5, rfl, ho, hno, hb⟩
  simp only [] at ho hno
  obtain ⟨A5, c5, rfl, _, _, _⟩ := Law.own_len ho
  have FW0 := Lib.hid (NRow.of ho hno)
  have FW_5 := FW0
  have FSW_5 : Hid (Below w5.heap.size w5 w5) := Lib.hid (Below.refl _ _)
  clear ho hno
  have HM_5 := Lib.hid (HM_4.out.on hb)
  have FV_5 := Lib.hid (FV_4.out.stays hb)
  have Faa_5 := Lib.hid (Faa_4.out.stays hb)
  have Faq_5 := Lib.hid (Faq_4.out.stays hb)
  clear hb
  clear p0
  obtain ⟨p0, _, _⟩ := HM_5.out.bk
  go_wp2_with fail
  go_at_call 17
  refine (HTo.out w5 HM_5.out.rows).mono ?_
  rintro r w6 ⟨v6, ys6, rfl, ho, hn, hb⟩
  have hX0 : w.heap.size < w5.heap.size := HM_5.out.bk.lt
  have hX1 : w5.heap.size ≤ w6.heap.size := hb.size
  have hWX : w5.heap.size ≤ w5.heap.size := FSW_5.out.size
  obtain ⟨A6, c6, rfl, _, _, _⟩ := Law.own_len ho
  have FX_6 := Lib.hid (NRow.of ho hn)
  have FXo_6 := Lib.hid ho
  have FXn_6 := Lib.hid hn
  have htops := Lib.hid hn.tops
  have FZx_6 : Hid (w6.heap.size ≤ w6.heap.size) := Lib.hid (Nat.le_refl _)
  clear ho hn
  have HM_6 := Lib.hid (HM_5.out.on hb)
  have FW_6 := Lib.hid (FW_5.out.stays hb)
  have FSW_6 := Lib.hid (Law.then_ FSW_5.out hb)
  clear hb
  clear p0
  obtain ⟨p0, _, _⟩ := HM_6.out.bk
  have b7 : Below w6.heap.size w6 (w6.alloc (.cells #[.slice A6 L.length c6] 29)) := (Below.refl _ _).alloc (Nat.le_refl _) _
  have FQ_7 := Lib.hid (Bk1.new w6 (.slice A6 L.length c6) 29)
  obtain ⟨bq, hbq⟩ : ∃ bq, bq = w6.heap.size := ⟨_, rfl⟩
  have HM_7 := Lib.hid (HM_6.out.on b7)
  have FW_7 := Lib.hid (FW_6.out.stays b7)
  have FSW_7 := Lib.hid (Law.then_ FSW_6.out b7)
  have FX_7 := Lib.hid (FX_6.out.stays b7)
  have FXo_7 := Lib.hid (own_on FXo_6.out b7)
  have FXn_7 := Lib.hid (FXn_6.out.past b7)
  have FZx_7 := Lib.hid (Nat.le_trans FZx_6.out b7.size)
  clear b7
  go_wp2_with fail
  generalize w6.alloc (.cells #[.slice A6 L.length c6] 29) = w7 at HM_7 FW_7 FSW_7 FX_7 FXo_7 FXn_7 FZx_7 FQ_7 ⊢
  rw [← hbq] at FQ_7 ⊢
  clear hbq
  clear p0
  obtain ⟨p0, _, _⟩ := HM_7.out.bk
  obtain ⟨q0, _, _⟩ := FQ_7.out
  clear q0
  go_wp2_with fail
  go_at_call 18
  refine (toInt_any Aa ca a w7 hna (HRa.out.stays HM_7.out.bl)).mono ?_
  rintro r w8 ⟨v8, rfl, ho, hb⟩
  obtain ⟨A8, c8, rfl, hc8, _, _⟩ := Law.own_len ho
  have Fxa_8 := Lib.hid ho
  have hI_xa := Lib.hid (fun g hg => ho.lt g hg)
  have hZ_xa : w6.heap.size ≤ w7.heap.size := FZx_7.out
  have hY_xa : w7.heap.size ≤ w8.heap.size := hb.size
  have FTxa_8 : Hid (w8.heap.size ≤ w8.heap.size) := Lib.hid (Nat.le_refl _)
  clear ho
  have HM_8 := Lib.hid (HM_7.out.on hb)
  have FW_8 := Lib.hid (FW_7.out.stays hb)
  have FSW_8 := Lib.hid (Law.then_ FSW_7.out hb)
  have FX_8 := Lib.hid (FX_7.out.stays hb)
  have FXo_8 := Lib.hid (own_on FXo_7.out hb)
  have FXn_8 := Lib.hid (FXn_7.out.past hb)
  have FZx_8 := Lib.hid (Nat.le_trans FZx_7.out hb.size)
  have FQ_8 := Lib.hid (FQ_7.out.on hb)
  clear hb
  clear p0
  obtain ⟨p0, _, _⟩ := HM_8.out.bk
  obtain ⟨q0, _, _⟩ := FQ_8.out
  clear q0
  go_wp2_with fail
  go_at_call 18
  refine (toInt_any Aq cq q w8 hnq (HRq.out.stays HM_8.out.bl)).mono ?_
  rintro r w9 ⟨v9, rfl, ho, hb⟩
  obtain ⟨A9, c9, rfl, hc9, _, _⟩ := Law.own_len ho
  have Fxq_9 := Lib.hid ho
  have hI_xq := Lib.hid (fun g hg => ho.lt g hg)
  have hZ_xq : w6.heap.size ≤ w8.heap.size := FZx_8.out
  have hY_xq : w8.heap.size ≤ w9.heap.size := hb.size
  have FTxq_9 : Hid (w9.heap.size ≤ w9.heap.size) := Lib.hid (Nat.le_refl _)
  have hQ_xa_xq := FTxa_8.out
  clear ho
  have HM_9 := Lib.hid (HM_8.out.on hb)
  have FW_9 := Lib.hid (FW_8.out.stays hb)
  have FSW_9 := Lib.hid (Law.then_ FSW_8.out hb)
  have FX_9 := Lib.hid (FX_8.out.stays hb)
  have FXo_9 := Lib.hid (own_on FXo_8.out hb)
  have FXn_9 := Lib.hid (FXn_8.out.past hb)
  have FZx_9 := Lib.hid (Nat.le_trans FZx_8.out hb.size)
  have FQ_9 := Lib.hid (FQ_8.out.on hb)
  have Fxa_9 := Lib.hid (own_on Fxa_8.out hb)
  have FTxa_9 := Lib.hid (Nat.le_trans FTxa_8.out hb.size)
  clear hb
  clear p0
  obtain ⟨p0, _, _⟩ := HM_9.out.bk
  obtain ⟨q0, _, _⟩ := FQ_9.out
  go_wp2_with fail
  go_at_call 51
  refine (HH.out A6 c6 ys6 A8 c8 A9 c9 w9 FX_9.out (Law.Row.own Fxa_9.out) (Law.Row.own Fxq_9.out)).mono ?_
  rintro r w10 ⟨v10, us10, rfl, ho, hno, hb⟩
  simp only [] at ho hno
  obtain ⟨A10, c10, rfl, _, _, _⟩ := Law.own_len ho
  have FG_10 := Lib.hid ho
  have FGn_10 := Lib.hid hno
  have hI_G := Lib.hid (fun g hg => ho.lt g hg)
  have hZ_G : w6.heap.size ≤ w9.heap.size := FZx_9.out
  have hY_G : w9.heap.size ≤ w10.heap.size := hb.size
  have FTG_10 : Hid (w10.heap.size ≤ w10.heap.size) := Lib.hid (Nat.le_refl _)
  have hQ_xa_G := FTxa_9.out
  have hQ_xq_G := FTxq_9.out
  clear ho hno
  have HM_10 := Lib.hid (HM_9.out.on hb)
  have FW_10 := Lib.hid (FW_9.out.stays hb)
  have FSW_10 := Lib.hid (Law.then_ FSW_9.out hb)
  have FX_10 := Lib.hid (FX_9.out.stays hb)
  have FXo_10 := Lib.hid (own_on FXo_9.out hb)
  have FXn_10 := Lib.hid (FXn_9.out.past hb)
  have FZx_10 := Lib.hid (Nat.le_trans FZx_9.out hb.size)
  have FQ_10 := Lib.hid (FQ_9.out.on hb)
  have Fxa_10 := Lib.hid (own_on Fxa_9.out hb)
  have FTxa_10 := Lib.hid (Nat.le_trans FTxa_9.out hb.size)
  have Fxq_10 := Lib.hid (own_on Fxq_9.out hb)
  have FTxq_10 := Lib.hid (Nat.le_trans FTxq_9.out hb.size)
  clear hb
  clear p0
  obtain ⟨p0, _, _⟩ := HM_10.out.bk
  clear q0
  obtain ⟨q0, _, _⟩ := FQ_10.out
  clear q0
  go_wp2_with fail
  go_at_call 35
  refine (eqSS_same A10 A5 c10 c5 us10 us5 ps w10 hlX HLL.out (NRow.of FG_10.out FGn_10.out) (FW_10.out)).mono ?_
  rintro r we1 ⟨rfl, m1, rfl⟩
  have hbd1 : Below w10.heap.size w10 (w10.drewN m1) := Law.up (Below.refl _ _) _
  have HM_11 := Lib.hid (HM_10.out.on hbd1)
  have FW_11 := Lib.hid (FW_10.out.stays hbd1)
  have FSW_11 := Lib.hid (Law.then_ FSW_10.out hbd1)
  have FX_11 := Lib.hid (FX_10.out.stays hbd1)
  have FXo_11 := Lib.hid (own_on FXo_10.out hbd1)
  have FXn_11 := Lib.hid (FXn_10.out.past hbd1)
  have FZx_11 := Lib.hid (Nat.le_trans FZx_10.out hbd1.size)
  have FQ_11 := Lib.hid (FQ_10.out.on hbd1)
  have Fxa_11 := Lib.hid (own_on Fxa_10.out hbd1)
  have FTxa_11 := Lib.hid (Nat.le_trans FTxa_10.out hbd1.size)
  have Fxq_11 := Lib.hid (own_on Fxq_10.out hbd1)
  have FTxq_11 := Lib.hid (Nat.le_trans FTxq_10.out hbd1.size)
  have FG_11 := Lib.hid (own_on FG_10.out hbd1)
  have FTG_11 := Lib.hid (Nat.le_trans FTG_10.out hbd1.size)
  have FGn_11 := Lib.hid (FGn_10.out.past hbd1)
  clear hbd1
  generalize World.drewN w10 m1 = w11 at HM_11 FW_11 FSW_11 FX_11 FXo_11 FXn_11 FZx_11 FQ_11 Fxa_11 FTxa_11 Fxq_11 FTxq_11 FG_11 FTG_11 FGn_11 ⊢
  clear p0
  obtain ⟨p0, _, _⟩ := HM_11.out.bk
  obtain ⟨q0, _, _⟩ := FQ_11.out
  cases ok
  all_goals
    go_wp2_with fail
    go_region_law ((first
      | (go_simp; go_at_call 17; refine (HTo.out _ (HM_11.out.rows.stays ((Below.refl _ _).drew))).mono ?_; rintro r w12 ⟨v12, ys12, rfl, ho, hn, hb⟩; have hb := ((Below.refl w11.heap.size w11).drew).trans hb; obtain ⟨A12, c12, rfl, _, _, _⟩ := Law.own_len ho; have FZ_12 := Lib.hid (NRow.of ho hn); clear ho hn; have HM_12 := Lib.hid (HM_11.out.on hb); have FW_12 := Lib.hid (FW_11.out.stays hb); have FSW_12 := Lib.hid (Law.then_ FSW_11.out hb); have FX_12 := Lib.hid (FX_11.out.stays hb); have FXo_12 := Lib.hid (own_on FXo_11.out hb); have FXn_12 := Lib.hid (FXn_11.out.past hb); have FZx_12 := Lib.hid (Nat.le_trans FZx_11.out hb.size); have FQ_12 := Lib.hid (FQ_11.out.on hb); have Fxa_12 := Lib.hid (own_on Fxa_11.out hb); have FTxa_12 := Lib.hid (Nat.le_trans FTxa_11.out hb.size); have Fxq_12 := Lib.hid (own_on Fxq_11.out hb); have FTxq_12 := Lib.hid (Nat.le_trans FTxq_11.out hb.size); have FG_12 := Lib.hid (own_on FG_11.out hb); have FTG_12 := Lib.hid (Nat.le_trans FTG_11.out hb.size); have FGn_12 := Lib.hid (FGn_11.out.past hb); clear hb; clear q0; obtain ⟨q0, _, _⟩ := FQ_12.out)
      | (go_simp; go_at_call 20; refine (HEq.out _ A6 A12 c6 c12 ys6 ys12 FX_12.out FZ_12.out).mono ?_; rintro r w13 ⟨rfl, hb⟩; have HM_13 := Lib.hid (HM_12.out.on hb); have FW_13 := Lib.hid (FW_12.out.stays hb); have FSW_13 := Lib.hid (Law.then_ FSW_12.out hb); have FX_13 := Lib.hid (FX_12.out.stays hb); have FXo_13 := Lib.hid (own_on FXo_12.out hb); have FXn_13 := Lib.hid (FXn_12.out.past hb); have FZx_13 := Lib.hid (Nat.le_trans FZx_12.out hb.size); have FQ_13 := Lib.hid (FQ_12.out.on hb); have Fxa_13 := Lib.hid (own_on Fxa_12.out hb); have FTxa_13 := Lib.hid (Nat.le_trans FTxa_12.out hb.size); have Fxq_13 := Lib.hid (own_on Fxq_12.out hb); have FTxq_13 := Lib.hid (Nat.le_trans FTxq_12.out hb.size); have FG_13 := Lib.hid (own_on FG_12.out hb); have FTG_13 := Lib.hid (Nat.le_trans FTG_12.out hb.size); have FGn_13 := Lib.hid (FGn_12.out.past hb); clear hb)))
    all_goals
      clear p0 q0
      obtain ⟨p0, _, _⟩ := HM_13.out.bk
      go_wp2_with fail
      go_at_call 18
      refine (toInt_any Aa ca a w13 hna (HRa.out.stays HM_13.out.bl)).mono ?_
      rintro r w14 ⟨v14, rfl, ho, hb⟩
      obtain ⟨A14, c14, rfl, hc14, _, _⟩ := Law.own_len ho
      have Fya_14 := Lib.hid (Law.Row.own ho)
      clear ho
      have HM_14 := Lib.hid (HM_13.out.on hb)
      have FW_14 := Lib.hid (FW_13.out.stays hb)
      have FSW_14 := Lib.hid (Law.then_ FSW_13.out hb)
      have FX_14 := Lib.hid (FX_13.out.stays hb)
      have FXo_14 := Lib.hid (own_on FXo_13.out hb)
      have FXn_14 := Lib.hid (FXn_13.out.past hb)
      have FZx_14 := Lib.hid (Nat.le_trans FZx_13.out hb.size)
      have FQ_14 := Lib.hid (FQ_13.out.on hb)
      have Fxa_14 := Lib.hid (own_on Fxa_13.out hb)
      have FTxa_14 := Lib.hid (Nat.le_trans FTxa_13.out hb.size)
      have Fxq_14 := Lib.hid (own_on Fxq_13.out hb)
      have FTxq_14 := Lib.hid (Nat.le_trans FTxq_13.out hb.size)
      have FG_14 := Lib.hid (own_on FG_13.out hb)
      have FTG_14 := Lib.hid (Nat.le_trans FTG_13.out hb.size)
      have FGn_14 := Lib.hid (FGn_13.out.past hb)
      clear hb
      clear p0
      obtain ⟨p0, _, _⟩ := HM_14.out.bk
      go_wp2_with fail
      go_at_call 21
      refine (eqInt_same A8 A14 c8 c14 a w14 (by omega) (Law.Row.own Fxa_14.out) (Fya_14.out)).mono ?_
      rintro r we2 ⟨rfl, m2, rfl⟩
      have hbd2 : Below w14.heap.size w14 (w14.drewN m2) := Law.up (Below.refl _ _) _
      have HM_15 := Lib.hid (HM_14.out.on hbd2)
      have FW_15 := Lib.hid (FW_14.out.stays hbd2)
      have FSW_15 := Lib.hid (Law.then_ FSW_14.out hbd2)
      have FX_15 := Lib.hid (FX_14.out.stays hbd2)
      have FXo_15 := Lib.hid (own_on FXo_14.out hbd2)
      have FXn_15 := Lib.hid (FXn_14.out.past hbd2)
      have FZx_15 := Lib.hid (Nat.le_trans FZx_14.out hbd2.size)
      have FQ_15 := Lib.hid (FQ_14.out.on hbd2)
      have Fxa_15 := Lib.hid (own_on Fxa_14.out hbd2)
      have FTxa_15 := Lib.hid (Nat.le_trans FTxa_14.out hbd2.size)
      have Fxq_15 := Lib.hid (own_on Fxq_14.out hbd2)
      have FTxq_15 := Lib.hid (Nat.le_trans FTxq_14.out hbd2.size)
      have FG_15 := Lib.hid (own_on FG_14.out hbd2)
      have FTG_15 := Lib.hid (Nat.le_trans FTG_14.out hbd2.size)
      have FGn_15 := Lib.hid (FGn_14.out.past hbd2)
      have Fya_15 := Lib.hid (Fya_14.out.stays hbd2)
      clear hbd2
      generalize World.drewN w14 m2 = w15 at HM_15 FW_15 FSW_15 FX_15 FXo_15 FXn_15 FZx_15 FQ_15 Fxa_15 FTxa_15 Fxq_15 FTxq_15 FG_15 FTG_15 FGn_15 Fya_15 ⊢
      clear p0
      obtain ⟨p0, _, _⟩ := HM_15.out.bk
      go_wp2_with fail
      go_at_call 18
      refine (toInt_any Aq cq q w15 hnq (HRq.out.stays HM_15.out.bl)).mono ?_
      rintro r w16 ⟨v16, rfl, ho, hb⟩
      obtain ⟨A16, c16, rfl, hc16, _, _⟩ := Law.own_len ho
      have Fyq_16 := Lib.hid (Law.Row.own ho)
      clear ho
      have HM_16 := Lib.hid (HM_15.out.on hb)
      have FW_16 := Lib.hid (FW_15.out.stays hb)
      have FSW_16 := Lib.hid (Law.then_ FSW_15.out hb)
      have FX_16 := Lib.hid (FX_15.out.stays hb)
      have FXo_16 := Lib.hid (own_on FXo_15.out hb)
      have FXn_16 := Lib.hid (FXn_15.out.past hb)
      have FZx_16 := Lib.hid (Nat.le_trans FZx_15.out hb.size)
      have FQ_16 := Lib.hid (FQ_15.out.on hb)
      have Fxa_16 := Lib.hid (own_on Fxa_15.out hb)
      have FTxa_16 := Lib.hid (Nat.le_trans FTxa_15.out hb.size)
      have Fxq_16 := Lib.hid (own_on Fxq_15.out hb)
      have FTxq_16 := Lib.hid (Nat.le_trans FTxq_15.out hb.size)
      have FG_16 := Lib.hid (own_on FG_15.out hb)
      have FTG_16 := Lib.hid (Nat.le_trans FTG_15.out hb.size)
      have FGn_16 := Lib.hid (FGn_15.out.past hb)
      clear hb
      clear p0
      obtain ⟨p0, _, _⟩ := HM_16.out.bk
      go_wp2_with fail
      go_at_call 21
      refine (eqInt_same A9 A16 c9 c16 q w16 (by omega) (Law.Row.own Fxq_16.out) (Fyq_16.out)).mono ?_
      rintro r we3 ⟨rfl, m3, rfl⟩
      have hbd3 : Below w16.heap.size w16 (w16.drewN m3) := Law.up (Below.refl _ _) _
      have HM_17 := Lib.hid (HM_16.out.on hbd3)
      have FW_17 := Lib.hid (FW_16.out.stays hbd3)
      have FSW_17 := Lib.hid (Law.then_ FSW_16.out hbd3)
      have FX_17 := Lib.hid (FX_16.out.stays hbd3)
      have FXo_17 := Lib.hid (own_on FXo_16.out hbd3)
      have FXn_17 := Lib.hid (FXn_16.out.past hbd3)
      have FZx_17 := Lib.hid (Nat.le_trans FZx_16.out hbd3.size)
      have FQ_17 := Lib.hid (FQ_16.out.on hbd3)
      have Fxa_17 := Lib.hid (own_on Fxa_16.out hbd3)
      have FTxa_17 := Lib.hid (Nat.le_trans FTxa_16.out hbd3.size)
      have Fxq_17 := Lib.hid (own_on Fxq_16.out hbd3)
      have FTxq_17 := Lib.hid (Nat.le_trans FTxq_16.out hbd3.size)
      have FG_17 := Lib.hid (own_on FG_16.out hbd3)
      have FTG_17 := Lib.hid (Nat.le_trans FTG_16.out hbd3.size)
      have FGn_17 := Lib.hid (FGn_16.out.past hbd3)
      have Fyq_17 := Lib.hid (Fyq_16.out.stays hbd3)
      clear hbd3
      generalize World.drewN w16 m3 = w17 at HM_17 FW_17 FSW_17 FX_17 FXo_17 FXn_17 FZx_17 FQ_17 Fxa_17 FTxa_17 Fxq_17 FTxq_17 FG_17 FTG_17 FGn_17 Fyq_17 ⊢
      clear p0
      obtain ⟨p0, _, _⟩ := HM_17.out.bk
      obtain ⟨q0, _, _⟩ := FQ_17.out
      go_wp2_with fail
      go_at_call 24
      refine (markMet_t w5.heap.size w6.heap.size 1 A6 c6 ys6 L w17 (by omega) (by omega) hs (own_down FXo_17.out (Nat.le_refl _)) FXn_17.out htops.out).mono ?_
      rintro r w18 ⟨rfl, hb⟩
      clear p0 q0
      have hlo18 : w5.heap.size ≤ w17.heap.size := (Nat.le_trans hX1 FZx_17.out)
      have hbb18 := hb.below hlo18
      have HM_18 := Lib.hid (MetIn.low H0.out HM_17.out hbb18 hX0)
      have FSW_18 := Lib.hid (FSW_17.out.trans (hbb18.mono hWX))
      have FW_18 := Lib.hid (FW0.out.stays FSW_18.out)
      have Fxa_18 := Lib.hid (own_tch Fxa_17.out hb hZ_xa)
      have Fxq_18 := Lib.hid (own_tch Fxq_17.out hb hZ_xq)
      have FG_18 := Lib.hid (own_tch FG_17.out hb hZ_G)
      have FGn_18 := Lib.hid (FGn_17.out.tch hb hZ_G)
      have FZx_18 := Lib.hid (Nat.le_trans FZx_17.out hb.size)
      have FTxa_18 := Lib.hid (Nat.le_trans FTxa_17.out hb.size)
      have FTxq_18 := Lib.hid (Nat.le_trans FTxq_17.out hb.size)
      have FTG_18 := Lib.hid (Nat.le_trans FTG_17.out hb.size)
      clear hlo18 hbb18
      clear hb
      obtain ⟨p0, _, _⟩ := HM_18.out.bk
      go_wp2_with fail
      go_at_call 25
      refine (markInt_by _ (1 + totL L) a.length A8 c8 (ivs a) w18 (by omega) (by omega) Fxa_18.out).mono ?_
      rintro r w19 ⟨rfl, ho, hb⟩
      clear ho p0
      have htc := Tch.grown hb hI_xa.out
      clear hb
      have hlo19 : w7.heap.size ≤ w18.heap.size := (Nat.le_trans hY_xa FTxa_18.out)
      have hbb19 := htc.below hlo19
      have HM_19 := Lib.hid (MetIn.low H0.out HM_18.out hbb19 (by omega))
      have FSW_19 := Lib.hid (FSW_18.out.trans (hbb19.mono (by omega)))
      have FW_19 := Lib.hid (FW0.out.stays FSW_19.out)
      have Fxq_19 := Lib.hid (own_tch Fxq_18.out htc hQ_xa_xq)
      have FG_19 := Lib.hid (own_tch FG_18.out htc hQ_xa_G)
      have FGn_19 := Lib.hid (FGn_18.out.tch htc hQ_xa_G)
      have FZx_19 := Lib.hid (Nat.le_trans FZx_18.out htc.size)
      have FTxa_19 := Lib.hid (Nat.le_trans FTxa_18.out htc.size)
      have FTxq_19 := Lib.hid (Nat.le_trans FTxq_18.out htc.size)
      have FTG_19 := Lib.hid (Nat.le_trans FTG_18.out htc.size)
      clear hlo19 hbb19
      clear htc
      obtain ⟨p0, _, _⟩ := HM_19.out.bk
      go_wp2_with fail
      go_at_call 25
      refine (markInt_by _ (1 + totL L + a.length) q.length A9 c9 (ivs q) w19 (by omega) (by omega) Fxq_19.out).mono ?_
      rintro r w20 ⟨rfl, ho, hb⟩
      clear ho p0
      have htc := Tch.grown hb hI_xq.out
      clear hb
      have hlo20 : w8.heap.size ≤ w19.heap.size := (Nat.le_trans hY_xq FTxq_19.out)
      have hbb20 := htc.below hlo20
      have HM_20 := Lib.hid (MetIn.low H0.out HM_19.out hbb20 (by omega))
      have FSW_20 := Lib.hid (FSW_19.out.trans (hbb20.mono (by omega)))
      have FW_20 := Lib.hid (FW0.out.stays FSW_20.out)
      have FG_20 := Lib.hid (own_tch FG_19.out htc hQ_xq_G)
      have FGn_20 := Lib.hid (FGn_19.out.tch htc hQ_xq_G)
      have FZx_20 := Lib.hid (Nat.le_trans FZx_19.out htc.size)
      have FTxa_20 := Lib.hid (Nat.le_trans FTxa_19.out htc.size)
      have FTxq_20 := Lib.hid (Nat.le_trans FTxq_19.out htc.size)
      have FTG_20 := Lib.hid (Nat.le_trans FTG_19.out htc.size)
      clear hlo20 hbb20
      clear htc
      obtain ⟨p0, _, _⟩ := HM_20.out.bk
      go_wp2_with fail
      go_at_call 35
      refine (eqSS_same A10 A5 c10 c5 us10 us5 ps w20 hlX HLL.out (NRow.of FG_20.out FGn_20.out) (FW_20.out)).mono ?_
      rintro r we4 ⟨rfl, m4, rfl⟩
      have hbd4 : Below w20.heap.size w20 (w20.drewN m4) := Law.up (Below.refl _ _) _
      have HM_21 := Lib.hid (HM_20.out.on hbd4)
      have FW_21 := Lib.hid (FW_20.out.stays hbd4)
      have FSW_21 := Lib.hid (Law.then_ FSW_20.out hbd4)
      have FZx_21 := Lib.hid (Nat.le_trans FZx_20.out hbd4.size)
      have FTxa_21 := Lib.hid (Nat.le_trans FTxa_20.out hbd4.size)
      have FTxq_21 := Lib.hid (Nat.le_trans FTxq_20.out hbd4.size)
      have FG_21 := Lib.hid (own_on FG_20.out hbd4)
      have FTG_21 := Lib.hid (Nat.le_trans FTG_20.out hbd4.size)
      have FGn_21 := Lib.hid (FGn_20.out.past hbd4)
      clear hbd4
      generalize World.drewN w20 m4 = w21 at HM_21 FW_21 FSW_21 FZx_21 FTxa_21 FTxq_21 FG_21 FTG_21 FGn_21 ⊢
      clear p0
      obtain ⟨p0, _, _⟩ := HM_21.out.bk
      go_wp2_with fail
      go_at_call 36
      refine (markSS_any w9.heap.size 1 A10 c10 us10 ps w21 (by omega) (by omega) hlX httX (Nat.le_trans hY_G FTG_21.out) FG_21.out FGn_21.out).mono ?_
      rintro r w22 ⟨rfl, ho, hno, hbb⟩
      clear p0
      have HM_22 := Lib.hid (MetIn.low H0.out HM_21.out hbb (by omega))
      have FSW_22 := Lib.hid (FSW_21.out.trans (hbb.mono (by omega)))
      have FW_22 := Lib.hid (FW0.out.stays FSW_22.out)
      have FM_22 : Hid (NRow w22 A10 us10 (mkL 1 ps)) := Lib.hid (NRow.of ho hno)
      clear ho hno hbb
      obtain ⟨p0, _, _⟩ := HM_22.out.bk
      go_wp2_with fail
      go_at_call 37
      refine (heldSS_any 1 A10 c10 us10 ps w22 (by omega) (by omega) hlX httX FM_22.out).mono ?_
      rintro r w23 ⟨rfl, hb⟩
      have HM_23 := Lib.hid (HM_22.out.on hb)
      have FW_23 := Lib.hid (FW_22.out.stays hb)
      have FSW_23 := Lib.hid (Law.then_ FSW_22.out hb)
      have FM_23 := Lib.hid (FM_22.out.stays hb)
      clear hb
      clear p0
      obtain ⟨p0, _, _⟩ := HM_23.out.bk
      go_wp2_with fail
      go_at_call 17
      refine (HTo.out w23 HM_23.out.rows).mono ?_
      rintro r w24 ⟨v24, ys24, rfl, ho, hn, hb⟩
      obtain ⟨A24, c24, rfl, _, _, _⟩ := Law.own_len ho
      have FV_24 := Lib.hid (NRow.of ho hn)
      clear ho hn
      have HM_24 := Lib.hid (HM_23.out.on hb)
      have FW_24 := Lib.hid (FW_23.out.stays hb)
      have FSW_24 := Lib.hid (Law.then_ FSW_23.out hb)
      have FM_24 := Lib.hid (FM_23.out.stays hb)
      clear hb
      clear p0
      obtain ⟨p0, _, _⟩ := HM_24.out.bk
      go_wp2_with fail
      go_at_call 18
      refine (toInt_any Aa ca a w24 hna (HRa.out.stays HM_24.out.bl)).mono ?_
      rintro r w25 ⟨v25, rfl, ho, hb⟩
      obtain ⟨A25, c25, rfl, hc25, _, _⟩ := Law.own_len ho
      have Fza_25 := Lib.hid (Law.Row.own ho)
      clear ho
      have HM_25 := Lib.hid (HM_24.out.on hb)
      have FW_25 := Lib.hid (FW_24.out.stays hb)
      have FSW_25 := Lib.hid (Law.then_ FSW_24.out hb)
      have FM_25 := Lib.hid (FM_24.out.stays hb)
      have FV_25 := Lib.hid (FV_24.out.stays hb)
      clear hb
      clear p0
      obtain ⟨p0, _, _⟩ := HM_25.out.bk
      go_wp2_with fail
      go_at_call 18
      refine (toInt_any Aq cq q w25 hnq (HRq.out.stays HM_25.out.bl)).mono ?_
      rintro r w26 ⟨v26, rfl, ho, hb⟩
      obtain ⟨A26, c26, rfl, hc26, _, _⟩ := Law.own_len ho
      have Fzq_26 := Lib.hid (Law.Row.own ho)
      clear ho
      have HM_26 := Lib.hid (HM_25.out.on hb)
      have FW_26 := Lib.hid (FW_25.out.stays hb)
      have FSW_26 := Lib.hid (Law.then_ FSW_25.out hb)
      have FM_26 := Lib.hid (FM_25.out.stays hb)
      have FV_26 := Lib.hid (FV_25.out.stays hb)
      have Fza_26 := Lib.hid (Fza_25.out.stays hb)
      clear hb
      clear p0
      obtain ⟨p0, _, _⟩ := HM_26.out.bk
      go_wp2_with fail
      go_at_call 51
      refine (HH.out A24 c24 ys24 A25 c25 A26 c26 w26 FV_26.out (Fza_26.out) (Fzq_26.out)).mono ?_
      rintro r w27 ⟨v27, us27, rfl, ho, hno, hb⟩
      simp only [] at ho hno
      obtain ⟨A27, c27, rfl, _, _, _⟩ := Law.own_len ho
      have FH_27 := Lib.hid (NRow.of ho hno)
      clear ho hno
      have HM_27 := Lib.hid (HM_26.out.on hb)
      have FW_27 := Lib.hid (FW_26.out.stays hb)
      have FSW_27 := Lib.hid (Law.then_ FSW_26.out hb)
      have FM_27 := Lib.hid (FM_26.out.stays hb)
      have FV_27 := Lib.hid (FV_26.out.stays hb)
      have Fza_27 := Lib.hid (Fza_26.out.stays hb)
      have Fzq_27 := Lib.hid (Fzq_26.out.stays hb)
      clear hb
      clear p0
      obtain ⟨p0, _, _⟩ := HM_27.out.bk
      go_wp2_with fail
      go_at_call 35
      refine (eqSS_same A27 A5 c27 c5 us27 us5 ps w27 hlX HLL.out (FH_27.out) (FW_27.out)).mono ?_
      rintro r we5 ⟨rfl, m5, rfl⟩
      have hbd5 : Below w27.heap.size w27 (w27.drewN m5) := Law.up (Below.refl _ _) _
      have HM_28 := Lib.hid (HM_27.out.on hbd5)
      have FW_28 := Lib.hid (FW_27.out.stays hbd5)
      have FSW_28 := Lib.hid (Law.then_ FSW_27.out hbd5)
      have FM_28 := Lib.hid (FM_27.out.stays hbd5)
      have FH_28 := Lib.hid (FH_27.out.stays hbd5)
      clear hbd5
      generalize World.drewN w27 m5 = w28 at HM_28 FW_28 FSW_28 FM_28 FH_28 ⊢
      clear p0
      obtain ⟨p0, _, _⟩ := HM_28.out.bk
      go_wp2_with fail
      go_at_call 37
      refine (heldSS_any 1 A10 c10 us10 ps w28 (by omega) (by omega) hlX httX FM_28.out).mono ?_
      rintro r w29 ⟨rfl, hb⟩
      have HM_29 := Lib.hid (HM_28.out.on hb)
      have FW_29 := Lib.hid (FW_28.out.stays hb)
      have FSW_29 := Lib.hid (Law.then_ FSW_28.out hb)
      have FM_29 := Lib.hid (FM_28.out.stays hb)
      clear hb
      clear p0
      obtain ⟨p0, _, _⟩ := HM_29.out.bk
      go_wp2
      go_ret
      exact ⟨rfl, HM_29.out.bl⟩
set_option maxHeartbeats 1600000 in
theorem walk_big (A0 : Option Addr) (c0 : Nat) (xs0 : List Value) (L : List (List Int)) (a : List Int) (q : List Int) (Aa : Option Addr) (ca : Nat) (Aq : Option Addr) (cq : Nat) (w : World) (hs : szOk L = false) (hn0 : L.length ≤ maxLen) (hl0 : ∀ l ∈ L, l.length ≤ maxLen) (h : NRow w A0 xs0 L) (hna : a.length ≤ 1048576) (hnq : q.length ≤ 1048576) :
    Calls Try.prog 14 #[mv A0 L.length c0, .slice Aa a.length ca, .slice Aq q.length cq] w fun e w' => e = .returned (.bool true) ∧ Below w.heap.size w w' := by
  have hIa : (a.length : Int) ≤ 1048576 := by omega
  have hIq : (q.length : Int) ≤ 1048576 := by omega
  have HM : Hid (MetIn w (w.alloc (.cells #[.slice A0 L.length c0] 24)) A0 c0 xs0 L) := Lib.hid (MetIn.start h 24)
  have HSz := Lib.hid fun (W : World) (h : NRow W A0 xs0 L) => szMet_any A0 c0 xs0 L W hn0 hl0 h
  clear h hl0
  go_enter Try.func14, Try.ntmps14
  go_wp2_with fail
  generalize w.alloc (.cells #[.slice A0 L.length c0] 24) = w0 at HM ⊢
  go_at_call 15
  refine (HSz.out w0 HM.out.rows).mono ?_
  rintro r w1 ⟨⟨sz, rfl, h1, h2⟩, hb⟩
  have hs0 : sz < 0 := by have := h2 hs; omega
  have HB := Lib.hid (HM.out.on hb).bl
  clear h1 h2 hb
  go_wp2
  go_ret
  exact ⟨rfl, HB.out⟩
theorem walk (A0 : Option Addr) (n0 c0 : Nat) (xs0 : List Value) (L : List (List Int)) (Aa : Option Addr) (na ca : Nat) (a : List Int) (Aq : Option Addr) (nq cq : Nat) (q : List Int) (w : World) (h0 : L.length = n0 ∧ n0 ≤ c0 ∧ c0 ≤ maxLen ∧ (∀ l ∈ L, l.length ≤ maxLen) ∧ NRow w A0 xs0 L) (ha : a.length = na ∧ na ≤ ca ∧ ca ≤ maxLen ∧ (∀ z ∈ a, (Lit.int .i64 z).wf = true) ∧ Law.Row w Aa (a.map (Value.int .i64))) (hq : q.length = nq ∧ nq ≤ cq ∧ cq ≤ maxLen ∧ (∀ z ∈ q, (Lit.int .i64 z).wf = true) ∧ Law.Row w Aq (q.map (Value.int .i64))) (hL : laidMetH Try.prog Rows.fnExactGreedyServersRow.laid w) (hsh : w.ShapedOpen Try.prog) :
    Calls Try.prog 14 #[.agg #[.slice A0 n0 c0], .slice Aa na ca, .slice Aq nq cq] w fun e w' => e = .returned (.bool true) ∧ Below w.heap.size w w' := by
  obtain ⟨rfl, hcA, hcB, hlL, hrL⟩ := h0
  obtain ⟨rfl, hAa, hBa, _, hra⟩ := ha
  obtain ⟨rfl, hAq, hBq, _, hrq⟩ := hq
  clear hL hsh
  by_cases hla : a.length ≤ 1048576
  · skip
    by_cases hlq : q.length ≤ 1048576
    · skip
      cases hz : szOk L
      · exact walk_big A0 c0 xs0 L a q Aa ca Aq cq w hz (by omega) hlL hrL hla hlq
      · have hz' := sz_rows hz
        exact walk_core A0 c0 xs0 L a q Aa ca Aq cq (Q.greQ L a q) w (lenX L a q).1 (lenX L a q).2.1 (lenX L a q).2.2 hz (by omega) hlL hrL hla hra hlq hrq (fun A c xs Ba da Bq dq W h ha hq => specGre_any A c xs L a q Ba Bq da dq hla hlq W h ha hq) (fun A c xs Ba da Bq dq W h ha hq => impGre_any A c xs L a q Ba Bq da dq hz'.2.1 hla hlq W h ha hq)
    · have hIq : ¬ (q.length : Int) ≤ 1048576 := by omega
      have hIa : (a.length : Int) ≤ 1048576 := by omega
      clear hrL hlL hra hrq
      go_enter Try.func14, Try.ntmps14
      go_wp2
      go_ret
      exact ⟨rfl, (Below.refl _ _).alloc (Nat.le_refl _) _⟩
  · have hIa : ¬ (a.length : Int) ≤ 1048576 := by omega
    clear hrL hlL hra hrq
    go_enter Try.func14, Try.ntmps14
    go_wp2
    go_ret
    exact ⟨rfl, (Below.refl _ _).alloc (Nat.le_refl _) _⟩
theorem lawOwn : ownKnob Try.prog.godebug = none := by kernel_rfl
theorem lawLaidOut : laidOutB Try.prog = true := by kernel_rfl
set_option maxRecDepth 100000 in
theorem contract (H : Type) (enc : TypeId × Value → H) (W : World) (base : Nat) (args : Array Value) (ds : List (DataW H)) (gs : List (DataW H)) (before : List MemPlace)
    (hval0 : ∀ (j : Nat) t v, Try.f14.params[j]? = some t → args[j]? = some v → Value.okWide Try.prog W .any base t v)
    (hW : DataW.Whole enc Try.prog Try.f14.params.toList Rows.fnExactGreedyServersSpec.vars false W args.toList ds gs before) (hL : laidMetH Try.prog Rows.fnExactGreedyServersRow.laid W) (hsh : W.ShapedOpen Try.prog) :
    Calls Try.prog 14 args W fun e W' => ∃ v, e = .returned v ∧ Rows.fnExactGreedyServersSpec.post enc Try.prog Try.f14 false true false false W args v W' := by
  have hval : ∀ (j : Nat) t v, Try.f14.params[j]? = some t → args[j]? = some v → Value.okWide Try.prog W .any base t v := hval0
  have hW' := hW
  obtain ⟨p, q, hA0, hV, rfl, hfz, hnd⟩ := hW
  have hA : DataW.TrodAll enc Try.prog W 0 (fun _ => true) true Try.f14.params.toList args.toList ds p := hA0
  rw [Try.params14] at hA hval
  obtain ⟨v0, vs0, d0, ds0, p0, q0, hargs0, rfl, rfl, h0, r0⟩ := trodAll_cons hA
  obtain ⟨v1, vs1, d1, ds1, p1, q1, hargs1, rfl, rfl, h1, r1⟩ := trodAll_cons r0
  obtain ⟨v2, vs2, d2, ds2, p2, q2, hargs2, rfl, rfl, h2, r2⟩ := trodAll_cons r1
  obtain ⟨rfl, rfl, rfl⟩ := trodAll_nil r2
  obtain rfl : args = #[v0, v1, v2] := by cases args; simp_all
  obtain ⟨rfl, rfl⟩ := trodVars_none hV
  obtain ⟨A0, n0, c0, xs0, L0, rfl, w0⟩ := Law.in_metric Try.underlying24 Try.underlying22 Try.underlying25 Try.underlying3 (by kernel_rfl) (by kernel_rfl) (by kernel_rfl) (by kernel_rfl) (hval 0 24 v0 rfl rfl) h0
  obtain ⟨A1, n1, c1, xs1, rfl, w1⟩ := Law.in_ints Try.underlying25 Try.underlying3 (by kernel_rfl) (hval 1 25 v1 rfl rfl) h1 (fun x hx => hW'.lt x (by simp [hx]))
  obtain ⟨A2, n2, c2, xs2, rfl, w2⟩ := Law.in_ints Try.underlying25 Try.underlying3 (by kernel_rfl) (hval 2 25 v2 rfl rfl) h2 (fun x hx => hW'.lt x (by simp [hx]))
  clear hA0 hval0
  refine (walk A0 n0 c0 xs0 L0 A1 n1 c1 xs1 A2 n2 c2 xs2 W w0 w1 w2 hL hsh).mono fun e W' ⟨he, hb⟩ => ?_
  subst he
  exact ⟨_, rfl, Law.close hW' rfl rfl lawLaidOut (by kernel_rfl) Try.underlying4 (by kernel_rfl) hb⟩
theorem reads (os : Os) {H : Type} (enc : TypeId × Value → H) : ∃ places, DataW.whole enc Try.prog ((World.holding Try.prog os ⟨#[], #[], []⟩).forCall (fun _ _ => 0) ⟨#[], #[.agg #[.slice none 0 0], .slice none 0 0, .slice none 0 0], []⟩).memory Try.f14.params.toList Rows.fnExactGreedyServersSpec.vars false (#[.agg #[.slice none 0 0], .slice none 0 0, .slice none 0 0] : Array Value).toList 8 = some ([.agg [.nil], .nil, .nil], [], places) :=
  ⟨[], by kernel_rfl⟩
set_option maxRecDepth 100000 in
theorem lifted (os : Os) (started : os.Started) (H : Type) (enc : TypeId × Value → H) (F : Stop.Interp) :
    ReturnsInHanded {} Try.checked os 14 .any ((OpenSpec.ofChange Rows.fnExactGreedyServersSpec).preRow enc Try.prog Try.f14 Rows.fnExactGreedyServersRow.domain false Rows.fnExactGreedyServersRow.laid) (((OpenSpec.ofChange Rows.fnExactGreedyServersSpec).at F).post enc Try.prog Try.f14 false true false false) := by
  obtain ⟨places, hx⟩ := reads os enc
  refine returnsInHanded_of_row (C := Try.checked) (s := OpenSpec.ofChange Rows.fnExactGreedyServersSpec) lawOwn started (by kernel_rfl) Try.func14
    (witness_row_at (enc := enc) (C := Try.checked) false (World.holding Try.prog os ⟨#[], #[], []⟩) #[.agg #[.slice none 0 0], .slice none 0 0, .slice none 0 0] rfl (by kernel_rfl) (by kernel_rfl) (by kernel_rfl)
      (OpenSpec.preRow_of_cond 8 hx (by kernel_rfl) (fun k hk => by cases hk) (by kernel_rfl) (laidMet_nil _ _))) ?_
  intro W base args ds gs before hval hW _ _ _ hL hsh _
  exact contract H enc W base args ds gs before hval hW hL hsh
theorem proved : Rows.FnExactGreedyServersSaid :=
  OpenClaim.holds_of_cond 14 Try.f14 rfl rfl rfl rfl rfl rfl rfl ⟨rfl, rfl, rfl, rfl, rfl⟩ rfl rfl rfl rfl rfl (by kernel_rfl) Try.func14 (by kernel_rfl)
    (of_decide_eq_true (by kernel_rfl)) (by unfold Func.isWrapper; first | (rw [if_pos (by decide +kernel)]; kernel_rfl) | (rw [if_neg (by decide +kernel)]; exact ⟨rfl, rfl⟩))
    (fun os started H enc _ F => by rw [OpenClaim.pre_eq_preRow]; exact lifted os started H enc F)
end LGreedyServers
end Go.Proofs.Ytphfjhnmnehfkaa
