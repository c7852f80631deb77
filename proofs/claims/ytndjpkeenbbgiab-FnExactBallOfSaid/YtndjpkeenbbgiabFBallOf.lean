/-
  FnExactBallOf: BallOf answers as the model does, whatever it is given, and hands out a row of its own.
  Conditions: none.
-/
import Derived.Test.YtndjpkeenbbgiabRows
import Derived.Test.YtndjpkeenbbgiabChecked
import Derived.Test.YtndjpkeenbbgiabLawM
import Derived.Test.YtndjpkeenbbgiabMet
import Derived.Test.YtndjpkeenbbgiabTb
import Derived.Test.YtndjpkeenbbgiabMarkI
import Derived.Test.YtndjpkeenbbgiabTch
import Derived.Test.YtndjpkeenbbgiabBal
import Derived.Deep.DeepHandedRow
import Derived.Stop.Joined
namespace Go.Proofs.Ytndjpkeenbbgiab
open Go.RowKit Go.ChangeShapes Go.WideShapes
set_option linter.unusedVariables false
namespace LBallOf
set_option maxRecDepth 20000 in
set_option maxHeartbeats 6400000 in
theorem walk_core (A0 : Option Addr) (c0 : Nat) (xs0 : List Value) (L : List (List Int)) (x : Int) (r : Int) (X : List Int × Bool) (w : World) (hlX : X.1.length ≤ 1048576) (hs : szOk L = true) (hn0 : L.length ≤ maxLen) (hl0 : ∀ l ∈ L, l.length ≤ maxLen) (h : NRow w A0 xs0 L)
    (HG : Hid (∀ (A : Option Addr) (c : Nat) (xs : List Value) (W : World), NRow W A xs L → Calls Try.prog 16 #[mv A L.length c, .int .i64 x, .int .i64 r] W (rowSays X W)))
    (HH : Hid (∀ (A : Option Addr) (c : Nat) (xs : List Value) (W : World), NRow W A xs L → Calls Try.prog 18 #[mv A L.length c, .int .i64 x, .int .i64 r] W (rowSays X W))) :
    Calls Try.prog 3 #[mv A0 L.length c0, .int .i64 x, .int .i64 r] w fun e w' => e = .returned (.bool true) ∧ Below w.heap.size w w' := by
  obtain ⟨ps, ok⟩ := X
  simp only [] at hlX
  have H0 := Lib.hid h
  have HM : Hid (MetIn w (w.alloc (.cells #[.slice A0 L.length c0] 24)) A0 c0 xs0 L) := Lib.hid (MetIn.start h 24)
  have HSz := Lib.hid fun (W : World) (h : NRow W A0 xs0 L) => szMet_any A0 c0 xs0 L W hn0 hl0 h
  have HTo := Lib.hid fun (W : World) (h : NRow W A0 xs0 L) => toMet_any A0 c0 xs0 L W hs h
  have HEq := Lib.hid fun (W : World) A B c d xs ys (h1 : NRow W A xs L) (h2 : NRow W B ys L) => eqMet_same A B c d xs ys L W hs h1 h2
  clear h hl0
  go_enter Try.func3, Try.ntmps3
  go_wp2_with fail
  generalize w.alloc (.cells #[.slice A0 L.length c0] 24) = w0 at HM ⊢
  have HM_0 := HM
  clear HM
  obtain ⟨p0, _, _⟩ := HM_0.out.bk
  go_wp2_with fail
  go_at_call 15
  refine (HSz.out w0 HM_0.out.rows).mono ?_
  rintro r w1 ⟨⟨sz, rfl, h1, h2⟩, hb⟩
  have hs0 : ¬ sz < 0 := by have := h1 hs; omega
  clear h1 h2
  have HM_1 := Lib.hid (HM_0.out.on hb)
  clear hb
  clear p0
  obtain ⟨p0, _, _⟩ := HM_1.out.bk
  go_wp2_with fail
  go_at_call 17
  refine (HTo.out w1 HM_1.out.rows).mono ?_
  rintro r w2 ⟨v2, ys2, rfl, ho, hn, hb⟩
  obtain ⟨A2, c2, rfl, _, _, _⟩ := Law.own_len ho
  have FV_2 := Lib.hid (NRow.of ho hn)
  clear ho hn
  have HM_2 := Lib.hid (HM_1.out.on hb)
  clear hb
  clear p0
  obtain ⟨p0, _, _⟩ := HM_2.out.bk
  go_wp2_with fail
  go_at_call 16
  refine (HG.out A2 c2 ys2 w2 FV_2.out).mono ?_
  rintro r w3 ⟨v3, rfl, ho, hb⟩
  simp only [] at ho
  obtain ⟨A3, c3, rfl, _, _, _⟩ := Law.own_len ho
  have FW0 := Lib.hid (Law.Row.own ho)
  have FW_3 := FW0
  have FSW_3 : Hid (Below w3.heap.size w3 w3) := Lib.hid (Below.refl _ _)
  clear ho
  have HM_3 := Lib.hid (HM_2.out.on hb)
  have FV_3 := Lib.hid (FV_2.out.stays hb)
  clear hb
  clear p0
  obtain ⟨p0, _, _⟩ := HM_3.out.bk
  go_wp2_with fail
  go_at_call 17
  refine (HTo.out w3 HM_3.out.rows).mono ?_
  rintro r w4 ⟨v4, ys4, rfl, ho, hn, hb⟩
  have hX0 : w.heap.size < w3.heap.size := HM_3.out.bk.lt
  have hX1 : w3.heap.size ≤ w4.heap.size := hb.size
  have hWX : w3.heap.size ≤ w3.heap.size := FSW_3.out.size
  obtain ⟨A4, c4, rfl, _, _, _⟩ := Law.own_len ho
  have FX_4 := Lib.hid (NRow.of ho hn)
  have FXo_4 := Lib.hid ho
  have FXn_4 := Lib.hid hn
  have htops := Lib.hid hn.tops
  have FZx_4 : Hid (w4.heap.size ≤ w4.heap.size) := Lib.hid (Nat.le_refl _)
  clear ho hn
  have HM_4 := Lib.hid (HM_3.out.on hb)
  have FW_4 := Lib.hid (FW_3.out.stays hb)
  have FSW_4 := Lib.hid (Law.then_ FSW_3.out hb)
  clear hb
  clear p0
  obtain ⟨p0, _, _⟩ := HM_4.out.bk
  have b5 : Below w4.heap.size w4 (w4.alloc (.cells #[.slice A4 L.length c4] 29)) := (Below.refl _ _).alloc (Nat.le_refl _) _
  have FQ_5 := Lib.hid (Bk1.new w4 (.slice A4 L.length c4) 29)
  obtain ⟨bq, hbq⟩ : ∃ bq, bq = w4.heap.size := ⟨_, rfl⟩
  have HM_5 := Lib.hid (HM_4.out.on b5)
  have FW_5 := Lib.hid (FW_4.out.stays b5)
  have FSW_5 := Lib.hid (Law.then_ FSW_4.out b5)
  have FX_5 := Lib.hid (FX_4.out.stays b5)
  have FXo_5 := Lib.hid (own_on FXo_4.out b5)
  have FXn_5 := Lib.hid (FXn_4.out.past b5)
  have FZx_5 := Lib.hid (Nat.le_trans FZx_4.out b5.size)
  clear b5
  go_wp2_with fail
  generalize w4.alloc (.cells #[.slice A4 L.length c4] 29) = w5 at HM_5 FW_5 FSW_5 FX_5 FXo_5 FXn_5 FZx_5 FQ_5 ⊢
  rw [← hbq] at FQ_5 ⊢
  clear hbq
  clear p0
  obtain ⟨p0, _, _⟩ := HM_5.out.bk
  obtain ⟨q0, _, _⟩ := FQ_5.out
  go_wp2_with fail
  go_at_call 18
  refine (HH.out A4 c4 ys4 w5 FX_5.out).mono ?_
  rintro r w6 ⟨v6, rfl, ho, hb⟩
  simp only [] at ho
  obtain ⟨A6, c6, rfl, _, _, _⟩ := Law.own_len ho
  have FG_6 := Lib.hid ho
  have hI_G := Lib.hid (fun g hg => ho.lt g hg)
  have hZ_G : w4.heap.size ≤ w5.heap.size := FZx_5.out
  have hY_G : w5.heap.size ≤ w6.heap.size := hb.size
  have FTG_6 : Hid (w6.heap.size ≤ w6.heap.size) := Lib.hid (Nat.le_refl _)
  clear ho
  have HM_6 := Lib.hid (HM_5.out.on hb)
  have FW_6 := Lib.hid (FW_5.out.stays hb)
  have FSW_6 := Lib.hid (Law.then_ FSW_5.out hb)
  have FX_6 := Lib.hid (FX_5.out.stays hb)
  have FXo_6 := Lib.hid (own_on FXo_5.out hb)
  have FXn_6 := Lib.hid (FXn_5.out.past hb)
  have FZx_6 := Lib.hid (Nat.le_trans FZx_5.out hb.size)
  have FQ_6 := Lib.hid (FQ_5.out.on hb)
  clear hb
  clear p0
  obtain ⟨p0, _, _⟩ := HM_6.out.bk
  clear q0
  obtain ⟨q0, _, _⟩ := FQ_6.out
  clear q0
  go_wp2_with fail
  go_at_call 19
  refine (eqInt_same A6 A3 c6 c3 ps w6 (by omega) (Law.Row.own FG_6.out) (FW_6.out)).mono ?_
  rintro r we1 ⟨rfl, m1, rfl⟩
  have hbd1 : Below w6.heap.size w6 (w6.drewN m1) := Law.up (Below.refl _ _) _
  have HM_7 := Lib.hid (HM_6.out.on hbd1)
  have FW_7 := Lib.hid (FW_6.out.stays hbd1)
  have FSW_7 := Lib.hid (Law.then_ FSW_6.out hbd1)
  have FX_7 := Lib.hid (FX_6.out.stays hbd1)
  have FXo_7 := Lib.hid (own_on FXo_6.out hbd1)
  have FXn_7 := Lib.hid (FXn_6.out.past hbd1)
  have FZx_7 := Lib.hid (Nat.le_trans FZx_6.out hbd1.size)
  have FQ_7 := Lib.hid (FQ_6.out.on hbd1)
  have FG_7 := Lib.hid (own_on FG_6.out hbd1)
  have FTG_7 := Lib.hid (Nat.le_trans FTG_6.out hbd1.size)
  clear hbd1
  generalize World.drewN w6 m1 = w7 at HM_7 FW_7 FSW_7 FX_7 FXo_7 FXn_7 FZx_7 FQ_7 FG_7 FTG_7 ⊢
  clear p0
  obtain ⟨p0, _, _⟩ := HM_7.out.bk
  obtain ⟨q0, _, _⟩ := FQ_7.out
  cases ok
  all_goals
    go_wp2_with fail
    go_region_law ((first
      | (go_simp; go_at_call 17; refine (HTo.out _ (HM_7.out.rows.stays ((Below.refl _ _).drew))).mono ?_; rintro r w8 ⟨v8, ys8, rfl, ho, hn, hb⟩; have hb := ((Below.refl w7.heap.size w7).drew).trans hb; obtain ⟨A8, c8, rfl, _, _, _⟩ := Law.own_len ho; have FZ_8 := Lib.hid (NRow.of ho hn); clear ho hn; have HM_8 := Lib.hid (HM_7.out.on hb); have FW_8 := Lib.hid (FW_7.out.stays hb); have FSW_8 := Lib.hid (Law.then_ FSW_7.out hb); have FX_8 := Lib.hid (FX_7.out.stays hb); have FXo_8 := Lib.hid (own_on FXo_7.out hb); have FXn_8 := Lib.hid (FXn_7.out.past hb); have FZx_8 := Lib.hid (Nat.le_trans FZx_7.out hb.size); have FQ_8 := Lib.hid (FQ_7.out.on hb); have FG_8 := Lib.hid (own_on FG_7.out hb); have FTG_8 := Lib.hid (Nat.le_trans FTG_7.out hb.size); clear hb; clear q0; obtain ⟨q0, _, _⟩ := FQ_8.out)
      | (go_simp; go_at_call 20; refine (HEq.out _ A4 A8 c4 c8 ys4 ys8 FX_8.out FZ_8.out).mono ?_; rintro r w9 ⟨rfl, hb⟩; have HM_9 := Lib.hid (HM_8.out.on hb); have FW_9 := Lib.hid (FW_8.out.stays hb); have FSW_9 := Lib.hid (Law.then_ FSW_8.out hb); have FX_9 := Lib.hid (FX_8.out.stays hb); have FXo_9 := Lib.hid (own_on FXo_8.out hb); have FXn_9 := Lib.hid (FXn_8.out.past hb); have FZx_9 := Lib.hid (Nat.le_trans FZx_8.out hb.size); have FQ_9 := Lib.hid (FQ_8.out.on hb); have FG_9 := Lib.hid (own_on FG_8.out hb); have FTG_9 := Lib.hid (Nat.le_trans FTG_8.out hb.size); clear hb)))
    all_goals
      clear p0 q0
      obtain ⟨p0, _, _⟩ := HM_9.out.bk
      obtain ⟨q0, _, _⟩ := FQ_9.out
      go_wp2_with fail
      go_at_call 21
      refine (markMet_t w3.heap.size w4.heap.size 1 A4 c4 ys4 L w9 (by omega) (by omega) hs (own_down FXo_9.out (Nat.le_refl _)) FXn_9.out htops.out).mono ?_
      rintro r w10 ⟨rfl, hb⟩
      clear p0 q0
      have hlo10 : w3.heap.size ≤ w9.heap.size := (Nat.le_trans hX1 FZx_9.out)
      have hbb10 := hb.below hlo10
      have HM_10 := Lib.hid (MetIn.low H0.out HM_9.out hbb10 hX0)
      have FSW_10 := Lib.hid (FSW_9.out.trans (hbb10.mono hWX))
      have FW_10 := Lib.hid (FW0.out.stays FSW_10.out)
      have FG_10 := Lib.hid (own_tch FG_9.out hb hZ_G)
      have FZx_10 := Lib.hid (Nat.le_trans FZx_9.out hb.size)
      have FTG_10 := Lib.hid (Nat.le_trans FTG_9.out hb.size)
      clear hlo10 hbb10
      clear hb
      obtain ⟨p0, _, _⟩ := HM_10.out.bk
      go_wp2_with fail
      go_at_call 19
      refine (eqInt_same A6 A3 c6 c3 ps w10 (by omega) (Law.Row.own FG_10.out) (FW_10.out)).mono ?_
      rintro r we2 ⟨rfl, m2, rfl⟩
      have hbd2 : Below w10.heap.size w10 (w10.drewN m2) := Law.up (Below.refl _ _) _
      have HM_11 := Lib.hid (HM_10.out.on hbd2)
      have FW_11 := Lib.hid (FW_10.out.stays hbd2)
      have FSW_11 := Lib.hid (Law.then_ FSW_10.out hbd2)
      have FZx_11 := Lib.hid (Nat.le_trans FZx_10.out hbd2.size)
      have FG_11 := Lib.hid (own_on FG_10.out hbd2)
      have FTG_11 := Lib.hid (Nat.le_trans FTG_10.out hbd2.size)
      clear hbd2
      generalize World.drewN w10 m2 = w11 at HM_11 FW_11 FSW_11 FZx_11 FG_11 FTG_11 ⊢
      clear p0
      obtain ⟨p0, _, _⟩ := HM_11.out.bk
      go_wp2_with fail
      go_at_call 22
      refine (markInt_by _ 1 ps.length A6 c6 (ivs ps) w11 (by omega) (by omega) FG_11.out).mono ?_
      rintro r w12 ⟨rfl, ho, hb⟩
      clear p0
      have htc := Tch.grown hb hI_G.out
      clear hb
      have FM_12 := Lib.hid (Law.Row.own ho)
      clear ho
      have hlo12 : w5.heap.size ≤ w11.heap.size := (Nat.le_trans hY_G FTG_11.out)
      have hbb12 := htc.below hlo12
      have HM_12 := Lib.hid (MetIn.low H0.out HM_11.out hbb12 (by omega))
      have FSW_12 := Lib.hid (FSW_11.out.trans (hbb12.mono (by omega)))
      have FW_12 := Lib.hid (FW0.out.stays FSW_12.out)
      have FZx_12 := Lib.hid (Nat.le_trans FZx_11.out htc.size)
      have FTG_12 := Lib.hid (Nat.le_trans FTG_11.out htc.size)
      clear hlo12 hbb12
      clear htc
      obtain ⟨p0, _, _⟩ := HM_12.out.bk
      go_wp2_with fail
      go_at_call 23
      refine (heldInt_one ps.length c6 A6 _ hlX FM_12.out).mono ?_
      rintro r w13 ⟨rfl, hb⟩
      have HM_13 := Lib.hid (HM_12.out.on hb)
      have FW_13 := Lib.hid (FW_12.out.stays hb)
      have FSW_13 := Lib.hid (Law.then_ FSW_12.out hb)
      have FZx_13 := Lib.hid (Nat.le_trans FZx_12.out hb.size)
      have FTG_13 := Lib.hid (Nat.le_trans FTG_12.out hb.size)
      have FM_13 := Lib.hid (FM_12.out.stays hb)
      clear hb
      clear p0
      obtain ⟨p0, _, _⟩ := HM_13.out.bk
      go_wp2_with fail
      go_at_call 17
      refine (HTo.out w13 HM_13.out.rows).mono ?_
      rintro r w14 ⟨v14, ys14, rfl, ho, hn, hb⟩
      obtain ⟨A14, c14, rfl, _, _, _⟩ := Law.own_len ho
      have FV_14 := Lib.hid (NRow.of ho hn)
      clear ho hn
      have HM_14 := Lib.hid (HM_13.out.on hb)
      have FW_14 := Lib.hid (FW_13.out.stays hb)
      have FSW_14 := Lib.hid (Law.then_ FSW_13.out hb)
      have FZx_14 := Lib.hid (Nat.le_trans FZx_13.out hb.size)
      have FTG_14 := Lib.hid (Nat.le_trans FTG_13.out hb.size)
      have FM_14 := Lib.hid (FM_13.out.stays hb)
      clear hb
      clear p0
      obtain ⟨p0, _, _⟩ := HM_14.out.bk
      go_wp2_with fail
      go_at_call 18
      refine (HH.out A14 c14 ys14 w14 FV_14.out).mono ?_
      rintro r w15 ⟨v15, rfl, ho, hb⟩
      simp only [] at ho
      obtain ⟨A15, c15, rfl, _, _, _⟩ := Law.own_len ho
      have FH_15 := Lib.hid (Law.Row.own ho)
      clear ho
      have HM_15 := Lib.hid (HM_14.out.on hb)
      have FW_15 := Lib.hid (FW_14.out.stays hb)
      have FSW_15 := Lib.hid (Law.then_ FSW_14.out hb)
      have FZx_15 := Lib.hid (Nat.le_trans FZx_14.out hb.size)
      have FTG_15 := Lib.hid (Nat.le_trans FTG_14.out hb.size)
      have FM_15 := Lib.hid (FM_14.out.stays hb)
      have FV_15 := Lib.hid (FV_14.out.stays hb)
      clear hb
      clear p0
      obtain ⟨p0, _, _⟩ := HM_15.out.bk
      go_wp2_with fail
      go_at_call 19
      refine (eqInt_same A15 A3 c15 c3 ps w15 (by omega) (FH_15.out) (FW_15.out)).mono ?_
      rintro r we3 ⟨rfl, m3, rfl⟩
      have hbd3 : Below w15.heap.size w15 (w15.drewN m3) := Law.up (Below.refl _ _) _
      have HM_16 := Lib.hid (HM_15.out.on hbd3)
      have FW_16 := Lib.hid (FW_15.out.stays hbd3)
      have FSW_16 := Lib.hid (Law.then_ FSW_15.out hbd3)
      have FZx_16 := Lib.hid (Nat.le_trans FZx_15.out hbd3.size)
      have FTG_16 := Lib.hid (Nat.le_trans FTG_15.out hbd3.size)
      have FM_16 := Lib.hid (FM_15.out.stays hbd3)
      have FH_16 := Lib.hid (FH_15.out.stays hbd3)
      clear hbd3
      generalize World.drewN w15 m3 = w16 at HM_16 FW_16 FSW_16 FZx_16 FTG_16 FM_16 FH_16 ⊢
      clear p0
      obtain ⟨p0, _, _⟩ := HM_16.out.bk
      go_wp2_with fail
      go_at_call 23
      refine (heldInt_one ps.length c6 A6 _ hlX FM_16.out).mono ?_
      rintro r w17 ⟨rfl, hb⟩
      have HM_17 := Lib.hid (HM_16.out.on hb)
      have FW_17 := Lib.hid (FW_16.out.stays hb)
      have FSW_17 := Lib.hid (Law.then_ FSW_16.out hb)
      have FZx_17 := Lib.hid (Nat.le_trans FZx_16.out hb.size)
      have FTG_17 := Lib.hid (Nat.le_trans FTG_16.out hb.size)
      have FM_17 := Lib.hid (FM_16.out.stays hb)
      clear hb
      clear p0
      obtain ⟨p0, _, _⟩ := HM_17.out.bk
      go_wp2
      go_ret
      exact ⟨rfl, HM_17.out.bl⟩
set_option maxHeartbeats 1600000 in
theorem walk_big (A0 : Option Addr) (c0 : Nat) (xs0 : List Value) (L : List (List Int)) (x : Int) (r : Int) (w : World) (hs : szOk L = false) (hn0 : L.length ≤ maxLen) (hl0 : ∀ l ∈ L, l.length ≤ maxLen) (h : NRow w A0 xs0 L) :
    Calls Try.prog 3 #[mv A0 L.length c0, .int .i64 x, .int .i64 r] w fun e w' => e = .returned (.bool true) ∧ Below w.heap.size w w' := by
  have HM : Hid (MetIn w (w.alloc (.cells #[.slice A0 L.length c0] 24)) A0 c0 xs0 L) := Lib.hid (MetIn.start h 24)
  have HSz := Lib.hid fun (W : World) (h : NRow W A0 xs0 L) => szMet_any A0 c0 xs0 L W hn0 hl0 h
  clear h hl0
  go_enter Try.func3, Try.ntmps3
  go_wp2_with fail
  generalize w.alloc (.cells #[.slice A0 L.length c0] 24) = w0 at HM ⊢
  go_at_call 15
  refine (HSz.out w0 HM.out.rows).mono ?_
  rintro r w1 ⟨⟨sz, rfl, h1, h2⟩, hb⟩
  have hs0 : sz < 0 := by have := h2 hs; omega
  have HB := Lib.hid (HM.out.on hb).bl
  clear h1 h2 hb
  go_wp2
  go_ret
  exact ⟨rfl, HB.out⟩
theorem walk (A0 : Option Addr) (n0 c0 : Nat) (xs0 : List Value) (L : List (List Int)) (x : Int) (r : Int) (w : World) (h0 : L.length = n0 ∧ n0 ≤ c0 ∧ c0 ≤ maxLen ∧ (∀ l ∈ L, l.length ≤ maxLen) ∧ NRow w A0 xs0 L) (hx : (Lit.int .i64 x).wf = true) (hr : (Lit.int .i64 r).wf = true) (hL : laidMetH Try.prog Rows.fnExactBallOfRow.laid w) (hsh : w.ShapedOpen Try.prog) :
    Calls Try.prog 3 #[.agg #[.slice A0 n0 c0], .int .i64 x, .int .i64 r] w fun e w' => e = .returned (.bool true) ∧ Below w.heap.size w w' := by
  obtain ⟨rfl, hcA, hcB, hlL, hrL⟩ := h0
  clear hL hsh
  cases hz : szOk L
  · exact walk_big A0 c0 xs0 L x r w hz (by omega) hlL hrL
  · have hz' := sz_rows hz
    exact walk_core A0 c0 xs0 L x r (Q.balQ L x r) w (lenX L x r) hz (by omega) hlL hrL (fun A c xs W h => specBal_any A c xs L x r W h) (fun A c xs W h => impBal_any A c xs L x r W hz'.2.1 h)
theorem lawOwn : ownKnob Try.prog.godebug = none := by kernel_rfl
theorem lawLaidOut : laidOutB Try.prog = true := by kernel_rfl
set_option maxRecDepth 100000 in
theorem contract (H : Type) (enc : TypeId × Value → H) (W : World) (base : Nat) (args : Array Value) (ds : List (DataW H)) (gs : List (DataW H)) (before : List MemPlace)
    (hval0 : ∀ (j : Nat) t v, Try.f3.params[j]? = some t → args[j]? = some v → Value.okWide Try.prog W .any base t v)
    (hW : DataW.Whole enc Try.prog Try.f3.params.toList Rows.fnExactBallOfSpec.vars false W args.toList ds gs before) (hL : laidMetH Try.prog Rows.fnExactBallOfRow.laid W) (hsh : W.ShapedOpen Try.prog) :
    Calls Try.prog 3 args W fun e W' => ∃ v, e = .returned v ∧ Rows.fnExactBallOfSpec.post enc Try.prog Try.f3 false true false false W args v W' := by
  have hval : ∀ (j : Nat) t v, Try.f3.params[j]? = some t → args[j]? = some v → Value.okWide Try.prog W .any base t v := hval0
  have hW' := hW
  obtain ⟨p, q, hA0, hV, rfl, hfz, hnd⟩ := hW
  have hA : DataW.TrodAll enc Try.prog W 0 (fun _ => true) true Try.f3.params.toList args.toList ds p := hA0
  rw [Try.params3] at hA hval
  obtain ⟨v0, vs0, d0, ds0, p0, q0, hargs0, rfl, rfl, h0, r0⟩ := trodAll_cons hA
  obtain ⟨v1, vs1, d1, ds1, p1, q1, hargs1, rfl, rfl, h1, r1⟩ := trodAll_cons r0
  obtain ⟨v2, vs2, d2, ds2, p2, q2, hargs2, rfl, rfl, h2, r2⟩ := trodAll_cons r1
  obtain ⟨rfl, rfl, rfl⟩ := trodAll_nil r2
  obtain rfl : args = #[v0, v1, v2] := by cases args; simp_all
  obtain ⟨rfl, rfl⟩ := trodVars_none hV
  obtain ⟨A0, n0, c0, xs0, L0, rfl, w0⟩ := Law.in_metric Try.underlying24 Try.underlying22 Try.underlying26 Try.underlying3 (by kernel_rfl) (by kernel_rfl) (by kernel_rfl) (by kernel_rfl) (hval 0 24 v0 rfl rfl) h0
  obtain ⟨a1, rfl, rfl, rfl, w1⟩ := open_int Try.underlying3 (hval 1 3 v1 rfl rfl) h1
  obtain ⟨a2, rfl, rfl, rfl, w2⟩ := open_int Try.underlying3 (hval 2 3 v2 rfl rfl) h2
  clear hA0 hval0
  refine (walk A0 n0 c0 xs0 L0 a1 a2 W w0 w1 w2 hL hsh).mono fun e W' ⟨he, hb⟩ => ?_
  subst he
  exact ⟨_, rfl, Law.close hW' rfl rfl lawLaidOut (by kernel_rfl) Try.underlying4 (by kernel_rfl) hb⟩
theorem reads (os : Os) {H : Type} (enc : TypeId × Value → H) : ∃ places, DataW.whole enc Try.prog ((World.holding Try.prog os ⟨#[], #[], []⟩).forCall (fun _ _ => 0) ⟨#[], #[.agg #[.slice none 0 0], .int .i64 0, .int .i64 0], []⟩).memory Try.f3.params.toList Rows.fnExactBallOfSpec.vars false (#[.agg #[.slice none 0 0], .int .i64 0, .int .i64 0] : Array Value).toList 8 = some ([.agg [.nil], .lit (.int .i64 0), .lit (.int .i64 0)], [], places) :=
  ⟨[], by kernel_rfl⟩
set_option maxRecDepth 100000 in
theorem lifted (os : Os) (started : os.Started) (H : Type) (enc : TypeId × Value → H) (F : Stop.Interp) :
    ReturnsInHanded {} Try.checked os 3 .any ((OpenSpec.ofChange Rows.fnExactBallOfSpec).preRow enc Try.prog Try.f3 Rows.fnExactBallOfRow.domain false Rows.fnExactBallOfRow.laid) (((OpenSpec.ofChange Rows.fnExactBallOfSpec).at F).post enc Try.prog Try.f3 false true false false) := by
  obtain ⟨places, hx⟩ := reads os enc
  refine returnsInHanded_of_row (C := Try.checked) (s := OpenSpec.ofChange Rows.fnExactBallOfSpec) lawOwn started (by kernel_rfl) Try.func3
    (witness_row_at (enc := enc) (C := Try.checked) false (World.holding Try.prog os ⟨#[], #[], []⟩) #[.agg #[.slice none 0 0], .int .i64 0, .int .i64 0] rfl (by kernel_rfl) (by kernel_rfl) (by kernel_rfl)
      (OpenSpec.preRow_of_cond 8 hx (by kernel_rfl) (fun k hk => by cases hk) (by kernel_rfl) (laidMet_nil _ _))) ?_
  intro W base args ds gs before hval hW _ _ _ hL hsh _
  exact contract H enc W base args ds gs before hval hW hL hsh
theorem proved : Rows.FnExactBallOfSaid :=
  OpenClaim.holds_of_cond 3 Try.f3 rfl rfl rfl rfl rfl rfl rfl ⟨rfl, rfl, rfl, rfl, rfl⟩ rfl rfl rfl rfl rfl (by kernel_rfl) Try.func3 (by kernel_rfl)
    (of_decide_eq_true (by kernel_rfl)) (by unfold Func.isWrapper; first | (rw [if_pos (by decide +kernel)]; kernel_rfl) | (rw [if_neg (by decide +kernel)]; exact ⟨rfl, rfl⟩))
    (fun os started H enc _ F => by rw [OpenClaim.pre_eq_preRow]; exact lifted os started H enc F)
end LBallOf
end Go.Proofs.Ytndjpkeenbbgiab
