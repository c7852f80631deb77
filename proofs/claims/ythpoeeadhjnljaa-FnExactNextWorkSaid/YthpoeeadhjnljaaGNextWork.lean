/-
  The walk of FnExactNextWork: NextWork answers as the model does, whatever it is given, and writes into no argument.
  Conditions: none.
-/
import Derived.Test.YthpoeeadhjnljaaRows
import Derived.Test.YthpoeeadhjnljaaLawP
import Derived.Test.YthpoeeadhjnljaaLawN
import Derived.Test.YthpoeeadhjnljaaPlw
import Derived.Test.YthpoeeadhjnljaaMarkI
import Derived.Test.YthpoeeadhjnljaaSzo
import Derived.Test.YthpoeeadhjnljaaNx8
import Derived.Deep.DeepHandedRow
namespace Go.Proofs.Ythpoeeadhjnljaa
open Go.RowKit Go.ChangeShapes Go.WideShapes
set_option linter.unusedVariables false
namespace LNextWork
theorem lenX (L S : List (List Int)) (r : Int) (v : List Int) : (Q.nwQ L S v r).1.length ≤ 1048576 := by
  cases h : (Q.prQ L S && ((decide (0 ≤ r) && decide (r < S.length)) && Q.nearQ L v))
  · rw [Q.nw_no h]; simp
  · rw [Q.nw_yes h]
    simp only [Bool.and_eq_true] at h
    have h4 := (Q.pr_iff.1 h.1).n4
    show (Q.nextQ L S v r.toNat).length ≤ _
    rw [Q.nextQ_len]
    omega
set_option maxRecDepth 20000 in
set_option maxHeartbeats 6400000 in
theorem walk_core (A0 : Option Addr) (c0 : Nat) (xs0 : List Value) (L : List (List Int)) (B0 : Option Addr) (d0 : Nat) (ys0 : List Value) (S : List (List Int)) (r : Int) (v : List Int) (Av : Option Addr) (cv : Nat) (X : List Int × Bool) (w : World) (hlX : X.1.length ≤ 1048576) (hz : (szN L : Int) + (szN S : Int) ≤ 1048576) (hnL : L.length ≤ maxLen) (hlL : ∀ l ∈ L, l.length ≤ maxLen) (hnS : S.length ≤ maxLen) (hlS : ∀ l ∈ S, l.length ≤ maxLen) (hL : NRow w A0 xs0 L) (hS : NRow w B0 ys0 S) (hnv : v.length ≤ 1048576) (HRv : Hid (Law.Row w Av (ivs v)))
    (HG : Hid (∀ (A : Option Addr) (c : Nat) (xs : List Value) (B : Option Addr) (d : Nat) (ys : List Value) (Bv : Option Addr) (dv : Nat) (W : World), NRow W A xs L → NRow W B ys S → Law.Row W Bv (ivs v) → Calls Try.prog 37 #[pv A L.length c B S.length d, .slice Bv v.length dv, .int .i64 r] W (rowSays X W)))
    (HH : Hid (∀ (A : Option Addr) (c : Nat) (xs : List Value) (B : Option Addr) (d : Nat) (ys : List Value) (Bv : Option Addr) (dv : Nat) (W : World), NRow W A xs L → NRow W B ys S → Law.Row W Bv (ivs v) → Calls Try.prog 38 #[pv A L.length c B S.length d, .slice Bv v.length dv, .int .i64 r] W (rowSays X W))) :
    Calls Try.prog 8 #[pv A0 L.length c0 B0 S.length d0, .slice Av v.length cv, .int .i64 r] w fun e w' => e = .returned (.bool true) ∧ Below w.heap.size w w' := by
  obtain ⟨ps, ok⟩ := X
  simp only [] at hlX
  have hIv : (v.length : Int) ≤ 1048576 := by omega
  have hsL : szOk L = true := szOk_iff.2 (by have : (szN L : Int) ≤ 1048576 := by omega
                                             unfold szN at this; omega)
  have hsS : szOk S = true := szOk_iff.2 (by have : (szN S : Int) ≤ 1048576 := by omega
                                             unfold szN at this; omega)
  have htL := (sz_rows hsL).2.2
  have htS := (sz_rows hsS).2.2
  have hzP : szPr L S = 1048576 - (szN L : Int) - (szN S : Int) := szPr_yes (by omega)
  have HSz := Lib.hid fun (W : World) (h : NRow W A0 xs0 L) (h' : NRow W B0 ys0 S) => szPrb_any A0 c0 xs0 L B0 d0 ys0 S W hnL hlL hnS hlS h h'
  rw [hzP] at HSz
  clear hzP
  have h0zL : 0 ≤ (szN L : Int) := by omega
  have h0zS : 0 ≤ (szN S : Int) := by omega
  generalize (szN L : Int) = zL at *
  generalize (szN S : Int) = zS at *
  have HTo := Lib.hid fun (W : World) (h : NRow W A0 xs0 L) (h' : NRow W B0 ys0 S) => toPrb_any A0 c0 xs0 L B0 d0 ys0 S W hsL hsS h h'
  have HEq := Lib.hid fun (W : World) A c xs B d ys A' c' xs' B' d' ys' (h1 : NRow W A xs L) (h2 : NRow W B ys S) (h3 : NRow W A' xs' L) (h4 : NRow W B' ys' S) => eqPrb_same A c xs L B d ys S A' c' xs' B' d' ys' W hsL hsS h1 h2 h3 h4
  have HP := Lib.hid (PIn.start (c := c0) (d := d0) hL hS 24)
  have HBs : Hid (Below w.heap.size w (w.alloc (.cells #[.slice A0 L.length c0, .slice B0 S.length d0] 24))) := Lib.hid ((Below.refl _ _).alloc (Nat.le_refl _) _)
  clear hL hS hlL hlS
  go_enter Try.func8, Try.ntmps8
  go_wp2_with fail
  generalize w.alloc (.cells #[.slice A0 L.length c0, .slice B0 S.length d0] 24) = w0 at HP HBs ⊢
  have p0 := HP.out.bk.c0
  have p1 := HP.out.bk.c1
  go_wp2_with fail
  go_at_call 15
  refine (HSz.out w0 HP.out.mv HP.out.sv).mono ?_
  rintro r w1 ⟨rfl, hb⟩
  have HB0 := Lib.hid hb
  clear hb
  have hs0 : ¬ (1048576 : Int) - zL - zS < 0 := by omega
  clear p0 p1
  have p0 := (HP.out.on (HB0.out)).bk.c0
  have p1 := (HP.out.on (HB0.out)).bk.c1
  go_wp2_with fail
  go_at_call 18
  refine (HTo.out w1 (HP.out.on (HB0.out)).mv (HP.out.on (HB0.out)).sv).mono ?_
  rintro r w2 ⟨A2, c2, xs2, B2, d2, ys2, rfl, ho, hb⟩
  have FV := Lib.hid ho
  clear ho
  have HB1 := Lib.hid hb
  clear hb
  clear p0 p1
  have p0 := (HP.out.on (Law.then_ (HB0.out) HB1.out)).bk.c0
  have p1 := (HP.out.on (Law.then_ (HB0.out) HB1.out)).bk.c1
  go_wp2_with fail
  go_at_call 24
  refine (toInt_any Av cv v w2 hnv (HRv.out.stays (Law.then_ (Law.then_ (HBs.out) HB0.out) HB1.out))).mono ?_
  rintro r w3 ⟨v3, rfl, ho, hb⟩
  obtain ⟨A3, c3, rfl, hc3, _, _⟩ := Law.own_len ho
  have Fav := Lib.hid ho
  clear ho
  have HB2 := Lib.hid hb
  clear hb
  clear p0 p1
  have p0 := (HP.out.on (Law.then_ (Law.then_ (HB0.out) HB1.out) HB2.out)).bk.c0
  have p1 := (HP.out.on (Law.then_ (Law.then_ (HB0.out) HB1.out) HB2.out)).bk.c1
  go_wp2_with fail
  go_at_call 37
  refine (HG.out A2 c2 xs2 B2 d2 ys2 A3 c3 w3 (FV.out.mv.stays (HB2.out)) (FV.out.sv.stays (HB2.out)) (Law.Row.own Fav.out)).mono ?_
  rintro r w4 ⟨v4, rfl, ho, hb⟩
  simp only [] at ho
  obtain ⟨A4, c4, rfl, _, _, _⟩ := Law.own_len ho
  have FW := Lib.hid ho
  clear ho
  have HB3 := Lib.hid hb
  clear hb
  clear p0 p1
  have p0 := (HP.out.on (Law.then_ (Law.then_ (Law.then_ (HB0.out) HB1.out) HB2.out) HB3.out)).bk.c0
  have p1 := (HP.out.on (Law.then_ (Law.then_ (Law.then_ (HB0.out) HB1.out) HB2.out) HB3.out)).bk.c1
  go_wp2_with fail
  go_at_call 18
  refine (HTo.out w4 (HP.out.on (Law.then_ (Law.then_ (Law.then_ (HB0.out) HB1.out) HB2.out) HB3.out)).mv (HP.out.on (Law.then_ (Law.then_ (Law.then_ (HB0.out) HB1.out) HB2.out) HB3.out)).sv).mono ?_
  rintro r w5 ⟨A5, c5, xs5, B5, d5, ys5, rfl, ho, hb⟩
  have FX := Lib.hid ho
  clear ho
  have HB4 := Lib.hid hb
  clear hb
  clear p0 p1
  have p0 := (HP.out.on (Law.then_ (Law.then_ (Law.then_ (Law.then_ (HB0.out) HB1.out) HB2.out) HB3.out) HB4.out)).bk.c0
  have p1 := (HP.out.on (Law.then_ (Law.then_ (Law.then_ (Law.then_ (HB0.out) HB1.out) HB2.out) HB3.out) HB4.out)).bk.c1
  have b9 : Below w5.heap.size w5 (w5.alloc (.cells #[.slice A5 L.length c5, .slice B5 S.length d5] 29)) := (Below.refl _ _).alloc (Nat.le_refl _) _
  have FQ := Lib.hid (Bk2.new w5 (.slice A5 L.length c5) (.slice B5 S.length d5) 29)
  obtain ⟨bq, hbq⟩ : ∃ bq, bq = w5.heap.size := ⟨_, rfl⟩
  go_wp2_with fail
  generalize w5.alloc (.cells #[.slice A5 L.length c5, .slice B5 S.length d5] 29) = w6 at b9 FQ ⊢
  rw [← hbq] at FQ ⊢
  clear hbq
  have HB5 := Lib.hid b9
  clear b9
  clear p0 p1
  have p0 := (HP.out.on (Law.then_ (Law.then_ (Law.then_ (Law.then_ (Law.then_ (HB0.out) HB1.out) HB2.out) HB3.out) HB4.out) HB5.out)).bk.c0
  have p1 := (HP.out.on (Law.then_ (Law.then_ (Law.then_ (Law.then_ (Law.then_ (HB0.out) HB1.out) HB2.out) HB3.out) HB4.out) HB5.out)).bk.c1
  go_wp2_with fail
  go_at_call 24
  refine (toInt_any Av cv v w6 hnv (HRv.out.stays (Law.then_ (Law.then_ (Law.then_ (Law.then_ (Law.then_ (Law.then_ (HBs.out) HB0.out) HB1.out) HB2.out) HB3.out) HB4.out) HB5.out))).mono ?_
  rintro r w7 ⟨v7, rfl, ho, hb⟩
  obtain ⟨A7, c7, rfl, hc7, _, _⟩ := Law.own_len ho
  have Fxv := Lib.hid ho
  clear ho
  have HB6 := Lib.hid hb
  clear hb
  clear p0 p1
  have p0 := (HP.out.on (Law.then_ (Law.then_ (Law.then_ (Law.then_ (Law.then_ (Law.then_ (HB0.out) HB1.out) HB2.out) HB3.out) HB4.out) HB5.out) HB6.out)).bk.c0
  have p1 := (HP.out.on (Law.then_ (Law.then_ (Law.then_ (Law.then_ (Law.then_ (Law.then_ (HB0.out) HB1.out) HB2.out) HB3.out) HB4.out) HB5.out) HB6.out)).bk.c1
  have q0 := (FQ.out.on (HB6.out)).c0
  have q1 := (FQ.out.on (HB6.out)).c1
  go_wp2_with fail
  go_at_call 38
  refine (HH.out A5 c5 xs5 B5 d5 ys5 A7 c7 w7 (FX.out.mv.stays (Law.then_ (HB5.out) HB6.out)) (FX.out.sv.stays (Law.then_ (HB5.out) HB6.out)) (Law.Row.own Fxv.out)).mono ?_
  rintro r w8 ⟨v8, rfl, ho, hb⟩
  simp only [] at ho
  obtain ⟨A8, c8, rfl, _, _, _⟩ := Law.own_len ho
  have FG := Lib.hid ho
  clear ho
  have HB7 := Lib.hid hb
  clear hb
  clear p0 p1
  have p0 := (HP.out.on (Law.then_ (Law.then_ (Law.then_ (Law.then_ (Law.then_ (Law.then_ (Law.then_ (HB0.out) HB1.out) HB2.out) HB3.out) HB4.out) HB5.out) HB6.out) HB7.out)).bk.c0
  have p1 := (HP.out.on (Law.then_ (Law.then_ (Law.then_ (Law.then_ (Law.then_ (Law.then_ (Law.then_ (HB0.out) HB1.out) HB2.out) HB3.out) HB4.out) HB5.out) HB6.out) HB7.out)).bk.c1
  clear q0 q1
  have q0 := (FQ.out.on (Law.then_ (HB6.out) HB7.out)).c0
  have q1 := (FQ.out.on (Law.then_ (HB6.out) HB7.out)).c1
  go_wp2_with fail
  go_at_call 26
  refine (eqInt_same A8 A4 c8 c4 ps w8 (by omega) (Law.Row.own FG.out) ((Law.Row.own FW.out).stays (Law.then_ (Law.then_ (Law.then_ (HB4.out) HB5.out) HB6.out) HB7.out))).mono ?_
  rintro r we1 ⟨rfl, m1, rfl⟩
  have hb : Below w8.heap.size w8 (w8.drewN m1) := Law.up (Below.refl _ _) _
  generalize World.drewN w8 m1 = w9 at hb ⊢
  have HB8 := Lib.hid hb
  clear hb
  clear p0 p1
  have p0 := (HP.out.on (Law.then_ (Law.then_ (Law.then_ (Law.then_ (Law.then_ (Law.then_ (Law.then_ (Law.then_ (HB0.out) HB1.out) HB2.out) HB3.out) HB4.out) HB5.out) HB6.out) HB7.out) HB8.out)).bk.c0
  have p1 := (HP.out.on (Law.then_ (Law.then_ (Law.then_ (Law.then_ (Law.then_ (Law.then_ (Law.then_ (Law.then_ (HB0.out) HB1.out) HB2.out) HB3.out) HB4.out) HB5.out) HB6.out) HB7.out) HB8.out)).bk.c1
  clear q0 q1
  have q0 := (FQ.out.on (Law.then_ (Law.then_ (HB6.out) HB7.out) HB8.out)).c0
  have q1 := (FQ.out.on (Law.then_ (Law.then_ (HB6.out) HB7.out) HB8.out)).c1
  cases ok
  all_goals
    go_wp2_with fail
    go_region_law ((first
      | (go_simp; go_at_call 18; refine (HTo.out _ ((HP.out.on (Law.then_ (Law.then_ (Law.then_ (Law.then_ (Law.then_ (Law.then_ (Law.then_ (Law.then_ (HB0.out) HB1.out) HB2.out) HB3.out) HB4.out) HB5.out) HB6.out) HB7.out) HB8.out)).mv.stays ((Below.refl _ _).drew)) ((HP.out.on (Law.then_ (Law.then_ (Law.then_ (Law.then_ (Law.then_ (Law.then_ (Law.then_ (Law.then_ (HB0.out) HB1.out) HB2.out) HB3.out) HB4.out) HB5.out) HB6.out) HB7.out) HB8.out)).sv.stays ((Below.refl _ _).drew))).mono ?_; rintro r w10 ⟨A10, c10, xs10, B10, d10, ys10, rfl, ho, hb⟩; have hb := ((Below.refl w9.heap.size w9).drew).trans hb; have HB9 := Lib.hid hb; have FZ := Lib.hid ho; clear ho hb; clear q0 q1; have q0 := (FQ.out.on (Law.then_ (Law.then_ (Law.then_ (HB6.out) HB7.out) HB8.out) HB9.out)).c0; have q1 := (FQ.out.on (Law.then_ (Law.then_ (Law.then_ (HB6.out) HB7.out) HB8.out) HB9.out)).c1)
      | (go_simp; go_at_call 21; refine (HEq.out _ A5 c5 xs5 B5 d5 ys5 A10 c10 xs10 B10 d10 ys10 (FX.out.mv.stays (Law.then_ (Law.then_ (Law.then_ (Law.then_ (HB5.out) HB6.out) HB7.out) HB8.out) HB9.out)) (FX.out.sv.stays (Law.then_ (Law.then_ (Law.then_ (Law.then_ (HB5.out) HB6.out) HB7.out) HB8.out) HB9.out)) FZ.out.mv FZ.out.sv).mono ?_; rintro r w11 ⟨rfl, hb⟩; have HB10 := Lib.hid hb; clear hb)))
    all_goals
      clear p0 p1 q0 q1
      have p0 := (HP.out.on (Law.then_ (Law.then_ (Law.then_ (Law.then_ (Law.then_ (Law.then_ (Law.then_ (Law.then_ (Law.then_ (Law.then_ (HB0.out) HB1.out) HB2.out) HB3.out) HB4.out) HB5.out) HB6.out) HB7.out) HB8.out) HB9.out) HB10.out)).bk.c0
      have p1 := (HP.out.on (Law.then_ (Law.then_ (Law.then_ (Law.then_ (Law.then_ (Law.then_ (Law.then_ (Law.then_ (Law.then_ (Law.then_ (HB0.out) HB1.out) HB2.out) HB3.out) HB4.out) HB5.out) HB6.out) HB7.out) HB8.out) HB9.out) HB10.out)).bk.c1
      go_wp2_with fail
      go_at_call 24
      refine (toInt_any Av cv v w11 hnv (HRv.out.stays (Law.then_ (Law.then_ (Law.then_ (Law.then_ (Law.then_ (Law.then_ (Law.then_ (Law.then_ (Law.then_ (Law.then_ (Law.then_ (HBs.out) HB0.out) HB1.out) HB2.out) HB3.out) HB4.out) HB5.out) HB6.out) HB7.out) HB8.out) HB9.out) HB10.out))).mono ?_
      rintro r w12 ⟨v12, rfl, ho, hb⟩
      obtain ⟨A12, c12, rfl, hc12, _, _⟩ := Law.own_len ho
      have Fyv := Lib.hid ho
      clear ho
      have HB11 := Lib.hid hb
      clear hb
      clear p0 p1
      have p0 := (HP.out.on (Law.then_ (Law.then_ (Law.then_ (Law.then_ (Law.then_ (Law.then_ (Law.then_ (Law.then_ (Law.then_ (Law.then_ (Law.then_ (HB0.out) HB1.out) HB2.out) HB3.out) HB4.out) HB5.out) HB6.out) HB7.out) HB8.out) HB9.out) HB10.out) HB11.out)).bk.c0
      have p1 := (HP.out.on (Law.then_ (Law.then_ (Law.then_ (Law.then_ (Law.then_ (Law.then_ (Law.then_ (Law.then_ (Law.then_ (Law.then_ (Law.then_ (HB0.out) HB1.out) HB2.out) HB3.out) HB4.out) HB5.out) HB6.out) HB7.out) HB8.out) HB9.out) HB10.out) HB11.out)).bk.c1
      go_wp2_with fail
      go_at_call 26
      refine (eqInt_same A7 A12 c7 c12 v w12 (by omega) ((Law.Row.own Fxv.out).stays (Law.then_ (Law.then_ (Law.then_ (Law.then_ (HB7.out) HB8.out) HB9.out) HB10.out) HB11.out)) (Law.Row.own Fyv.out)).mono ?_
      rintro r we2 ⟨rfl, m2, rfl⟩
      have hb : Below w12.heap.size w12 (w12.drewN m2) := Law.up (Below.refl _ _) _
      generalize World.drewN w12 m2 = w13 at hb ⊢
      have HB12 := Lib.hid hb
      clear hb
      clear p0 p1
      have p0 := (HP.out.on (Law.then_ (Law.then_ (Law.then_ (Law.then_ (Law.then_ (Law.then_ (Law.then_ (Law.then_ (Law.then_ (Law.then_ (Law.then_ (Law.then_ (HB0.out) HB1.out) HB2.out) HB3.out) HB4.out) HB5.out) HB6.out) HB7.out) HB8.out) HB9.out) HB10.out) HB11.out) HB12.out)).bk.c0
      have p1 := (HP.out.on (Law.then_ (Law.then_ (Law.then_ (Law.then_ (Law.then_ (Law.then_ (Law.then_ (Law.then_ (Law.then_ (Law.then_ (Law.then_ (Law.then_ (HB0.out) HB1.out) HB2.out) HB3.out) HB4.out) HB5.out) HB6.out) HB7.out) HB8.out) HB9.out) HB10.out) HB11.out) HB12.out)).bk.c1
      have q0 := (FQ.out.on (Law.then_ (Law.then_ (Law.then_ (Law.then_ (Law.then_ (Law.then_ (HB6.out) HB7.out) HB8.out) HB9.out) HB10.out) HB11.out) HB12.out)).c0
      have q1 := (FQ.out.on (Law.then_ (Law.then_ (Law.then_ (Law.then_ (Law.then_ (Law.then_ (HB6.out) HB7.out) HB8.out) HB9.out) HB10.out) HB11.out) HB12.out)).c1
      have Htxv := Lib.hid (fun g hg => Fxv.out.lt g hg)
      have hlev : w5.heap.size ≤ w13.heap.size := ((Nat.le_trans (Nat.le_trans (Nat.le_trans (Nat.le_trans (Nat.le_trans (Nat.le_trans (Nat.le_trans HB5.out.size HB6.out.size) HB7.out.size) HB8.out.size) HB9.out.size) HB10.out.size) HB11.out.size) HB12.out.size))
      have FX' := Lib.hid (FX.out.past (Law.then_ (Law.then_ (Law.then_ (Law.then_ (Law.then_ (Law.then_ (Law.then_ (HB5.out) HB6.out) HB7.out) HB8.out) HB9.out) HB10.out) HB11.out) HB12.out))
      go_wp2_with fail
      go_at_call 27
      refine (markPrb_t w4.heap.size w5.heap.size 1 A5 c5 xs5 L B5 d5 ys5 S w13 (by omega) (by omega) hsL hsS FX'.out hlev).mono ?_
      rintro r w14 ⟨rfl, hT⟩
      clear hlev FX'
      have HC13 := Lib.hid hT
      have HB13 := Lib.hid (hT.below ((Nat.le_trans (Nat.le_trans (Nat.le_trans (Nat.le_trans (Nat.le_trans (Nat.le_trans (Nat.le_trans (Nat.le_trans HB4.out.size HB5.out.size) HB6.out.size) HB7.out.size) HB8.out.size) HB9.out.size) HB10.out.size) HB11.out.size) HB12.out.size)))
      clear hT
      have Fxv' := Lib.hid (own_tch (own_past Fxv.out (Law.then_ (Law.then_ (Law.then_ (Law.then_ (Law.then_ (HB7.out) HB8.out) HB9.out) HB10.out) HB11.out) HB12.out)) HC13.out ((HB5.out.size)))
      clear Fxv
      have Fxv := Fxv'
      clear Fxv'
      have FG' := Lib.hid (own_tch (own_past FG.out (Law.then_ (Law.then_ (Law.then_ (Law.then_ (HB8.out) HB9.out) HB10.out) HB11.out) HB12.out)) HC13.out (((Nat.le_trans HB5.out.size HB6.out.size))))
      clear FG
      have FG := FG'
      clear FG'
      clear q0 q1
      clear p0 p1
      have p0 := (HP.out.on ((Law.then_ (Law.then_ (Law.then_ (Law.then_ (Law.then_ (Law.then_ (Law.then_ (Law.then_ (Law.then_ (Law.then_ (Law.then_ (Law.then_ (HB0.out) HB1.out) HB2.out) HB3.out) HB4.out) HB5.out) HB6.out) HB7.out) HB8.out) HB9.out) HB10.out) HB11.out) HB12.out).trans (HB13.out.mono ((Nat.le_trans (Nat.le_trans (Nat.le_trans HB0.out.size HB1.out.size) HB2.out.size) HB3.out.size))))).bk.c0
      have p1 := (HP.out.on ((Law.then_ (Law.then_ (Law.then_ (Law.then_ (Law.then_ (Law.then_ (Law.then_ (Law.then_ (Law.then_ (Law.then_ (Law.then_ (Law.then_ (HB0.out) HB1.out) HB2.out) HB3.out) HB4.out) HB5.out) HB6.out) HB7.out) HB8.out) HB9.out) HB10.out) HB11.out) HB12.out).trans (HB13.out.mono ((Nat.le_trans (Nat.le_trans (Nat.le_trans HB0.out.size HB1.out.size) HB2.out.size) HB3.out.size))))).bk.c1
      go_wp2_with fail
      go_at_call 29
      refine (markInt_by w6.heap.size (1 + totL L + totL S) v.length A7 c7 (ivs v) w14 (by omega) (by omega) Fxv.out).mono ?_
      rintro r w15 ⟨rfl, ho, hg⟩
      have hT : Tch w6.heap.size w7.heap.size w14 w15 := Tch.grown hg Htxv.out
      clear ho hg
      have HC14 := Lib.hid hT
      have HB14 := Lib.hid (hT.below ((Nat.le_trans (Nat.le_trans (Nat.le_trans (Nat.le_trans (Nat.le_trans (Nat.le_trans (Nat.le_trans HB6.out.size HB7.out.size) HB8.out.size) HB9.out.size) HB10.out.size) HB11.out.size) HB12.out.size) HB13.out.size)))
      clear hT
      clear p0 p1
      have p0 := (HP.out.on (((Law.then_ (Law.then_ (Law.then_ (Law.then_ (Law.then_ (Law.then_ (Law.then_ (Law.then_ (Law.then_ (Law.then_ (Law.then_ (Law.then_ (HB0.out) HB1.out) HB2.out) HB3.out) HB4.out) HB5.out) HB6.out) HB7.out) HB8.out) HB9.out) HB10.out) HB11.out) HB12.out).trans (HB13.out.mono ((Nat.le_trans (Nat.le_trans (Nat.le_trans HB0.out.size HB1.out.size) HB2.out.size) HB3.out.size)))).trans (HB14.out.mono ((Nat.le_trans (Nat.le_trans (Nat.le_trans (Nat.le_trans (Nat.le_trans HB0.out.size HB1.out.size) HB2.out.size) HB3.out.size) HB4.out.size) HB5.out.size))))).bk.c0
      have p1 := (HP.out.on (((Law.then_ (Law.then_ (Law.then_ (Law.then_ (Law.then_ (Law.then_ (Law.then_ (Law.then_ (Law.then_ (Law.then_ (Law.then_ (Law.then_ (HB0.out) HB1.out) HB2.out) HB3.out) HB4.out) HB5.out) HB6.out) HB7.out) HB8.out) HB9.out) HB10.out) HB11.out) HB12.out).trans (HB13.out.mono ((Nat.le_trans (Nat.le_trans (Nat.le_trans HB0.out.size HB1.out.size) HB2.out.size) HB3.out.size)))).trans (HB14.out.mono ((Nat.le_trans (Nat.le_trans (Nat.le_trans (Nat.le_trans (Nat.le_trans HB0.out.size HB1.out.size) HB2.out.size) HB3.out.size) HB4.out.size) HB5.out.size))))).bk.c1
      have FG' := Lib.hid (own_tch FG.out HC14.out ((Nat.le_refl _)))
      clear FG
      have FG := FG'
      clear FG'
      go_wp2_with fail
      go_at_call 26
      refine (eqInt_same A8 A4 c8 c4 ps w15 (by omega) (Law.Row.own FG.out) ((Law.Row.own FW.out).stays (((Law.then_ (Law.then_ (Law.then_ (Law.then_ (Law.then_ (Law.then_ (Law.then_ (Law.then_ (HB4.out) HB5.out) HB6.out) HB7.out) HB8.out) HB9.out) HB10.out) HB11.out) HB12.out).trans (HB13.out.mono (Nat.le_refl _))).trans (HB14.out.mono ((Nat.le_trans HB4.out.size HB5.out.size)))))).mono ?_
      rintro r we3 ⟨rfl, m3, rfl⟩
      have hb : Below w15.heap.size w15 (w15.drewN m3) := Law.up (Below.refl _ _) _
      generalize World.drewN w15 m3 = w16 at hb ⊢
      have HB15 := Lib.hid hb
      clear hb
      clear p0 p1
      have p0 := (HP.out.on (Law.then_ (((Law.then_ (Law.then_ (Law.then_ (Law.then_ (Law.then_ (Law.then_ (Law.then_ (Law.then_ (Law.then_ (Law.then_ (Law.then_ (Law.then_ (HB0.out) HB1.out) HB2.out) HB3.out) HB4.out) HB5.out) HB6.out) HB7.out) HB8.out) HB9.out) HB10.out) HB11.out) HB12.out).trans (HB13.out.mono ((Nat.le_trans (Nat.le_trans (Nat.le_trans HB0.out.size HB1.out.size) HB2.out.size) HB3.out.size)))).trans (HB14.out.mono ((Nat.le_trans (Nat.le_trans (Nat.le_trans (Nat.le_trans (Nat.le_trans HB0.out.size HB1.out.size) HB2.out.size) HB3.out.size) HB4.out.size) HB5.out.size)))) HB15.out)).bk.c0
      have p1 := (HP.out.on (Law.then_ (((Law.then_ (Law.then_ (Law.then_ (Law.then_ (Law.then_ (Law.then_ (Law.then_ (Law.then_ (Law.then_ (Law.then_ (Law.then_ (Law.then_ (HB0.out) HB1.out) HB2.out) HB3.out) HB4.out) HB5.out) HB6.out) HB7.out) HB8.out) HB9.out) HB10.out) HB11.out) HB12.out).trans (HB13.out.mono ((Nat.le_trans (Nat.le_trans (Nat.le_trans HB0.out.size HB1.out.size) HB2.out.size) HB3.out.size)))).trans (HB14.out.mono ((Nat.le_trans (Nat.le_trans (Nat.le_trans (Nat.le_trans (Nat.le_trans HB0.out.size HB1.out.size) HB2.out.size) HB3.out.size) HB4.out.size) HB5.out.size)))) HB15.out)).bk.c1
      have HtG := Lib.hid (fun g hg => ((own_past FG.out (HB15.out))).lt g hg)
      go_wp2_with fail
      go_at_call 29
      refine (markInt_by w7.heap.size 1 ps.length A8 c8 (ivs ps) w16 (by omega) (by omega) (own_past FG.out (HB15.out))).mono ?_
      rintro r w17 ⟨rfl, ho, hg⟩
      have hbb : Below w7.heap.size w16 w17 := (Below.refl _ _).grown hg ((Nat.le_trans (Nat.le_trans (Nat.le_trans (Nat.le_trans (Nat.le_trans (Nat.le_trans (Nat.le_trans (Nat.le_trans HB7.out.size HB8.out.size) HB9.out.size) HB10.out.size) HB11.out.size) HB12.out.size) HB13.out.size) HB14.out.size) HB15.out.size)) (fun g hg => (HtG.out g hg).1)
      have FM := Lib.hid ho
      clear ho hg
      have HB16 := Lib.hid hbb
      clear hbb
      clear p0 p1
      have p0 := (HP.out.on ((Law.then_ (((Law.then_ (Law.then_ (Law.then_ (Law.then_ (Law.then_ (Law.then_ (Law.then_ (Law.then_ (Law.then_ (Law.then_ (Law.then_ (Law.then_ (HB0.out) HB1.out) HB2.out) HB3.out) HB4.out) HB5.out) HB6.out) HB7.out) HB8.out) HB9.out) HB10.out) HB11.out) HB12.out).trans (HB13.out.mono ((Nat.le_trans (Nat.le_trans (Nat.le_trans HB0.out.size HB1.out.size) HB2.out.size) HB3.out.size)))).trans (HB14.out.mono ((Nat.le_trans (Nat.le_trans (Nat.le_trans (Nat.le_trans (Nat.le_trans HB0.out.size HB1.out.size) HB2.out.size) HB3.out.size) HB4.out.size) HB5.out.size)))) HB15.out).trans (HB16.out.mono ((Nat.le_trans (Nat.le_trans (Nat.le_trans (Nat.le_trans (Nat.le_trans (Nat.le_trans HB0.out.size HB1.out.size) HB2.out.size) HB3.out.size) HB4.out.size) HB5.out.size) HB6.out.size))))).bk.c0
      have p1 := (HP.out.on ((Law.then_ (((Law.then_ (Law.then_ (Law.then_ (Law.then_ (Law.then_ (Law.then_ (Law.then_ (Law.then_ (Law.then_ (Law.then_ (Law.then_ (Law.then_ (HB0.out) HB1.out) HB2.out) HB3.out) HB4.out) HB5.out) HB6.out) HB7.out) HB8.out) HB9.out) HB10.out) HB11.out) HB12.out).trans (HB13.out.mono ((Nat.le_trans (Nat.le_trans (Nat.le_trans HB0.out.size HB1.out.size) HB2.out.size) HB3.out.size)))).trans (HB14.out.mono ((Nat.le_trans (Nat.le_trans (Nat.le_trans (Nat.le_trans (Nat.le_trans HB0.out.size HB1.out.size) HB2.out.size) HB3.out.size) HB4.out.size) HB5.out.size)))) HB15.out).trans (HB16.out.mono ((Nat.le_trans (Nat.le_trans (Nat.le_trans (Nat.le_trans (Nat.le_trans (Nat.le_trans HB0.out.size HB1.out.size) HB2.out.size) HB3.out.size) HB4.out.size) HB5.out.size) HB6.out.size))))).bk.c1
      go_wp2_with fail
      go_at_call 30
      refine (heldInt_one ps.length c8 A8 w17 (by omega) (Law.Row.own FM.out)).mono ?_
      rintro r w18 ⟨rfl, hb⟩
      have HB17 := Lib.hid hb
      clear hb
      clear p0 p1
      have p0 := (HP.out.on (Law.then_ ((Law.then_ (((Law.then_ (Law.then_ (Law.then_ (Law.then_ (Law.then_ (Law.then_ (Law.then_ (Law.then_ (Law.then_ (Law.then_ (Law.then_ (Law.then_ (HB0.out) HB1.out) HB2.out) HB3.out) HB4.out) HB5.out) HB6.out) HB7.out) HB8.out) HB9.out) HB10.out) HB11.out) HB12.out).trans (HB13.out.mono ((Nat.le_trans (Nat.le_trans (Nat.le_trans HB0.out.size HB1.out.size) HB2.out.size) HB3.out.size)))).trans (HB14.out.mono ((Nat.le_trans (Nat.le_trans (Nat.le_trans (Nat.le_trans (Nat.le_trans HB0.out.size HB1.out.size) HB2.out.size) HB3.out.size) HB4.out.size) HB5.out.size)))) HB15.out).trans (HB16.out.mono ((Nat.le_trans (Nat.le_trans (Nat.le_trans (Nat.le_trans (Nat.le_trans (Nat.le_trans HB0.out.size HB1.out.size) HB2.out.size) HB3.out.size) HB4.out.size) HB5.out.size) HB6.out.size)))) HB17.out)).bk.c0
      have p1 := (HP.out.on (Law.then_ ((Law.then_ (((Law.then_ (Law.then_ (Law.then_ (Law.then_ (Law.then_ (Law.then_ (Law.then_ (Law.then_ (Law.then_ (Law.then_ (Law.then_ (Law.then_ (HB0.out) HB1.out) HB2.out) HB3.out) HB4.out) HB5.out) HB6.out) HB7.out) HB8.out) HB9.out) HB10.out) HB11.out) HB12.out).trans (HB13.out.mono ((Nat.le_trans (Nat.le_trans (Nat.le_trans HB0.out.size HB1.out.size) HB2.out.size) HB3.out.size)))).trans (HB14.out.mono ((Nat.le_trans (Nat.le_trans (Nat.le_trans (Nat.le_trans (Nat.le_trans HB0.out.size HB1.out.size) HB2.out.size) HB3.out.size) HB4.out.size) HB5.out.size)))) HB15.out).trans (HB16.out.mono ((Nat.le_trans (Nat.le_trans (Nat.le_trans (Nat.le_trans (Nat.le_trans (Nat.le_trans HB0.out.size HB1.out.size) HB2.out.size) HB3.out.size) HB4.out.size) HB5.out.size) HB6.out.size)))) HB17.out)).bk.c1
      go_wp2_with fail
      go_at_call 18
      refine (HTo.out w18 (HP.out.on (Law.then_ ((Law.then_ (((Law.then_ (Law.then_ (Law.then_ (Law.then_ (Law.then_ (Law.then_ (Law.then_ (Law.then_ (Law.then_ (Law.then_ (Law.then_ (Law.then_ (HB0.out) HB1.out) HB2.out) HB3.out) HB4.out) HB5.out) HB6.out) HB7.out) HB8.out) HB9.out) HB10.out) HB11.out) HB12.out).trans (HB13.out.mono ((Nat.le_trans (Nat.le_trans (Nat.le_trans HB0.out.size HB1.out.size) HB2.out.size) HB3.out.size)))).trans (HB14.out.mono ((Nat.le_trans (Nat.le_trans (Nat.le_trans (Nat.le_trans (Nat.le_trans HB0.out.size HB1.out.size) HB2.out.size) HB3.out.size) HB4.out.size) HB5.out.size)))) HB15.out).trans (HB16.out.mono ((Nat.le_trans (Nat.le_trans (Nat.le_trans (Nat.le_trans (Nat.le_trans (Nat.le_trans HB0.out.size HB1.out.size) HB2.out.size) HB3.out.size) HB4.out.size) HB5.out.size) HB6.out.size)))) HB17.out)).mv (HP.out.on (Law.then_ ((Law.then_ (((Law.then_ (Law.then_ (Law.then_ (Law.then_ (Law.then_ (Law.then_ (Law.then_ (Law.then_ (Law.then_ (Law.then_ (Law.then_ (Law.then_ (HB0.out) HB1.out) HB2.out) HB3.out) HB4.out) HB5.out) HB6.out) HB7.out) HB8.out) HB9.out) HB10.out) HB11.out) HB12.out).trans (HB13.out.mono ((Nat.le_trans (Nat.le_trans (Nat.le_trans HB0.out.size HB1.out.size) HB2.out.size) HB3.out.size)))).trans (HB14.out.mono ((Nat.le_trans (Nat.le_trans (Nat.le_trans (Nat.le_trans (Nat.le_trans HB0.out.size HB1.out.size) HB2.out.size) HB3.out.size) HB4.out.size) HB5.out.size)))) HB15.out).trans (HB16.out.mono ((Nat.le_trans (Nat.le_trans (Nat.le_trans (Nat.le_trans (Nat.le_trans (Nat.le_trans HB0.out.size HB1.out.size) HB2.out.size) HB3.out.size) HB4.out.size) HB5.out.size) HB6.out.size)))) HB17.out)).sv).mono ?_
      rintro r w19 ⟨A19, c19, xs19, B19, d19, ys19, rfl, ho, hb⟩
      have FU := Lib.hid ho
      clear ho
      have HB18 := Lib.hid hb
      clear hb
      clear p0 p1
      have p0 := (HP.out.on (Law.then_ (Law.then_ ((Law.then_ (((Law.then_ (Law.then_ (Law.then_ (Law.then_ (Law.then_ (Law.then_ (Law.then_ (Law.then_ (Law.then_ (Law.then_ (Law.then_ (Law.then_ (HB0.out) HB1.out) HB2.out) HB3.out) HB4.out) HB5.out) HB6.out) HB7.out) HB8.out) HB9.out) HB10.out) HB11.out) HB12.out).trans (HB13.out.mono ((Nat.le_trans (Nat.le_trans (Nat.le_trans HB0.out.size HB1.out.size) HB2.out.size) HB3.out.size)))).trans (HB14.out.mono ((Nat.le_trans (Nat.le_trans (Nat.le_trans (Nat.le_trans (Nat.le_trans HB0.out.size HB1.out.size) HB2.out.size) HB3.out.size) HB4.out.size) HB5.out.size)))) HB15.out).trans (HB16.out.mono ((Nat.le_trans (Nat.le_trans (Nat.le_trans (Nat.le_trans (Nat.le_trans (Nat.le_trans HB0.out.size HB1.out.size) HB2.out.size) HB3.out.size) HB4.out.size) HB5.out.size) HB6.out.size)))) HB17.out) HB18.out)).bk.c0
      have p1 := (HP.out.on (Law.then_ (Law.then_ ((Law.then_ (((Law.then_ (Law.then_ (Law.then_ (Law.then_ (Law.then_ (Law.then_ (Law.then_ (Law.then_ (Law.then_ (Law.then_ (Law.then_ (Law.then_ (HB0.out) HB1.out) HB2.out) HB3.out) HB4.out) HB5.out) HB6.out) HB7.out) HB8.out) HB9.out) HB10.out) HB11.out) HB12.out).trans (HB13.out.mono ((Nat.le_trans (Nat.le_trans (Nat.le_trans HB0.out.size HB1.out.size) HB2.out.size) HB3.out.size)))).trans (HB14.out.mono ((Nat.le_trans (Nat.le_trans (Nat.le_trans (Nat.le_trans (Nat.le_trans HB0.out.size HB1.out.size) HB2.out.size) HB3.out.size) HB4.out.size) HB5.out.size)))) HB15.out).trans (HB16.out.mono ((Nat.le_trans (Nat.le_trans (Nat.le_trans (Nat.le_trans (Nat.le_trans (Nat.le_trans HB0.out.size HB1.out.size) HB2.out.size) HB3.out.size) HB4.out.size) HB5.out.size) HB6.out.size)))) HB17.out) HB18.out)).bk.c1
      go_wp2_with fail
      go_at_call 24
      refine (toInt_any Av cv v w19 hnv (HRv.out.stays (Law.then_ (Law.then_ ((Law.then_ (((Law.then_ (Law.then_ (Law.then_ (Law.then_ (Law.then_ (Law.then_ (Law.then_ (Law.then_ (Law.then_ (Law.then_ (Law.then_ (Law.then_ (Law.then_ (HBs.out) HB0.out) HB1.out) HB2.out) HB3.out) HB4.out) HB5.out) HB6.out) HB7.out) HB8.out) HB9.out) HB10.out) HB11.out) HB12.out).trans (HB13.out.mono ((Nat.le_trans (Nat.le_trans (Nat.le_trans (Nat.le_trans HBs.out.size HB0.out.size) HB1.out.size) HB2.out.size) HB3.out.size)))).trans (HB14.out.mono ((Nat.le_trans (Nat.le_trans (Nat.le_trans (Nat.le_trans (Nat.le_trans (Nat.le_trans HBs.out.size HB0.out.size) HB1.out.size) HB2.out.size) HB3.out.size) HB4.out.size) HB5.out.size)))) HB15.out).trans (HB16.out.mono ((Nat.le_trans (Nat.le_trans (Nat.le_trans (Nat.le_trans (Nat.le_trans (Nat.le_trans (Nat.le_trans HBs.out.size HB0.out.size) HB1.out.size) HB2.out.size) HB3.out.size) HB4.out.size) HB5.out.size) HB6.out.size)))) HB17.out) HB18.out))).mono ?_
      rintro r w20 ⟨v20, rfl, ho, hb⟩
      obtain ⟨A20, c20, rfl, hc20, _, _⟩ := Law.own_len ho
      have Fuv := Lib.hid ho
      clear ho
      have HB19 := Lib.hid hb
      clear hb
      clear p0 p1
      have p0 := (HP.out.on (Law.then_ (Law.then_ (Law.then_ ((Law.then_ (((Law.then_ (Law.then_ (Law.then_ (Law.then_ (Law.then_ (Law.then_ (Law.then_ (Law.then_ (Law.then_ (Law.then_ (Law.then_ (Law.then_ (HB0.out) HB1.out) HB2.out) HB3.out) HB4.out) HB5.out) HB6.out) HB7.out) HB8.out) HB9.out) HB10.out) HB11.out) HB12.out).trans (HB13.out.mono ((Nat.le_trans (Nat.le_trans (Nat.le_trans HB0.out.size HB1.out.size) HB2.out.size) HB3.out.size)))).trans (HB14.out.mono ((Nat.le_trans (Nat.le_trans (Nat.le_trans (Nat.le_trans (Nat.le_trans HB0.out.size HB1.out.size) HB2.out.size) HB3.out.size) HB4.out.size) HB5.out.size)))) HB15.out).trans (HB16.out.mono ((Nat.le_trans (Nat.le_trans (Nat.le_trans (Nat.le_trans (Nat.le_trans (Nat.le_trans HB0.out.size HB1.out.size) HB2.out.size) HB3.out.size) HB4.out.size) HB5.out.size) HB6.out.size)))) HB17.out) HB18.out) HB19.out)).bk.c0
      have p1 := (HP.out.on (Law.then_ (Law.then_ (Law.then_ ((Law.then_ (((Law.then_ (Law.then_ (Law.then_ (Law.then_ (Law.then_ (Law.then_ (Law.then_ (Law.then_ (Law.then_ (Law.then_ (Law.then_ (Law.then_ (HB0.out) HB1.out) HB2.out) HB3.out) HB4.out) HB5.out) HB6.out) HB7.out) HB8.out) HB9.out) HB10.out) HB11.out) HB12.out).trans (HB13.out.mono ((Nat.le_trans (Nat.le_trans (Nat.le_trans HB0.out.size HB1.out.size) HB2.out.size) HB3.out.size)))).trans (HB14.out.mono ((Nat.le_trans (Nat.le_trans (Nat.le_trans (Nat.le_trans (Nat.le_trans HB0.out.size HB1.out.size) HB2.out.size) HB3.out.size) HB4.out.size) HB5.out.size)))) HB15.out).trans (HB16.out.mono ((Nat.le_trans (Nat.le_trans (Nat.le_trans (Nat.le_trans (Nat.le_trans (Nat.le_trans HB0.out.size HB1.out.size) HB2.out.size) HB3.out.size) HB4.out.size) HB5.out.size) HB6.out.size)))) HB17.out) HB18.out) HB19.out)).bk.c1
      go_wp2_with fail
      go_at_call 38
      refine (HH.out A19 c19 xs19 B19 d19 ys19 A20 c20 w20 (FU.out.mv.stays (HB19.out)) (FU.out.sv.stays (HB19.out)) (Law.Row.own Fuv.out)).mono ?_
      rintro r w21 ⟨v21, rfl, ho, hb⟩
      simp only [] at ho
      obtain ⟨A21, c21, rfl, _, _, _⟩ := Law.own_len ho
      have FK := Lib.hid ho
      clear ho
      have HB20 := Lib.hid hb
      clear hb
      clear p0 p1
      have p0 := (HP.out.on (Law.then_ (Law.then_ (Law.then_ (Law.then_ ((Law.then_ (((Law.then_ (Law.then_ (Law.then_ (Law.then_ (Law.then_ (Law.then_ (Law.then_ (Law.then_ (Law.then_ (Law.then_ (Law.then_ (Law.then_ (HB0.out) HB1.out) HB2.out) HB3.out) HB4.out) HB5.out) HB6.out) HB7.out) HB8.out) HB9.out) HB10.out) HB11.out) HB12.out).trans (HB13.out.mono ((Nat.le_trans (Nat.le_trans (Nat.le_trans HB0.out.size HB1.out.size) HB2.out.size) HB3.out.size)))).trans (HB14.out.mono ((Nat.le_trans (Nat.le_trans (Nat.le_trans (Nat.le_trans (Nat.le_trans HB0.out.size HB1.out.size) HB2.out.size) HB3.out.size) HB4.out.size) HB5.out.size)))) HB15.out).trans (HB16.out.mono ((Nat.le_trans (Nat.le_trans (Nat.le_trans (Nat.le_trans (Nat.le_trans (Nat.le_trans HB0.out.size HB1.out.size) HB2.out.size) HB3.out.size) HB4.out.size) HB5.out.size) HB6.out.size)))) HB17.out) HB18.out) HB19.out) HB20.out)).bk.c0
      have p1 := (HP.out.on (Law.then_ (Law.then_ (Law.then_ (Law.then_ ((Law.then_ (((Law.then_ (Law.then_ (Law.then_ (Law.then_ (Law.then_ (Law.then_ (Law.then_ (Law.then_ (Law.then_ (Law.then_ (Law.then_ (Law.then_ (HB0.out) HB1.out) HB2.out) HB3.out) HB4.out) HB5.out) HB6.out) HB7.out) HB8.out) HB9.out) HB10.out) HB11.out) HB12.out).trans (HB13.out.mono ((Nat.le_trans (Nat.le_trans (Nat.le_trans HB0.out.size HB1.out.size) HB2.out.size) HB3.out.size)))).trans (HB14.out.mono ((Nat.le_trans (Nat.le_trans (Nat.le_trans (Nat.le_trans (Nat.le_trans HB0.out.size HB1.out.size) HB2.out.size) HB3.out.size) HB4.out.size) HB5.out.size)))) HB15.out).trans (HB16.out.mono ((Nat.le_trans (Nat.le_trans (Nat.le_trans (Nat.le_trans (Nat.le_trans (Nat.le_trans HB0.out.size HB1.out.size) HB2.out.size) HB3.out.size) HB4.out.size) HB5.out.size) HB6.out.size)))) HB17.out) HB18.out) HB19.out) HB20.out)).bk.c1
      go_wp2_with fail
      go_at_call 26
      refine (eqInt_same A21 A4 c21 c4 ps w21 (by omega) (Law.Row.own FK.out) ((Law.Row.own FW.out).stays (Law.then_ (Law.then_ (Law.then_ (Law.then_ ((Law.then_ (((Law.then_ (Law.then_ (Law.then_ (Law.then_ (Law.then_ (Law.then_ (Law.then_ (Law.then_ (HB4.out) HB5.out) HB6.out) HB7.out) HB8.out) HB9.out) HB10.out) HB11.out) HB12.out).trans (HB13.out.mono (Nat.le_refl _))).trans (HB14.out.mono ((Nat.le_trans HB4.out.size HB5.out.size)))) HB15.out).trans (HB16.out.mono ((Nat.le_trans (Nat.le_trans HB4.out.size HB5.out.size) HB6.out.size)))) HB17.out) HB18.out) HB19.out) HB20.out))).mono ?_
      rintro r we4 ⟨rfl, m4, rfl⟩
      have hb : Below w21.heap.size w21 (w21.drewN m4) := Law.up (Below.refl _ _) _
      generalize World.drewN w21 m4 = w22 at hb ⊢
      have HB21 := Lib.hid hb
      clear hb
      clear p0 p1
      have p0 := (HP.out.on (Law.then_ (Law.then_ (Law.then_ (Law.then_ (Law.then_ ((Law.then_ (((Law.then_ (Law.then_ (Law.then_ (Law.then_ (Law.then_ (Law.then_ (Law.then_ (Law.then_ (Law.then_ (Law.then_ (Law.then_ (Law.then_ (HB0.out) HB1.out) HB2.out) HB3.out) HB4.out) HB5.out) HB6.out) HB7.out) HB8.out) HB9.out) HB10.out) HB11.out) HB12.out).trans (HB13.out.mono ((Nat.le_trans (Nat.le_trans (Nat.le_trans HB0.out.size HB1.out.size) HB2.out.size) HB3.out.size)))).trans (HB14.out.mono ((Nat.le_trans (Nat.le_trans (Nat.le_trans (Nat.le_trans (Nat.le_trans HB0.out.size HB1.out.size) HB2.out.size) HB3.out.size) HB4.out.size) HB5.out.size)))) HB15.out).trans (HB16.out.mono ((Nat.le_trans (Nat.le_trans (Nat.le_trans (Nat.le_trans (Nat.le_trans (Nat.le_trans HB0.out.size HB1.out.size) HB2.out.size) HB3.out.size) HB4.out.size) HB5.out.size) HB6.out.size)))) HB17.out) HB18.out) HB19.out) HB20.out) HB21.out)).bk.c0
      have p1 := (HP.out.on (Law.then_ (Law.then_ (Law.then_ (Law.then_ (Law.then_ ((Law.then_ (((Law.then_ (Law.then_ (Law.then_ (Law.then_ (Law.then_ (Law.then_ (Law.then_ (Law.then_ (Law.then_ (Law.then_ (Law.then_ (Law.then_ (HB0.out) HB1.out) HB2.out) HB3.out) HB4.out) HB5.out) HB6.out) HB7.out) HB8.out) HB9.out) HB10.out) HB11.out) HB12.out).trans (HB13.out.mono ((Nat.le_trans (Nat.le_trans (Nat.le_trans HB0.out.size HB1.out.size) HB2.out.size) HB3.out.size)))).trans (HB14.out.mono ((Nat.le_trans (Nat.le_trans (Nat.le_trans (Nat.le_trans (Nat.le_trans HB0.out.size HB1.out.size) HB2.out.size) HB3.out.size) HB4.out.size) HB5.out.size)))) HB15.out).trans (HB16.out.mono ((Nat.le_trans (Nat.le_trans (Nat.le_trans (Nat.le_trans (Nat.le_trans (Nat.le_trans HB0.out.size HB1.out.size) HB2.out.size) HB3.out.size) HB4.out.size) HB5.out.size) HB6.out.size)))) HB17.out) HB18.out) HB19.out) HB20.out) HB21.out)).bk.c1
      go_wp2_with fail
      go_at_call 30
      refine (heldInt_one ps.length c8 A8 w22 (by omega) ((Law.Row.own FM.out).stays (Law.then_ (Law.then_ (Law.then_ (Law.then_ (HB17.out) HB18.out) HB19.out) HB20.out) HB21.out))).mono ?_
      rintro r w23 ⟨rfl, hb⟩
      have HB22 := Lib.hid hb
      clear hb
      clear p0 p1
      have p0 := (HP.out.on (Law.then_ (Law.then_ (Law.then_ (Law.then_ (Law.then_ (Law.then_ ((Law.then_ (((Law.then_ (Law.then_ (Law.then_ (Law.then_ (Law.then_ (Law.then_ (Law.then_ (Law.then_ (Law.then_ (Law.then_ (Law.then_ (Law.then_ (HB0.out) HB1.out) HB2.out) HB3.out) HB4.out) HB5.out) HB6.out) HB7.out) HB8.out) HB9.out) HB10.out) HB11.out) HB12.out).trans (HB13.out.mono ((Nat.le_trans (Nat.le_trans (Nat.le_trans HB0.out.size HB1.out.size) HB2.out.size) HB3.out.size)))).trans (HB14.out.mono ((Nat.le_trans (Nat.le_trans (Nat.le_trans (Nat.le_trans (Nat.le_trans HB0.out.size HB1.out.size) HB2.out.size) HB3.out.size) HB4.out.size) HB5.out.size)))) HB15.out).trans (HB16.out.mono ((Nat.le_trans (Nat.le_trans (Nat.le_trans (Nat.le_trans (Nat.le_trans (Nat.le_trans HB0.out.size HB1.out.size) HB2.out.size) HB3.out.size) HB4.out.size) HB5.out.size) HB6.out.size)))) HB17.out) HB18.out) HB19.out) HB20.out) HB21.out) HB22.out)).bk.c0
      have p1 := (HP.out.on (Law.then_ (Law.then_ (Law.then_ (Law.then_ (Law.then_ (Law.then_ ((Law.then_ (((Law.then_ (Law.then_ (Law.then_ (Law.then_ (Law.then_ (Law.then_ (Law.then_ (Law.then_ (Law.then_ (Law.then_ (Law.then_ (Law.then_ (HB0.out) HB1.out) HB2.out) HB3.out) HB4.out) HB5.out) HB6.out) HB7.out) HB8.out) HB9.out) HB10.out) HB11.out) HB12.out).trans (HB13.out.mono ((Nat.le_trans (Nat.le_trans (Nat.le_trans HB0.out.size HB1.out.size) HB2.out.size) HB3.out.size)))).trans (HB14.out.mono ((Nat.le_trans (Nat.le_trans (Nat.le_trans (Nat.le_trans (Nat.le_trans HB0.out.size HB1.out.size) HB2.out.size) HB3.out.size) HB4.out.size) HB5.out.size)))) HB15.out).trans (HB16.out.mono ((Nat.le_trans (Nat.le_trans (Nat.le_trans (Nat.le_trans (Nat.le_trans (Nat.le_trans HB0.out.size HB1.out.size) HB2.out.size) HB3.out.size) HB4.out.size) HB5.out.size) HB6.out.size)))) HB17.out) HB18.out) HB19.out) HB20.out) HB21.out) HB22.out)).bk.c1
      go_wp2
      go_ret
      exact ⟨rfl, Law.then_ (Law.then_ (Law.then_ (Law.then_ (Law.then_ (Law.then_ ((Law.then_ (((Law.then_ (Law.then_ (Law.then_ (Law.then_ (Law.then_ (Law.then_ (Law.then_ (Law.then_ (Law.then_ (Law.then_ (Law.then_ (Law.then_ (Law.then_ (HBs.out) HB0.out) HB1.out) HB2.out) HB3.out) HB4.out) HB5.out) HB6.out) HB7.out) HB8.out) HB9.out) HB10.out) HB11.out) HB12.out).trans (HB13.out.mono ((Nat.le_trans (Nat.le_trans (Nat.le_trans (Nat.le_trans HBs.out.size HB0.out.size) HB1.out.size) HB2.out.size) HB3.out.size)))).trans (HB14.out.mono ((Nat.le_trans (Nat.le_trans (Nat.le_trans (Nat.le_trans (Nat.le_trans (Nat.le_trans HBs.out.size HB0.out.size) HB1.out.size) HB2.out.size) HB3.out.size) HB4.out.size) HB5.out.size)))) HB15.out).trans (HB16.out.mono ((Nat.le_trans (Nat.le_trans (Nat.le_trans (Nat.le_trans (Nat.le_trans (Nat.le_trans (Nat.le_trans HBs.out.size HB0.out.size) HB1.out.size) HB2.out.size) HB3.out.size) HB4.out.size) HB5.out.size) HB6.out.size)))) HB17.out) HB18.out) HB19.out) HB20.out) HB21.out) HB22.out⟩
set_option maxHeartbeats 1600000 in
theorem walk_big (A0 : Option Addr) (c0 : Nat) (xs0 : List Value) (L : List (List Int)) (B0 : Option Addr) (d0 : Nat) (ys0 : List Value) (S : List (List Int)) (r : Int) (v : List Int) (Av : Option Addr) (cv : Nat) (w : World) (hz : ¬ (szN L : Int) + (szN S : Int) ≤ 1048576) (hnL : L.length ≤ maxLen) (hlL : ∀ l ∈ L, l.length ≤ maxLen) (hnS : S.length ≤ maxLen) (hlS : ∀ l ∈ S, l.length ≤ maxLen) (hL : NRow w A0 xs0 L) (hS : NRow w B0 ys0 S) (hnv : v.length ≤ 1048576) :
    Calls Try.prog 8 #[pv A0 L.length c0 B0 S.length d0, .slice Av v.length cv, .int .i64 r] w fun e w' => e = .returned (.bool true) ∧ Below w.heap.size w w' := by
  have hIv : (v.length : Int) ≤ 1048576 := by omega
  have hzP : szPr L S = -1 := szPr_no hz
  have HSz := Lib.hid fun (W : World) (h : NRow W A0 xs0 L) (h' : NRow W B0 ys0 S) => szPrb_any A0 c0 xs0 L B0 d0 ys0 S W hnL hlL hnS hlS h h'
  rw [hzP] at HSz
  clear hzP
  have HP := Lib.hid (PIn.start (c := c0) (d := d0) hL hS 24)
  clear hL hS hlL hlS
  go_enter Try.func8, Try.ntmps8
  go_wp2_with fail
  generalize w.alloc (.cells #[.slice A0 L.length c0, .slice B0 S.length d0] 24) = w0 at HP ⊢
  have p0 := HP.out.bk.c0
  have p1 := HP.out.bk.c1
  go_wp2_with fail
  go_at_call 15
  refine (HSz.out w0 HP.out.mv HP.out.sv).mono ?_
  rintro r w1 ⟨rfl, hb⟩
  have HP1 := Lib.hid (HP.out.on hb)
  clear hb p0 p1
  have p0 := HP1.out.bk.c0
  have p1 := HP1.out.bk.c1
  go_wp2
  go_ret
  exact ⟨rfl, HP1.out.bl⟩
theorem walk (A0 : Option Addr) (n0 c0 : Nat) (xs0 : List Value) (L : List (List Int)) (B0 : Option Addr) (m0 d0 : Nat) (ys0 : List Value) (S : List (List Int)) (Av : Option Addr) (nv cv : Nat) (v : List Int) (r : Int) (w : World) (h0 : L.length = n0 ∧ n0 ≤ c0 ∧ c0 ≤ maxLen ∧ (∀ l ∈ L, l.length ≤ maxLen) ∧ NRow w A0 xs0 L) (h1 : S.length = m0 ∧ m0 ≤ d0 ∧ d0 ≤ maxLen ∧ (∀ l ∈ S, l.length ≤ maxLen) ∧ NRow w B0 ys0 S) (hv : v.length = nv ∧ nv ≤ cv ∧ cv ≤ maxLen ∧ (∀ z ∈ v, (Lit.int .i64 z).wf = true) ∧ Law.Row w Av (v.map (Value.int .i64))) (hr : (Lit.int .i64 r).wf = true) (hL : laidMetH Try.prog Rows.fnExactNextWorkRow.laid w) (hsh : w.ShapedOpen Try.prog) :
    Calls Try.prog 8 #[.agg #[.slice A0 n0 c0, .slice B0 m0 d0], .slice Av nv cv, .int .i64 r] w fun e w' => e = .returned (.bool true) ∧ Below w.heap.size w w' := by
  obtain ⟨rfl, hcA, hcB, hlL, hrL⟩ := h0
  obtain ⟨rfl, hdA, hdB, hlS, hrS⟩ := h1
  obtain ⟨rfl, hAv, hBv, hwv, hrv⟩ := hv
  clear hL hsh
  by_cases hlv : v.length ≤ 1048576
  · skip
    by_cases hz : (szN L : Int) + (szN S : Int) ≤ 1048576
    · skip
      have hrs : (∀ l ∈ L, l.length ≤ 1048576) ∧ (∀ l ∈ S, l.length ≤ 1048576) := ⟨fun l hl => szN_row (by omega) hl, fun l hl => szN_row (by omega) hl⟩
      exact walk_core A0 c0 xs0 L B0 d0 ys0 S r v Av cv (Q.nwQ L S v r) w (lenX L S r v) hz (by omega) hlL (by omega) hlS hrL hrS hlv hrv (fun A c xs B d ys Bv dv W h h' qv => specNw_any A c xs L B d ys S W v Bv dv r hrs.1 hrs.2 hlv h h' qv) (fun A c xs B d ys Bv dv W h h' qv => impNw_any A c xs L B d ys S W v Bv dv r hrs.1 hrs.2 hlv h h' qv)
    · exact walk_big A0 c0 xs0 L B0 d0 ys0 S r v Av cv w hz (by omega) hlL (by omega) hlS hrL hrS hlv
  · have hIv : ¬ (v.length : Int) ≤ 1048576 := by omega
    clear hrL hlL hrS hlS hrv
    go_enter Try.func8, Try.ntmps8
    go_wp2
    go_ret
    exact ⟨rfl, (Below.refl _ _).alloc (Nat.le_refl _) _⟩
end LNextWork
end Go.Proofs.Ythpoeeadhjnljaa
