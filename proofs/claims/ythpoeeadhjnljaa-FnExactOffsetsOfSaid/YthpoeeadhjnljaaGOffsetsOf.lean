/-
  The walk of FnExactOffsetsOf: OffsetsOf answers as the model does, whatever it is given, and writes into no argument.
  Conditions: none.
-/
import Derived.Test.YthpoeeadhjnljaaRows
import Derived.Test.YthpoeeadhjnljaaLawP
import Derived.Test.YthpoeeadhjnljaaLawN
import Derived.Test.YthpoeeadhjnljaaPlw
import Derived.Test.YthpoeeadhjnljaaMarkI
import Derived.Test.YthpoeeadhjnljaaSzo
import Derived.Test.YthpoeeadhjnljaaGw2
import Derived.Deep.DeepHandedRow
namespace Go.Proofs.Ythpoeeadhjnljaa
open Go.RowKit Go.ChangeShapes Go.WideShapes
set_option linter.unusedVariables false
namespace LOffsetsOf
theorem lenX (L S : List (List Int)) (start : Int) : (Q.ooQ L S start).1.length ≤ 1048576 ∧ (∀ l ∈ (Q.ooQ L S start).1, l.length ≤ 1048576) ∧ totL (Q.ooQ L S start).1 ≤ 1048576 := by
  unfold Q.ooQ
  rcases hR : Q.offF L S start with _ | ⟨ns, nx, ss⟩
  · simp [totL]
  · obtain ⟨s0, _, _, hpr, hg⟩ := offF_facts hR
    have h4 : ∀ l ∈ ns, l.length ≤ 4 := fun l hl => by
      rw [(hg.all l hl).len]
      exact hpr.n4
    have hm := hg.mo
    refine ⟨by show ns.length ≤ _; omega, fun l hl => by have := h4 l hl; omega, ?_⟩
    exact Nat.le_trans (tot_le4 ns h4) (by omega)
set_option maxRecDepth 20000 in
set_option maxHeartbeats 6400000 in
theorem walk_core (A0 : Option Addr) (c0 : Nat) (xs0 : List Value) (L : List (List Int)) (B0 : Option Addr) (d0 : Nat) (ys0 : List Value) (S : List (List Int)) (start : Int) (X : List (List Int) × Bool) (w : World) (hlX : X.1.length ≤ 1048576) (hllX : ∀ l ∈ X.1, l.length ≤ 1048576) (httX : totL X.1 ≤ 1048576) (hz : (szN L : Int) + (szN S : Int) ≤ 1048576) (hnL : L.length ≤ maxLen) (hlL : ∀ l ∈ L, l.length ≤ maxLen) (hnS : S.length ≤ maxLen) (hlS : ∀ l ∈ S, l.length ≤ maxLen) (hL : NRow w A0 xs0 L) (hS : NRow w B0 ys0 S)
    (HG : Hid (∀ (A : Option Addr) (c : Nat) (xs : List Value) (B : Option Addr) (d : Nat) (ys : List Value) (W : World), NRow W A xs L → NRow W B ys S → Calls Try.prog 44 #[pv A L.length c B S.length d, .int .i64 start] W (nestSays X W)))
    (HH : Hid (∀ (A : Option Addr) (c : Nat) (xs : List Value) (B : Option Addr) (d : Nat) (ys : List Value) (W : World), NRow W A xs L → NRow W B ys S → Calls Try.prog 45 #[pv A L.length c B S.length d, .int .i64 start] W (nestSays X W))) :
    Calls Try.prog 11 #[pv A0 L.length c0 B0 S.length d0, .int .i64 start] w fun e w' => e = .returned (.bool true) ∧ Below w.heap.size w w' := by
  obtain ⟨ps, ok⟩ := X
  simp only [] at hlX hllX httX
  have HLL := Lib.hid hllX
  clear hllX
  have hsL : szOk L = true := szOk_iff.2 (by have : (szN L : Int) ≤ 1048576 := by omega
                                             unfold szN at this; omega)
  have hsS : szOk S = true := szOk_iff.2 (by have : (szN S : Int) ≤ 1048576 := by omega
                                             unfold szN at this; omega)
  have htL := (sz_rows hsL).2.2
  have htS := (sz_rows hsS).2.2
  have hzP : szPr L S = 1048576 - (szN L : Int) - (szN S : Int) := szPr_yes (by omega)
  have HSz := Lib.hid fun (W : World) (h : NRow W A0 xs0 L) (h' : NRow W B0 ys0 S) => szPrb_any A0 c0 xs0 L B0 d0 ys0 S W hnL hlL hnS hlS h h'
  rw [hzP] at HSz
  clear hzP
  have h0zL : 0 ≤ (szN L : Int) := by omega
  have h0zS : 0 ≤ (szN S : Int) := by omega
  generalize (szN L : Int) = zL at *
  generalize (szN S : Int) = zS at *
  have HTo := Lib.hid fun (W : World) (h : NRow W A0 xs0 L) (h' : NRow W B0 ys0 S) => toPrb_any A0 c0 xs0 L B0 d0 ys0 S W hsL hsS h h'
  have HEq := Lib.hid fun (W : World) A c xs B d ys A' c' xs' B' d' ys' (h1 : NRow W A xs L) (h2 : NRow W B ys S) (h3 : NRow W A' xs' L) (h4 : NRow W B' ys' S) => eqPrb_same A c xs L B d ys S A' c' xs' B' d' ys' W hsL hsS h1 h2 h3 h4
  have HP := Lib.hid (PIn.start (c := c0) (d := d0) hL hS 24)
  have HBs : Hid (Below w.heap.size w (w.alloc (.cells #[.slice A0 L.length c0, .slice B0 S.length d0] 24))) := Lib.hid ((Below.refl _ _).alloc (Nat.le_refl _) _)
  clear hL hS hlL hlS
  go_enter Try.func11, Try.ntmps11
  go_wp2_with fail
  generalize w.alloc (.cells #[.slice A0 L.length c0, .slice B0 S.length d0] 24) = w0 at HP HBs ⊢
  have p0 := HP.out.bk.c0
  have p1 := HP.out.bk.c1
  go_wp2_with fail
  go_at_call 15
  refine (HSz.out w0 HP.out.mv HP.out.sv).mono ?_
  rintro r w1 ⟨rfl, hb⟩
  have HB0 := Lib.hid hb
  clear hb
  have hs0 : ¬ (1048576 : Int) - zL - zS < 0 := by omega
  clear p0 p1
  have p0 := (HP.out.on (HB0.out)).bk.c0
  have p1 := (HP.out.on (HB0.out)).bk.c1
  go_wp2_with fail
  go_at_call 18
  refine (HTo.out w1 (HP.out.on (HB0.out)).mv (HP.out.on (HB0.out)).sv).mono ?_
  rintro r w2 ⟨A2, c2, xs2, B2, d2, ys2, rfl, ho, hb⟩
  have FV := Lib.hid ho
  clear ho
  have HB1 := Lib.hid hb
  clear hb
  clear p0 p1
  have p0 := (HP.out.on (Law.then_ (HB0.out) HB1.out)).bk.c0
  have p1 := (HP.out.on (Law.then_ (HB0.out) HB1.out)).bk.c1
  go_wp2_with fail
  go_at_call 44
  refine (HG.out A2 c2 xs2 B2 d2 ys2 w2 FV.out.mv FV.out.sv).mono ?_
  rintro r w3 ⟨v3, ys3, rfl, ho, hn, hb⟩
  simp only [] at ho hn
  obtain ⟨A3, c3, rfl, _, _, _⟩ := Law.own_len ho
  have FW := Lib.hid ho
  have FnW := Lib.hid hn
  clear ho hn
  have HB2 := Lib.hid hb
  clear hb
  clear p0 p1
  have p0 := (HP.out.on (Law.then_ (Law.then_ (HB0.out) HB1.out) HB2.out)).bk.c0
  have p1 := (HP.out.on (Law.then_ (Law.then_ (HB0.out) HB1.out) HB2.out)).bk.c1
  go_wp2_with fail
  go_at_call 18
  refine (HTo.out w3 (HP.out.on (Law.then_ (Law.then_ (HB0.out) HB1.out) HB2.out)).mv (HP.out.on (Law.then_ (Law.then_ (HB0.out) HB1.out) HB2.out)).sv).mono ?_
  rintro r w4 ⟨A4, c4, xs4, B4, d4, ys4, rfl, ho, hb⟩
  have FX := Lib.hid ho
  clear ho
  have HB3 := Lib.hid hb
  clear hb
  clear p0 p1
  have p0 := (HP.out.on (Law.then_ (Law.then_ (Law.then_ (HB0.out) HB1.out) HB2.out) HB3.out)).bk.c0
  have p1 := (HP.out.on (Law.then_ (Law.then_ (Law.then_ (HB0.out) HB1.out) HB2.out) HB3.out)).bk.c1
  have b9 : Below w4.heap.size w4 (w4.alloc (.cells #[.slice A4 L.length c4, .slice B4 S.length d4] 29)) := (Below.refl _ _).alloc (Nat.le_refl _) _
  have FQ := Lib.hid (Bk2.new w4 (.slice A4 L.length c4) (.slice B4 S.length d4) 29)
  obtain ⟨bq, hbq⟩ : ∃ bq, bq = w4.heap.size := ⟨_, rfl⟩
  go_wp2_with fail
  generalize w4.alloc (.cells #[.slice A4 L.length c4, .slice B4 S.length d4] 29) = w5 at b9 FQ ⊢
  rw [← hbq] at FQ ⊢
  clear hbq
  have HB4 := Lib.hid b9
  clear b9
  clear p0 p1
  have p0 := (HP.out.on (Law.then_ (Law.then_ (Law.then_ (Law.then_ (HB0.out) HB1.out) HB2.out) HB3.out) HB4.out)).bk.c0
  have p1 := (HP.out.on (Law.then_ (Law.then_ (Law.then_ (Law.then_ (HB0.out) HB1.out) HB2.out) HB3.out) HB4.out)).bk.c1
  have q0 := FQ.out.c0
  have q1 := FQ.out.c1
  go_wp2_with fail
  go_at_call 45
  refine (HH.out A4 c4 xs4 B4 d4 ys4 w5 (FX.out.mv.stays (HB4.out)) (FX.out.sv.stays (HB4.out))).mono ?_
  rintro r w6 ⟨v6, ys6, rfl, ho, hn, hb⟩
  simp only [] at ho hn
  obtain ⟨A6, c6, rfl, _, _, _⟩ := Law.own_len ho
  have FG := Lib.hid ho
  have FnG := Lib.hid hn
  clear ho hn
  have HB5 := Lib.hid hb
  clear hb
  clear p0 p1
  have p0 := (HP.out.on (Law.then_ (Law.then_ (Law.then_ (Law.then_ (Law.then_ (HB0.out) HB1.out) HB2.out) HB3.out) HB4.out) HB5.out)).bk.c0
  have p1 := (HP.out.on (Law.then_ (Law.then_ (Law.then_ (Law.then_ (Law.then_ (HB0.out) HB1.out) HB2.out) HB3.out) HB4.out) HB5.out)).bk.c1
  clear q0 q1
  have q0 := (FQ.out.on (HB5.out)).c0
  have q1 := (FQ.out.on (HB5.out)).c1
  go_wp2_with fail
  go_at_call 22
  refine (eqSS_same A6 A3 c6 c3 ys6 ys3 ps w6 hlX HLL.out (NRow.of FG.out FnG.out) ((NRow.of FW.out FnW.out).stays (Law.then_ (Law.then_ (HB3.out) HB4.out) HB5.out))).mono ?_
  rintro r we1 ⟨rfl, m1, rfl⟩
  have hb : Below w6.heap.size w6 (w6.drewN m1) := Law.up (Below.refl _ _) _
  generalize World.drewN w6 m1 = w7 at hb ⊢
  have HB6 := Lib.hid hb
  clear hb
  clear p0 p1
  have p0 := (HP.out.on (Law.then_ (Law.then_ (Law.then_ (Law.then_ (Law.then_ (Law.then_ (HB0.out) HB1.out) HB2.out) HB3.out) HB4.out) HB5.out) HB6.out)).bk.c0
  have p1 := (HP.out.on (Law.then_ (Law.then_ (Law.then_ (Law.then_ (Law.then_ (Law.then_ (HB0.out) HB1.out) HB2.out) HB3.out) HB4.out) HB5.out) HB6.out)).bk.c1
  clear q0 q1
  have q0 := (FQ.out.on (Law.then_ (HB5.out) HB6.out)).c0
  have q1 := (FQ.out.on (Law.then_ (HB5.out) HB6.out)).c1
  cases ok
  all_goals
    go_wp2_with fail
    go_region_law ((first
      | (go_simp; go_at_call 18; refine (HTo.out _ ((HP.out.on (Law.then_ (Law.then_ (Law.then_ (Law.then_ (Law.then_ (Law.then_ (HB0.out) HB1.out) HB2.out) HB3.out) HB4.out) HB5.out) HB6.out)).mv.stays ((Below.refl _ _).drew)) ((HP.out.on (Law.then_ (Law.then_ (Law.then_ (Law.then_ (Law.then_ (Law.then_ (HB0.out) HB1.out) HB2.out) HB3.out) HB4.out) HB5.out) HB6.out)).sv.stays ((Below.refl _ _).drew))).mono ?_; rintro r w8 ⟨A8, c8, xs8, B8, d8, ys8, rfl, ho, hb⟩; have hb := ((Below.refl w7.heap.size w7).drew).trans hb; have HB7 := Lib.hid hb; have FZ := Lib.hid ho; clear ho hb; clear q0 q1; have q0 := (FQ.out.on (Law.then_ (Law.then_ (HB5.out) HB6.out) HB7.out)).c0; have q1 := (FQ.out.on (Law.then_ (Law.then_ (HB5.out) HB6.out) HB7.out)).c1)
      | (go_simp; go_at_call 21; refine (HEq.out _ A4 c4 xs4 B4 d4 ys4 A8 c8 xs8 B8 d8 ys8 (FX.out.mv.stays (Law.then_ (Law.then_ (Law.then_ (HB4.out) HB5.out) HB6.out) HB7.out)) (FX.out.sv.stays (Law.then_ (Law.then_ (Law.then_ (HB4.out) HB5.out) HB6.out) HB7.out)) FZ.out.mv FZ.out.sv).mono ?_; rintro r w9 ⟨rfl, hb⟩; have HB8 := Lib.hid hb; clear hb)))
    all_goals
      clear p0 p1 q0 q1
      have p0 := (HP.out.on (Law.then_ (Law.then_ (Law.then_ (Law.then_ (Law.then_ (Law.then_ (Law.then_ (Law.then_ (HB0.out) HB1.out) HB2.out) HB3.out) HB4.out) HB5.out) HB6.out) HB7.out) HB8.out)).bk.c0
      have p1 := (HP.out.on (Law.then_ (Law.then_ (Law.then_ (Law.then_ (Law.then_ (Law.then_ (Law.then_ (Law.then_ (HB0.out) HB1.out) HB2.out) HB3.out) HB4.out) HB5.out) HB6.out) HB7.out) HB8.out)).bk.c1
      have q0 := (FQ.out.on (Law.then_ (Law.then_ (Law.then_ (HB5.out) HB6.out) HB7.out) HB8.out)).c0
      have q1 := (FQ.out.on (Law.then_ (Law.then_ (Law.then_ (HB5.out) HB6.out) HB7.out) HB8.out)).c1
      have hlev : w4.heap.size ≤ w9.heap.size := ((Nat.le_trans (Nat.le_trans (Nat.le_trans (Nat.le_trans HB4.out.size HB5.out.size) HB6.out.size) HB7.out.size) HB8.out.size))
      have FX' := Lib.hid (FX.out.past (Law.then_ (Law.then_ (Law.then_ (Law.then_ (HB4.out) HB5.out) HB6.out) HB7.out) HB8.out))
      go_wp2_with fail
      go_at_call 27
      refine (markPrb_t w3.heap.size w4.heap.size 1 A4 c4 xs4 L B4 d4 ys4 S w9 (by omega) (by omega) hsL hsS FX'.out hlev).mono ?_
      rintro r w10 ⟨rfl, hT⟩
      clear hlev FX'
      have HC9 := Lib.hid hT
      have HB9 := Lib.hid (hT.below ((Nat.le_trans (Nat.le_trans (Nat.le_trans (Nat.le_trans (Nat.le_trans HB3.out.size HB4.out.size) HB5.out.size) HB6.out.size) HB7.out.size) HB8.out.size)))
      clear hT
      have FG' := Lib.hid (own_tch (own_past FG.out (Law.then_ (Law.then_ (HB6.out) HB7.out) HB8.out)) HC9.out ((HB4.out.size)))
      have FnG' := Lib.hid ((FnG.out.past (Law.then_ (Law.then_ (HB6.out) HB7.out) HB8.out)).tch HC9.out ((HB4.out.size)))
      clear FnG
      have FnG := FnG'
      clear FnG'
      clear FG
      have FG := FG'
      clear FG'
      clear q0 q1
      clear p0 p1
      have p0 := (HP.out.on ((Law.then_ (Law.then_ (Law.then_ (Law.then_ (Law.then_ (Law.then_ (Law.then_ (Law.then_ (HB0.out) HB1.out) HB2.out) HB3.out) HB4.out) HB5.out) HB6.out) HB7.out) HB8.out).trans (HB9.out.mono ((Nat.le_trans (Nat.le_trans HB0.out.size HB1.out.size) HB2.out.size))))).bk.c0
      have p1 := (HP.out.on ((Law.then_ (Law.then_ (Law.then_ (Law.then_ (Law.then_ (Law.then_ (Law.then_ (Law.then_ (HB0.out) HB1.out) HB2.out) HB3.out) HB4.out) HB5.out) HB6.out) HB7.out) HB8.out).trans (HB9.out.mono ((Nat.le_trans (Nat.le_trans HB0.out.size HB1.out.size) HB2.out.size))))).bk.c1
      go_wp2_with fail
      go_at_call 22
      refine (eqSS_same A6 A3 c6 c3 ys6 ys3 ps w10 hlX HLL.out (NRow.of FG.out FnG.out) ((NRow.of FW.out FnW.out).stays ((Law.then_ (Law.then_ (Law.then_ (Law.then_ (Law.then_ (HB3.out) HB4.out) HB5.out) HB6.out) HB7.out) HB8.out).trans (HB9.out.mono (Nat.le_refl _))))).mono ?_
      rintro r we2 ⟨rfl, m2, rfl⟩
      have hb : Below w10.heap.size w10 (w10.drewN m2) := Law.up (Below.refl _ _) _
      generalize World.drewN w10 m2 = w11 at hb ⊢
      have HB10 := Lib.hid hb
      clear hb
      clear p0 p1
      have p0 := (HP.out.on (Law.then_ ((Law.then_ (Law.then_ (Law.then_ (Law.then_ (Law.then_ (Law.then_ (Law.then_ (Law.then_ (HB0.out) HB1.out) HB2.out) HB3.out) HB4.out) HB5.out) HB6.out) HB7.out) HB8.out).trans (HB9.out.mono ((Nat.le_trans (Nat.le_trans HB0.out.size HB1.out.size) HB2.out.size)))) HB10.out)).bk.c0
      have p1 := (HP.out.on (Law.then_ ((Law.then_ (Law.then_ (Law.then_ (Law.then_ (Law.then_ (Law.then_ (Law.then_ (Law.then_ (HB0.out) HB1.out) HB2.out) HB3.out) HB4.out) HB5.out) HB6.out) HB7.out) HB8.out).trans (HB9.out.mono ((Nat.le_trans (Nat.le_trans HB0.out.size HB1.out.size) HB2.out.size)))) HB10.out)).bk.c1
      go_wp2_with fail
      go_at_call 28
      refine (markSS_any w5.heap.size 1 A6 c6 ys6 ps w11 (by omega) (by omega) hlX httX ((Nat.le_trans (Nat.le_trans (Nat.le_trans (Nat.le_trans (Nat.le_trans HB5.out.size HB6.out.size) HB7.out.size) HB8.out.size) HB9.out.size) HB10.out.size)) (own_past FG.out (HB10.out)) (FnG.out.past (HB10.out))).mono ?_
      rintro r w12 ⟨rfl, ho, hno, hbb⟩
      have FM := Lib.hid (NRow.of ho hno)
      clear ho hno
      have HB11 := Lib.hid hbb
      clear hbb
      clear p0 p1
      have p0 := (HP.out.on ((Law.then_ ((Law.then_ (Law.then_ (Law.then_ (Law.then_ (Law.then_ (Law.then_ (Law.then_ (Law.then_ (HB0.out) HB1.out) HB2.out) HB3.out) HB4.out) HB5.out) HB6.out) HB7.out) HB8.out).trans (HB9.out.mono ((Nat.le_trans (Nat.le_trans HB0.out.size HB1.out.size) HB2.out.size)))) HB10.out).trans (HB11.out.mono ((Nat.le_trans (Nat.le_trans (Nat.le_trans (Nat.le_trans HB0.out.size HB1.out.size) HB2.out.size) HB3.out.size) HB4.out.size))))).bk.c0
      have p1 := (HP.out.on ((Law.then_ ((Law.then_ (Law.then_ (Law.then_ (Law.then_ (Law.then_ (Law.then_ (Law.then_ (Law.then_ (HB0.out) HB1.out) HB2.out) HB3.out) HB4.out) HB5.out) HB6.out) HB7.out) HB8.out).trans (HB9.out.mono ((Nat.le_trans (Nat.le_trans HB0.out.size HB1.out.size) HB2.out.size)))) HB10.out).trans (HB11.out.mono ((Nat.le_trans (Nat.le_trans (Nat.le_trans (Nat.le_trans HB0.out.size HB1.out.size) HB2.out.size) HB3.out.size) HB4.out.size))))).bk.c1
      go_wp2_with fail
      go_at_call 41
      refine (heldSS_any 1 A6 c6 ys6 ps w12 (by omega) (by omega) hlX httX FM.out).mono ?_
      rintro r w13 ⟨rfl, hb⟩
      have HB12 := Lib.hid hb
      clear hb
      clear p0 p1
      have p0 := (HP.out.on (Law.then_ ((Law.then_ ((Law.then_ (Law.then_ (Law.then_ (Law.then_ (Law.then_ (Law.then_ (Law.then_ (Law.then_ (HB0.out) HB1.out) HB2.out) HB3.out) HB4.out) HB5.out) HB6.out) HB7.out) HB8.out).trans (HB9.out.mono ((Nat.le_trans (Nat.le_trans HB0.out.size HB1.out.size) HB2.out.size)))) HB10.out).trans (HB11.out.mono ((Nat.le_trans (Nat.le_trans (Nat.le_trans (Nat.le_trans HB0.out.size HB1.out.size) HB2.out.size) HB3.out.size) HB4.out.size)))) HB12.out)).bk.c0
      have p1 := (HP.out.on (Law.then_ ((Law.then_ ((Law.then_ (Law.then_ (Law.then_ (Law.then_ (Law.then_ (Law.then_ (Law.then_ (Law.then_ (HB0.out) HB1.out) HB2.out) HB3.out) HB4.out) HB5.out) HB6.out) HB7.out) HB8.out).trans (HB9.out.mono ((Nat.le_trans (Nat.le_trans HB0.out.size HB1.out.size) HB2.out.size)))) HB10.out).trans (HB11.out.mono ((Nat.le_trans (Nat.le_trans (Nat.le_trans (Nat.le_trans HB0.out.size HB1.out.size) HB2.out.size) HB3.out.size) HB4.out.size)))) HB12.out)).bk.c1
      go_wp2_with fail
      go_at_call 18
      refine (HTo.out w13 (HP.out.on (Law.then_ ((Law.then_ ((Law.then_ (Law.then_ (Law.then_ (Law.then_ (Law.then_ (Law.then_ (Law.then_ (Law.then_ (HB0.out) HB1.out) HB2.out) HB3.out) HB4.out) HB5.out) HB6.out) HB7.out) HB8.out).trans (HB9.out.mono ((Nat.le_trans (Nat.le_trans HB0.out.size HB1.out.size) HB2.out.size)))) HB10.out).trans (HB11.out.mono ((Nat.le_trans (Nat.le_trans (Nat.le_trans (Nat.le_trans HB0.out.size HB1.out.size) HB2.out.size) HB3.out.size) HB4.out.size)))) HB12.out)).mv (HP.out.on (Law.then_ ((Law.then_ ((Law.then_ (Law.then_ (Law.then_ (Law.then_ (Law.then_ (Law.then_ (Law.then_ (Law.then_ (HB0.out) HB1.out) HB2.out) HB3.out) HB4.out) HB5.out) HB6.out) HB7.out) HB8.out).trans (HB9.out.mono ((Nat.le_trans (Nat.le_trans HB0.out.size HB1.out.size) HB2.out.size)))) HB10.out).trans (HB11.out.mono ((Nat.le_trans (Nat.le_trans (Nat.le_trans (Nat.le_trans HB0.out.size HB1.out.size) HB2.out.size) HB3.out.size) HB4.out.size)))) HB12.out)).sv).mono ?_
      rintro r w14 ⟨A14, c14, xs14, B14, d14, ys14, rfl, ho, hb⟩
      have FU := Lib.hid ho
      clear ho
      have HB13 := Lib.hid hb
      clear hb
      clear p0 p1
      have p0 := (HP.out.on (Law.then_ (Law.then_ ((Law.then_ ((Law.then_ (Law.then_ (Law.then_ (Law.then_ (Law.then_ (Law.then_ (Law.then_ (Law.then_ (HB0.out) HB1.out) HB2.out) HB3.out) HB4.out) HB5.out) HB6.out) HB7.out) HB8.out).trans (HB9.out.mono ((Nat.le_trans (Nat.le_trans HB0.out.size HB1.out.size) HB2.out.size)))) HB10.out).trans (HB11.out.mono ((Nat.le_trans (Nat.le_trans (Nat.le_trans (Nat.le_trans HB0.out.size HB1.out.size) HB2.out.size) HB3.out.size) HB4.out.size)))) HB12.out) HB13.out)).bk.c0
      have p1 := (HP.out.on (Law.then_ (Law.then_ ((Law.then_ ((Law.then_ (Law.then_ (Law.then_ (Law.then_ (Law.then_ (Law.then_ (Law.then_ (Law.then_ (HB0.out) HB1.out) HB2.out) HB3.out) HB4.out) HB5.out) HB6.out) HB7.out) HB8.out).trans (HB9.out.mono ((Nat.le_trans (Nat.le_trans HB0.out.size HB1.out.size) HB2.out.size)))) HB10.out).trans (HB11.out.mono ((Nat.le_trans (Nat.le_trans (Nat.le_trans (Nat.le_trans HB0.out.size HB1.out.size) HB2.out.size) HB3.out.size) HB4.out.size)))) HB12.out) HB13.out)).bk.c1
      go_wp2_with fail
      go_at_call 45
      refine (HH.out A14 c14 xs14 B14 d14 ys14 w14 FU.out.mv FU.out.sv).mono ?_
      rintro r w15 ⟨v15, ys15, rfl, ho, hn, hb⟩
      simp only [] at ho hn
      obtain ⟨A15, c15, rfl, _, _, _⟩ := Law.own_len ho
      have FK := Lib.hid ho
      have FnK := Lib.hid hn
      clear ho hn
      have HB14 := Lib.hid hb
      clear hb
      clear p0 p1
      have p0 := (HP.out.on (Law.then_ (Law.then_ (Law.then_ ((Law.then_ ((Law.then_ (Law.then_ (Law.then_ (Law.then_ (Law.then_ (Law.then_ (Law.then_ (Law.then_ (HB0.out) HB1.out) HB2.out) HB3.out) HB4.out) HB5.out) HB6.out) HB7.out) HB8.out).trans (HB9.out.mono ((Nat.le_trans (Nat.le_trans HB0.out.size HB1.out.size) HB2.out.size)))) HB10.out).trans (HB11.out.mono ((Nat.le_trans (Nat.le_trans (Nat.le_trans (Nat.le_trans HB0.out.size HB1.out.size) HB2.out.size) HB3.out.size) HB4.out.size)))) HB12.out) HB13.out) HB14.out)).bk.c0
      have p1 := (HP.out.on (Law.then_ (Law.then_ (Law.then_ ((Law.then_ ((Law.then_ (Law.then_ (Law.then_ (Law.then_ (Law.then_ (Law.then_ (Law.then_ (Law.then_ (HB0.out) HB1.out) HB2.out) HB3.out) HB4.out) HB5.out) HB6.out) HB7.out) HB8.out).trans (HB9.out.mono ((Nat.le_trans (Nat.le_trans HB0.out.size HB1.out.size) HB2.out.size)))) HB10.out).trans (HB11.out.mono ((Nat.le_trans (Nat.le_trans (Nat.le_trans (Nat.le_trans HB0.out.size HB1.out.size) HB2.out.size) HB3.out.size) HB4.out.size)))) HB12.out) HB13.out) HB14.out)).bk.c1
      go_wp2_with fail
      go_at_call 22
      refine (eqSS_same A15 A3 c15 c3 ys15 ys3 ps w15 hlX HLL.out (NRow.of FK.out FnK.out) ((NRow.of FW.out FnW.out).stays (Law.then_ (Law.then_ (Law.then_ ((Law.then_ ((Law.then_ (Law.then_ (Law.then_ (Law.then_ (Law.then_ (HB3.out) HB4.out) HB5.out) HB6.out) HB7.out) HB8.out).trans (HB9.out.mono (Nat.le_refl _))) HB10.out).trans (HB11.out.mono ((Nat.le_trans HB3.out.size HB4.out.size)))) HB12.out) HB13.out) HB14.out))).mono ?_
      rintro r we3 ⟨rfl, m3, rfl⟩
      have hb : Below w15.heap.size w15 (w15.drewN m3) := Law.up (Below.refl _ _) _
      generalize World.drewN w15 m3 = w16 at hb ⊢
      have HB15 := Lib.hid hb
      clear hb
      clear p0 p1
      have p0 := (HP.out.on (Law.then_ (Law.then_ (Law.then_ (Law.then_ ((Law.then_ ((Law.then_ (Law.then_ (Law.then_ (Law.then_ (Law.then_ (Law.then_ (Law.then_ (Law.then_ (HB0.out) HB1.out) HB2.out) HB3.out) HB4.out) HB5.out) HB6.out) HB7.out) HB8.out).trans (HB9.out.mono ((Nat.le_trans (Nat.le_trans HB0.out.size HB1.out.size) HB2.out.size)))) HB10.out).trans (HB11.out.mono ((Nat.le_trans (Nat.le_trans (Nat.le_trans (Nat.le_trans HB0.out.size HB1.out.size) HB2.out.size) HB3.out.size) HB4.out.size)))) HB12.out) HB13.out) HB14.out) HB15.out)).bk.c0
      have p1 := (HP.out.on (Law.then_ (Law.then_ (Law.then_ (Law.then_ ((Law.then_ ((Law.then_ (Law.then_ (Law.then_ (Law.then_ (Law.then_ (Law.then_ (Law.then_ (Law.then_ (HB0.out) HB1.out) HB2.out) HB3.out) HB4.out) HB5.out) HB6.out) HB7.out) HB8.out).trans (HB9.out.mono ((Nat.le_trans (Nat.le_trans HB0.out.size HB1.out.size) HB2.out.size)))) HB10.out).trans (HB11.out.mono ((Nat.le_trans (Nat.le_trans (Nat.le_trans (Nat.le_trans HB0.out.size HB1.out.size) HB2.out.size) HB3.out.size) HB4.out.size)))) HB12.out) HB13.out) HB14.out) HB15.out)).bk.c1
      go_wp2_with fail
      go_at_call 41
      refine (heldSS_any 1 A6 c6 ys6 ps w16 (by omega) (by omega) hlX httX (FM.out.stays (Law.then_ (Law.then_ (Law.then_ (HB12.out) HB13.out) HB14.out) HB15.out))).mono ?_
      rintro r w17 ⟨rfl, hb⟩
      have HB16 := Lib.hid hb
      clear hb
      clear p0 p1
      have p0 := (HP.out.on (Law.then_ (Law.then_ (Law.then_ (Law.then_ (Law.then_ ((Law.then_ ((Law.then_ (Law.then_ (Law.then_ (Law.then_ (Law.then_ (Law.then_ (Law.then_ (Law.then_ (HB0.out) HB1.out) HB2.out) HB3.out) HB4.out) HB5.out) HB6.out) HB7.out) HB8.out).trans (HB9.out.mono ((Nat.le_trans (Nat.le_trans HB0.out.size HB1.out.size) HB2.out.size)))) HB10.out).trans (HB11.out.mono ((Nat.le_trans (Nat.le_trans (Nat.le_trans (Nat.le_trans HB0.out.size HB1.out.size) HB2.out.size) HB3.out.size) HB4.out.size)))) HB12.out) HB13.out) HB14.out) HB15.out) HB16.out)).bk.c0
      have p1 := (HP.out.on (Law.then_ (Law.then_ (Law.then_ (Law.then_ (Law.then_ ((Law.then_ ((Law.then_ (Law.then_ (Law.then_ (Law.then_ (Law.then_ (Law.then_ (Law.then_ (Law.then_ (HB0.out) HB1.out) HB2.out) HB3.out) HB4.out) HB5.out) HB6.out) HB7.out) HB8.out).trans (HB9.out.mono ((Nat.le_trans (Nat.le_trans HB0.out.size HB1.out.size) HB2.out.size)))) HB10.out).trans (HB11.out.mono ((Nat.le_trans (Nat.le_trans (Nat.le_trans (Nat.le_trans HB0.out.size HB1.out.size) HB2.out.size) HB3.out.size) HB4.out.size)))) HB12.out) HB13.out) HB14.out) HB15.out) HB16.out)).bk.c1
      go_wp2
      go_ret
      exact ⟨rfl, Law.then_ (Law.then_ (Law.then_ (Law.then_ (Law.then_ ((Law.then_ ((Law.then_ (Law.then_ (Law.then_ (Law.then_ (Law.then_ (Law.then_ (Law.then_ (Law.then_ (Law.then_ (HBs.out) HB0.out) HB1.out) HB2.out) HB3.out) HB4.out) HB5.out) HB6.out) HB7.out) HB8.out).trans (HB9.out.mono ((Nat.le_trans (Nat.le_trans (Nat.le_trans HBs.out.size HB0.out.size) HB1.out.size) HB2.out.size)))) HB10.out).trans (HB11.out.mono ((Nat.le_trans (Nat.le_trans (Nat.le_trans (Nat.le_trans (Nat.le_trans HBs.out.size HB0.out.size) HB1.out.size) HB2.out.size) HB3.out.size) HB4.out.size)))) HB12.out) HB13.out) HB14.out) HB15.out) HB16.out⟩
set_option maxHeartbeats 1600000 in
theorem walk_big (A0 : Option Addr) (c0 : Nat) (xs0 : List Value) (L : List (List Int)) (B0 : Option Addr) (d0 : Nat) (ys0 : List Value) (S : List (List Int)) (start : Int) (w : World) (hz : ¬ (szN L : Int) + (szN S : Int) ≤ 1048576) (hnL : L.length ≤ maxLen) (hlL : ∀ l ∈ L, l.length ≤ maxLen) (hnS : S.length ≤ maxLen) (hlS : ∀ l ∈ S, l.length ≤ maxLen) (hL : NRow w A0 xs0 L) (hS : NRow w B0 ys0 S) :
    Calls Try.prog 11 #[pv A0 L.length c0 B0 S.length d0, .int .i64 start] w fun e w' => e = .returned (.bool true) ∧ Below w.heap.size w w' := by
  have hzP : szPr L S = -1 := szPr_no hz
  have HSz := Lib.hid fun (W : World) (h : NRow W A0 xs0 L) (h' : NRow W B0 ys0 S) => szPrb_any A0 c0 xs0 L B0 d0 ys0 S W hnL hlL hnS hlS h h'
  rw [hzP] at HSz
  clear hzP
  have HP := Lib.hid (PIn.start (c := c0) (d := d0) hL hS 24)
  clear hL hS hlL hlS
  go_enter Try.func11, Try.ntmps11
  go_wp2_with fail
  generalize w.alloc (.cells #[.slice A0 L.length c0, .slice B0 S.length d0] 24) = w0 at HP ⊢
  have p0 := HP.out.bk.c0
  have p1 := HP.out.bk.c1
  go_wp2_with fail
  go_at_call 15
  refine (HSz.out w0 HP.out.mv HP.out.sv).mono ?_
  rintro r w1 ⟨rfl, hb⟩
  have HP1 := Lib.hid (HP.out.on hb)
  clear hb p0 p1
  have p0 := HP1.out.bk.c0
  have p1 := HP1.out.bk.c1
  go_wp2
  go_ret
  exact ⟨rfl, HP1.out.bl⟩
theorem walk (A0 : Option Addr) (n0 c0 : Nat) (xs0 : List Value) (L : List (List Int)) (B0 : Option Addr) (m0 d0 : Nat) (ys0 : List Value) (S : List (List Int)) (start : Int) (w : World) (h0 : L.length = n0 ∧ n0 ≤ c0 ∧ c0 ≤ maxLen ∧ (∀ l ∈ L, l.length ≤ maxLen) ∧ NRow w A0 xs0 L) (h1 : S.length = m0 ∧ m0 ≤ d0 ∧ d0 ≤ maxLen ∧ (∀ l ∈ S, l.length ≤ maxLen) ∧ NRow w B0 ys0 S) (hstart : (Lit.int .i64 start).wf = true) (hL : laidMetH Try.prog Rows.fnExactOffsetsOfRow.laid w) (hsh : w.ShapedOpen Try.prog) :
    Calls Try.prog 11 #[.agg #[.slice A0 n0 c0, .slice B0 m0 d0], .int .i64 start] w fun e w' => e = .returned (.bool true) ∧ Below w.heap.size w w' := by
  obtain ⟨rfl, hcA, hcB, hlL, hrL⟩ := h0
  obtain ⟨rfl, hdA, hdB, hlS, hrS⟩ := h1
  clear hL hsh
  by_cases hz : (szN L : Int) + (szN S : Int) ≤ 1048576
  · skip
    have hrs : (∀ l ∈ L, l.length ≤ 1048576) ∧ (∀ l ∈ S, l.length ≤ 1048576) := ⟨fun l hl => szN_row (by omega) hl, fun l hl => szN_row (by omega) hl⟩
    exact walk_core A0 c0 xs0 L B0 d0 ys0 S start (Q.ooQ L S start) w (lenX L S start).1 (lenX L S start).2.1 (lenX L S start).2.2 hz (by omega) hlL (by omega) hlS hrL hrS (fun A c xs B d ys W h h' => specOo_any A c xs L B d ys S W start hrs.2 h h') (fun A c xs B d ys W h h' => impOo_any A c xs L B d ys S W start hrs.1 hrs.2 h h')
  · exact walk_big A0 c0 xs0 L B0 d0 ys0 S start w hz (by omega) hlL (by omega) hlS hrL hrS
end LOffsetsOf
end Go.Proofs.Ythpoeeadhjnljaa
