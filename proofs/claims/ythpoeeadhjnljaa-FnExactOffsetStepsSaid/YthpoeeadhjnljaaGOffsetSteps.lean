/-
  The walk of FnExactOffsetSteps: OffsetSteps answers as the model does, whatever it is given, and writes into no argument.
  Conditions: none.
-/
import Derived.Test.YthpoeeadhjnljaaRows
import Derived.Test.YthpoeeadhjnljaaLawP
import Derived.Test.YthpoeeadhjnljaaLawN
import Derived.Test.YthpoeeadhjnljaaPlw
import Derived.Test.YthpoeeadhjnljaaMarkI
import Derived.Test.YthpoeeadhjnljaaSzo
import Derived.Test.YthpoeeadhjnljaaGos2
import Derived.Deep.DeepHandedRow
namespace Go.Proofs.Ythpoeeadhjnljaa
open Go.RowKit Go.ChangeShapes Go.WideShapes
set_option linter.unusedVariables false
namespace LOffsetSteps
theorem tot_le (ns : List (List Int)) (h : ∀ l ∈ ns, l.length ≤ 4) (hn : ns.length ≤ 400) : ns.length ≤ 1048576 ∧ (∀ l ∈ ns, l.length ≤ 1048576) ∧ totL ns ≤ 1048576 :=
  ⟨by omega, fun l hl => by have := h l hl; omega, Nat.le_trans (tot_le4 ns h) (by omega)⟩
theorem lenX (L S : List (List Int)) (start : Int) : (Q.osQ L S start).1.length ≤ 1048576 ∧ (∀ l ∈ (Q.osQ L S start).1, l.length ≤ 1048576) ∧ totL (Q.osQ L S start).1 ≤ 1048576 ∧ (Q.osQ L S start).2.1.length ≤ 1048576 ∧ (∀ l ∈ (Q.osQ L S start).2.1, l.length ≤ 1048576) ∧ totL (Q.osQ L S start).2.1 ≤ 1048576 := by
  unfold Q.osQ
  rcases hR : Q.offF L S start with _ | ⟨ns, nx, ss⟩
  · simp [totL]
  · obtain ⟨s0, _, _, hpr, hg⟩ := offF_facts hR
    have hm := hg.mo
    have hm4 := hpr.m4
    have h1 : ∀ l ∈ nx.map nI, l.length ≤ 4 := fun l hl => by
      obtain ⟨a, ha, rfl⟩ := List.mem_map.1 hl
      obtain ⟨i, hi, rfl⟩ := List.mem_iff_getElem.1 ha
      obtain ⟨x, hx⟩ : ∃ x, ns[i]? = some x := ⟨_, List.getElem?_eq_getElem (by have := hg.k1; omega)⟩
      obtain ⟨b, e1, e2, _, _⟩ := hg.row i x (by have := hg.k1; omega) hx
      rw [List.getElem?_eq_getElem hi] at e1
      cases e1
      rw [nI_len, e2, Q.stpO_len]
      exact hm4
    have h2 : ∀ l ∈ ss, l.length ≤ 4 := fun l hl => by
      obtain ⟨i, hi, rfl⟩ := List.mem_iff_getElem.1 hl
      obtain ⟨x, hx⟩ : ∃ x, ns[i]? = some x := ⟨_, List.getElem?_eq_getElem (by have := hg.k2; omega)⟩
      obtain ⟨b, _, _, e3, _⟩ := hg.row i x (by have := hg.k2; omega) hx
      rw [List.getElem?_eq_getElem hi] at e3
      have e4 : ss[i] = (Q.stpO L S x).map (·.2) := Option.some.inj e3
      show (ss[i]).length ≤ 4
      rw [e4, List.length_map, Q.stpO_len]
      exact hm4
    have q1 := tot_le (nx.map nI) h1 (by rw [List.length_map, hg.k1]; exact hm)
    have q2 := tot_le ss h2 (by rw [hg.k2]; exact hm)
    exact ⟨q1.1, q1.2.1, q1.2.2, q2.1, q2.2.1, q2.2.2⟩
set_option maxRecDepth 20000 in
set_option maxHeartbeats 6400000 in
theorem walk_core (A0 : Option Addr) (c0 : Nat) (xs0 : List Value) (L : List (List Int)) (B0 : Option Addr) (d0 : Nat) (ys0 : List Value) (S : List (List Int)) (start : Int) (X : List (List Int) × List (List Int) × Bool) (w : World) (hlX : X.1.length ≤ 1048576) (hllX : ∀ l ∈ X.1, l.length ≤ 1048576) (httX : totL X.1 ≤ 1048576) (hlY : X.2.1.length ≤ 1048576) (hllY : ∀ l ∈ X.2.1, l.length ≤ 1048576) (httY : totL X.2.1 ≤ 1048576) (hz : (szN L : Int) + (szN S : Int) ≤ 1048576) (hnL : L.length ≤ maxLen) (hlL : ∀ l ∈ L, l.length ≤ maxLen) (hnS : S.length ≤ maxLen) (hlS : ∀ l ∈ S, l.length ≤ maxLen) (hL : NRow w A0 xs0 L) (hS : NRow w B0 ys0 S)
    (HG : Hid (∀ (A : Option Addr) (c : Nat) (xs : List Value) (B : Option Addr) (d : Nat) (ys : List Value) (W : World), NRow W A xs L → NRow W B ys S → Calls Try.prog 46 #[pv A L.length c B S.length d, .int .i64 start] W (nest2Says X W)))
    (HH : Hid (∀ (A : Option Addr) (c : Nat) (xs : List Value) (B : Option Addr) (d : Nat) (ys : List Value) (W : World), NRow W A xs L → NRow W B ys S → Calls Try.prog 47 #[pv A L.length c B S.length d, .int .i64 start] W (nest2A X W))) :
    Calls Try.prog 12 #[pv A0 L.length c0 B0 S.length d0, .int .i64 start] w fun e w' => e = .returned (.bool true) ∧ Below w.heap.size w w' := by
  obtain ⟨ps, qs, ok⟩ := X
  simp only [] at hlX hllX httX hlY hllY httY
  have HLL := Lib.hid hllX
  have HLM := Lib.hid hllY
  clear hllX hllY
  have hsL : szOk L = true := szOk_iff.2 (by have : (szN L : Int) ≤ 1048576 := by omega
                                             unfold szN at this; omega)
  have hsS : szOk S = true := szOk_iff.2 (by have : (szN S : Int) ≤ 1048576 := by omega
                                             unfold szN at this; omega)
  have htL := (sz_rows hsL).2.2
  have htS := (sz_rows hsS).2.2
  have hzP : szPr L S = 1048576 - (szN L : Int) - (szN S : Int) := szPr_yes (by omega)
  have HSz := Lib.hid fun (W : World) (h : NRow W A0 xs0 L) (h' : NRow W B0 ys0 S) => szPrb_any A0 c0 xs0 L B0 d0 ys0 S W hnL hlL hnS hlS h h'
  rw [hzP] at HSz
  clear hzP
  have h0zL : 0 ≤ (szN L : Int) := by omega
  have h0zS : 0 ≤ (szN S : Int) := by omega
  generalize (szN L : Int) = zL at *
  generalize (szN S : Int) = zS at *
  have HTo := Lib.hid fun (W : World) (h : NRow W A0 xs0 L) (h' : NRow W B0 ys0 S) => toPrb_any A0 c0 xs0 L B0 d0 ys0 S W hsL hsS h h'
  have HEq := Lib.hid fun (W : World) A c xs B d ys A' c' xs' B' d' ys' (h1 : NRow W A xs L) (h2 : NRow W B ys S) (h3 : NRow W A' xs' L) (h4 : NRow W B' ys' S) => eqPrb_same A c xs L B d ys S A' c' xs' B' d' ys' W hsL hsS h1 h2 h3 h4
  have HP := Lib.hid (PIn.start (c := c0) (d := d0) hL hS 24)
  have HBs : Hid (Below w.heap.size w (w.alloc (.cells #[.slice A0 L.length c0, .slice B0 S.length d0] 24))) := Lib.hid ((Below.refl _ _).alloc (Nat.le_refl _) _)
  clear hL hS hlL hlS
  go_enter Try.func12, Try.ntmps12
  go_wp2_with fail
  generalize w.alloc (.cells #[.slice A0 L.length c0, .slice B0 S.length d0] 24) = w0 at HP HBs ⊢
  have p0 := HP.out.bk.c0
  have p1 := HP.out.bk.c1
  go_wp2_with fail
  go_at_call 15
  refine (HSz.out w0 HP.out.mv HP.out.sv).mono ?_
  rintro r w1 ⟨rfl, hb⟩
  have HB0 := Lib.hid hb
  clear hb
  have hs0 : ¬ (1048576 : Int) - zL - zS < 0 := by omega
  clear p0 p1
  have p0 := (HP.out.on (HB0.out)).bk.c0
  have p1 := (HP.out.on (HB0.out)).bk.c1
  go_wp2_with fail
  go_at_call 18
  refine (HTo.out w1 (HP.out.on (HB0.out)).mv (HP.out.on (HB0.out)).sv).mono ?_
  rintro r w2 ⟨A2, c2, xs2, B2, d2, ys2, rfl, ho, hb⟩
  have FV := Lib.hid ho
  clear ho
  have HB1 := Lib.hid hb
  clear hb
  clear p0 p1
  have p0 := (HP.out.on (Law.then_ (HB0.out) HB1.out)).bk.c0
  have p1 := (HP.out.on (Law.then_ (HB0.out) HB1.out)).bk.c1
  go_wp2_with fail
  go_at_call 46
  refine (HG.out A2 c2 xs2 B2 d2 ys2 w2 FV.out.mv FV.out.sv).mono ?_
  rintro r w3 ⟨v3, v1003, ys3, ys1003, rfl, ho, hn, ho2, hn2, hb⟩
  simp only [] at ho hn ho2 hn2
  obtain ⟨A3, c3, rfl, _, _, _⟩ := Law.own_len ho
  obtain ⟨A1003, c1003, rfl, _, _, _⟩ := Law.own_len ho2
  have FW0 := Lib.hid ho
  have FnW0 := Lib.hid hn
  clear ho hn
  have FW1 := Lib.hid ho2
  have FnW1 := Lib.hid hn2
  clear ho2 hn2
  have HB2 := Lib.hid hb
  clear hb
  clear p0 p1
  have p0 := (HP.out.on (Law.then_ (Law.then_ (HB0.out) HB1.out) HB2.out)).bk.c0
  have p1 := (HP.out.on (Law.then_ (Law.then_ (HB0.out) HB1.out) HB2.out)).bk.c1
  go_wp2_with fail
  go_at_call 18
  refine (HTo.out w3 (HP.out.on (Law.then_ (Law.then_ (HB0.out) HB1.out) HB2.out)).mv (HP.out.on (Law.then_ (Law.then_ (HB0.out) HB1.out) HB2.out)).sv).mono ?_
  rintro r w4 ⟨A4, c4, xs4, B4, d4, ys4, rfl, ho, hb⟩
  have FX := Lib.hid ho
  clear ho
  have HB3 := Lib.hid hb
  clear hb
  clear p0 p1
  have p0 := (HP.out.on (Law.then_ (Law.then_ (Law.then_ (HB0.out) HB1.out) HB2.out) HB3.out)).bk.c0
  have p1 := (HP.out.on (Law.then_ (Law.then_ (Law.then_ (HB0.out) HB1.out) HB2.out) HB3.out)).bk.c1
  have b9 : Below w4.heap.size w4 (w4.alloc (.cells #[.slice A4 L.length c4, .slice B4 S.length d4] 29)) := (Below.refl _ _).alloc (Nat.le_refl _) _
  have FQ := Lib.hid (Bk2.new w4 (.slice A4 L.length c4) (.slice B4 S.length d4) 29)
  obtain ⟨bq, hbq⟩ : ∃ bq, bq = w4.heap.size := ⟨_, rfl⟩
  go_wp2_with fail
  generalize w4.alloc (.cells #[.slice A4 L.length c4, .slice B4 S.length d4] 29) = w5 at b9 FQ ⊢
  rw [← hbq] at FQ ⊢
  clear hbq
  have HB4 := Lib.hid b9
  clear b9
  clear p0 p1
  have p0 := (HP.out.on (Law.then_ (Law.then_ (Law.then_ (Law.then_ (HB0.out) HB1.out) HB2.out) HB3.out) HB4.out)).bk.c0
  have p1 := (HP.out.on (Law.then_ (Law.then_ (Law.then_ (Law.then_ (HB0.out) HB1.out) HB2.out) HB3.out) HB4.out)).bk.c1
  have q0 := FQ.out.c0
  have q1 := FQ.out.c1
  go_wp2_with fail
  go_at_call 47
  refine (HH.out A4 c4 xs4 B4 d4 ys4 w5 (FX.out.mv.stays (HB4.out)) (FX.out.sv.stays (HB4.out))).mono ?_
  rintro r w6 ⟨v6, v1006, ys6, ys1006, rfl, ho, hn, ho2, hn2, ap, hb⟩
  simp only [] at ho hn ho2 hn2
  obtain ⟨A6, c6, rfl, _, _, _⟩ := Law.own_len ho
  obtain ⟨A1006, c1006, rfl, _, _, _⟩ := Law.own_len ho2
  have APG := Lib.hid ap
  clear ap
  have FG0 := Lib.hid ho
  have FnG0 := Lib.hid hn
  clear ho hn
  have FG1 := Lib.hid ho2
  have FnG1 := Lib.hid hn2
  clear ho2 hn2
  have HB5 := Lib.hid hb
  clear hb
  clear p0 p1
  have p0 := (HP.out.on (Law.then_ (Law.then_ (Law.then_ (Law.then_ (Law.then_ (HB0.out) HB1.out) HB2.out) HB3.out) HB4.out) HB5.out)).bk.c0
  have p1 := (HP.out.on (Law.then_ (Law.then_ (Law.then_ (Law.then_ (Law.then_ (HB0.out) HB1.out) HB2.out) HB3.out) HB4.out) HB5.out)).bk.c1
  clear q0 q1
  have q0 := (FQ.out.on (HB5.out)).c0
  have q1 := (FQ.out.on (HB5.out)).c1
  go_wp2_with fail
  go_at_call 22
  refine (eqSS_same A6 A3 c6 c3 ys6 ys3 ps w6 hlX HLL.out (NRow.of FG0.out FnG0.out) ((NRow.of FW0.out FnW0.out).stays (Law.then_ (Law.then_ (HB3.out) HB4.out) HB5.out))).mono ?_
  rintro r we1 ⟨rfl, m1, rfl⟩
  have hb : Below w6.heap.size w6 (w6.drewN m1) := Law.up (Below.refl _ _) _
  generalize World.drewN w6 m1 = w7 at hb ⊢
  have HB6 := Lib.hid hb
  clear hb
  clear p0 p1
  have p0 := (HP.out.on (Law.then_ (Law.then_ (Law.then_ (Law.then_ (Law.then_ (Law.then_ (HB0.out) HB1.out) HB2.out) HB3.out) HB4.out) HB5.out) HB6.out)).bk.c0
  have p1 := (HP.out.on (Law.then_ (Law.then_ (Law.then_ (Law.then_ (Law.then_ (Law.then_ (HB0.out) HB1.out) HB2.out) HB3.out) HB4.out) HB5.out) HB6.out)).bk.c1
  clear q0 q1
  have q0 := (FQ.out.on (Law.then_ (HB5.out) HB6.out)).c0
  have q1 := (FQ.out.on (Law.then_ (HB5.out) HB6.out)).c1
  go_wp2_with fail
  go_at_call 22
  refine (eqSS_same A1006 A1003 c1006 c1003 ys1006 ys1003 qs w7 hlY HLM.out ((NRow.of FG1.out FnG1.out).stays (HB6.out)) ((NRow.of FW1.out FnW1.out).stays (Law.then_ (Law.then_ (Law.then_ (HB3.out) HB4.out) HB5.out) HB6.out))).mono ?_
  rintro r we2 ⟨rfl, m2, rfl⟩
  have hb : Below w7.heap.size w7 (w7.drewN m2) := Law.up (Below.refl _ _) _
  generalize World.drewN w7 m2 = w8 at hb ⊢
  have HB7 := Lib.hid hb
  clear hb
  clear p0 p1
  have p0 := (HP.out.on (Law.then_ (Law.then_ (Law.then_ (Law.then_ (Law.then_ (Law.then_ (Law.then_ (HB0.out) HB1.out) HB2.out) HB3.out) HB4.out) HB5.out) HB6.out) HB7.out)).bk.c0
  have p1 := (HP.out.on (Law.then_ (Law.then_ (Law.then_ (Law.then_ (Law.then_ (Law.then_ (Law.then_ (HB0.out) HB1.out) HB2.out) HB3.out) HB4.out) HB5.out) HB6.out) HB7.out)).bk.c1
  clear q0 q1
  have q0 := (FQ.out.on (Law.then_ (Law.then_ (HB5.out) HB6.out) HB7.out)).c0
  have q1 := (FQ.out.on (Law.then_ (Law.then_ (HB5.out) HB6.out) HB7.out)).c1
  cases ok
  all_goals
    go_wp2_with fail
    go_region_law ((first
      | (go_simp; go_at_call 18; refine (HTo.out _ ((HP.out.on (Law.then_ (Law.then_ (Law.then_ (Law.then_ (Law.then_ (Law.then_ (Law.then_ (HB0.out) HB1.out) HB2.out) HB3.out) HB4.out) HB5.out) HB6.out) HB7.out)).mv.stays ((Below.refl _ _).drew)) ((HP.out.on (Law.then_ (Law.then_ (Law.then_ (Law.then_ (Law.then_ (Law.then_ (Law.then_ (HB0.out) HB1.out) HB2.out) HB3.out) HB4.out) HB5.out) HB6.out) HB7.out)).sv.stays ((Below.refl _ _).drew))).mono ?_; rintro r w9 ⟨A9, c9, xs9, B9, d9, ys9, rfl, ho, hb⟩; have hb := ((Below.refl w8.heap.size w8).drew).trans hb; have HB8 := Lib.hid hb; have FZ := Lib.hid ho; clear ho hb; clear q0 q1; have q0 := (FQ.out.on (Law.then_ (Law.then_ (Law.then_ (HB5.out) HB6.out) HB7.out) HB8.out)).c0; have q1 := (FQ.out.on (Law.then_ (Law.then_ (Law.then_ (HB5.out) HB6.out) HB7.out) HB8.out)).c1)
      | (go_simp; go_at_call 21; refine (HEq.out _ A4 c4 xs4 B4 d4 ys4 A9 c9 xs9 B9 d9 ys9 (FX.out.mv.stays (Law.then_ (Law.then_ (Law.then_ (Law.then_ (HB4.out) HB5.out) HB6.out) HB7.out) HB8.out)) (FX.out.sv.stays (Law.then_ (Law.then_ (Law.then_ (Law.then_ (HB4.out) HB5.out) HB6.out) HB7.out) HB8.out)) FZ.out.mv FZ.out.sv).mono ?_; rintro r w10 ⟨rfl, hb⟩; have HB9 := Lib.hid hb; clear hb)))
    all_goals
      clear p0 p1 q0 q1
      have p0 := (HP.out.on (Law.then_ (Law.then_ (Law.then_ (Law.then_ (Law.then_ (Law.then_ (Law.then_ (Law.then_ (Law.then_ (HB0.out) HB1.out) HB2.out) HB3.out) HB4.out) HB5.out) HB6.out) HB7.out) HB8.out) HB9.out)).bk.c0
      have p1 := (HP.out.on (Law.then_ (Law.then_ (Law.then_ (Law.then_ (Law.then_ (Law.then_ (Law.then_ (Law.then_ (Law.then_ (HB0.out) HB1.out) HB2.out) HB3.out) HB4.out) HB5.out) HB6.out) HB7.out) HB8.out) HB9.out)).bk.c1
      have q0 := (FQ.out.on (Law.then_ (Law.then_ (Law.then_ (Law.then_ (HB5.out) HB6.out) HB7.out) HB8.out) HB9.out)).c0
      have q1 := (FQ.out.on (Law.then_ (Law.then_ (Law.then_ (Law.then_ (HB5.out) HB6.out) HB7.out) HB8.out) HB9.out)).c1
      have hlev : w4.heap.size ≤ w10.heap.size := ((Nat.le_trans (Nat.le_trans (Nat.le_trans (Nat.le_trans (Nat.le_trans HB4.out.size HB5.out.size) HB6.out.size) HB7.out.size) HB8.out.size) HB9.out.size))
      have FX' := Lib.hid (FX.out.past (Law.then_ (Law.then_ (Law.then_ (Law.then_ (Law.then_ (HB4.out) HB5.out) HB6.out) HB7.out) HB8.out) HB9.out))
      go_wp2_with fail
      go_at_call 27
      refine (markPrb_t w3.heap.size w4.heap.size 1 A4 c4 xs4 L B4 d4 ys4 S w10 (by omega) (by omega) hsL hsS FX'.out hlev).mono ?_
      rintro r w11 ⟨rfl, hT⟩
      clear hlev FX'
      have HC10 := Lib.hid hT
      have HB10 := Lib.hid (hT.below ((Nat.le_trans (Nat.le_trans (Nat.le_trans (Nat.le_trans (Nat.le_trans (Nat.le_trans HB3.out.size HB4.out.size) HB5.out.size) HB6.out.size) HB7.out.size) HB8.out.size) HB9.out.size)))
      clear hT
      have FG0' := Lib.hid (own_tch (own_past FG0.out (Law.then_ (Law.then_ (Law.then_ (HB6.out) HB7.out) HB8.out) HB9.out)) HC10.out ((HB4.out.size)))
      have FnG0' := Lib.hid ((FnG0.out.past (Law.then_ (Law.then_ (Law.then_ (HB6.out) HB7.out) HB8.out) HB9.out)).tch HC10.out ((HB4.out.size)))
      clear FnG0
      have FnG0 := FnG0'
      clear FnG0'
      clear FG0
      have FG0 := FG0'
      clear FG0'
      have FG1' := Lib.hid (own_tch (own_past FG1.out (Law.then_ (Law.then_ (Law.then_ (HB6.out) HB7.out) HB8.out) HB9.out)) HC10.out ((HB4.out.size)))
      have FnG1' := Lib.hid ((FnG1.out.past (Law.then_ (Law.then_ (Law.then_ (HB6.out) HB7.out) HB8.out) HB9.out)).tch HC10.out ((HB4.out.size)))
      clear FnG1
      have FnG1 := FnG1'
      clear FnG1'
      clear FG1
      have FG1 := FG1'
      clear FG1'
      clear q0 q1
      clear p0 p1
      have p0 := (HP.out.on ((Law.then_ (Law.then_ (Law.then_ (Law.then_ (Law.then_ (Law.then_ (Law.then_ (Law.then_ (Law.then_ (HB0.out) HB1.out) HB2.out) HB3.out) HB4.out) HB5.out) HB6.out) HB7.out) HB8.out) HB9.out).trans (HB10.out.mono ((Nat.le_trans (Nat.le_trans HB0.out.size HB1.out.size) HB2.out.size))))).bk.c0
      have p1 := (HP.out.on ((Law.then_ (Law.then_ (Law.then_ (Law.then_ (Law.then_ (Law.then_ (Law.then_ (Law.then_ (Law.then_ (HB0.out) HB1.out) HB2.out) HB3.out) HB4.out) HB5.out) HB6.out) HB7.out) HB8.out) HB9.out).trans (HB10.out.mono ((Nat.le_trans (Nat.le_trans HB0.out.size HB1.out.size) HB2.out.size))))).bk.c1
      go_wp2_with fail
      go_at_call 22
      refine (eqSS_same A6 A3 c6 c3 ys6 ys3 ps w11 hlX HLL.out (NRow.of FG0.out FnG0.out) ((NRow.of FW0.out FnW0.out).stays ((Law.then_ (Law.then_ (Law.then_ (Law.then_ (Law.then_ (Law.then_ (HB3.out) HB4.out) HB5.out) HB6.out) HB7.out) HB8.out) HB9.out).trans (HB10.out.mono (Nat.le_refl _))))).mono ?_
      rintro r we3 ⟨rfl, m3, rfl⟩
      have hb : Below w11.heap.size w11 (w11.drewN m3) := Law.up (Below.refl _ _) _
      generalize World.drewN w11 m3 = w12 at hb ⊢
      have HB11 := Lib.hid hb
      clear hb
      clear p0 p1
      have p0 := (HP.out.on (Law.then_ ((Law.then_ (Law.then_ (Law.then_ (Law.then_ (Law.then_ (Law.then_ (Law.then_ (Law.then_ (Law.then_ (HB0.out) HB1.out) HB2.out) HB3.out) HB4.out) HB5.out) HB6.out) HB7.out) HB8.out) HB9.out).trans (HB10.out.mono ((Nat.le_trans (Nat.le_trans HB0.out.size HB1.out.size) HB2.out.size)))) HB11.out)).bk.c0
      have p1 := (HP.out.on (Law.then_ ((Law.then_ (Law.then_ (Law.then_ (Law.then_ (Law.then_ (Law.then_ (Law.then_ (Law.then_ (Law.then_ (HB0.out) HB1.out) HB2.out) HB3.out) HB4.out) HB5.out) HB6.out) HB7.out) HB8.out) HB9.out).trans (HB10.out.mono ((Nat.le_trans (Nat.le_trans HB0.out.size HB1.out.size) HB2.out.size)))) HB11.out)).bk.c1
      go_wp2_with fail
      go_at_call 22
      refine (eqSS_same A1006 A1003 c1006 c1003 ys1006 ys1003 qs w12 hlY HLM.out ((NRow.of FG1.out FnG1.out).stays (HB11.out)) ((NRow.of FW1.out FnW1.out).stays (Law.then_ ((Law.then_ (Law.then_ (Law.then_ (Law.then_ (Law.then_ (Law.then_ (HB3.out) HB4.out) HB5.out) HB6.out) HB7.out) HB8.out) HB9.out).trans (HB10.out.mono (Nat.le_refl _))) HB11.out))).mono ?_
      rintro r we4 ⟨rfl, m4, rfl⟩
      have hb : Below w12.heap.size w12 (w12.drewN m4) := Law.up (Below.refl _ _) _
      generalize World.drewN w12 m4 = w13 at hb ⊢
      have HB12 := Lib.hid hb
      clear hb
      clear p0 p1
      have p0 := (HP.out.on (Law.then_ (Law.then_ ((Law.then_ (Law.then_ (Law.then_ (Law.then_ (Law.then_ (Law.then_ (Law.then_ (Law.then_ (Law.then_ (HB0.out) HB1.out) HB2.out) HB3.out) HB4.out) HB5.out) HB6.out) HB7.out) HB8.out) HB9.out).trans (HB10.out.mono ((Nat.le_trans (Nat.le_trans HB0.out.size HB1.out.size) HB2.out.size)))) HB11.out) HB12.out)).bk.c0
      have p1 := (HP.out.on (Law.then_ (Law.then_ ((Law.then_ (Law.then_ (Law.then_ (Law.then_ (Law.then_ (Law.then_ (Law.then_ (Law.then_ (Law.then_ (HB0.out) HB1.out) HB2.out) HB3.out) HB4.out) HB5.out) HB6.out) HB7.out) HB8.out) HB9.out).trans (HB10.out.mono ((Nat.le_trans (Nat.le_trans HB0.out.size HB1.out.size) HB2.out.size)))) HB11.out) HB12.out)).bk.c1
      have HOa := Lib.hid (own_past FG0.out (Law.then_ (HB11.out) HB12.out))
      have HNa := Lib.hid (FnG0.out.past (Law.then_ (HB11.out) HB12.out))
      have HOb := Lib.hid (own_past FG1.out (Law.then_ (HB11.out) HB12.out))
      have HNb := Lib.hid (FnG1.out.past (Law.then_ (HB11.out) HB12.out))
      go_wp2_with fail
      go_at_call 28
      refine (markSS_kept w5.heap.size (1) A6 c6 ys6 ps w13 (by omega) (by omega) hlX httX ((Nat.le_trans (Nat.le_trans (Nat.le_trans (Nat.le_trans (Nat.le_trans (Nat.le_trans (Nat.le_trans HB5.out.size HB6.out.size) HB7.out.size) HB8.out.size) HB9.out.size) HB10.out.size) HB11.out.size) HB12.out.size)) HOa.out HNa.out).mono ?_
      rintro r w14 ⟨rfl, ho, hno, hbb, hkp⟩
      have hob := hkp.outer HNa.out HOb.out
      have hnb := hkp.rows HNb.out APG.out
      clear FG0 FnG0 FG1 FnG1 HOa HNa HOb HNb hkp
      have FG0 := Lib.hid ho
      have FnG0 := Lib.hid hno
      have FG1 := Lib.hid hob
      have FnG1 := Lib.hid hnb
      clear ho hno hob hnb
      have HB13 := Lib.hid hbb
      clear hbb
      clear p0 p1
      have p0 := (HP.out.on ((Law.then_ (Law.then_ ((Law.then_ (Law.then_ (Law.then_ (Law.then_ (Law.then_ (Law.then_ (Law.then_ (Law.then_ (Law.then_ (HB0.out) HB1.out) HB2.out) HB3.out) HB4.out) HB5.out) HB6.out) HB7.out) HB8.out) HB9.out).trans (HB10.out.mono ((Nat.le_trans (Nat.le_trans HB0.out.size HB1.out.size) HB2.out.size)))) HB11.out) HB12.out).trans (HB13.out.mono ((Nat.le_trans (Nat.le_trans (Nat.le_trans (Nat.le_trans HB0.out.size HB1.out.size) HB2.out.size) HB3.out.size) HB4.out.size))))).bk.c0
      have p1 := (HP.out.on ((Law.then_ (Law.then_ ((Law.then_ (Law.then_ (Law.then_ (Law.then_ (Law.then_ (Law.then_ (Law.then_ (Law.then_ (Law.then_ (HB0.out) HB1.out) HB2.out) HB3.out) HB4.out) HB5.out) HB6.out) HB7.out) HB8.out) HB9.out).trans (HB10.out.mono ((Nat.le_trans (Nat.le_trans HB0.out.size HB1.out.size) HB2.out.size)))) HB11.out) HB12.out).trans (HB13.out.mono ((Nat.le_trans (Nat.le_trans (Nat.le_trans (Nat.le_trans HB0.out.size HB1.out.size) HB2.out.size) HB3.out.size) HB4.out.size))))).bk.c1
      have HOa := Lib.hid FG1.out
      have HNa := Lib.hid FnG1.out
      have HOb := Lib.hid FG0.out
      have HNb := Lib.hid FnG0.out
      go_wp2_with fail
      go_at_call 28
      refine (markSS_kept w5.heap.size (1 + totL ps) A1006 c1006 ys1006 qs w14 (by omega) (by omega) hlY httY ((Nat.le_trans (Nat.le_trans (Nat.le_trans (Nat.le_trans (Nat.le_trans (Nat.le_trans (Nat.le_trans (Nat.le_trans HB5.out.size HB6.out.size) HB7.out.size) HB8.out.size) HB9.out.size) HB10.out.size) HB11.out.size) HB12.out.size) HB13.out.size)) HOa.out HNa.out).mono ?_
      rintro r w15 ⟨rfl, ho, hno, hbb, hkp⟩
      have hob := hkp.outer HNa.out HOb.out
      have hnb := hkp.rows HNb.out (fun x hx y hy g h1 h2 => APG.out y hy x hx g h2 h1)
      clear FG1 FnG1 FG0 FnG0 HOa HNa HOb HNb hkp
      have FG1 := Lib.hid ho
      have FnG1 := Lib.hid hno
      have FG0 := Lib.hid hob
      have FnG0 := Lib.hid hnb
      clear ho hno hob hnb
      have HB14 := Lib.hid hbb
      clear hbb
      clear p0 p1
      have p0 := (HP.out.on (((Law.then_ (Law.then_ ((Law.then_ (Law.then_ (Law.then_ (Law.then_ (Law.then_ (Law.then_ (Law.then_ (Law.then_ (Law.then_ (HB0.out) HB1.out) HB2.out) HB3.out) HB4.out) HB5.out) HB6.out) HB7.out) HB8.out) HB9.out).trans (HB10.out.mono ((Nat.le_trans (Nat.le_trans HB0.out.size HB1.out.size) HB2.out.size)))) HB11.out) HB12.out).trans (HB13.out.mono ((Nat.le_trans (Nat.le_trans (Nat.le_trans (Nat.le_trans HB0.out.size HB1.out.size) HB2.out.size) HB3.out.size) HB4.out.size)))).trans (HB14.out.mono ((Nat.le_trans (Nat.le_trans (Nat.le_trans (Nat.le_trans HB0.out.size HB1.out.size) HB2.out.size) HB3.out.size) HB4.out.size))))).bk.c0
      have p1 := (HP.out.on (((Law.then_ (Law.then_ ((Law.then_ (Law.then_ (Law.then_ (Law.then_ (Law.then_ (Law.then_ (Law.then_ (Law.then_ (Law.then_ (HB0.out) HB1.out) HB2.out) HB3.out) HB4.out) HB5.out) HB6.out) HB7.out) HB8.out) HB9.out).trans (HB10.out.mono ((Nat.le_trans (Nat.le_trans HB0.out.size HB1.out.size) HB2.out.size)))) HB11.out) HB12.out).trans (HB13.out.mono ((Nat.le_trans (Nat.le_trans (Nat.le_trans (Nat.le_trans HB0.out.size HB1.out.size) HB2.out.size) HB3.out.size) HB4.out.size)))).trans (HB14.out.mono ((Nat.le_trans (Nat.le_trans (Nat.le_trans (Nat.le_trans HB0.out.size HB1.out.size) HB2.out.size) HB3.out.size) HB4.out.size))))).bk.c1
      have FM := Lib.hid (NRow.of FG0.out FnG0.out)
      have FM2 := Lib.hid (NRow.of FG1.out FnG1.out)
      clear p0 p1
      have p0 := (HP.out.on (((Law.then_ (Law.then_ ((Law.then_ (Law.then_ (Law.then_ (Law.then_ (Law.then_ (Law.then_ (Law.then_ (Law.then_ (Law.then_ (HB0.out) HB1.out) HB2.out) HB3.out) HB4.out) HB5.out) HB6.out) HB7.out) HB8.out) HB9.out).trans (HB10.out.mono ((Nat.le_trans (Nat.le_trans HB0.out.size HB1.out.size) HB2.out.size)))) HB11.out) HB12.out).trans (HB13.out.mono ((Nat.le_trans (Nat.le_trans (Nat.le_trans (Nat.le_trans HB0.out.size HB1.out.size) HB2.out.size) HB3.out.size) HB4.out.size)))).trans (HB14.out.mono ((Nat.le_trans (Nat.le_trans (Nat.le_trans (Nat.le_trans HB0.out.size HB1.out.size) HB2.out.size) HB3.out.size) HB4.out.size))))).bk.c0
      have p1 := (HP.out.on (((Law.then_ (Law.then_ ((Law.then_ (Law.then_ (Law.then_ (Law.then_ (Law.then_ (Law.then_ (Law.then_ (Law.then_ (Law.then_ (HB0.out) HB1.out) HB2.out) HB3.out) HB4.out) HB5.out) HB6.out) HB7.out) HB8.out) HB9.out).trans (HB10.out.mono ((Nat.le_trans (Nat.le_trans HB0.out.size HB1.out.size) HB2.out.size)))) HB11.out) HB12.out).trans (HB13.out.mono ((Nat.le_trans (Nat.le_trans (Nat.le_trans (Nat.le_trans HB0.out.size HB1.out.size) HB2.out.size) HB3.out.size) HB4.out.size)))).trans (HB14.out.mono ((Nat.le_trans (Nat.le_trans (Nat.le_trans (Nat.le_trans HB0.out.size HB1.out.size) HB2.out.size) HB3.out.size) HB4.out.size))))).bk.c1
      go_wp2_with fail
      go_at_call 41
      refine (heldSS_any (1) A6 c6 ys6 ps w15 (by omega) (by omega) hlX httX FM.out).mono ?_
      rintro r w16 ⟨rfl, hb⟩
      have HB15 := Lib.hid hb
      clear hb
      clear p0 p1
      have p0 := (HP.out.on (Law.then_ (((Law.then_ (Law.then_ ((Law.then_ (Law.then_ (Law.then_ (Law.then_ (Law.then_ (Law.then_ (Law.then_ (Law.then_ (Law.then_ (HB0.out) HB1.out) HB2.out) HB3.out) HB4.out) HB5.out) HB6.out) HB7.out) HB8.out) HB9.out).trans (HB10.out.mono ((Nat.le_trans (Nat.le_trans HB0.out.size HB1.out.size) HB2.out.size)))) HB11.out) HB12.out).trans (HB13.out.mono ((Nat.le_trans (Nat.le_trans (Nat.le_trans (Nat.le_trans HB0.out.size HB1.out.size) HB2.out.size) HB3.out.size) HB4.out.size)))).trans (HB14.out.mono ((Nat.le_trans (Nat.le_trans (Nat.le_trans (Nat.le_trans HB0.out.size HB1.out.size) HB2.out.size) HB3.out.size) HB4.out.size)))) HB15.out)).bk.c0
      have p1 := (HP.out.on (Law.then_ (((Law.then_ (Law.then_ ((Law.then_ (Law.then_ (Law.then_ (Law.then_ (Law.then_ (Law.then_ (Law.then_ (Law.then_ (Law.then_ (HB0.out) HB1.out) HB2.out) HB3.out) HB4.out) HB5.out) HB6.out) HB7.out) HB8.out) HB9.out).trans (HB10.out.mono ((Nat.le_trans (Nat.le_trans HB0.out.size HB1.out.size) HB2.out.size)))) HB11.out) HB12.out).trans (HB13.out.mono ((Nat.le_trans (Nat.le_trans (Nat.le_trans (Nat.le_trans HB0.out.size HB1.out.size) HB2.out.size) HB3.out.size) HB4.out.size)))).trans (HB14.out.mono ((Nat.le_trans (Nat.le_trans (Nat.le_trans (Nat.le_trans HB0.out.size HB1.out.size) HB2.out.size) HB3.out.size) HB4.out.size)))) HB15.out)).bk.c1
      go_wp2_with fail
      go_at_call 41
      refine (heldSS_any (1 + totL ps) A1006 c1006 ys1006 qs w16 (by omega) (by omega) hlY httY (FM2.out.stays (HB15.out))).mono ?_
      rintro r w17 ⟨rfl, hb⟩
      have HB16 := Lib.hid hb
      clear hb
      clear p0 p1
      have p0 := (HP.out.on (Law.then_ (Law.then_ (((Law.then_ (Law.then_ ((Law.then_ (Law.then_ (Law.then_ (Law.then_ (Law.then_ (Law.then_ (Law.then_ (Law.then_ (Law.then_ (HB0.out) HB1.out) HB2.out) HB3.out) HB4.out) HB5.out) HB6.out) HB7.out) HB8.out) HB9.out).trans (HB10.out.mono ((Nat.le_trans (Nat.le_trans HB0.out.size HB1.out.size) HB2.out.size)))) HB11.out) HB12.out).trans (HB13.out.mono ((Nat.le_trans (Nat.le_trans (Nat.le_trans (Nat.le_trans HB0.out.size HB1.out.size) HB2.out.size) HB3.out.size) HB4.out.size)))).trans (HB14.out.mono ((Nat.le_trans (Nat.le_trans (Nat.le_trans (Nat.le_trans HB0.out.size HB1.out.size) HB2.out.size) HB3.out.size) HB4.out.size)))) HB15.out) HB16.out)).bk.c0
      have p1 := (HP.out.on (Law.then_ (Law.then_ (((Law.then_ (Law.then_ ((Law.then_ (Law.then_ (Law.then_ (Law.then_ (Law.then_ (Law.then_ (Law.then_ (Law.then_ (Law.then_ (HB0.out) HB1.out) HB2.out) HB3.out) HB4.out) HB5.out) HB6.out) HB7.out) HB8.out) HB9.out).trans (HB10.out.mono ((Nat.le_trans (Nat.le_trans HB0.out.size HB1.out.size) HB2.out.size)))) HB11.out) HB12.out).trans (HB13.out.mono ((Nat.le_trans (Nat.le_trans (Nat.le_trans (Nat.le_trans HB0.out.size HB1.out.size) HB2.out.size) HB3.out.size) HB4.out.size)))).trans (HB14.out.mono ((Nat.le_trans (Nat.le_trans (Nat.le_trans (Nat.le_trans HB0.out.size HB1.out.size) HB2.out.size) HB3.out.size) HB4.out.size)))) HB15.out) HB16.out)).bk.c1
      go_wp2_with fail
      go_at_call 18
      refine (HTo.out w17 (HP.out.on (Law.then_ (Law.then_ (((Law.then_ (Law.then_ ((Law.then_ (Law.then_ (Law.then_ (Law.then_ (Law.then_ (Law.then_ (Law.then_ (Law.then_ (Law.then_ (HB0.out) HB1.out) HB2.out) HB3.out) HB4.out) HB5.out) HB6.out) HB7.out) HB8.out) HB9.out).trans (HB10.out.mono ((Nat.le_trans (Nat.le_trans HB0.out.size HB1.out.size) HB2.out.size)))) HB11.out) HB12.out).trans (HB13.out.mono ((Nat.le_trans (Nat.le_trans (Nat.le_trans (Nat.le_trans HB0.out.size HB1.out.size) HB2.out.size) HB3.out.size) HB4.out.size)))).trans (HB14.out.mono ((Nat.le_trans (Nat.le_trans (Nat.le_trans (Nat.le_trans HB0.out.size HB1.out.size) HB2.out.size) HB3.out.size) HB4.out.size)))) HB15.out) HB16.out)).mv (HP.out.on (Law.then_ (Law.then_ (((Law.then_ (Law.then_ ((Law.then_ (Law.then_ (Law.then_ (Law.then_ (Law.then_ (Law.then_ (Law.then_ (Law.then_ (Law.then_ (HB0.out) HB1.out) HB2.out) HB3.out) HB4.out) HB5.out) HB6.out) HB7.out) HB8.out) HB9.out).trans (HB10.out.mono ((Nat.le_trans (Nat.le_trans HB0.out.size HB1.out.size) HB2.out.size)))) HB11.out) HB12.out).trans (HB13.out.mono ((Nat.le_trans (Nat.le_trans (Nat.le_trans (Nat.le_trans HB0.out.size HB1.out.size) HB2.out.size) HB3.out.size) HB4.out.size)))).trans (HB14.out.mono ((Nat.le_trans (Nat.le_trans (Nat.le_trans (Nat.le_trans HB0.out.size HB1.out.size) HB2.out.size) HB3.out.size) HB4.out.size)))) HB15.out) HB16.out)).sv).mono ?_
      rintro r w18 ⟨A18, c18, xs18, B18, d18, ys18, rfl, ho, hb⟩
      have FU := Lib.hid ho
      clear ho
      have HB17 := Lib.hid hb
      clear hb
      clear p0 p1
      have p0 := (HP.out.on (Law.then_ (Law.then_ (Law.then_ (((Law.then_ (Law.then_ ((Law.then_ (Law.then_ (Law.then_ (Law.then_ (Law.then_ (Law.then_ (Law.then_ (Law.then_ (Law.then_ (HB0.out) HB1.out) HB2.out) HB3.out) HB4.out) HB5.out) HB6.out) HB7.out) HB8.out) HB9.out).trans (HB10.out.mono ((Nat.le_trans (Nat.le_trans HB0.out.size HB1.out.size) HB2.out.size)))) HB11.out) HB12.out).trans (HB13.out.mono ((Nat.le_trans (Nat.le_trans (Nat.le_trans (Nat.le_trans HB0.out.size HB1.out.size) HB2.out.size) HB3.out.size) HB4.out.size)))).trans (HB14.out.mono ((Nat.le_trans (Nat.le_trans (Nat.le_trans (Nat.le_trans HB0.out.size HB1.out.size) HB2.out.size) HB3.out.size) HB4.out.size)))) HB15.out) HB16.out) HB17.out)).bk.c0
      have p1 := (HP.out.on (Law.then_ (Law.then_ (Law.then_ (((Law.then_ (Law.then_ ((Law.then_ (Law.then_ (Law.then_ (Law.then_ (Law.then_ (Law.then_ (Law.then_ (Law.then_ (Law.then_ (HB0.out) HB1.out) HB2.out) HB3.out) HB4.out) HB5.out) HB6.out) HB7.out) HB8.out) HB9.out).trans (HB10.out.mono ((Nat.le_trans (Nat.le_trans HB0.out.size HB1.out.size) HB2.out.size)))) HB11.out) HB12.out).trans (HB13.out.mono ((Nat.le_trans (Nat.le_trans (Nat.le_trans (Nat.le_trans HB0.out.size HB1.out.size) HB2.out.size) HB3.out.size) HB4.out.size)))).trans (HB14.out.mono ((Nat.le_trans (Nat.le_trans (Nat.le_trans (Nat.le_trans HB0.out.size HB1.out.size) HB2.out.size) HB3.out.size) HB4.out.size)))) HB15.out) HB16.out) HB17.out)).bk.c1
      go_wp2_with fail
      go_at_call 47
      refine (HH.out A18 c18 xs18 B18 d18 ys18 w18 FU.out.mv FU.out.sv).mono ?_
      rintro r w19 ⟨v19, v1019, ys19, ys1019, rfl, ho, hn, ho2, hn2, ap, hb⟩
      simp only [] at ho hn ho2 hn2
      obtain ⟨A19, c19, rfl, _, _, _⟩ := Law.own_len ho
      obtain ⟨A1019, c1019, rfl, _, _, _⟩ := Law.own_len ho2
      have APK := Lib.hid ap
      clear ap
      have FK0 := Lib.hid ho
      have FnK0 := Lib.hid hn
      clear ho hn
      have FK1 := Lib.hid ho2
      have FnK1 := Lib.hid hn2
      clear ho2 hn2
      have HB18 := Lib.hid hb
      clear hb
      clear p0 p1
      have p0 := (HP.out.on (Law.then_ (Law.then_ (Law.then_ (Law.then_ (((Law.then_ (Law.then_ ((Law.then_ (Law.then_ (Law.then_ (Law.then_ (Law.then_ (Law.then_ (Law.then_ (Law.then_ (Law.then_ (HB0.out) HB1.out) HB2.out) HB3.out) HB4.out) HB5.out) HB6.out) HB7.out) HB8.out) HB9.out).trans (HB10.out.mono ((Nat.le_trans (Nat.le_trans HB0.out.size HB1.out.size) HB2.out.size)))) HB11.out) HB12.out).trans (HB13.out.mono ((Nat.le_trans (Nat.le_trans (Nat.le_trans (Nat.le_trans HB0.out.size HB1.out.size) HB2.out.size) HB3.out.size) HB4.out.size)))).trans (HB14.out.mono ((Nat.le_trans (Nat.le_trans (Nat.le_trans (Nat.le_trans HB0.out.size HB1.out.size) HB2.out.size) HB3.out.size) HB4.out.size)))) HB15.out) HB16.out) HB17.out) HB18.out)).bk.c0
      have p1 := (HP.out.on (Law.then_ (Law.then_ (Law.then_ (Law.then_ (((Law.then_ (Law.then_ ((Law.then_ (Law.then_ (Law.then_ (Law.then_ (Law.then_ (Law.then_ (Law.then_ (Law.then_ (Law.then_ (HB0.out) HB1.out) HB2.out) HB3.out) HB4.out) HB5.out) HB6.out) HB7.out) HB8.out) HB9.out).trans (HB10.out.mono ((Nat.le_trans (Nat.le_trans HB0.out.size HB1.out.size) HB2.out.size)))) HB11.out) HB12.out).trans (HB13.out.mono ((Nat.le_trans (Nat.le_trans (Nat.le_trans (Nat.le_trans HB0.out.size HB1.out.size) HB2.out.size) HB3.out.size) HB4.out.size)))).trans (HB14.out.mono ((Nat.le_trans (Nat.le_trans (Nat.le_trans (Nat.le_trans HB0.out.size HB1.out.size) HB2.out.size) HB3.out.size) HB4.out.size)))) HB15.out) HB16.out) HB17.out) HB18.out)).bk.c1
      go_wp2_with fail
      go_at_call 22
      refine (eqSS_same A19 A3 c19 c3 ys19 ys3 ps w19 hlX HLL.out (NRow.of FK0.out FnK0.out) ((NRow.of FW0.out FnW0.out).stays (Law.then_ (Law.then_ (Law.then_ (Law.then_ (((Law.then_ (Law.then_ ((Law.then_ (Law.then_ (Law.then_ (Law.then_ (Law.then_ (Law.then_ (HB3.out) HB4.out) HB5.out) HB6.out) HB7.out) HB8.out) HB9.out).trans (HB10.out.mono (Nat.le_refl _))) HB11.out) HB12.out).trans (HB13.out.mono ((Nat.le_trans HB3.out.size HB4.out.size)))).trans (HB14.out.mono ((Nat.le_trans HB3.out.size HB4.out.size)))) HB15.out) HB16.out) HB17.out) HB18.out))).mono ?_
      rintro r we5 ⟨rfl, m5, rfl⟩
      have hb : Below w19.heap.size w19 (w19.drewN m5) := Law.up (Below.refl _ _) _
      generalize World.drewN w19 m5 = w20 at hb ⊢
      have HB19 := Lib.hid hb
      clear hb
      clear p0 p1
      have p0 := (HP.out.on (Law.then_ (Law.then_ (Law.then_ (Law.then_ (Law.then_ (((Law.then_ (Law.then_ ((Law.then_ (Law.then_ (Law.then_ (Law.then_ (Law.then_ (Law.then_ (Law.then_ (Law.then_ (Law.then_ (HB0.out) HB1.out) HB2.out) HB3.out) HB4.out) HB5.out) HB6.out) HB7.out) HB8.out) HB9.out).trans (HB10.out.mono ((Nat.le_trans (Nat.le_trans HB0.out.size HB1.out.size) HB2.out.size)))) HB11.out) HB12.out).trans (HB13.out.mono ((Nat.le_trans (Nat.le_trans (Nat.le_trans (Nat.le_trans HB0.out.size HB1.out.size) HB2.out.size) HB3.out.size) HB4.out.size)))).trans (HB14.out.mono ((Nat.le_trans (Nat.le_trans (Nat.le_trans (Nat.le_trans HB0.out.size HB1.out.size) HB2.out.size) HB3.out.size) HB4.out.size)))) HB15.out) HB16.out) HB17.out) HB18.out) HB19.out)).bk.c0
      have p1 := (HP.out.on (Law.then_ (Law.then_ (Law.then_ (Law.then_ (Law.then_ (((Law.then_ (Law.then_ ((Law.then_ (Law.then_ (Law.then_ (Law.then_ (Law.then_ (Law.then_ (Law.then_ (Law.then_ (Law.then_ (HB0.out) HB1.out) HB2.out) HB3.out) HB4.out) HB5.out) HB6.out) HB7.out) HB8.out) HB9.out).trans (HB10.out.mono ((Nat.le_trans (Nat.le_trans HB0.out.size HB1.out.size) HB2.out.size)))) HB11.out) HB12.out).trans (HB13.out.mono ((Nat.le_trans (Nat.le_trans (Nat.le_trans (Nat.le_trans HB0.out.size HB1.out.size) HB2.out.size) HB3.out.size) HB4.out.size)))).trans (HB14.out.mono ((Nat.le_trans (Nat.le_trans (Nat.le_trans (Nat.le_trans HB0.out.size HB1.out.size) HB2.out.size) HB3.out.size) HB4.out.size)))) HB15.out) HB16.out) HB17.out) HB18.out) HB19.out)).bk.c1
      go_wp2_with fail
      go_at_call 22
      refine (eqSS_same A1019 A1003 c1019 c1003 ys1019 ys1003 qs w20 hlY HLM.out ((NRow.of FK1.out FnK1.out).stays (HB19.out)) ((NRow.of FW1.out FnW1.out).stays (Law.then_ (Law.then_ (Law.then_ (Law.then_ (Law.then_ (((Law.then_ (Law.then_ ((Law.then_ (Law.then_ (Law.then_ (Law.then_ (Law.then_ (Law.then_ (HB3.out) HB4.out) HB5.out) HB6.out) HB7.out) HB8.out) HB9.out).trans (HB10.out.mono (Nat.le_refl _))) HB11.out) HB12.out).trans (HB13.out.mono ((Nat.le_trans HB3.out.size HB4.out.size)))).trans (HB14.out.mono ((Nat.le_trans HB3.out.size HB4.out.size)))) HB15.out) HB16.out) HB17.out) HB18.out) HB19.out))).mono ?_
      rintro r we6 ⟨rfl, m6, rfl⟩
      have hb : Below w20.heap.size w20 (w20.drewN m6) := Law.up (Below.refl _ _) _
      generalize World.drewN w20 m6 = w21 at hb ⊢
      have HB20 := Lib.hid hb
      clear hb
      clear p0 p1
      have p0 := (HP.out.on (Law.then_ (Law.then_ (Law.then_ (Law.then_ (Law.then_ (Law.then_ (((Law.then_ (Law.then_ ((Law.then_ (Law.then_ (Law.then_ (Law.then_ (Law.then_ (Law.then_ (Law.then_ (Law.then_ (Law.then_ (HB0.out) HB1.out) HB2.out) HB3.out) HB4.out) HB5.out) HB6.out) HB7.out) HB8.out) HB9.out).trans (HB10.out.mono ((Nat.le_trans (Nat.le_trans HB0.out.size HB1.out.size) HB2.out.size)))) HB11.out) HB12.out).trans (HB13.out.mono ((Nat.le_trans (Nat.le_trans (Nat.le_trans (Nat.le_trans HB0.out.size HB1.out.size) HB2.out.size) HB3.out.size) HB4.out.size)))).trans (HB14.out.mono ((Nat.le_trans (Nat.le_trans (Nat.le_trans (Nat.le_trans HB0.out.size HB1.out.size) HB2.out.size) HB3.out.size) HB4.out.size)))) HB15.out) HB16.out) HB17.out) HB18.out) HB19.out) HB20.out)).bk.c0
      have p1 := (HP.out.on (Law.then_ (Law.then_ (Law.then_ (Law.then_ (Law.then_ (Law.then_ (((Law.then_ (Law.then_ ((Law.then_ (Law.then_ (Law.then_ (Law.then_ (Law.then_ (Law.then_ (Law.then_ (Law.then_ (Law.then_ (HB0.out) HB1.out) HB2.out) HB3.out) HB4.out) HB5.out) HB6.out) HB7.out) HB8.out) HB9.out).trans (HB10.out.mono ((Nat.le_trans (Nat.le_trans HB0.out.size HB1.out.size) HB2.out.size)))) HB11.out) HB12.out).trans (HB13.out.mono ((Nat.le_trans (Nat.le_trans (Nat.le_trans (Nat.le_trans HB0.out.size HB1.out.size) HB2.out.size) HB3.out.size) HB4.out.size)))).trans (HB14.out.mono ((Nat.le_trans (Nat.le_trans (Nat.le_trans (Nat.le_trans HB0.out.size HB1.out.size) HB2.out.size) HB3.out.size) HB4.out.size)))) HB15.out) HB16.out) HB17.out) HB18.out) HB19.out) HB20.out)).bk.c1
      go_wp2_with fail
      go_at_call 41
      refine (heldSS_any (1) A6 c6 ys6 ps w21 (by omega) (by omega) hlX httX (FM.out.stays (Law.then_ (Law.then_ (Law.then_ (Law.then_ (Law.then_ (HB15.out) HB16.out) HB17.out) HB18.out) HB19.out) HB20.out))).mono ?_
      rintro r w22 ⟨rfl, hb⟩
      have HB21 := Lib.hid hb
      clear hb
      clear p0 p1
      have p0 := (HP.out.on (Law.then_ (Law.then_ (Law.then_ (Law.then_ (Law.then_ (Law.then_ (Law.then_ (((Law.then_ (Law.then_ ((Law.then_ (Law.then_ (Law.then_ (Law.then_ (Law.then_ (Law.then_ (Law.then_ (Law.then_ (Law.then_ (HB0.out) HB1.out) HB2.out) HB3.out) HB4.out) HB5.out) HB6.out) HB7.out) HB8.out) HB9.out).trans (HB10.out.mono ((Nat.le_trans (Nat.le_trans HB0.out.size HB1.out.size) HB2.out.size)))) HB11.out) HB12.out).trans (HB13.out.mono ((Nat.le_trans (Nat.le_trans (Nat.le_trans (Nat.le_trans HB0.out.size HB1.out.size) HB2.out.size) HB3.out.size) HB4.out.size)))).trans (HB14.out.mono ((Nat.le_trans (Nat.le_trans (Nat.le_trans (Nat.le_trans HB0.out.size HB1.out.size) HB2.out.size) HB3.out.size) HB4.out.size)))) HB15.out) HB16.out) HB17.out) HB18.out) HB19.out) HB20.out) HB21.out)).bk.c0
      have p1 := (HP.out.on (Law.then_ (Law.then_ (Law.then_ (Law.then_ (Law.then_ (Law.then_ (Law.then_ (((Law.then_ (Law.then_ ((Law.then_ (Law.then_ (Law.then_ (Law.then_ (Law.then_ (Law.then_ (Law.then_ (Law.then_ (Law.then_ (HB0.out) HB1.out) HB2.out) HB3.out) HB4.out) HB5.out) HB6.out) HB7.out) HB8.out) HB9.out).trans (HB10.out.mono ((Nat.le_trans (Nat.le_trans HB0.out.size HB1.out.size) HB2.out.size)))) HB11.out) HB12.out).trans (HB13.out.mono ((Nat.le_trans (Nat.le_trans (Nat.le_trans (Nat.le_trans HB0.out.size HB1.out.size) HB2.out.size) HB3.out.size) HB4.out.size)))).trans (HB14.out.mono ((Nat.le_trans (Nat.le_trans (Nat.le_trans (Nat.le_trans HB0.out.size HB1.out.size) HB2.out.size) HB3.out.size) HB4.out.size)))) HB15.out) HB16.out) HB17.out) HB18.out) HB19.out) HB20.out) HB21.out)).bk.c1
      go_wp2_with fail
      go_at_call 41
      refine (heldSS_any (1 + totL ps) A1006 c1006 ys1006 qs w22 (by omega) (by omega) hlY httY (FM2.out.stays (Law.then_ (Law.then_ (Law.then_ (Law.then_ (Law.then_ (Law.then_ (HB15.out) HB16.out) HB17.out) HB18.out) HB19.out) HB20.out) HB21.out))).mono ?_
      rintro r w23 ⟨rfl, hb⟩
      have HB22 := Lib.hid hb
      clear hb
      clear p0 p1
      have p0 := (HP.out.on (Law.then_ (Law.then_ (Law.then_ (Law.then_ (Law.then_ (Law.then_ (Law.then_ (Law.then_ (((Law.then_ (Law.then_ ((Law.then_ (Law.then_ (Law.then_ (Law.then_ (Law.then_ (Law.then_ (Law.then_ (Law.then_ (Law.then_ (HB0.out) HB1.out) HB2.out) HB3.out) HB4.out) HB5.out) HB6.out) HB7.out) HB8.out) HB9.out).trans (HB10.out.mono ((Nat.le_trans (Nat.le_trans HB0.out.size HB1.out.size) HB2.out.size)))) HB11.out) HB12.out).trans (HB13.out.mono ((Nat.le_trans (Nat.le_trans (Nat.le_trans (Nat.le_trans HB0.out.size HB1.out.size) HB2.out.size) HB3.out.size) HB4.out.size)))).trans (HB14.out.mono ((Nat.le_trans (Nat.le_trans (Nat.le_trans (Nat.le_trans HB0.out.size HB1.out.size) HB2.out.size) HB3.out.size) HB4.out.size)))) HB15.out) HB16.out) HB17.out) HB18.out) HB19.out) HB20.out) HB21.out) HB22.out)).bk.c0
      have p1 := (HP.out.on (Law.then_ (Law.then_ (Law.then_ (Law.then_ (Law.then_ (Law.then_ (Law.then_ (Law.then_ (((Law.then_ (Law.then_ ((Law.then_ (Law.then_ (Law.then_ (Law.then_ (Law.then_ (Law.then_ (Law.then_ (Law.then_ (Law.then_ (HB0.out) HB1.out) HB2.out) HB3.out) HB4.out) HB5.out) HB6.out) HB7.out) HB8.out) HB9.out).trans (HB10.out.mono ((Nat.le_trans (Nat.le_trans HB0.out.size HB1.out.size) HB2.out.size)))) HB11.out) HB12.out).trans (HB13.out.mono ((Nat.le_trans (Nat.le_trans (Nat.le_trans (Nat.le_trans HB0.out.size HB1.out.size) HB2.out.size) HB3.out.size) HB4.out.size)))).trans (HB14.out.mono ((Nat.le_trans (Nat.le_trans (Nat.le_trans (Nat.le_trans HB0.out.size HB1.out.size) HB2.out.size) HB3.out.size) HB4.out.size)))) HB15.out) HB16.out) HB17.out) HB18.out) HB19.out) HB20.out) HB21.out) HB22.out)).bk.c1
      go_wp2
      go_ret
      exact ⟨rfl, Law.then_ (Law.then_ (Law.then_ (Law.then_ (Law.then_ (Law.then_ (Law.then_ (Law.then_ (((Law.then_ (Law.then_ ((Law.then_ (Law.then_ (Law.then_ (Law.then_ (Law.then_ (Law.then_ (Law.then_ (Law.then_ (Law.then_ (Law.then_ (HBs.out) HB0.out) HB1.out) HB2.out) HB3.out) HB4.out) HB5.out) HB6.out) HB7.out) HB8.out) HB9.out).trans (HB10.out.mono ((Nat.le_trans (Nat.le_trans (Nat.le_trans HBs.out.size HB0.out.size) HB1.out.size) HB2.out.size)))) HB11.out) HB12.out).trans (HB13.out.mono ((Nat.le_trans (Nat.le_trans (Nat.le_trans (Nat.le_trans (Nat.le_trans HBs.out.size HB0.out.size) HB1.out.size) HB2.out.size) HB3.out.size) HB4.out.size)))).trans (HB14.out.mono ((Nat.le_trans (Nat.le_trans (Nat.le_trans (Nat.le_trans (Nat.le_trans HBs.out.size HB0.out.size) HB1.out.size) HB2.out.size) HB3.out.size) HB4.out.size)))) HB15.out) HB16.out) HB17.out) HB18.out) HB19.out) HB20.out) HB21.out) HB22.out⟩
set_option maxHeartbeats 1600000 in
theorem walk_big (A0 : Option Addr) (c0 : Nat) (xs0 : List Value) (L : List (List Int)) (B0 : Option Addr) (d0 : Nat) (ys0 : List Value) (S : List (List Int)) (start : Int) (w : World) (hz : ¬ (szN L : Int) + (szN S : Int) ≤ 1048576) (hnL : L.length ≤ maxLen) (hlL : ∀ l ∈ L, l.length ≤ maxLen) (hnS : S.length ≤ maxLen) (hlS : ∀ l ∈ S, l.length ≤ maxLen) (hL : NRow w A0 xs0 L) (hS : NRow w B0 ys0 S) :
    Calls Try.prog 12 #[pv A0 L.length c0 B0 S.length d0, .int .i64 start] w fun e w' => e = .returned (.bool true) ∧ Below w.heap.size w w' := by
  have hzP : szPr L S = -1 := szPr_no hz
  have HSz := Lib.hid fun (W : World) (h : NRow W A0 xs0 L) (h' : NRow W B0 ys0 S) => szPrb_any A0 c0 xs0 L B0 d0 ys0 S W hnL hlL hnS hlS h h'
  rw [hzP] at HSz
  clear hzP
  have HP := Lib.hid (PIn.start (c := c0) (d := d0) hL hS 24)
  clear hL hS hlL hlS
  go_enter Try.func12, Try.ntmps12
  go_wp2_with fail
  generalize w.alloc (.cells #[.slice A0 L.length c0, .slice B0 S.length d0] 24) = w0 at HP ⊢
  have p0 := HP.out.bk.c0
  have p1 := HP.out.bk.c1
  go_wp2_with fail
  go_at_call 15
  refine (HSz.out w0 HP.out.mv HP.out.sv).mono ?_
  rintro r w1 ⟨rfl, hb⟩
  have HP1 := Lib.hid (HP.out.on hb)
  clear hb p0 p1
  have p0 := HP1.out.bk.c0
  have p1 := HP1.out.bk.c1
  go_wp2
  go_ret
  exact ⟨rfl, HP1.out.bl⟩
theorem walk (A0 : Option Addr) (n0 c0 : Nat) (xs0 : List Value) (L : List (List Int)) (B0 : Option Addr) (m0 d0 : Nat) (ys0 : List Value) (S : List (List Int)) (start : Int) (w : World) (h0 : L.length = n0 ∧ n0 ≤ c0 ∧ c0 ≤ maxLen ∧ (∀ l ∈ L, l.length ≤ maxLen) ∧ NRow w A0 xs0 L) (h1 : S.length = m0 ∧ m0 ≤ d0 ∧ d0 ≤ maxLen ∧ (∀ l ∈ S, l.length ≤ maxLen) ∧ NRow w B0 ys0 S) (hstart : (Lit.int .i64 start).wf = true) (hL : laidMetH Try.prog Rows.fnExactOffsetStepsRow.laid w) (hsh : w.ShapedOpen Try.prog) :
    Calls Try.prog 12 #[.agg #[.slice A0 n0 c0, .slice B0 m0 d0], .int .i64 start] w fun e w' => e = .returned (.bool true) ∧ Below w.heap.size w w' := by
  obtain ⟨rfl, hcA, hcB, hlL, hrL⟩ := h0
  obtain ⟨rfl, hdA, hdB, hlS, hrS⟩ := h1
  clear hL hsh
  by_cases hz : (szN L : Int) + (szN S : Int) ≤ 1048576
  · skip
    have hrs : (∀ l ∈ L, l.length ≤ 1048576) ∧ (∀ l ∈ S, l.length ≤ 1048576) := ⟨fun l hl => szN_row (by omega) hl, fun l hl => szN_row (by omega) hl⟩
    exact walk_core A0 c0 xs0 L B0 d0 ys0 S start (Q.osQ L S start) w (lenX L S start).1 (lenX L S start).2.1 (lenX L S start).2.2.1 (lenX L S start).2.2.2.1 (lenX L S start).2.2.2.2.1 (lenX L S start).2.2.2.2.2 hz (by omega) hlL (by omega) hlS hrL hrS (fun A c xs B d ys W h h' => specOs_any A c xs L B d ys S W start hrs.2 h h') (fun A c xs B d ys W h h' => impOs_any A c xs L B d ys S W start hrs.1 hrs.2 h h')
  · exact walk_big A0 c0 xs0 L B0 d0 ys0 S start w hz (by omega) hlL (by omega) hlS hrL hrS
end LOffsetSteps
end Go.Proofs.Ythpoeeadhjnljaa
