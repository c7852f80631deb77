/-
  The walk of FnExactAlgorithmStates: AlgorithmStates answers as the model does, whatever it is given, and writes into no argument.
  Conditions: none.
-/
import Derived.Test.YthpoeeadhjnljaaRows
import Derived.Test.YthpoeeadhjnljaaLawP
import Derived.Test.YthpoeeadhjnljaaLawN
import Derived.Test.YthpoeeadhjnljaaPlw
import Derived.Test.YthpoeeadhjnljaaMarkI
import Derived.Test.YthpoeeadhjnljaaSzo
import Derived.Test.YthpoeeadhjnljaaAx8
import Derived.Deep.DeepHandedRow
namespace Go.Proofs.Ythpoeeadhjnljaa
open Go.RowKit Go.ChangeShapes Go.WideShapes
set_option linter.unusedVariables false
namespace LAlgorithmStates
theorem lenX (L S : List (List Int)) (start : Int) (next : List (List Int)) (reqs : List Int) : (Q.asQ L S next start reqs).1.length ≤ 1048576 := by
  cases h : Q.askQ L S start reqs
  · rw [Q.as_no1 h]; simp
  · cases h2 : Q.algQ L.length S next
    · rw [Q.as_no2 h2]; simp
    · rw [Q.as_yes h h2]
      have ha := (Q.ask_iff.1 h).len
      show (Q.statesL next start.toNat reqs reqs.length).length ≤ _
      rw [Q.statesL_len]
      omega
set_option maxRecDepth 20000 in
set_option maxHeartbeats 6400000 in
theorem walk_core (A0 : Option Addr) (c0 : Nat) (xs0 : List Value) (L : List (List Int)) (B0 : Option Addr) (d0 : Nat) (ys0 : List Value) (S : List (List Int)) (start : Int) (next : List (List Int)) (reqs : List Int) (Anext : Option Addr) (cnext : Nat) (ysnext : List Value) (Areqs : Option Addr) (creqs : Nat) (X : List Int × Bool) (w : World) (hlX : X.1.length ≤ 1048576) (hz : (szN L : Int) + (szN S : Int) + (szN next : Int) ≤ 1048576) (hnL : L.length ≤ maxLen) (hlL : ∀ l ∈ L, l.length ≤ maxLen) (hnS : S.length ≤ maxLen) (hlS : ∀ l ∈ S, l.length ≤ maxLen) (hL : NRow w A0 xs0 L) (hS : NRow w B0 ys0 S) (hmnext : ∀ l ∈ next, l.length ≤ maxLen) (HRnext : Hid (NRow w Anext ysnext next)) (hnreqs : reqs.length ≤ 1048576) (HRreqs : Hid (Law.Row w Areqs (ivs reqs)))
    (HG : Hid (∀ (A : Option Addr) (c : Nat) (xs : List Value) (B : Option Addr) (d : Nat) (ys : List Value) (Bnext : Option Addr) (dnext : Nat) (ysnext : List Value) (Breqs : Option Addr) (dreqs : Nat) (W : World), NRow W A xs L → NRow W B ys S → NRow W Bnext ysnext next → Law.Row W Breqs (ivs reqs) → Calls Try.prog 23 #[pv A L.length c B S.length d, .slice Bnext next.length dnext, .int .i64 start, .slice Breqs reqs.length dreqs] W (rowSays X W)))
    (HH : Hid (∀ (A : Option Addr) (c : Nat) (xs : List Value) (B : Option Addr) (d : Nat) (ys : List Value) (Bnext : Option Addr) (dnext : Nat) (ysnext : List Value) (Breqs : Option Addr) (dreqs : Nat) (W : World), NRow W A xs L → NRow W B ys S → NRow W Bnext ysnext next → Law.Row W Breqs (ivs reqs) → Calls Try.prog 25 #[pv A L.length c B S.length d, .slice Bnext next.length dnext, .int .i64 start, .slice Breqs reqs.length dreqs] W (rowSays X W))) :
    Calls Try.prog 4 #[pv A0 L.length c0 B0 S.length d0, .slice Anext next.length cnext, .int .i64 start, .slice Areqs reqs.length creqs] w fun e w' => e = .returned (.bool true) ∧ Below w.heap.size w w' := by
  obtain ⟨ps, ok⟩ := X
  simp only [] at hlX
  have hIreqs : (reqs.length : Int) ≤ 1048576 := by omega
  have hsL : szOk L = true := szOk_iff.2 (by have : (szN L : Int) ≤ 1048576 := by omega
                                             unfold szN at this; omega)
  have hsS : szOk S = true := szOk_iff.2 (by have : (szN S : Int) ≤ 1048576 := by omega
                                             unfold szN at this; omega)
  have htL := (sz_rows hsL).2.2
  have htS := (sz_rows hsS).2.2
  have hsnext : szOk next = true := szOk_of (by omega)
  have htnext := (sz_rows hsnext).2.2
  have hzP : szPr L S = 1048576 - (szN L : Int) - (szN S : Int) := szPr_yes (by omega)
  have HSz := Lib.hid fun (W : World) (h : NRow W A0 xs0 L) (h' : NRow W B0 ys0 S) => szPrb_any A0 c0 xs0 L B0 d0 ys0 S W hnL hlL hnS hlS h h'
  rw [hzP] at HSz
  clear hzP
  have HTnext := Lib.hid fun (W : World) (h : NRow W Anext ysnext next) => toSS_any Anext cnext ysnext next W hsnext h
  have HEnext := Lib.hid fun (W : World) A B c d xs ys (h1 : NRow W A xs next) (h2 : NRow W B ys next) => eqSS_same A B c d xs ys next W (sz_rows hsnext).1 (sz_rows hsnext).2.1 h1 h2
  have HZnext := Lib.hid fun (W : World) (h : NRow W Anext ysnext next) => szSS_g Anext cnext ysnext next (1048576 - (szN L : Int) - (szN S : Int)) W (by omega) (by omega) (Nat.le_trans (sz_rows hsnext).1 (by unfold maxLen; omega)) hmnext h
  have hznext : szS (1048576 - (szN L : Int) - (szN S : Int)) next = 1048576 - (szN L : Int) - (szN S : Int) - (szN next : Int) := if_pos (by omega)
  rw [hznext] at HZnext
  clear hznext
  have h0zL : 0 ≤ (szN L : Int) := by omega
  have h0zS : 0 ≤ (szN S : Int) := by omega
  have h0znext : 0 ≤ (szN next : Int) := by omega
  generalize (szN L : Int) = zL at *
  generalize (szN S : Int) = zS at *
  generalize (szN next : Int) = znext at *
  have HTo := Lib.hid fun (W : World) (h : NRow W A0 xs0 L) (h' : NRow W B0 ys0 S) => toPrb_any A0 c0 xs0 L B0 d0 ys0 S W hsL hsS h h'
  have HEq := Lib.hid fun (W : World) A c xs B d ys A' c' xs' B' d' ys' (h1 : NRow W A xs L) (h2 : NRow W B ys S) (h3 : NRow W A' xs' L) (h4 : NRow W B' ys' S) => eqPrb_same A c xs L B d ys S A' c' xs' B' d' ys' W hsL hsS h1 h2 h3 h4
  have HP := Lib.hid (PIn.start (c := c0) (d := d0) hL hS 24)
  have HBs : Hid (Below w.heap.size w (w.alloc (.cells #[.slice A0 L.length c0, .slice B0 S.length d0] 24))) := Lib.hid ((Below.refl _ _).alloc (Nat.le_refl _) _)
  clear hL hS hlL hlS
  go_enter Try.func4, Try.ntmps4
  go_wp2_with fail
  generalize w.alloc (.cells #[.slice A0 L.length c0, .slice B0 S.length d0] 24) = w0 at HP HBs ⊢
  have p0 := HP.out.bk.c0
  have p1 := HP.out.bk.c1
  go_wp2_with fail
  go_at_call 15
  refine (HSz.out w0 HP.out.mv HP.out.sv).mono ?_
  rintro r w1 ⟨rfl, hb⟩
  have HB0 := Lib.hid hb
  clear hb
  have hs0 : ¬ (1048576 : Int) - zL - zS < 0 := by omega
  clear p0 p1
  have p0 := (HP.out.on (HB0.out)).bk.c0
  have p1 := (HP.out.on (HB0.out)).bk.c1
  have hs9next : ¬ (1048576 : Int) - zL - zS - znext < 0 := by omega
  go_wp2_with fail
  go_at_call 16
  refine (HZnext.out w1 (HRnext.out.stays (Law.then_ (HBs.out) HB0.out))).mono ?_
  rintro r w9 ⟨rfl, e9⟩
  obtain rfl := e9.symm
  clear e9
  go_wp2_with fail
  go_at_call 18
  refine (HTo.out w1 (HP.out.on (HB0.out)).mv (HP.out.on (HB0.out)).sv).mono ?_
  rintro r w2 ⟨A2, c2, xs2, B2, d2, ys2, rfl, ho, hb⟩
  have FV := Lib.hid ho
  clear ho
  have HB1 := Lib.hid hb
  clear hb
  clear p0 p1
  have p0 := (HP.out.on (Law.then_ (HB0.out) HB1.out)).bk.c0
  have p1 := (HP.out.on (Law.then_ (HB0.out) HB1.out)).bk.c1
  go_wp2_with fail
  go_at_call 19
  refine (HTnext.out w2 (HRnext.out.stays (Law.then_ (Law.then_ (HBs.out) HB0.out) HB1.out))).mono ?_
  rintro r w3 ⟨v3, ys3, rfl, ho, hn, hb⟩
  obtain ⟨A3, c3, rfl, _, _, _⟩ := Law.own_len ho
  have Fanext := Lib.hid ho
  have Fnanext := Lib.hid hn
  clear ho hn
  have HB2 := Lib.hid hb
  clear hb
  clear p0 p1
  have p0 := (HP.out.on (Law.then_ (Law.then_ (HB0.out) HB1.out) HB2.out)).bk.c0
  have p1 := (HP.out.on (Law.then_ (Law.then_ (HB0.out) HB1.out) HB2.out)).bk.c1
  go_wp2_with fail
  go_at_call 24
  refine (toInt_any Areqs creqs reqs w3 hnreqs (HRreqs.out.stays (Law.then_ (Law.then_ (Law.then_ (HBs.out) HB0.out) HB1.out) HB2.out))).mono ?_
  rintro r w4 ⟨v4, rfl, ho, hb⟩
  obtain ⟨A4, c4, rfl, hc4, _, _⟩ := Law.own_len ho
  have Fareqs := Lib.hid ho
  clear ho
  have HB3 := Lib.hid hb
  clear hb
  clear p0 p1
  have p0 := (HP.out.on (Law.then_ (Law.then_ (Law.then_ (HB0.out) HB1.out) HB2.out) HB3.out)).bk.c0
  have p1 := (HP.out.on (Law.then_ (Law.then_ (Law.then_ (HB0.out) HB1.out) HB2.out) HB3.out)).bk.c1
  go_wp2_with fail
  go_at_call 23
  refine (HG.out A2 c2 xs2 B2 d2 ys2 A3 c3 ys3 A4 c4 w4 (FV.out.mv.stays (Law.then_ (HB2.out) HB3.out)) (FV.out.sv.stays (Law.then_ (HB2.out) HB3.out)) ((NRow.of Fanext.out Fnanext.out).stays (HB3.out)) (Law.Row.own Fareqs.out)).mono ?_
  rintro r w5 ⟨v5, rfl, ho, hb⟩
  simp only [] at ho
  obtain ⟨A5, c5, rfl, _, _, _⟩ := Law.own_len ho
  have FW := Lib.hid ho
  clear ho
  have HB4 := Lib.hid hb
  clear hb
  clear p0 p1
  have p0 := (HP.out.on (Law.then_ (Law.then_ (Law.then_ (Law.then_ (HB0.out) HB1.out) HB2.out) HB3.out) HB4.out)).bk.c0
  have p1 := (HP.out.on (Law.then_ (Law.then_ (Law.then_ (Law.then_ (HB0.out) HB1.out) HB2.out) HB3.out) HB4.out)).bk.c1
  go_wp2_with fail
  go_at_call 18
  refine (HTo.out w5 (HP.out.on (Law.then_ (Law.then_ (Law.then_ (Law.then_ (HB0.out) HB1.out) HB2.out) HB3.out) HB4.out)).mv (HP.out.on (Law.then_ (Law.then_ (Law.then_ (Law.then_ (HB0.out) HB1.out) HB2.out) HB3.out) HB4.out)).sv).mono ?_
  rintro r w6 ⟨A6, c6, xs6, B6, d6, ys6, rfl, ho, hb⟩
  have FX := Lib.hid ho
  clear ho
  have HB5 := Lib.hid hb
  clear hb
  clear p0 p1
  have p0 := (HP.out.on (Law.then_ (Law.then_ (Law.then_ (Law.then_ (Law.then_ (HB0.out) HB1.out) HB2.out) HB3.out) HB4.out) HB5.out)).bk.c0
  have p1 := (HP.out.on (Law.then_ (Law.then_ (Law.then_ (Law.then_ (Law.then_ (HB0.out) HB1.out) HB2.out) HB3.out) HB4.out) HB5.out)).bk.c1
  have b9 : Below w6.heap.size w6 (w6.alloc (.cells #[.slice A6 L.length c6, .slice B6 S.length d6] 29)) := (Below.refl _ _).alloc (Nat.le_refl _) _
  have FQ := Lib.hid (Bk2.new w6 (.slice A6 L.length c6) (.slice B6 S.length d6) 29)
  obtain ⟨bq, hbq⟩ : ∃ bq, bq = w6.heap.size := ⟨_, rfl⟩
  go_wp2_with fail
  generalize w6.alloc (.cells #[.slice A6 L.length c6, .slice B6 S.length d6] 29) = w7 at b9 FQ ⊢
  rw [← hbq] at FQ ⊢
  clear hbq
  have HB6 := Lib.hid b9
  clear b9
  clear p0 p1
  have p0 := (HP.out.on (Law.then_ (Law.then_ (Law.then_ (Law.then_ (Law.then_ (Law.then_ (HB0.out) HB1.out) HB2.out) HB3.out) HB4.out) HB5.out) HB6.out)).bk.c0
  have p1 := (HP.out.on (Law.then_ (Law.then_ (Law.then_ (Law.then_ (Law.then_ (Law.then_ (HB0.out) HB1.out) HB2.out) HB3.out) HB4.out) HB5.out) HB6.out)).bk.c1
  go_wp2_with fail
  go_at_call 19
  refine (HTnext.out w7 (HRnext.out.stays (Law.then_ (Law.then_ (Law.then_ (Law.then_ (Law.then_ (Law.then_ (Law.then_ (HBs.out) HB0.out) HB1.out) HB2.out) HB3.out) HB4.out) HB5.out) HB6.out))).mono ?_
  rintro r w8 ⟨v8, ys8, rfl, ho, hn, hb⟩
  obtain ⟨A8, c8, rfl, _, _, _⟩ := Law.own_len ho
  have Fxnext := Lib.hid ho
  have Fnxnext := Lib.hid hn
  clear ho hn
  have HB7 := Lib.hid hb
  clear hb
  clear p0 p1
  have p0 := (HP.out.on (Law.then_ (Law.then_ (Law.then_ (Law.then_ (Law.then_ (Law.then_ (Law.then_ (HB0.out) HB1.out) HB2.out) HB3.out) HB4.out) HB5.out) HB6.out) HB7.out)).bk.c0
  have p1 := (HP.out.on (Law.then_ (Law.then_ (Law.then_ (Law.then_ (Law.then_ (Law.then_ (Law.then_ (HB0.out) HB1.out) HB2.out) HB3.out) HB4.out) HB5.out) HB6.out) HB7.out)).bk.c1
  go_wp2_with fail
  go_at_call 24
  refine (toInt_any Areqs creqs reqs w8 hnreqs (HRreqs.out.stays (Law.then_ (Law.then_ (Law.then_ (Law.then_ (Law.then_ (Law.then_ (Law.then_ (Law.then_ (HBs.out) HB0.out) HB1.out) HB2.out) HB3.out) HB4.out) HB5.out) HB6.out) HB7.out))).mono ?_
  rintro r w9 ⟨v9, rfl, ho, hb⟩
  obtain ⟨A9, c9, rfl, hc9, _, _⟩ := Law.own_len ho
  have Fxreqs := Lib.hid ho
  clear ho
  have HB8 := Lib.hid hb
  clear hb
  clear p0 p1
  have p0 := (HP.out.on (Law.then_ (Law.then_ (Law.then_ (Law.then_ (Law.then_ (Law.then_ (Law.then_ (Law.then_ (HB0.out) HB1.out) HB2.out) HB3.out) HB4.out) HB5.out) HB6.out) HB7.out) HB8.out)).bk.c0
  have p1 := (HP.out.on (Law.then_ (Law.then_ (Law.then_ (Law.then_ (Law.then_ (Law.then_ (Law.then_ (Law.then_ (HB0.out) HB1.out) HB2.out) HB3.out) HB4.out) HB5.out) HB6.out) HB7.out) HB8.out)).bk.c1
  have q0 := (FQ.out.on (Law.then_ (HB7.out) HB8.out)).c0
  have q1 := (FQ.out.on (Law.then_ (HB7.out) HB8.out)).c1
  go_wp2_with fail
  go_at_call 25
  refine (HH.out A6 c6 xs6 B6 d6 ys6 A8 c8 ys8 A9 c9 w9 (FX.out.mv.stays (Law.then_ (Law.then_ (HB6.out) HB7.out) HB8.out)) (FX.out.sv.stays (Law.then_ (Law.then_ (HB6.out) HB7.out) HB8.out)) ((NRow.of Fxnext.out Fnxnext.out).stays (HB8.out)) (Law.Row.own Fxreqs.out)).mono ?_
  rintro r w10 ⟨v10, rfl, ho, hb⟩
  simp only [] at ho
  obtain ⟨A10, c10, rfl, _, _, _⟩ := Law.own_len ho
  have FG := Lib.hid ho
  clear ho
  have HB9 := Lib.hid hb
  clear hb
  clear p0 p1
  have p0 := (HP.out.on (Law.then_ (Law.then_ (Law.then_ (Law.then_ (Law.then_ (Law.then_ (Law.then_ (Law.then_ (Law.then_ (HB0.out) HB1.out) HB2.out) HB3.out) HB4.out) HB5.out) HB6.out) HB7.out) HB8.out) HB9.out)).bk.c0
  have p1 := (HP.out.on (Law.then_ (Law.then_ (Law.then_ (Law.then_ (Law.then_ (Law.then_ (Law.then_ (Law.then_ (Law.then_ (HB0.out) HB1.out) HB2.out) HB3.out) HB4.out) HB5.out) HB6.out) HB7.out) HB8.out) HB9.out)).bk.c1
  clear q0 q1
  have q0 := (FQ.out.on (Law.then_ (Law.then_ (HB7.out) HB8.out) HB9.out)).c0
  have q1 := (FQ.out.on (Law.then_ (Law.then_ (HB7.out) HB8.out) HB9.out)).c1
  go_wp2_with fail
  go_at_call 26
  refine (eqInt_same A10 A5 c10 c5 ps w10 (by omega) (Law.Row.own FG.out) ((Law.Row.own FW.out).stays (Law.then_ (Law.then_ (Law.then_ (Law.then_ (HB5.out) HB6.out) HB7.out) HB8.out) HB9.out))).mono ?_
  rintro r we1 ⟨rfl, m1, rfl⟩
  have hb : Below w10.heap.size w10 (w10.drewN m1) := Law.up (Below.refl _ _) _
  generalize World.drewN w10 m1 = w11 at hb ⊢
  have HB10 := Lib.hid hb
  clear hb
  clear p0 p1
  have p0 := (HP.out.on (Law.then_ (Law.then_ (Law.then_ (Law.then_ (Law.then_ (Law.then_ (Law.then_ (Law.then_ (Law.then_ (Law.then_ (HB0.out) HB1.out) HB2.out) HB3.out) HB4.out) HB5.out) HB6.out) HB7.out) HB8.out) HB9.out) HB10.out)).bk.c0
  have p1 := (HP.out.on (Law.then_ (Law.then_ (Law.then_ (Law.then_ (Law.then_ (Law.then_ (Law.then_ (Law.then_ (Law.then_ (Law.then_ (HB0.out) HB1.out) HB2.out) HB3.out) HB4.out) HB5.out) HB6.out) HB7.out) HB8.out) HB9.out) HB10.out)).bk.c1
  clear q0 q1
  have q0 := (FQ.out.on (Law.then_ (Law.then_ (Law.then_ (HB7.out) HB8.out) HB9.out) HB10.out)).c0
  have q1 := (FQ.out.on (Law.then_ (Law.then_ (Law.then_ (HB7.out) HB8.out) HB9.out) HB10.out)).c1
  cases ok
  all_goals
    go_wp2_with fail
    go_region_law ((first
      | (go_simp; go_at_call 18; refine (HTo.out _ ((HP.out.on (Law.then_ (Law.then_ (Law.then_ (Law.then_ (Law.then_ (Law.then_ (Law.then_ (Law.then_ (Law.then_ (Law.then_ (HB0.out) HB1.out) HB2.out) HB3.out) HB4.out) HB5.out) HB6.out) HB7.out) HB8.out) HB9.out) HB10.out)).mv.stays ((Below.refl _ _).drew)) ((HP.out.on (Law.then_ (Law.then_ (Law.then_ (Law.then_ (Law.then_ (Law.then_ (Law.then_ (Law.then_ (Law.then_ (Law.then_ (HB0.out) HB1.out) HB2.out) HB3.out) HB4.out) HB5.out) HB6.out) HB7.out) HB8.out) HB9.out) HB10.out)).sv.stays ((Below.refl _ _).drew))).mono ?_; rintro r w12 ⟨A12, c12, xs12, B12, d12, ys12, rfl, ho, hb⟩; have hb := ((Below.refl w11.heap.size w11).drew).trans hb; have HB11 := Lib.hid hb; have FZ := Lib.hid ho; clear ho hb; clear q0 q1; have q0 := (FQ.out.on (Law.then_ (Law.then_ (Law.then_ (Law.then_ (HB7.out) HB8.out) HB9.out) HB10.out) HB11.out)).c0; have q1 := (FQ.out.on (Law.then_ (Law.then_ (Law.then_ (Law.then_ (HB7.out) HB8.out) HB9.out) HB10.out) HB11.out)).c1)
      | (go_simp; go_at_call 21; refine (HEq.out _ A6 c6 xs6 B6 d6 ys6 A12 c12 xs12 B12 d12 ys12 (FX.out.mv.stays (Law.then_ (Law.then_ (Law.then_ (Law.then_ (Law.then_ (HB6.out) HB7.out) HB8.out) HB9.out) HB10.out) HB11.out)) (FX.out.sv.stays (Law.then_ (Law.then_ (Law.then_ (Law.then_ (Law.then_ (HB6.out) HB7.out) HB8.out) HB9.out) HB10.out) HB11.out)) FZ.out.mv FZ.out.sv).mono ?_; rintro r w13 ⟨rfl, hb⟩; have HB12 := Lib.hid hb; clear hb)))
    all_goals
      clear p0 p1 q0 q1
      have p0 := (HP.out.on (Law.then_ (Law.then_ (Law.then_ (Law.then_ (Law.then_ (Law.then_ (Law.then_ (Law.then_ (Law.then_ (Law.then_ (Law.then_ (Law.then_ (HB0.out) HB1.out) HB2.out) HB3.out) HB4.out) HB5.out) HB6.out) HB7.out) HB8.out) HB9.out) HB10.out) HB11.out) HB12.out)).bk.c0
      have p1 := (HP.out.on (Law.then_ (Law.then_ (Law.then_ (Law.then_ (Law.then_ (Law.then_ (Law.then_ (Law.then_ (Law.then_ (Law.then_ (Law.then_ (Law.then_ (HB0.out) HB1.out) HB2.out) HB3.out) HB4.out) HB5.out) HB6.out) HB7.out) HB8.out) HB9.out) HB10.out) HB11.out) HB12.out)).bk.c1
      go_wp2_with fail
      go_at_call 19
      refine (HTnext.out w13 (HRnext.out.stays (Law.then_ (Law.then_ (Law.then_ (Law.then_ (Law.then_ (Law.then_ (Law.then_ (Law.then_ (Law.then_ (Law.then_ (Law.then_ (Law.then_ (Law.then_ (HBs.out) HB0.out) HB1.out) HB2.out) HB3.out) HB4.out) HB5.out) HB6.out) HB7.out) HB8.out) HB9.out) HB10.out) HB11.out) HB12.out))).mono ?_
      rintro r w14 ⟨v14, ys14, rfl, ho, hn, hb⟩
      obtain ⟨A14, c14, rfl, _, _, _⟩ := Law.own_len ho
      have Fynext := Lib.hid ho
      have Fnynext := Lib.hid hn
      clear ho hn
      have HB13 := Lib.hid hb
      clear hb
      clear p0 p1
      have p0 := (HP.out.on (Law.then_ (Law.then_ (Law.then_ (Law.then_ (Law.then_ (Law.then_ (Law.then_ (Law.then_ (Law.then_ (Law.then_ (Law.then_ (Law.then_ (Law.then_ (HB0.out) HB1.out) HB2.out) HB3.out) HB4.out) HB5.out) HB6.out) HB7.out) HB8.out) HB9.out) HB10.out) HB11.out) HB12.out) HB13.out)).bk.c0
      have p1 := (HP.out.on (Law.then_ (Law.then_ (Law.then_ (Law.then_ (Law.then_ (Law.then_ (Law.then_ (Law.then_ (Law.then_ (Law.then_ (Law.then_ (Law.then_ (Law.then_ (HB0.out) HB1.out) HB2.out) HB3.out) HB4.out) HB5.out) HB6.out) HB7.out) HB8.out) HB9.out) HB10.out) HB11.out) HB12.out) HB13.out)).bk.c1
      go_wp2_with fail
      go_at_call 22
      refine (HEnext.out w14 A8 A14 c8 c14 ys8 ys14 ((NRow.of Fxnext.out Fnxnext.out).stays (Law.then_ (Law.then_ (Law.then_ (Law.then_ (Law.then_ (HB8.out) HB9.out) HB10.out) HB11.out) HB12.out) HB13.out)) (NRow.of Fynext.out Fnynext.out)).mono ?_
      rintro r we2 ⟨rfl, m2, rfl⟩
      have hb : Below w14.heap.size w14 (w14.drewN m2) := Law.up (Below.refl _ _) _
      generalize World.drewN w14 m2 = w15 at hb ⊢
      have HB14 := Lib.hid hb
      clear hb
      clear p0 p1
      have p0 := (HP.out.on (Law.then_ (Law.then_ (Law.then_ (Law.then_ (Law.then_ (Law.then_ (Law.then_ (Law.then_ (Law.then_ (Law.then_ (Law.then_ (Law.then_ (Law.then_ (Law.then_ (HB0.out) HB1.out) HB2.out) HB3.out) HB4.out) HB5.out) HB6.out) HB7.out) HB8.out) HB9.out) HB10.out) HB11.out) HB12.out) HB13.out) HB14.out)).bk.c0
      have p1 := (HP.out.on (Law.then_ (Law.then_ (Law.then_ (Law.then_ (Law.then_ (Law.then_ (Law.then_ (Law.then_ (Law.then_ (Law.then_ (Law.then_ (Law.then_ (Law.then_ (Law.then_ (HB0.out) HB1.out) HB2.out) HB3.out) HB4.out) HB5.out) HB6.out) HB7.out) HB8.out) HB9.out) HB10.out) HB11.out) HB12.out) HB13.out) HB14.out)).bk.c1
      go_wp2_with fail
      go_at_call 24
      refine (toInt_any Areqs creqs reqs w15 hnreqs (HRreqs.out.stays (Law.then_ (Law.then_ (Law.then_ (Law.then_ (Law.then_ (Law.then_ (Law.then_ (Law.then_ (Law.then_ (Law.then_ (Law.then_ (Law.then_ (Law.then_ (Law.then_ (Law.then_ (HBs.out) HB0.out) HB1.out) HB2.out) HB3.out) HB4.out) HB5.out) HB6.out) HB7.out) HB8.out) HB9.out) HB10.out) HB11.out) HB12.out) HB13.out) HB14.out))).mono ?_
      rintro r w16 ⟨v16, rfl, ho, hb⟩
      obtain ⟨A16, c16, rfl, hc16, _, _⟩ := Law.own_len ho
      have Fyreqs := Lib.hid ho
      clear ho
      have HB15 := Lib.hid hb
      clear hb
      clear p0 p1
      have p0 := (HP.out.on (Law.then_ (Law.then_ (Law.then_ (Law.then_ (Law.then_ (Law.then_ (Law.then_ (Law.then_ (Law.then_ (Law.then_ (Law.then_ (Law.then_ (Law.then_ (Law.then_ (Law.then_ (HB0.out) HB1.out) HB2.out) HB3.out) HB4.out) HB5.out) HB6.out) HB7.out) HB8.out) HB9.out) HB10.out) HB11.out) HB12.out) HB13.out) HB14.out) HB15.out)).bk.c0
      have p1 := (HP.out.on (Law.then_ (Law.then_ (Law.then_ (Law.then_ (Law.then_ (Law.then_ (Law.then_ (Law.then_ (Law.then_ (Law.then_ (Law.then_ (Law.then_ (Law.then_ (Law.then_ (Law.then_ (HB0.out) HB1.out) HB2.out) HB3.out) HB4.out) HB5.out) HB6.out) HB7.out) HB8.out) HB9.out) HB10.out) HB11.out) HB12.out) HB13.out) HB14.out) HB15.out)).bk.c1
      go_wp2_with fail
      go_at_call 26
      refine (eqInt_same A9 A16 c9 c16 reqs w16 (by omega) ((Law.Row.own Fxreqs.out).stays (Law.then_ (Law.then_ (Law.then_ (Law.then_ (Law.then_ (Law.then_ (HB9.out) HB10.out) HB11.out) HB12.out) HB13.out) HB14.out) HB15.out)) (Law.Row.own Fyreqs.out)).mono ?_
      rintro r we3 ⟨rfl, m3, rfl⟩
      have hb : Below w16.heap.size w16 (w16.drewN m3) := Law.up (Below.refl _ _) _
      generalize World.drewN w16 m3 = w17 at hb ⊢
      have HB16 := Lib.hid hb
      clear hb
      clear p0 p1
      have p0 := (HP.out.on (Law.then_ (Law.then_ (Law.then_ (Law.then_ (Law.then_ (Law.then_ (Law.then_ (Law.then_ (Law.then_ (Law.then_ (Law.then_ (Law.then_ (Law.then_ (Law.then_ (Law.then_ (Law.then_ (HB0.out) HB1.out) HB2.out) HB3.out) HB4.out) HB5.out) HB6.out) HB7.out) HB8.out) HB9.out) HB10.out) HB11.out) HB12.out) HB13.out) HB14.out) HB15.out) HB16.out)).bk.c0
      have p1 := (HP.out.on (Law.then_ (Law.then_ (Law.then_ (Law.then_ (Law.then_ (Law.then_ (Law.then_ (Law.then_ (Law.then_ (Law.then_ (Law.then_ (Law.then_ (Law.then_ (Law.then_ (Law.then_ (Law.then_ (HB0.out) HB1.out) HB2.out) HB3.out) HB4.out) HB5.out) HB6.out) HB7.out) HB8.out) HB9.out) HB10.out) HB11.out) HB12.out) HB13.out) HB14.out) HB15.out) HB16.out)).bk.c1
      have q0 := (FQ.out.on (Law.then_ (Law.then_ (Law.then_ (Law.then_ (Law.then_ (Law.then_ (Law.then_ (Law.then_ (Law.then_ (HB7.out) HB8.out) HB9.out) HB10.out) HB11.out) HB12.out) HB13.out) HB14.out) HB15.out) HB16.out)).c0
      have q1 := (FQ.out.on (Law.then_ (Law.then_ (Law.then_ (Law.then_ (Law.then_ (Law.then_ (Law.then_ (Law.then_ (Law.then_ (HB7.out) HB8.out) HB9.out) HB10.out) HB11.out) HB12.out) HB13.out) HB14.out) HB15.out) HB16.out)).c1
      have Htxnext := Lib.hid Fnxnext.out.tops
      have Htxreqs := Lib.hid (fun g hg => Fxreqs.out.lt g hg)
      have hlev : w6.heap.size ≤ w17.heap.size := ((Nat.le_trans (Nat.le_trans (Nat.le_trans (Nat.le_trans (Nat.le_trans (Nat.le_trans (Nat.le_trans (Nat.le_trans (Nat.le_trans (Nat.le_trans HB6.out.size HB7.out.size) HB8.out.size) HB9.out.size) HB10.out.size) HB11.out.size) HB12.out.size) HB13.out.size) HB14.out.size) HB15.out.size) HB16.out.size))
      have FX' := Lib.hid (FX.out.past (Law.then_ (Law.then_ (Law.then_ (Law.then_ (Law.then_ (Law.then_ (Law.then_ (Law.then_ (Law.then_ (Law.then_ (HB6.out) HB7.out) HB8.out) HB9.out) HB10.out) HB11.out) HB12.out) HB13.out) HB14.out) HB15.out) HB16.out))
      go_wp2_with fail
      go_at_call 27
      refine (markPrb_t w5.heap.size w6.heap.size 1 A6 c6 xs6 L B6 d6 ys6 S w17 (by omega) (by omega) hsL hsS FX'.out hlev).mono ?_
      rintro r w18 ⟨rfl, hT⟩
      clear hlev FX'
      have HC17 := Lib.hid hT
      have HB17 := Lib.hid (hT.below ((Nat.le_trans (Nat.le_trans (Nat.le_trans (Nat.le_trans (Nat.le_trans (Nat.le_trans (Nat.le_trans (Nat.le_trans (Nat.le_trans (Nat.le_trans (Nat.le_trans HB5.out.size HB6.out.size) HB7.out.size) HB8.out.size) HB9.out.size) HB10.out.size) HB11.out.size) HB12.out.size) HB13.out.size) HB14.out.size) HB15.out.size) HB16.out.size)))
      clear hT
      have Fxnext' := Lib.hid (own_tch (own_past Fxnext.out (Law.then_ (Law.then_ (Law.then_ (Law.then_ (Law.then_ (Law.then_ (Law.then_ (Law.then_ (HB8.out) HB9.out) HB10.out) HB11.out) HB12.out) HB13.out) HB14.out) HB15.out) HB16.out)) HC17.out ((HB6.out.size)))
      have Fnxnext' := Lib.hid ((Fnxnext.out.past (Law.then_ (Law.then_ (Law.then_ (Law.then_ (Law.then_ (Law.then_ (Law.then_ (Law.then_ (HB8.out) HB9.out) HB10.out) HB11.out) HB12.out) HB13.out) HB14.out) HB15.out) HB16.out)).tch HC17.out ((HB6.out.size)))
      clear Fnxnext
      have Fnxnext := Fnxnext'
      clear Fnxnext'
      clear Fxnext
      have Fxnext := Fxnext'
      clear Fxnext'
      have Fxreqs' := Lib.hid (own_tch (own_past Fxreqs.out (Law.then_ (Law.then_ (Law.then_ (Law.then_ (Law.then_ (Law.then_ (Law.then_ (HB9.out) HB10.out) HB11.out) HB12.out) HB13.out) HB14.out) HB15.out) HB16.out)) HC17.out (((Nat.le_trans HB6.out.size HB7.out.size))))
      clear Fxreqs
      have Fxreqs := Fxreqs'
      clear Fxreqs'
      have FG' := Lib.hid (own_tch (own_past FG.out (Law.then_ (Law.then_ (Law.then_ (Law.then_ (Law.then_ (Law.then_ (HB10.out) HB11.out) HB12.out) HB13.out) HB14.out) HB15.out) HB16.out)) HC17.out (((Nat.le_trans (Nat.le_trans HB6.out.size HB7.out.size) HB8.out.size))))
      clear FG
      have FG := FG'
      clear FG'
      clear q0 q1
      clear p0 p1
      have p0 := (HP.out.on ((Law.then_ (Law.then_ (Law.then_ (Law.then_ (Law.then_ (Law.then_ (Law.then_ (Law.then_ (Law.then_ (Law.then_ (Law.then_ (Law.then_ (Law.then_ (Law.then_ (Law.then_ (Law.then_ (HB0.out) HB1.out) HB2.out) HB3.out) HB4.out) HB5.out) HB6.out) HB7.out) HB8.out) HB9.out) HB10.out) HB11.out) HB12.out) HB13.out) HB14.out) HB15.out) HB16.out).trans (HB17.out.mono ((Nat.le_trans (Nat.le_trans (Nat.le_trans (Nat.le_trans HB0.out.size HB1.out.size) HB2.out.size) HB3.out.size) HB4.out.size))))).bk.c0
      have p1 := (HP.out.on ((Law.then_ (Law.then_ (Law.then_ (Law.then_ (Law.then_ (Law.then_ (Law.then_ (Law.then_ (Law.then_ (Law.then_ (Law.then_ (Law.then_ (Law.then_ (Law.then_ (Law.then_ (Law.then_ (HB0.out) HB1.out) HB2.out) HB3.out) HB4.out) HB5.out) HB6.out) HB7.out) HB8.out) HB9.out) HB10.out) HB11.out) HB12.out) HB13.out) HB14.out) HB15.out) HB16.out).trans (HB17.out.mono ((Nat.le_trans (Nat.le_trans (Nat.le_trans (Nat.le_trans HB0.out.size HB1.out.size) HB2.out.size) HB3.out.size) HB4.out.size))))).bk.c1
      go_wp2_with fail
      go_at_call 28
      refine (markSS_t w7.heap.size w8.heap.size (1 + totL L + totL S) A8 c8 ys8 next w18 (by omega) (by omega) (sz_rows hsnext).1 htnext Fxnext.out Fnxnext.out Htxnext.out).mono ?_
      rintro r w19 ⟨rfl, hT⟩
      have HC18 := Lib.hid hT
      have HB18 := Lib.hid (hT.below ((Nat.le_trans (Nat.le_trans (Nat.le_trans (Nat.le_trans (Nat.le_trans (Nat.le_trans (Nat.le_trans (Nat.le_trans (Nat.le_trans (Nat.le_trans HB7.out.size HB8.out.size) HB9.out.size) HB10.out.size) HB11.out.size) HB12.out.size) HB13.out.size) HB14.out.size) HB15.out.size) HB16.out.size) HB17.out.size)))
      clear hT
      clear p0 p1
      have p0 := (HP.out.on (((Law.then_ (Law.then_ (Law.then_ (Law.then_ (Law.then_ (Law.then_ (Law.then_ (Law.then_ (Law.then_ (Law.then_ (Law.then_ (Law.then_ (Law.then_ (Law.then_ (Law.then_ (Law.then_ (HB0.out) HB1.out) HB2.out) HB3.out) HB4.out) HB5.out) HB6.out) HB7.out) HB8.out) HB9.out) HB10.out) HB11.out) HB12.out) HB13.out) HB14.out) HB15.out) HB16.out).trans (HB17.out.mono ((Nat.le_trans (Nat.le_trans (Nat.le_trans (Nat.le_trans HB0.out.size HB1.out.size) HB2.out.size) HB3.out.size) HB4.out.size)))).trans (HB18.out.mono ((Nat.le_trans (Nat.le_trans (Nat.le_trans (Nat.le_trans (Nat.le_trans (Nat.le_trans HB0.out.size HB1.out.size) HB2.out.size) HB3.out.size) HB4.out.size) HB5.out.size) HB6.out.size))))).bk.c0
      have p1 := (HP.out.on (((Law.then_ (Law.then_ (Law.then_ (Law.then_ (Law.then_ (Law.then_ (Law.then_ (Law.then_ (Law.then_ (Law.then_ (Law.then_ (Law.then_ (Law.then_ (Law.then_ (Law.then_ (Law.then_ (HB0.out) HB1.out) HB2.out) HB3.out) HB4.out) HB5.out) HB6.out) HB7.out) HB8.out) HB9.out) HB10.out) HB11.out) HB12.out) HB13.out) HB14.out) HB15.out) HB16.out).trans (HB17.out.mono ((Nat.le_trans (Nat.le_trans (Nat.le_trans (Nat.le_trans HB0.out.size HB1.out.size) HB2.out.size) HB3.out.size) HB4.out.size)))).trans (HB18.out.mono ((Nat.le_trans (Nat.le_trans (Nat.le_trans (Nat.le_trans (Nat.le_trans (Nat.le_trans HB0.out.size HB1.out.size) HB2.out.size) HB3.out.size) HB4.out.size) HB5.out.size) HB6.out.size))))).bk.c1
      have Fxreqs' := Lib.hid (own_tch Fxreqs.out HC18.out ((Nat.le_refl _)))
      clear Fxreqs
      have Fxreqs := Fxreqs'
      clear Fxreqs'
      have FG' := Lib.hid (own_tch FG.out HC18.out ((HB8.out.size)))
      clear FG
      have FG := FG'
      clear FG'
      go_wp2_with fail
      go_at_call 29
      refine (markInt_by w8.heap.size (1 + totL L + totL S + totL next) reqs.length A9 c9 (ivs reqs) w19 (by omega) (by omega) Fxreqs.out).mono ?_
      rintro r w20 ⟨rfl, ho, hg⟩
      have hT : Tch w8.heap.size w9.heap.size w19 w20 := Tch.grown hg Htxreqs.out
      clear ho hg
      have HC19 := Lib.hid hT
      have HB19 := Lib.hid (hT.below ((Nat.le_trans (Nat.le_trans (Nat.le_trans (Nat.le_trans (Nat.le_trans (Nat.le_trans (Nat.le_trans (Nat.le_trans (Nat.le_trans (Nat.le_trans HB8.out.size HB9.out.size) HB10.out.size) HB11.out.size) HB12.out.size) HB13.out.size) HB14.out.size) HB15.out.size) HB16.out.size) HB17.out.size) HB18.out.size)))
      clear hT
      clear p0 p1
      have p0 := (HP.out.on ((((Law.then_ (Law.then_ (Law.then_ (Law.then_ (Law.then_ (Law.then_ (Law.then_ (Law.then_ (Law.then_ (Law.then_ (Law.then_ (Law.then_ (Law.then_ (Law.then_ (Law.then_ (Law.then_ (HB0.out) HB1.out) HB2.out) HB3.out) HB4.out) HB5.out) HB6.out) HB7.out) HB8.out) HB9.out) HB10.out) HB11.out) HB12.out) HB13.out) HB14.out) HB15.out) HB16.out).trans (HB17.out.mono ((Nat.le_trans (Nat.le_trans (Nat.le_trans (Nat.le_trans HB0.out.size HB1.out.size) HB2.out.size) HB3.out.size) HB4.out.size)))).trans (HB18.out.mono ((Nat.le_trans (Nat.le_trans (Nat.le_trans (Nat.le_trans (Nat.le_trans (Nat.le_trans HB0.out.size HB1.out.size) HB2.out.size) HB3.out.size) HB4.out.size) HB5.out.size) HB6.out.size)))).trans (HB19.out.mono ((Nat.le_trans (Nat.le_trans (Nat.le_trans (Nat.le_trans (Nat.le_trans (Nat.le_trans (Nat.le_trans HB0.out.size HB1.out.size) HB2.out.size) HB3.out.size) HB4.out.size) HB5.out.size) HB6.out.size) HB7.out.size))))).bk.c0
      have p1 := (HP.out.on ((((Law.then_ (Law.then_ (Law.then_ (Law.then_ (Law.then_ (Law.then_ (Law.then_ (Law.then_ (Law.then_ (Law.then_ (Law.then_ (Law.then_ (Law.then_ (Law.then_ (Law.then_ (Law.then_ (HB0.out) HB1.out) HB2.out) HB3.out) HB4.out) HB5.out) HB6.out) HB7.out) HB8.out) HB9.out) HB10.out) HB11.out) HB12.out) HB13.out) HB14.out) HB15.out) HB16.out).trans (HB17.out.mono ((Nat.le_trans (Nat.le_trans (Nat.le_trans (Nat.le_trans HB0.out.size HB1.out.size) HB2.out.size) HB3.out.size) HB4.out.size)))).trans (HB18.out.mono ((Nat.le_trans (Nat.le_trans (Nat.le_trans (Nat.le_trans (Nat.le_trans (Nat.le_trans HB0.out.size HB1.out.size) HB2.out.size) HB3.out.size) HB4.out.size) HB5.out.size) HB6.out.size)))).trans (HB19.out.mono ((Nat.le_trans (Nat.le_trans (Nat.le_trans (Nat.le_trans (Nat.le_trans (Nat.le_trans (Nat.le_trans HB0.out.size HB1.out.size) HB2.out.size) HB3.out.size) HB4.out.size) HB5.out.size) HB6.out.size) HB7.out.size))))).bk.c1
      have FG' := Lib.hid (own_tch FG.out HC19.out ((Nat.le_refl _)))
      clear FG
      have FG := FG'
      clear FG'
      go_wp2_with fail
      go_at_call 26
      refine (eqInt_same A10 A5 c10 c5 ps w20 (by omega) (Law.Row.own FG.out) ((Law.Row.own FW.out).stays ((((Law.then_ (Law.then_ (Law.then_ (Law.then_ (Law.then_ (Law.then_ (Law.then_ (Law.then_ (Law.then_ (Law.then_ (Law.then_ (HB5.out) HB6.out) HB7.out) HB8.out) HB9.out) HB10.out) HB11.out) HB12.out) HB13.out) HB14.out) HB15.out) HB16.out).trans (HB17.out.mono (Nat.le_refl _))).trans (HB18.out.mono ((Nat.le_trans HB5.out.size HB6.out.size)))).trans (HB19.out.mono ((Nat.le_trans (Nat.le_trans HB5.out.size HB6.out.size) HB7.out.size)))))).mono ?_
      rintro r we4 ⟨rfl, m4, rfl⟩
      have hb : Below w20.heap.size w20 (w20.drewN m4) := Law.up (Below.refl _ _) _
      generalize World.drewN w20 m4 = w21 at hb ⊢
      have HB20 := Lib.hid hb
      clear hb
      clear p0 p1
      have p0 := (HP.out.on (Law.then_ ((((Law.then_ (Law.then_ (Law.then_ (Law.then_ (Law.then_ (Law.then_ (Law.then_ (Law.then_ (Law.then_ (Law.then_ (Law.then_ (Law.then_ (Law.then_ (Law.then_ (Law.then_ (Law.then_ (HB0.out) HB1.out) HB2.out) HB3.out) HB4.out) HB5.out) HB6.out) HB7.out) HB8.out) HB9.out) HB10.out) HB11.out) HB12.out) HB13.out) HB14.out) HB15.out) HB16.out).trans (HB17.out.mono ((Nat.le_trans (Nat.le_trans (Nat.le_trans (Nat.le_trans HB0.out.size HB1.out.size) HB2.out.size) HB3.out.size) HB4.out.size)))).trans (HB18.out.mono ((Nat.le_trans (Nat.le_trans (Nat.le_trans (Nat.le_trans (Nat.le_trans (Nat.le_trans HB0.out.size HB1.out.size) HB2.out.size) HB3.out.size) HB4.out.size) HB5.out.size) HB6.out.size)))).trans (HB19.out.mono ((Nat.le_trans (Nat.le_trans (Nat.le_trans (Nat.le_trans (Nat.le_trans (Nat.le_trans (Nat.le_trans HB0.out.size HB1.out.size) HB2.out.size) HB3.out.size) HB4.out.size) HB5.out.size) HB6.out.size) HB7.out.size)))) HB20.out)).bk.c0
      have p1 := (HP.out.on (Law.then_ ((((Law.then_ (Law.then_ (Law.then_ (Law.then_ (Law.then_ (Law.then_ (Law.then_ (Law.then_ (Law.then_ (Law.then_ (Law.then_ (Law.then_ (Law.then_ (Law.then_ (Law.then_ (Law.then_ (HB0.out) HB1.out) HB2.out) HB3.out) HB4.out) HB5.out) HB6.out) HB7.out) HB8.out) HB9.out) HB10.out) HB11.out) HB12.out) HB13.out) HB14.out) HB15.out) HB16.out).trans (HB17.out.mono ((Nat.le_trans (Nat.le_trans (Nat.le_trans (Nat.le_trans HB0.out.size HB1.out.size) HB2.out.size) HB3.out.size) HB4.out.size)))).trans (HB18.out.mono ((Nat.le_trans (Nat.le_trans (Nat.le_trans (Nat.le_trans (Nat.le_trans (Nat.le_trans HB0.out.size HB1.out.size) HB2.out.size) HB3.out.size) HB4.out.size) HB5.out.size) HB6.out.size)))).trans (HB19.out.mono ((Nat.le_trans (Nat.le_trans (Nat.le_trans (Nat.le_trans (Nat.le_trans (Nat.le_trans (Nat.le_trans HB0.out.size HB1.out.size) HB2.out.size) HB3.out.size) HB4.out.size) HB5.out.size) HB6.out.size) HB7.out.size)))) HB20.out)).bk.c1
      have HtG := Lib.hid (fun g hg => ((own_past FG.out (HB20.out))).lt g hg)
      go_wp2_with fail
      go_at_call 29
      refine (markInt_by w9.heap.size 1 ps.length A10 c10 (ivs ps) w21 (by omega) (by omega) (own_past FG.out (HB20.out))).mono ?_
      rintro r w22 ⟨rfl, ho, hg⟩
      have hbb : Below w9.heap.size w21 w22 := (Below.refl _ _).grown hg ((Nat.le_trans (Nat.le_trans (Nat.le_trans (Nat.le_trans (Nat.le_trans (Nat.le_trans (Nat.le_trans (Nat.le_trans (Nat.le_trans (Nat.le_trans (Nat.le_trans HB9.out.size HB10.out.size) HB11.out.size) HB12.out.size) HB13.out.size) HB14.out.size) HB15.out.size) HB16.out.size) HB17.out.size) HB18.out.size) HB19.out.size) HB20.out.size)) (fun g hg => (HtG.out g hg).1)
      have FM := Lib.hid ho
      clear ho hg
      have HB21 := Lib.hid hbb
      clear hbb
      clear p0 p1
      have p0 := (HP.out.on ((Law.then_ ((((Law.then_ (Law.then_ (Law.then_ (Law.then_ (Law.then_ (Law.then_ (Law.then_ (Law.then_ (Law.then_ (Law.then_ (Law.then_ (Law.then_ (Law.then_ (Law.then_ (Law.then_ (Law.then_ (HB0.out) HB1.out) HB2.out) HB3.out) HB4.out) HB5.out) HB6.out) HB7.out) HB8.out) HB9.out) HB10.out) HB11.out) HB12.out) HB13.out) HB14.out) HB15.out) HB16.out).trans (HB17.out.mono ((Nat.le_trans (Nat.le_trans (Nat.le_trans (Nat.le_trans HB0.out.size HB1.out.size) HB2.out.size) HB3.out.size) HB4.out.size)))).trans (HB18.out.mono ((Nat.le_trans (Nat.le_trans (Nat.le_trans (Nat.le_trans (Nat.le_trans (Nat.le_trans HB0.out.size HB1.out.size) HB2.out.size) HB3.out.size) HB4.out.size) HB5.out.size) HB6.out.size)))).trans (HB19.out.mono ((Nat.le_trans (Nat.le_trans (Nat.le_trans (Nat.le_trans (Nat.le_trans (Nat.le_trans (Nat.le_trans HB0.out.size HB1.out.size) HB2.out.size) HB3.out.size) HB4.out.size) HB5.out.size) HB6.out.size) HB7.out.size)))) HB20.out).trans (HB21.out.mono ((Nat.le_trans (Nat.le_trans (Nat.le_trans (Nat.le_trans (Nat.le_trans (Nat.le_trans (Nat.le_trans (Nat.le_trans HB0.out.size HB1.out.size) HB2.out.size) HB3.out.size) HB4.out.size) HB5.out.size) HB6.out.size) HB7.out.size) HB8.out.size))))).bk.c0
      have p1 := (HP.out.on ((Law.then_ ((((Law.then_ (Law.then_ (Law.then_ (Law.then_ (Law.then_ (Law.then_ (Law.then_ (Law.then_ (Law.then_ (Law.then_ (Law.then_ (Law.then_ (Law.then_ (Law.then_ (Law.then_ (Law.then_ (HB0.out) HB1.out) HB2.out) HB3.out) HB4.out) HB5.out) HB6.out) HB7.out) HB8.out) HB9.out) HB10.out) HB11.out) HB12.out) HB13.out) HB14.out) HB15.out) HB16.out).trans (HB17.out.mono ((Nat.le_trans (Nat.le_trans (Nat.le_trans (Nat.le_trans HB0.out.size HB1.out.size) HB2.out.size) HB3.out.size) HB4.out.size)))).trans (HB18.out.mono ((Nat.le_trans (Nat.le_trans (Nat.le_trans (Nat.le_trans (Nat.le_trans (Nat.le_trans HB0.out.size HB1.out.size) HB2.out.size) HB3.out.size) HB4.out.size) HB5.out.size) HB6.out.size)))).trans (HB19.out.mono ((Nat.le_trans (Nat.le_trans (Nat.le_trans (Nat.le_trans (Nat.le_trans (Nat.le_trans (Nat.le_trans HB0.out.size HB1.out.size) HB2.out.size) HB3.out.size) HB4.out.size) HB5.out.size) HB6.out.size) HB7.out.size)))) HB20.out).trans (HB21.out.mono ((Nat.le_trans (Nat.le_trans (Nat.le_trans (Nat.le_trans (Nat.le_trans (Nat.le_trans (Nat.le_trans (Nat.le_trans HB0.out.size HB1.out.size) HB2.out.size) HB3.out.size) HB4.out.size) HB5.out.size) HB6.out.size) HB7.out.size) HB8.out.size))))).bk.c1
      go_wp2_with fail
      go_at_call 30
      refine (heldInt_one ps.length c10 A10 w22 (by omega) (Law.Row.own FM.out)).mono ?_
      rintro r w23 ⟨rfl, hb⟩
      have HB22 := Lib.hid hb
      clear hb
      clear p0 p1
      have p0 := (HP.out.on (Law.then_ ((Law.then_ ((((Law.then_ (Law.then_ (Law.then_ (Law.then_ (Law.then_ (Law.then_ (Law.then_ (Law.then_ (Law.then_ (Law.then_ (Law.then_ (Law.then_ (Law.then_ (Law.then_ (Law.then_ (Law.then_ (HB0.out) HB1.out) HB2.out) HB3.out) HB4.out) HB5.out) HB6.out) HB7.out) HB8.out) HB9.out) HB10.out) HB11.out) HB12.out) HB13.out) HB14.out) HB15.out) HB16.out).trans (HB17.out.mono ((Nat.le_trans (Nat.le_trans (Nat.le_trans (Nat.le_trans HB0.out.size HB1.out.size) HB2.out.size) HB3.out.size) HB4.out.size)))).trans (HB18.out.mono ((Nat.le_trans (Nat.le_trans (Nat.le_trans (Nat.le_trans (Nat.le_trans (Nat.le_trans HB0.out.size HB1.out.size) HB2.out.size) HB3.out.size) HB4.out.size) HB5.out.size) HB6.out.size)))).trans (HB19.out.mono ((Nat.le_trans (Nat.le_trans (Nat.le_trans (Nat.le_trans (Nat.le_trans (Nat.le_trans (Nat.le_trans HB0.out.size HB1.out.size) HB2.out.size) HB3.out.size) HB4.out.size) HB5.out.size) HB6.out.size) HB7.out.size)))) HB20.out).trans (HB21.out.mono ((Nat.le_trans (Nat.le_trans (Nat.le_trans (Nat.le_trans (Nat.le_trans (Nat.le_trans (Nat.le_trans (Nat.le_trans HB0.out.size HB1.out.size) HB2.out.size) HB3.out.size) HB4.out.size) HB5.out.size) HB6.out.size) HB7.out.size) HB8.out.size)))) HB22.out)).bk.c0
      have p1 := (HP.out.on (Law.then_ ((Law.then_ ((((Law.then_ (Law.then_ (Law.then_ (Law.then_ (Law.then_ (Law.then_ (Law.then_ (Law.then_ (Law.then_ (Law.then_ (Law.then_ (Law.then_ (Law.then_ (Law.then_ (Law.then_ (Law.then_ (HB0.out) HB1.out) HB2.out) HB3.out) HB4.out) HB5.out) HB6.out) HB7.out) HB8.out) HB9.out) HB10.out) HB11.out) HB12.out) HB13.out) HB14.out) HB15.out) HB16.out).trans (HB17.out.mono ((Nat.le_trans (Nat.le_trans (Nat.le_trans (Nat.le_trans HB0.out.size HB1.out.size) HB2.out.size) HB3.out.size) HB4.out.size)))).trans (HB18.out.mono ((Nat.le_trans (Nat.le_trans (Nat.le_trans (Nat.le_trans (Nat.le_trans (Nat.le_trans HB0.out.size HB1.out.size) HB2.out.size) HB3.out.size) HB4.out.size) HB5.out.size) HB6.out.size)))).trans (HB19.out.mono ((Nat.le_trans (Nat.le_trans (Nat.le_trans (Nat.le_trans (Nat.le_trans (Nat.le_trans (Nat.le_trans HB0.out.size HB1.out.size) HB2.out.size) HB3.out.size) HB4.out.size) HB5.out.size) HB6.out.size) HB7.out.size)))) HB20.out).trans (HB21.out.mono ((Nat.le_trans (Nat.le_trans (Nat.le_trans (Nat.le_trans (Nat.le_trans (Nat.le_trans (Nat.le_trans (Nat.le_trans HB0.out.size HB1.out.size) HB2.out.size) HB3.out.size) HB4.out.size) HB5.out.size) HB6.out.size) HB7.out.size) HB8.out.size)))) HB22.out)).bk.c1
      go_wp2_with fail
      go_at_call 18
      refine (HTo.out w23 (HP.out.on (Law.then_ ((Law.then_ ((((Law.then_ (Law.then_ (Law.then_ (Law.then_ (Law.then_ (Law.then_ (Law.then_ (Law.then_ (Law.then_ (Law.then_ (Law.then_ (Law.then_ (Law.then_ (Law.then_ (Law.then_ (Law.then_ (HB0.out) HB1.out) HB2.out) HB3.out) HB4.out) HB5.out) HB6.out) HB7.out) HB8.out) HB9.out) HB10.out) HB11.out) HB12.out) HB13.out) HB14.out) HB15.out) HB16.out).trans (HB17.out.mono ((Nat.le_trans (Nat.le_trans (Nat.le_trans (Nat.le_trans HB0.out.size HB1.out.size) HB2.out.size) HB3.out.size) HB4.out.size)))).trans (HB18.out.mono ((Nat.le_trans (Nat.le_trans (Nat.le_trans (Nat.le_trans (Nat.le_trans (Nat.le_trans HB0.out.size HB1.out.size) HB2.out.size) HB3.out.size) HB4.out.size) HB5.out.size) HB6.out.size)))).trans (HB19.out.mono ((Nat.le_trans (Nat.le_trans (Nat.le_trans (Nat.le_trans (Nat.le_trans (Nat.le_trans (Nat.le_trans HB0.out.size HB1.out.size) HB2.out.size) HB3.out.size) HB4.out.size) HB5.out.size) HB6.out.size) HB7.out.size)))) HB20.out).trans (HB21.out.mono ((Nat.le_trans (Nat.le_trans (Nat.le_trans (Nat.le_trans (Nat.le_trans (Nat.le_trans (Nat.le_trans (Nat.le_trans HB0.out.size HB1.out.size) HB2.out.size) HB3.out.size) HB4.out.size) HB5.out.size) HB6.out.size) HB7.out.size) HB8.out.size)))) HB22.out)).mv (HP.out.on (Law.then_ ((Law.then_ ((((Law.then_ (Law.then_ (Law.then_ (Law.then_ (Law.then_ (Law.then_ (Law.then_ (Law.then_ (Law.then_ (Law.then_ (Law.then_ (Law.then_ (Law.then_ (Law.then_ (Law.then_ (Law.then_ (HB0.out) HB1.out) HB2.out) HB3.out) HB4.out) HB5.out) HB6.out) HB7.out) HB8.out) HB9.out) HB10.out) HB11.out) HB12.out) HB13.out) HB14.out) HB15.out) HB16.out).trans (HB17.out.mono ((Nat.le_trans (Nat.le_trans (Nat.le_trans (Nat.le_trans HB0.out.size HB1.out.size) HB2.out.size) HB3.out.size) HB4.out.size)))).trans (HB18.out.mono ((Nat.le_trans (Nat.le_trans (Nat.le_trans (Nat.le_trans (Nat.le_trans (Nat.le_trans HB0.out.size HB1.out.size) HB2.out.size) HB3.out.size) HB4.out.size) HB5.out.size) HB6.out.size)))).trans (HB19.out.mono ((Nat.le_trans (Nat.le_trans (Nat.le_trans (Nat.le_trans (Nat.le_trans (Nat.le_trans (Nat.le_trans HB0.out.size HB1.out.size) HB2.out.size) HB3.out.size) HB4.out.size) HB5.out.size) HB6.out.size) HB7.out.size)))) HB20.out).trans (HB21.out.mono ((Nat.le_trans (Nat.le_trans (Nat.le_trans (Nat.le_trans (Nat.le_trans (Nat.le_trans (Nat.le_trans (Nat.le_trans HB0.out.size HB1.out.size) HB2.out.size) HB3.out.size) HB4.out.size) HB5.out.size) HB6.out.size) HB7.out.size) HB8.out.size)))) HB22.out)).sv).mono ?_
      rintro r w24 ⟨A24, c24, xs24, B24, d24, ys24, rfl, ho, hb⟩
      have FU := Lib.hid ho
      clear ho
      have HB23 := Lib.hid hb
      clear hb
      clear p0 p1
      have p0 := (HP.out.on (Law.then_ (Law.then_ ((Law.then_ ((((Law.then_ (Law.then_ (Law.then_ (Law.then_ (Law.then_ (Law.then_ (Law.then_ (Law.then_ (Law.then_ (Law.then_ (Law.then_ (Law.then_ (Law.then_ (Law.then_ (Law.then_ (Law.then_ (HB0.out) HB1.out) HB2.out) HB3.out) HB4.out) HB5.out) HB6.out) HB7.out) HB8.out) HB9.out) HB10.out) HB11.out) HB12.out) HB13.out) HB14.out) HB15.out) HB16.out).trans (HB17.out.mono ((Nat.le_trans (Nat.le_trans (Nat.le_trans (Nat.le_trans HB0.out.size HB1.out.size) HB2.out.size) HB3.out.size) HB4.out.size)))).trans (HB18.out.mono ((Nat.le_trans (Nat.le_trans (Nat.le_trans (Nat.le_trans (Nat.le_trans (Nat.le_trans HB0.out.size HB1.out.size) HB2.out.size) HB3.out.size) HB4.out.size) HB5.out.size) HB6.out.size)))).trans (HB19.out.mono ((Nat.le_trans (Nat.le_trans (Nat.le_trans (Nat.le_trans (Nat.le_trans (Nat.le_trans (Nat.le_trans HB0.out.size HB1.out.size) HB2.out.size) HB3.out.size) HB4.out.size) HB5.out.size) HB6.out.size) HB7.out.size)))) HB20.out).trans (HB21.out.mono ((Nat.le_trans (Nat.le_trans (Nat.le_trans (Nat.le_trans (Nat.le_trans (Nat.le_trans (Nat.le_trans (Nat.le_trans HB0.out.size HB1.out.size) HB2.out.size) HB3.out.size) HB4.out.size) HB5.out.size) HB6.out.size) HB7.out.size) HB8.out.size)))) HB22.out) HB23.out)).bk.c0
      have p1 := (HP.out.on (Law.then_ (Law.then_ ((Law.then_ ((((Law.then_ (Law.then_ (Law.then_ (Law.then_ (Law.then_ (Law.then_ (Law.then_ (Law.then_ (Law.then_ (Law.then_ (Law.then_ (Law.then_ (Law.then_ (Law.then_ (Law.then_ (Law.then_ (HB0.out) HB1.out) HB2.out) HB3.out) HB4.out) HB5.out) HB6.out) HB7.out) HB8.out) HB9.out) HB10.out) HB11.out) HB12.out) HB13.out) HB14.out) HB15.out) HB16.out).trans (HB17.out.mono ((Nat.le_trans (Nat.le_trans (Nat.le_trans (Nat.le_trans HB0.out.size HB1.out.size) HB2.out.size) HB3.out.size) HB4.out.size)))).trans (HB18.out.mono ((Nat.le_trans (Nat.le_trans (Nat.le_trans (Nat.le_trans (Nat.le_trans (Nat.le_trans HB0.out.size HB1.out.size) HB2.out.size) HB3.out.size) HB4.out.size) HB5.out.size) HB6.out.size)))).trans (HB19.out.mono ((Nat.le_trans (Nat.le_trans (Nat.le_trans (Nat.le_trans (Nat.le_trans (Nat.le_trans (Nat.le_trans HB0.out.size HB1.out.size) HB2.out.size) HB3.out.size) HB4.out.size) HB5.out.size) HB6.out.size) HB7.out.size)))) HB20.out).trans (HB21.out.mono ((Nat.le_trans (Nat.le_trans (Nat.le_trans (Nat.le_trans (Nat.le_trans (Nat.le_trans (Nat.le_trans (Nat.le_trans HB0.out.size HB1.out.size) HB2.out.size) HB3.out.size) HB4.out.size) HB5.out.size) HB6.out.size) HB7.out.size) HB8.out.size)))) HB22.out) HB23.out)).bk.c1
      go_wp2_with fail
      go_at_call 19
      refine (HTnext.out w24 (HRnext.out.stays (Law.then_ (Law.then_ ((Law.then_ ((((Law.then_ (Law.then_ (Law.then_ (Law.then_ (Law.then_ (Law.then_ (Law.then_ (Law.then_ (Law.then_ (Law.then_ (Law.then_ (Law.then_ (Law.then_ (Law.then_ (Law.then_ (Law.then_ (Law.then_ (HBs.out) HB0.out) HB1.out) HB2.out) HB3.out) HB4.out) HB5.out) HB6.out) HB7.out) HB8.out) HB9.out) HB10.out) HB11.out) HB12.out) HB13.out) HB14.out) HB15.out) HB16.out).trans (HB17.out.mono ((Nat.le_trans (Nat.le_trans (Nat.le_trans (Nat.le_trans (Nat.le_trans HBs.out.size HB0.out.size) HB1.out.size) HB2.out.size) HB3.out.size) HB4.out.size)))).trans (HB18.out.mono ((Nat.le_trans (Nat.le_trans (Nat.le_trans (Nat.le_trans (Nat.le_trans (Nat.le_trans (Nat.le_trans HBs.out.size HB0.out.size) HB1.out.size) HB2.out.size) HB3.out.size) HB4.out.size) HB5.out.size) HB6.out.size)))).trans (HB19.out.mono ((Nat.le_trans (Nat.le_trans (Nat.le_trans (Nat.le_trans (Nat.le_trans (Nat.le_trans (Nat.le_trans (Nat.le_trans HBs.out.size HB0.out.size) HB1.out.size) HB2.out.size) HB3.out.size) HB4.out.size) HB5.out.size) HB6.out.size) HB7.out.size)))) HB20.out).trans (HB21.out.mono ((Nat.le_trans (Nat.le_trans (Nat.le_trans (Nat.le_trans (Nat.le_trans (Nat.le_trans (Nat.le_trans (Nat.le_trans (Nat.le_trans HBs.out.size HB0.out.size) HB1.out.size) HB2.out.size) HB3.out.size) HB4.out.size) HB5.out.size) HB6.out.size) HB7.out.size) HB8.out.size)))) HB22.out) HB23.out))).mono ?_
      rintro r w25 ⟨v25, ys25, rfl, ho, hn, hb⟩
      obtain ⟨A25, c25, rfl, _, _, _⟩ := Law.own_len ho
      have Funext := Lib.hid ho
      have Fnunext := Lib.hid hn
      clear ho hn
      have HB24 := Lib.hid hb
      clear hb
      clear p0 p1
      have p0 := (HP.out.on (Law.then_ (Law.then_ (Law.then_ ((Law.then_ ((((Law.then_ (Law.then_ (Law.then_ (Law.then_ (Law.then_ (Law.then_ (Law.then_ (Law.then_ (Law.then_ (Law.then_ (Law.then_ (Law.then_ (Law.then_ (Law.then_ (Law.then_ (Law.then_ (HB0.out) HB1.out) HB2.out) HB3.out) HB4.out) HB5.out) HB6.out) HB7.out) HB8.out) HB9.out) HB10.out) HB11.out) HB12.out) HB13.out) HB14.out) HB15.out) HB16.out).trans (HB17.out.mono ((Nat.le_trans (Nat.le_trans (Nat.le_trans (Nat.le_trans HB0.out.size HB1.out.size) HB2.out.size) HB3.out.size) HB4.out.size)))).trans (HB18.out.mono ((Nat.le_trans (Nat.le_trans (Nat.le_trans (Nat.le_trans (Nat.le_trans (Nat.le_trans HB0.out.size HB1.out.size) HB2.out.size) HB3.out.size) HB4.out.size) HB5.out.size) HB6.out.size)))).trans (HB19.out.mono ((Nat.le_trans (Nat.le_trans (Nat.le_trans (Nat.le_trans (Nat.le_trans (Nat.le_trans (Nat.le_trans HB0.out.size HB1.out.size) HB2.out.size) HB3.out.size) HB4.out.size) HB5.out.size) HB6.out.size) HB7.out.size)))) HB20.out).trans (HB21.out.mono ((Nat.le_trans (Nat.le_trans (Nat.le_trans (Nat.le_trans (Nat.le_trans (Nat.le_trans (Nat.le_trans (Nat.le_trans HB0.out.size HB1.out.size) HB2.out.size) HB3.out.size) HB4.out.size) HB5.out.size) HB6.out.size) HB7.out.size) HB8.out.size)))) HB22.out) HB23.out) HB24.out)).bk.c0
      have p1 := (HP.out.on (Law.then_ (Law.then_ (Law.then_ ((Law.then_ ((((Law.then_ (Law.then_ (Law.then_ (Law.then_ (Law.then_ (Law.then_ (Law.then_ (Law.then_ (Law.then_ (Law.then_ (Law.then_ (Law.then_ (Law.then_ (Law.then_ (Law.then_ (Law.then_ (HB0.out) HB1.out) HB2.out) HB3.out) HB4.out) HB5.out) HB6.out) HB7.out) HB8.out) HB9.out) HB10.out) HB11.out) HB12.out) HB13.out) HB14.out) HB15.out) HB16.out).trans (HB17.out.mono ((Nat.le_trans (Nat.le_trans (Nat.le_trans (Nat.le_trans HB0.out.size HB1.out.size) HB2.out.size) HB3.out.size) HB4.out.size)))).trans (HB18.out.mono ((Nat.le_trans (Nat.le_trans (Nat.le_trans (Nat.le_trans (Nat.le_trans (Nat.le_trans HB0.out.size HB1.out.size) HB2.out.size) HB3.out.size) HB4.out.size) HB5.out.size) HB6.out.size)))).trans (HB19.out.mono ((Nat.le_trans (Nat.le_trans (Nat.le_trans (Nat.le_trans (Nat.le_trans (Nat.le_trans (Nat.le_trans HB0.out.size HB1.out.size) HB2.out.size) HB3.out.size) HB4.out.size) HB5.out.size) HB6.out.size) HB7.out.size)))) HB20.out).trans (HB21.out.mono ((Nat.le_trans (Nat.le_trans (Nat.le_trans (Nat.le_trans (Nat.le_trans (Nat.le_trans (Nat.le_trans (Nat.le_trans HB0.out.size HB1.out.size) HB2.out.size) HB3.out.size) HB4.out.size) HB5.out.size) HB6.out.size) HB7.out.size) HB8.out.size)))) HB22.out) HB23.out) HB24.out)).bk.c1
      go_wp2_with fail
      go_at_call 24
      refine (toInt_any Areqs creqs reqs w25 hnreqs (HRreqs.out.stays (Law.then_ (Law.then_ (Law.then_ ((Law.then_ ((((Law.then_ (Law.then_ (Law.then_ (Law.then_ (Law.then_ (Law.then_ (Law.then_ (Law.then_ (Law.then_ (Law.then_ (Law.then_ (Law.then_ (Law.then_ (Law.then_ (Law.then_ (Law.then_ (Law.then_ (HBs.out) HB0.out) HB1.out) HB2.out) HB3.out) HB4.out) HB5.out) HB6.out) HB7.out) HB8.out) HB9.out) HB10.out) HB11.out) HB12.out) HB13.out) HB14.out) HB15.out) HB16.out).trans (HB17.out.mono ((Nat.le_trans (Nat.le_trans (Nat.le_trans (Nat.le_trans (Nat.le_trans HBs.out.size HB0.out.size) HB1.out.size) HB2.out.size) HB3.out.size) HB4.out.size)))).trans (HB18.out.mono ((Nat.le_trans (Nat.le_trans (Nat.le_trans (Nat.le_trans (Nat.le_trans (Nat.le_trans (Nat.le_trans HBs.out.size HB0.out.size) HB1.out.size) HB2.out.size) HB3.out.size) HB4.out.size) HB5.out.size) HB6.out.size)))).trans (HB19.out.mono ((Nat.le_trans (Nat.le_trans (Nat.le_trans (Nat.le_trans (Nat.le_trans (Nat.le_trans (Nat.le_trans (Nat.le_trans HBs.out.size HB0.out.size) HB1.out.size) HB2.out.size) HB3.out.size) HB4.out.size) HB5.out.size) HB6.out.size) HB7.out.size)))) HB20.out).trans (HB21.out.mono ((Nat.le_trans (Nat.le_trans (Nat.le_trans (Nat.le_trans (Nat.le_trans (Nat.le_trans (Nat.le_trans (Nat.le_trans (Nat.le_trans HBs.out.size HB0.out.size) HB1.out.size) HB2.out.size) HB3.out.size) HB4.out.size) HB5.out.size) HB6.out.size) HB7.out.size) HB8.out.size)))) HB22.out) HB23.out) HB24.out))).mono ?_
      rintro r w26 ⟨v26, rfl, ho, hb⟩
      obtain ⟨A26, c26, rfl, hc26, _, _⟩ := Law.own_len ho
      have Fureqs := Lib.hid ho
      clear ho
      have HB25 := Lib.hid hb
      clear hb
      clear p0 p1
      have p0 := (HP.out.on (Law.then_ (Law.then_ (Law.then_ (Law.then_ ((Law.then_ ((((Law.then_ (Law.then_ (Law.then_ (Law.then_ (Law.then_ (Law.then_ (Law.then_ (Law.then_ (Law.then_ (Law.then_ (Law.then_ (Law.then_ (Law.then_ (Law.then_ (Law.then_ (Law.then_ (HB0.out) HB1.out) HB2.out) HB3.out) HB4.out) HB5.out) HB6.out) HB7.out) HB8.out) HB9.out) HB10.out) HB11.out) HB12.out) HB13.out) HB14.out) HB15.out) HB16.out).trans (HB17.out.mono ((Nat.le_trans (Nat.le_trans (Nat.le_trans (Nat.le_trans HB0.out.size HB1.out.size) HB2.out.size) HB3.out.size) HB4.out.size)))).trans (HB18.out.mono ((Nat.le_trans (Nat.le_trans (Nat.le_trans (Nat.le_trans (Nat.le_trans (Nat.le_trans HB0.out.size HB1.out.size) HB2.out.size) HB3.out.size) HB4.out.size) HB5.out.size) HB6.out.size)))).trans (HB19.out.mono ((Nat.le_trans (Nat.le_trans (Nat.le_trans (Nat.le_trans (Nat.le_trans (Nat.le_trans (Nat.le_trans HB0.out.size HB1.out.size) HB2.out.size) HB3.out.size) HB4.out.size) HB5.out.size) HB6.out.size) HB7.out.size)))) HB20.out).trans (HB21.out.mono ((Nat.le_trans (Nat.le_trans (Nat.le_trans (Nat.le_trans (Nat.le_trans (Nat.le_trans (Nat.le_trans (Nat.le_trans HB0.out.size HB1.out.size) HB2.out.size) HB3.out.size) HB4.out.size) HB5.out.size) HB6.out.size) HB7.out.size) HB8.out.size)))) HB22.out) HB23.out) HB24.out) HB25.out)).bk.c0
      have p1 := (HP.out.on (Law.then_ (Law.then_ (Law.then_ (Law.then_ ((Law.then_ ((((Law.then_ (Law.then_ (Law.then_ (Law.then_ (Law.then_ (Law.then_ (Law.then_ (Law.then_ (Law.then_ (Law.then_ (Law.then_ (Law.then_ (Law.then_ (Law.then_ (Law.then_ (Law.then_ (HB0.out) HB1.out) HB2.out) HB3.out) HB4.out) HB5.out) HB6.out) HB7.out) HB8.out) HB9.out) HB10.out) HB11.out) HB12.out) HB13.out) HB14.out) HB15.out) HB16.out).trans (HB17.out.mono ((Nat.le_trans (Nat.le_trans (Nat.le_trans (Nat.le_trans HB0.out.size HB1.out.size) HB2.out.size) HB3.out.size) HB4.out.size)))).trans (HB18.out.mono ((Nat.le_trans (Nat.le_trans (Nat.le_trans (Nat.le_trans (Nat.le_trans (Nat.le_trans HB0.out.size HB1.out.size) HB2.out.size) HB3.out.size) HB4.out.size) HB5.out.size) HB6.out.size)))).trans (HB19.out.mono ((Nat.le_trans (Nat.le_trans (Nat.le_trans (Nat.le_trans (Nat.le_trans (Nat.le_trans (Nat.le_trans HB0.out.size HB1.out.size) HB2.out.size) HB3.out.size) HB4.out.size) HB5.out.size) HB6.out.size) HB7.out.size)))) HB20.out).trans (HB21.out.mono ((Nat.le_trans (Nat.le_trans (Nat.le_trans (Nat.le_trans (Nat.le_trans (Nat.le_trans (Nat.le_trans (Nat.le_trans HB0.out.size HB1.out.size) HB2.out.size) HB3.out.size) HB4.out.size) HB5.out.size) HB6.out.size) HB7.out.size) HB8.out.size)))) HB22.out) HB23.out) HB24.out) HB25.out)).bk.c1
      go_wp2_with fail
      go_at_call 25
      refine (HH.out A24 c24 xs24 B24 d24 ys24 A25 c25 ys25 A26 c26 w26 (FU.out.mv.stays (Law.then_ (HB24.out) HB25.out)) (FU.out.sv.stays (Law.then_ (HB24.out) HB25.out)) ((NRow.of Funext.out Fnunext.out).stays (HB25.out)) (Law.Row.own Fureqs.out)).mono ?_
      rintro r w27 ⟨v27, rfl, ho, hb⟩
      simp only [] at ho
      obtain ⟨A27, c27, rfl, _, _, _⟩ := Law.own_len ho
      have FK := Lib.hid ho
      clear ho
      have HB26 := Lib.hid hb
      clear hb
      clear p0 p1
      have p0 := (HP.out.on (Law.then_ (Law.then_ (Law.then_ (Law.then_ (Law.then_ ((Law.then_ ((((Law.then_ (Law.then_ (Law.then_ (Law.then_ (Law.then_ (Law.then_ (Law.then_ (Law.then_ (Law.then_ (Law.then_ (Law.then_ (Law.then_ (Law.then_ (Law.then_ (Law.then_ (Law.then_ (HB0.out) HB1.out) HB2.out) HB3.out) HB4.out) HB5.out) HB6.out) HB7.out) HB8.out) HB9.out) HB10.out) HB11.out) HB12.out) HB13.out) HB14.out) HB15.out) HB16.out).trans (HB17.out.mono ((Nat.le_trans (Nat.le_trans (Nat.le_trans (Nat.le_trans HB0.out.size HB1.out.size) HB2.out.size) HB3.out.size) HB4.out.size)))).trans (HB18.out.mono ((Nat.le_trans (Nat.le_trans (Nat.le_trans (Nat.le_trans (Nat.le_trans (Nat.le_trans HB0.out.size HB1.out.size) HB2.out.size) HB3.out.size) HB4.out.size) HB5.out.size) HB6.out.size)))).trans (HB19.out.mono ((Nat.le_trans (Nat.le_trans (Nat.le_trans (Nat.le_trans (Nat.le_trans (Nat.le_trans (Nat.le_trans HB0.out.size HB1.out.size) HB2.out.size) HB3.out.size) HB4.out.size) HB5.out.size) HB6.out.size) HB7.out.size)))) HB20.out).trans (HB21.out.mono ((Nat.le_trans (Nat.le_trans (Nat.le_trans (Nat.le_trans (Nat.le_trans (Nat.le_trans (Nat.le_trans (Nat.le_trans HB0.out.size HB1.out.size) HB2.out.size) HB3.out.size) HB4.out.size) HB5.out.size) HB6.out.size) HB7.out.size) HB8.out.size)))) HB22.out) HB23.out) HB24.out) HB25.out) HB26.out)).bk.c0
      have p1 := (HP.out.on (Law.then_ (Law.then_ (Law.then_ (Law.then_ (Law.then_ ((Law.then_ ((((Law.then_ (Law.then_ (Law.then_ (Law.then_ (Law.then_ (Law.then_ (Law.then_ (Law.then_ (Law.then_ (Law.then_ (Law.then_ (Law.then_ (Law.then_ (Law.then_ (Law.then_ (Law.then_ (HB0.out) HB1.out) HB2.out) HB3.out) HB4.out) HB5.out) HB6.out) HB7.out) HB8.out) HB9.out) HB10.out) HB11.out) HB12.out) HB13.out) HB14.out) HB15.out) HB16.out).trans (HB17.out.mono ((Nat.le_trans (Nat.le_trans (Nat.le_trans (Nat.le_trans HB0.out.size HB1.out.size) HB2.out.size) HB3.out.size) HB4.out.size)))).trans (HB18.out.mono ((Nat.le_trans (Nat.le_trans (Nat.le_trans (Nat.le_trans (Nat.le_trans (Nat.le_trans HB0.out.size HB1.out.size) HB2.out.size) HB3.out.size) HB4.out.size) HB5.out.size) HB6.out.size)))).trans (HB19.out.mono ((Nat.le_trans (Nat.le_trans (Nat.le_trans (Nat.le_trans (Nat.le_trans (Nat.le_trans (Nat.le_trans HB0.out.size HB1.out.size) HB2.out.size) HB3.out.size) HB4.out.size) HB5.out.size) HB6.out.size) HB7.out.size)))) HB20.out).trans (HB21.out.mono ((Nat.le_trans (Nat.le_trans (Nat.le_trans (Nat.le_trans (Nat.le_trans (Nat.le_trans (Nat.le_trans (Nat.le_trans HB0.out.size HB1.out.size) HB2.out.size) HB3.out.size) HB4.out.size) HB5.out.size) HB6.out.size) HB7.out.size) HB8.out.size)))) HB22.out) HB23.out) HB24.out) HB25.out) HB26.out)).bk.c1
      go_wp2_with fail
      go_at_call 26
      refine (eqInt_same A27 A5 c27 c5 ps w27 (by omega) (Law.Row.own FK.out) ((Law.Row.own FW.out).stays (Law.then_ (Law.then_ (Law.then_ (Law.then_ (Law.then_ ((Law.then_ ((((Law.then_ (Law.then_ (Law.then_ (Law.then_ (Law.then_ (Law.then_ (Law.then_ (Law.then_ (Law.then_ (Law.then_ (Law.then_ (HB5.out) HB6.out) HB7.out) HB8.out) HB9.out) HB10.out) HB11.out) HB12.out) HB13.out) HB14.out) HB15.out) HB16.out).trans (HB17.out.mono (Nat.le_refl _))).trans (HB18.out.mono ((Nat.le_trans HB5.out.size HB6.out.size)))).trans (HB19.out.mono ((Nat.le_trans (Nat.le_trans HB5.out.size HB6.out.size) HB7.out.size)))) HB20.out).trans (HB21.out.mono ((Nat.le_trans (Nat.le_trans (Nat.le_trans HB5.out.size HB6.out.size) HB7.out.size) HB8.out.size)))) HB22.out) HB23.out) HB24.out) HB25.out) HB26.out))).mono ?_
      rintro r we5 ⟨rfl, m5, rfl⟩
      have hb : Below w27.heap.size w27 (w27.drewN m5) := Law.up (Below.refl _ _) _
      generalize World.drewN w27 m5 = w28 at hb ⊢
      have HB27 := Lib.hid hb
      clear hb
      clear p0 p1
      have p0 := (HP.out.on (Law.then_ (Law.then_ (Law.then_ (Law.then_ (Law.then_ (Law.then_ ((Law.then_ ((((Law.then_ (Law.then_ (Law.then_ (Law.then_ (Law.then_ (Law.then_ (Law.then_ (Law.then_ (Law.then_ (Law.then_ (Law.then_ (Law.then_ (Law.then_ (Law.then_ (Law.then_ (Law.then_ (HB0.out) HB1.out) HB2.out) HB3.out) HB4.out) HB5.out) HB6.out) HB7.out) HB8.out) HB9.out) HB10.out) HB11.out) HB12.out) HB13.out) HB14.out) HB15.out) HB16.out).trans (HB17.out.mono ((Nat.le_trans (Nat.le_trans (Nat.le_trans (Nat.le_trans HB0.out.size HB1.out.size) HB2.out.size) HB3.out.size) HB4.out.size)))).trans (HB18.out.mono ((Nat.le_trans (Nat.le_trans (Nat.le_trans (Nat.le_trans (Nat.le_trans (Nat.le_trans HB0.out.size HB1.out.size) HB2.out.size) HB3.out.size) HB4.out.size) HB5.out.size) HB6.out.size)))).trans (HB19.out.mono ((Nat.le_trans (Nat.le_trans (Nat.le_trans (Nat.le_trans (Nat.le_trans (Nat.le_trans (Nat.le_trans HB0.out.size HB1.out.size) HB2.out.size) HB3.out.size) HB4.out.size) HB5.out.size) HB6.out.size) HB7.out.size)))) HB20.out).trans (HB21.out.mono ((Nat.le_trans (Nat.le_trans (Nat.le_trans (Nat.le_trans (Nat.le_trans (Nat.le_trans (Nat.le_trans (Nat.le_trans HB0.out.size HB1.out.size) HB2.out.size) HB3.out.size) HB4.out.size) HB5.out.size) HB6.out.size) HB7.out.size) HB8.out.size)))) HB22.out) HB23.out) HB24.out) HB25.out) HB26.out) HB27.out)).bk.c0
      have p1 := (HP.out.on (Law.then_ (Law.then_ (Law.then_ (Law.then_ (Law.then_ (Law.then_ ((Law.then_ ((((Law.then_ (Law.then_ (Law.then_ (Law.then_ (Law.then_ (Law.then_ (Law.then_ (Law.then_ (Law.then_ (Law.then_ (Law.then_ (Law.then_ (Law.then_ (Law.then_ (Law.then_ (Law.then_ (HB0.out) HB1.out) HB2.out) HB3.out) HB4.out) HB5.out) HB6.out) HB7.out) HB8.out) HB9.out) HB10.out) HB11.out) HB12.out) HB13.out) HB14.out) HB15.out) HB16.out).trans (HB17.out.mono ((Nat.le_trans (Nat.le_trans (Nat.le_trans (Nat.le_trans HB0.out.size HB1.out.size) HB2.out.size) HB3.out.size) HB4.out.size)))).trans (HB18.out.mono ((Nat.le_trans (Nat.le_trans (Nat.le_trans (Nat.le_trans (Nat.le_trans (Nat.le_trans HB0.out.size HB1.out.size) HB2.out.size) HB3.out.size) HB4.out.size) HB5.out.size) HB6.out.size)))).trans (HB19.out.mono ((Nat.le_trans (Nat.le_trans (Nat.le_trans (Nat.le_trans (Nat.le_trans (Nat.le_trans (Nat.le_trans HB0.out.size HB1.out.size) HB2.out.size) HB3.out.size) HB4.out.size) HB5.out.size) HB6.out.size) HB7.out.size)))) HB20.out).trans (HB21.out.mono ((Nat.le_trans (Nat.le_trans (Nat.le_trans (Nat.le_trans (Nat.le_trans (Nat.le_trans (Nat.le_trans (Nat.le_trans HB0.out.size HB1.out.size) HB2.out.size) HB3.out.size) HB4.out.size) HB5.out.size) HB6.out.size) HB7.out.size) HB8.out.size)))) HB22.out) HB23.out) HB24.out) HB25.out) HB26.out) HB27.out)).bk.c1
      go_wp2_with fail
      go_at_call 30
      refine (heldInt_one ps.length c10 A10 w28 (by omega) ((Law.Row.own FM.out).stays (Law.then_ (Law.then_ (Law.then_ (Law.then_ (Law.then_ (HB22.out) HB23.out) HB24.out) HB25.out) HB26.out) HB27.out))).mono ?_
      rintro r w29 ⟨rfl, hb⟩
      have HB28 := Lib.hid hb
      clear hb
      clear p0 p1
      have p0 := (HP.out.on (Law.then_ (Law.then_ (Law.then_ (Law.then_ (Law.then_ (Law.then_ (Law.then_ ((Law.then_ ((((Law.then_ (Law.then_ (Law.then_ (Law.then_ (Law.then_ (Law.then_ (Law.then_ (Law.then_ (Law.then_ (Law.then_ (Law.then_ (Law.then_ (Law.then_ (Law.then_ (Law.then_ (Law.then_ (HB0.out) HB1.out) HB2.out) HB3.out) HB4.out) HB5.out) HB6.out) HB7.out) HB8.out) HB9.out) HB10.out) HB11.out) HB12.out) HB13.out) HB14.out) HB15.out) HB16.out).trans (HB17.out.mono ((Nat.le_trans (Nat.le_trans (Nat.le_trans (Nat.le_trans HB0.out.size HB1.out.size) HB2.out.size) HB3.out.size) HB4.out.size)))).trans (HB18.out.mono ((Nat.le_trans (Nat.le_trans (Nat.le_trans (Nat.le_trans (Nat.le_trans (Nat.le_trans HB0.out.size HB1.out.size) HB2.out.size) HB3.out.size) HB4.out.size) HB5.out.size) HB6.out.size)))).trans (HB19.out.mono ((Nat.le_trans (Nat.le_trans (Nat.le_trans (Nat.le_trans (Nat.le_trans (Nat.le_trans (Nat.le_trans HB0.out.size HB1.out.size) HB2.out.size) HB3.out.size) HB4.out.size) HB5.out.size) HB6.out.size) HB7.out.size)))) HB20.out).trans (HB21.out.mono ((Nat.le_trans (Nat.le_trans (Nat.le_trans (Nat.le_trans (Nat.le_trans (Nat.le_trans (Nat.le_trans (Nat.le_trans HB0.out.size HB1.out.size) HB2.out.size) HB3.out.size) HB4.out.size) HB5.out.size) HB6.out.size) HB7.out.size) HB8.out.size)))) HB22.out) HB23.out) HB24.out) HB25.out) HB26.out) HB27.out) HB28.out)).bk.c0
      have p1 := (HP.out.on (Law.then_ (Law.then_ (Law.then_ (Law.then_ (Law.then_ (Law.then_ (Law.then_ ((Law.then_ ((((Law.then_ (Law.then_ (Law.then_ (Law.then_ (Law.then_ (Law.then_ (Law.then_ (Law.then_ (Law.then_ (Law.then_ (Law.then_ (Law.then_ (Law.then_ (Law.then_ (Law.then_ (Law.then_ (HB0.out) HB1.out) HB2.out) HB3.out) HB4.out) HB5.out) HB6.out) HB7.out) HB8.out) HB9.out) HB10.out) HB11.out) HB12.out) HB13.out) HB14.out) HB15.out) HB16.out).trans (HB17.out.mono ((Nat.le_trans (Nat.le_trans (Nat.le_trans (Nat.le_trans HB0.out.size HB1.out.size) HB2.out.size) HB3.out.size) HB4.out.size)))).trans (HB18.out.mono ((Nat.le_trans (Nat.le_trans (Nat.le_trans (Nat.le_trans (Nat.le_trans (Nat.le_trans HB0.out.size HB1.out.size) HB2.out.size) HB3.out.size) HB4.out.size) HB5.out.size) HB6.out.size)))).trans (HB19.out.mono ((Nat.le_trans (Nat.le_trans (Nat.le_trans (Nat.le_trans (Nat.le_trans (Nat.le_trans (Nat.le_trans HB0.out.size HB1.out.size) HB2.out.size) HB3.out.size) HB4.out.size) HB5.out.size) HB6.out.size) HB7.out.size)))) HB20.out).trans (HB21.out.mono ((Nat.le_trans (Nat.le_trans (Nat.le_trans (Nat.le_trans (Nat.le_trans (Nat.le_trans (Nat.le_trans (Nat.le_trans HB0.out.size HB1.out.size) HB2.out.size) HB3.out.size) HB4.out.size) HB5.out.size) HB6.out.size) HB7.out.size) HB8.out.size)))) HB22.out) HB23.out) HB24.out) HB25.out) HB26.out) HB27.out) HB28.out)).bk.c1
      go_wp2
      go_ret
      exact ⟨rfl, Law.then_ (Law.then_ (Law.then_ (Law.then_ (Law.then_ (Law.then_ (Law.then_ ((Law.then_ ((((Law.then_ (Law.then_ (Law.then_ (Law.then_ (Law.then_ (Law.then_ (Law.then_ (Law.then_ (Law.then_ (Law.then_ (Law.then_ (Law.then_ (Law.then_ (Law.then_ (Law.then_ (Law.then_ (Law.then_ (HBs.out) HB0.out) HB1.out) HB2.out) HB3.out) HB4.out) HB5.out) HB6.out) HB7.out) HB8.out) HB9.out) HB10.out) HB11.out) HB12.out) HB13.out) HB14.out) HB15.out) HB16.out).trans (HB17.out.mono ((Nat.le_trans (Nat.le_trans (Nat.le_trans (Nat.le_trans (Nat.le_trans HBs.out.size HB0.out.size) HB1.out.size) HB2.out.size) HB3.out.size) HB4.out.size)))).trans (HB18.out.mono ((Nat.le_trans (Nat.le_trans (Nat.le_trans (Nat.le_trans (Nat.le_trans (Nat.le_trans (Nat.le_trans HBs.out.size HB0.out.size) HB1.out.size) HB2.out.size) HB3.out.size) HB4.out.size) HB5.out.size) HB6.out.size)))).trans (HB19.out.mono ((Nat.le_trans (Nat.le_trans (Nat.le_trans (Nat.le_trans (Nat.le_trans (Nat.le_trans (Nat.le_trans (Nat.le_trans HBs.out.size HB0.out.size) HB1.out.size) HB2.out.size) HB3.out.size) HB4.out.size) HB5.out.size) HB6.out.size) HB7.out.size)))) HB20.out).trans (HB21.out.mono ((Nat.le_trans (Nat.le_trans (Nat.le_trans (Nat.le_trans (Nat.le_trans (Nat.le_trans (Nat.le_trans (Nat.le_trans (Nat.le_trans HBs.out.size HB0.out.size) HB1.out.size) HB2.out.size) HB3.out.size) HB4.out.size) HB5.out.size) HB6.out.size) HB7.out.size) HB8.out.size)))) HB22.out) HB23.out) HB24.out) HB25.out) HB26.out) HB27.out) HB28.out⟩
set_option maxHeartbeats 1600000 in
theorem walk_big (A0 : Option Addr) (c0 : Nat) (xs0 : List Value) (L : List (List Int)) (B0 : Option Addr) (d0 : Nat) (ys0 : List Value) (S : List (List Int)) (start : Int) (next : List (List Int)) (reqs : List Int) (Anext : Option Addr) (cnext : Nat) (ysnext : List Value) (Areqs : Option Addr) (creqs : Nat) (w : World) (hz : ¬ (szN L : Int) + (szN S : Int) ≤ 1048576) (hnL : L.length ≤ maxLen) (hlL : ∀ l ∈ L, l.length ≤ maxLen) (hnS : S.length ≤ maxLen) (hlS : ∀ l ∈ S, l.length ≤ maxLen) (hL : NRow w A0 xs0 L) (hS : NRow w B0 ys0 S) (hMnext : next.length ≤ maxLen) (hmnext : ∀ l ∈ next, l.length ≤ maxLen) (HRnext : Hid (NRow w Anext ysnext next)) (hnreqs : reqs.length ≤ 1048576) :
    Calls Try.prog 4 #[pv A0 L.length c0 B0 S.length d0, .slice Anext next.length cnext, .int .i64 start, .slice Areqs reqs.length creqs] w fun e w' => e = .returned (.bool true) ∧ Below w.heap.size w w' := by
  have hIreqs : (reqs.length : Int) ≤ 1048576 := by omega
  have hzP : szPr L S = -1 := szPr_no hz
  have HSz := Lib.hid fun (W : World) (h : NRow W A0 xs0 L) (h' : NRow W B0 ys0 S) => szPrb_any A0 c0 xs0 L B0 d0 ys0 S W hnL hlL hnS hlS h h'
  rw [hzP] at HSz
  clear hzP
  have HP := Lib.hid (PIn.start (c := c0) (d := d0) hL hS 24)
  clear hL hS hlL hlS
  go_enter Try.func4, Try.ntmps4
  go_wp2_with fail
  generalize w.alloc (.cells #[.slice A0 L.length c0, .slice B0 S.length d0] 24) = w0 at HP ⊢
  have p0 := HP.out.bk.c0
  have p1 := HP.out.bk.c1
  go_wp2_with fail
  go_at_call 15
  refine (HSz.out w0 HP.out.mv HP.out.sv).mono ?_
  rintro r w1 ⟨rfl, hb⟩
  have HP1 := Lib.hid (HP.out.on hb)
  clear hb p0 p1
  have p0 := HP1.out.bk.c0
  have p1 := HP1.out.bk.c1
  go_wp2
  go_ret
  exact ⟨rfl, HP1.out.bl⟩
set_option maxHeartbeats 1600000 in
theorem walk_big_0 (A0 : Option Addr) (c0 : Nat) (xs0 : List Value) (L : List (List Int)) (B0 : Option Addr) (d0 : Nat) (ys0 : List Value) (S : List (List Int)) (start : Int) (next : List (List Int)) (reqs : List Int) (Anext : Option Addr) (cnext : Nat) (ysnext : List Value) (Areqs : Option Addr) (creqs : Nat) (w : World) (hz : (szN L : Int) + (szN S : Int) ≤ 1048576) (hzz : ¬ (szN L : Int) + (szN S : Int) + (szN next : Int) ≤ 1048576) (hnL : L.length ≤ maxLen) (hlL : ∀ l ∈ L, l.length ≤ maxLen) (hnS : S.length ≤ maxLen) (hlS : ∀ l ∈ S, l.length ≤ maxLen) (hL : NRow w A0 xs0 L) (hS : NRow w B0 ys0 S) (hMnext : next.length ≤ maxLen) (hmnext : ∀ l ∈ next, l.length ≤ maxLen) (HRnext : Hid (NRow w Anext ysnext next)) (hnreqs : reqs.length ≤ 1048576) :
    Calls Try.prog 4 #[pv A0 L.length c0 B0 S.length d0, .slice Anext next.length cnext, .int .i64 start, .slice Areqs reqs.length creqs] w fun e w' => e = .returned (.bool true) ∧ Below w.heap.size w w' := by
  have hIreqs : (reqs.length : Int) ≤ 1048576 := by omega
  have hzP : szPr L S = 1048576 - (szN L : Int) - (szN S : Int) := szPr_yes (by omega)
  have HSz := Lib.hid fun (W : World) (h : NRow W A0 xs0 L) (h' : NRow W B0 ys0 S) => szPrb_any A0 c0 xs0 L B0 d0 ys0 S W hnL hlL hnS hlS h h'
  rw [hzP] at HSz
  clear hzP
  have HZnext := Lib.hid fun (W : World) (h : NRow W Anext ysnext next) => szSS_g Anext cnext ysnext next (1048576 - (szN L : Int) - (szN S : Int)) W (by omega) (by omega) hMnext hmnext h
  have hznext : szS (1048576 - (szN L : Int) - (szN S : Int)) next = -1 := if_neg (by omega)
  rw [hznext] at HZnext
  clear hznext
  have hs0 : ¬ (1048576 : Int) - (szN L : Int) - (szN S : Int) < 0 := by omega
  generalize (szN L : Int) = zL at *
  generalize (szN S : Int) = zS at *
  generalize (szN next : Int) = znext at *
  have HP := Lib.hid (PIn.start (c := c0) (d := d0) hL hS 24)
  clear hL hS hlL hlS
  go_enter Try.func4, Try.ntmps4
  go_wp2_with fail
  generalize w.alloc (.cells #[.slice A0 L.length c0, .slice B0 S.length d0] 24) = w0 at HP ⊢
  have p0 := HP.out.bk.c0
  have p1 := HP.out.bk.c1
  go_wp2_with fail
  go_at_call 15
  refine (HSz.out w0 HP.out.mv HP.out.sv).mono ?_
  rintro r w1 ⟨rfl, hb⟩
  have HP1 := Lib.hid (HP.out.on hb)
  clear hb p0 p1
  have p0 := HP1.out.bk.c0
  have p1 := HP1.out.bk.c1
  go_wp2_with fail
  go_at_call 16
  refine (HZnext.out w1 (HRnext.out.stays HP1.out.bl)).mono ?_
  rintro r w9 ⟨rfl, e9⟩
  obtain rfl := e9.symm
  clear e9
  go_wp2
  go_ret
  exact ⟨rfl, HP1.out.bl⟩
theorem walk (A0 : Option Addr) (n0 c0 : Nat) (xs0 : List Value) (L : List (List Int)) (B0 : Option Addr) (m0 d0 : Nat) (ys0 : List Value) (S : List (List Int)) (Anext : Option Addr) (nnext cnext : Nat) (ysnext : List Value) (next : List (List Int)) (start : Int) (Areqs : Option Addr) (nreqs creqs : Nat) (reqs : List Int) (w : World) (h0 : L.length = n0 ∧ n0 ≤ c0 ∧ c0 ≤ maxLen ∧ (∀ l ∈ L, l.length ≤ maxLen) ∧ NRow w A0 xs0 L) (h1 : S.length = m0 ∧ m0 ≤ d0 ∧ d0 ≤ maxLen ∧ (∀ l ∈ S, l.length ≤ maxLen) ∧ NRow w B0 ys0 S) (hnext : next.length = nnext ∧ nnext ≤ cnext ∧ cnext ≤ maxLen ∧ (∀ l ∈ next, l.length ≤ maxLen) ∧ NRow w Anext ysnext next) (hstart : (Lit.int .i64 start).wf = true) (hreqs : reqs.length = nreqs ∧ nreqs ≤ creqs ∧ creqs ≤ maxLen ∧ (∀ z ∈ reqs, (Lit.int .i64 z).wf = true) ∧ Law.Row w Areqs (reqs.map (Value.int .i64))) (hL : laidMetH Try.prog Rows.fnExactAlgorithmStatesRow.laid w) (hsh : w.ShapedOpen Try.prog) :
    Calls Try.prog 4 #[.agg #[.slice A0 n0 c0, .slice B0 m0 d0], .slice Anext nnext cnext, .int .i64 start, .slice Areqs nreqs creqs] w fun e w' => e = .returned (.bool true) ∧ Below w.heap.size w w' := by
  obtain ⟨rfl, hcA, hcB, hlL, hrL⟩ := h0
  obtain ⟨rfl, hdA, hdB, hlS, hrS⟩ := h1
  obtain ⟨rfl, hAnext, hBnext, hwnext, hrnext⟩ := hnext
  obtain ⟨rfl, hAreqs, hBreqs, hwreqs, hrreqs⟩ := hreqs
  clear hL hsh
  by_cases hlreqs : reqs.length ≤ 1048576
  · skip
    by_cases hz : (szN L : Int) + (szN S : Int) ≤ 1048576
    · skip
      by_cases hz0 : (szN L : Int) + (szN S : Int) + (szN next : Int) ≤ 1048576
      · skip
        have hrs : (∀ l ∈ L, l.length ≤ 1048576) ∧ (∀ l ∈ S, l.length ≤ 1048576) := ⟨fun l hl => szN_row (by omega) hl, fun l hl => szN_row (by omega) hl⟩
        have hqnext : next.length ≤ 1048576 ∧ ∀ l ∈ next, l.length ≤ 1048576 := ⟨szN_len (by omega), fun l hl => szN_row (by omega) hl⟩
        exact walk_core A0 c0 xs0 L B0 d0 ys0 S start next reqs Anext cnext ysnext Areqs creqs (Q.asQ L S next start reqs) w (lenX L S start next reqs) hz0 (by omega) hlL (by omega) hlS hrL hrS hwnext hrnext hlreqs hrreqs (fun A c xs B d ys Bnext dnext ysnext Breqs dreqs W h h' qnext qreqs => specAs_any A c xs L B d ys S W Bnext dnext ysnext next start reqs Breqs dreqs hrs.1 hrs.2 hlreqs hqnext.2 hqnext.1 h h' qnext qreqs) (fun A c xs B d ys Bnext dnext ysnext Breqs dreqs W h h' qnext qreqs => impAs_any A c xs L B d ys S W Bnext dnext ysnext next start reqs Breqs dreqs hrs.1 hrs.2 hlreqs hqnext.2 hqnext.1 h h' qnext qreqs)
      · exact walk_big_0 A0 c0 xs0 L B0 d0 ys0 S start next reqs Anext cnext ysnext Areqs creqs w hz hz0 (by omega) hlL (by omega) hlS hrL hrS (by omega) hwnext hrnext hlreqs
    · exact walk_big A0 c0 xs0 L B0 d0 ys0 S start next reqs Anext cnext ysnext Areqs creqs w hz (by omega) hlL (by omega) hlS hrL hrS (by omega) hwnext hrnext hlreqs
  · have hIreqs : ¬ (reqs.length : Int) ≤ 1048576 := by omega
    clear hrL hlL hrS hlS hrnext hrreqs
    go_enter Try.func4, Try.ntmps4
    go_wp2
    go_ret
    exact ⟨rfl, (Below.refl _ _).alloc (Nat.le_refl _) _⟩
end LAlgorithmStates
end Go.Proofs.Ythpoeeadhjnljaa
