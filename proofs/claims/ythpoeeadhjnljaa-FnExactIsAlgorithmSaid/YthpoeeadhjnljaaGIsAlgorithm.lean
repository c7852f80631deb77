/-
  The walk of FnExactIsAlgorithm: IsAlgorithm answers as the model does, whatever it is given, and writes into no argument.
  Conditions: none.
-/
import Derived.Test.YthpoeeadhjnljaaRows
import Derived.Test.YthpoeeadhjnljaaLawP
import Derived.Test.YthpoeeadhjnljaaLawN
import Derived.Test.YthpoeeadhjnljaaPlw
import Derived.Test.YthpoeeadhjnljaaMarkI
import Derived.Test.YthpoeeadhjnljaaSzo
import Derived.Test.YthpoeeadhjnljaaAx8
import Derived.Deep.DeepHandedRow
namespace Go.Proofs.Ythpoeeadhjnljaa
open Go.RowKit Go.ChangeShapes Go.WideShapes
set_option linter.unusedVariables false
namespace LIsAlgorithm
set_option maxRecDepth 20000 in
set_option maxHeartbeats 6400000 in
theorem walk_core (A0 : Option Addr) (c0 : Nat) (xs0 : List Value) (L : List (List Int)) (B0 : Option Addr) (d0 : Nat) (ys0 : List Value) (S : List (List Int)) (next : List (List Int)) (Anext : Option Addr) (cnext : Nat) (ysnext : List Value) (X : Bool × Bool) (w : World) (hz : (szN L : Int) + (szN S : Int) + (szN next : Int) ≤ 1048576) (hnL : L.length ≤ maxLen) (hlL : ∀ l ∈ L, l.length ≤ maxLen) (hnS : S.length ≤ maxLen) (hlS : ∀ l ∈ S, l.length ≤ maxLen) (hL : NRow w A0 xs0 L) (hS : NRow w B0 ys0 S) (hmnext : ∀ l ∈ next, l.length ≤ maxLen) (HRnext : Hid (NRow w Anext ysnext next))
    (HG : Hid (∀ (A : Option Addr) (c : Nat) (xs : List Value) (B : Option Addr) (d : Nat) (ys : List Value) (Bnext : Option Addr) (dnext : Nat) (ysnext : List Value) (W : World), NRow W A xs L → NRow W B ys S → NRow W Bnext ysnext next → Calls Try.prog 17 #[pv A L.length c B S.length d, .slice Bnext next.length dnext] W fun r W' => r = .returned (.tuple #[.bool X.1, .bool X.2]) ∧ Below W.heap.size W W'))
    (HH : Hid (∀ (A : Option Addr) (c : Nat) (xs : List Value) (B : Option Addr) (d : Nat) (ys : List Value) (Bnext : Option Addr) (dnext : Nat) (ysnext : List Value) (W : World), NRow W A xs L → NRow W B ys S → NRow W Bnext ysnext next → Calls Try.prog 20 #[pv A L.length c B S.length d, .slice Bnext next.length dnext] W fun r W' => r = .returned (.tuple #[.bool X.1, .bool X.2]) ∧ Below W.heap.size W W')) :
    Calls Try.prog 3 #[pv A0 L.length c0 B0 S.length d0, .slice Anext next.length cnext] w fun e w' => e = .returned (.bool true) ∧ Below w.heap.size w w' := by
  obtain ⟨y, z⟩ := X
  simp only [] at HG HH
  have hsL : szOk L = true := szOk_iff.2 (by have : (szN L : Int) ≤ 1048576 := by omega
                                             unfold szN at this; omega)
  have hsS : szOk S = true := szOk_iff.2 (by have : (szN S : Int) ≤ 1048576 := by omega
                                             unfold szN at this; omega)
  have htL := (sz_rows hsL).2.2
  have htS := (sz_rows hsS).2.2
  have hsnext : szOk next = true := szOk_of (by omega)
  have htnext := (sz_rows hsnext).2.2
  have hzP : szPr L S = 1048576 - (szN L : Int) - (szN S : Int) := szPr_yes (by omega)
  have HSz := Lib.hid fun (W : World) (h : NRow W A0 xs0 L) (h' : NRow W B0 ys0 S) => szPrb_any A0 c0 xs0 L B0 d0 ys0 S W hnL hlL hnS hlS h h'
  rw [hzP] at HSz
  clear hzP
  have HTnext := Lib.hid fun (W : World) (h : NRow W Anext ysnext next) => toSS_any Anext cnext ysnext next W hsnext h
  have HEnext := Lib.hid fun (W : World) A B c d xs ys (h1 : NRow W A xs next) (h2 : NRow W B ys next) => eqSS_same A B c d xs ys next W (sz_rows hsnext).1 (sz_rows hsnext).2.1 h1 h2
  have HZnext := Lib.hid fun (W : World) (h : NRow W Anext ysnext next) => szSS_g Anext cnext ysnext next (1048576 - (szN L : Int) - (szN S : Int)) W (by omega) (by omega) (Nat.le_trans (sz_rows hsnext).1 (by unfold maxLen; omega)) hmnext h
  have hznext : szS (1048576 - (szN L : Int) - (szN S : Int)) next = 1048576 - (szN L : Int) - (szN S : Int) - (szN next : Int) := if_pos (by omega)
  rw [hznext] at HZnext
  clear hznext
  have h0zL : 0 ≤ (szN L : Int) := by omega
  have h0zS : 0 ≤ (szN S : Int) := by omega
  have h0znext : 0 ≤ (szN next : Int) := by omega
  generalize (szN L : Int) = zL at *
  generalize (szN S : Int) = zS at *
  generalize (szN next : Int) = znext at *
  have HTo := Lib.hid fun (W : World) (h : NRow W A0 xs0 L) (h' : NRow W B0 ys0 S) => toPrb_any A0 c0 xs0 L B0 d0 ys0 S W hsL hsS h h'
  have HEq := Lib.hid fun (W : World) A c xs B d ys A' c' xs' B' d' ys' (h1 : NRow W A xs L) (h2 : NRow W B ys S) (h3 : NRow W A' xs' L) (h4 : NRow W B' ys' S) => eqPrb_same A c xs L B d ys S A' c' xs' B' d' ys' W hsL hsS h1 h2 h3 h4
  have HP := Lib.hid (PIn.start (c := c0) (d := d0) hL hS 24)
  have HBs : Hid (Below w.heap.size w (w.alloc (.cells #[.slice A0 L.length c0, .slice B0 S.length d0] 24))) := Lib.hid ((Below.refl _ _).alloc (Nat.le_refl _) _)
  clear hL hS hlL hlS
  go_enter Try.func3, Try.ntmps3
  go_wp2_with fail
  generalize w.alloc (.cells #[.slice A0 L.length c0, .slice B0 S.length d0] 24) = w0 at HP HBs ⊢
  have p0 := HP.out.bk.c0
  have p1 := HP.out.bk.c1
  go_wp2_with fail
  go_at_call 15
  refine (HSz.out w0 HP.out.mv HP.out.sv).mono ?_
  rintro r w1 ⟨rfl, hb⟩
  have HB0 := Lib.hid hb
  clear hb
  have hs0 : ¬ (1048576 : Int) - zL - zS < 0 := by omega
  clear p0 p1
  have p0 := (HP.out.on (HB0.out)).bk.c0
  have p1 := (HP.out.on (HB0.out)).bk.c1
  have hs9next : ¬ (1048576 : Int) - zL - zS - znext < 0 := by omega
  go_wp2_with fail
  go_at_call 16
  refine (HZnext.out w1 (HRnext.out.stays (Law.then_ (HBs.out) HB0.out))).mono ?_
  rintro r w9 ⟨rfl, e9⟩
  obtain rfl := e9.symm
  clear e9
  go_wp2_with fail
  go_at_call 18
  refine (HTo.out w1 (HP.out.on (HB0.out)).mv (HP.out.on (HB0.out)).sv).mono ?_
  rintro r w2 ⟨A2, c2, xs2, B2, d2, ys2, rfl, ho, hb⟩
  have FV := Lib.hid ho
  clear ho
  have HB1 := Lib.hid hb
  clear hb
  clear p0 p1
  have p0 := (HP.out.on (Law.then_ (HB0.out) HB1.out)).bk.c0
  have p1 := (HP.out.on (Law.then_ (HB0.out) HB1.out)).bk.c1
  go_wp2_with fail
  go_at_call 19
  refine (HTnext.out w2 (HRnext.out.stays (Law.then_ (Law.then_ (HBs.out) HB0.out) HB1.out))).mono ?_
  rintro r w3 ⟨v3, ys3, rfl, ho, hn, hb⟩
  obtain ⟨A3, c3, rfl, _, _, _⟩ := Law.own_len ho
  have Fanext := Lib.hid ho
  have Fnanext := Lib.hid hn
  clear ho hn
  have HB2 := Lib.hid hb
  clear hb
  clear p0 p1
  have p0 := (HP.out.on (Law.then_ (Law.then_ (HB0.out) HB1.out) HB2.out)).bk.c0
  have p1 := (HP.out.on (Law.then_ (Law.then_ (HB0.out) HB1.out) HB2.out)).bk.c1
  go_wp2_with fail
  go_at_call 17
  refine (HG.out A2 c2 xs2 B2 d2 ys2 A3 c3 ys3 w3 (FV.out.mv.stays (HB2.out)) (FV.out.sv.stays (HB2.out)) (NRow.of Fanext.out Fnanext.out)).mono ?_
  rintro r w4 ⟨rfl, hb⟩
  have HB3 := Lib.hid hb
  clear hb
  clear p0 p1
  have p0 := (HP.out.on (Law.then_ (Law.then_ (Law.then_ (HB0.out) HB1.out) HB2.out) HB3.out)).bk.c0
  have p1 := (HP.out.on (Law.then_ (Law.then_ (Law.then_ (HB0.out) HB1.out) HB2.out) HB3.out)).bk.c1
  go_wp2_with fail
  go_at_call 18
  refine (HTo.out w4 (HP.out.on (Law.then_ (Law.then_ (Law.then_ (HB0.out) HB1.out) HB2.out) HB3.out)).mv (HP.out.on (Law.then_ (Law.then_ (Law.then_ (HB0.out) HB1.out) HB2.out) HB3.out)).sv).mono ?_
  rintro r w5 ⟨A5, c5, xs5, B5, d5, ys5, rfl, ho, hb⟩
  have FX := Lib.hid ho
  clear ho
  have HB4 := Lib.hid hb
  clear hb
  clear p0 p1
  have p0 := (HP.out.on (Law.then_ (Law.then_ (Law.then_ (Law.then_ (HB0.out) HB1.out) HB2.out) HB3.out) HB4.out)).bk.c0
  have p1 := (HP.out.on (Law.then_ (Law.then_ (Law.then_ (Law.then_ (HB0.out) HB1.out) HB2.out) HB3.out) HB4.out)).bk.c1
  have b9 : Below w5.heap.size w5 (w5.alloc (.cells #[.slice A5 L.length c5, .slice B5 S.length d5] 29)) := (Below.refl _ _).alloc (Nat.le_refl _) _
  have FQ := Lib.hid (Bk2.new w5 (.slice A5 L.length c5) (.slice B5 S.length d5) 29)
  obtain ⟨bq, hbq⟩ : ∃ bq, bq = w5.heap.size := ⟨_, rfl⟩
  go_wp2_with fail
  generalize w5.alloc (.cells #[.slice A5 L.length c5, .slice B5 S.length d5] 29) = w6 at b9 FQ ⊢
  rw [← hbq] at FQ ⊢
  clear hbq
  have HB5 := Lib.hid b9
  clear b9
  clear p0 p1
  have p0 := (HP.out.on (Law.then_ (Law.then_ (Law.then_ (Law.then_ (Law.then_ (HB0.out) HB1.out) HB2.out) HB3.out) HB4.out) HB5.out)).bk.c0
  have p1 := (HP.out.on (Law.then_ (Law.then_ (Law.then_ (Law.then_ (Law.then_ (HB0.out) HB1.out) HB2.out) HB3.out) HB4.out) HB5.out)).bk.c1
  go_wp2_with fail
  go_at_call 19
  refine (HTnext.out w6 (HRnext.out.stays (Law.then_ (Law.then_ (Law.then_ (Law.then_ (Law.then_ (Law.then_ (HBs.out) HB0.out) HB1.out) HB2.out) HB3.out) HB4.out) HB5.out))).mono ?_
  rintro r w7 ⟨v7, ys7, rfl, ho, hn, hb⟩
  obtain ⟨A7, c7, rfl, _, _, _⟩ := Law.own_len ho
  have Fxnext := Lib.hid ho
  have Fnxnext := Lib.hid hn
  clear ho hn
  have HB6 := Lib.hid hb
  clear hb
  clear p0 p1
  have p0 := (HP.out.on (Law.then_ (Law.then_ (Law.then_ (Law.then_ (Law.then_ (Law.then_ (HB0.out) HB1.out) HB2.out) HB3.out) HB4.out) HB5.out) HB6.out)).bk.c0
  have p1 := (HP.out.on (Law.then_ (Law.then_ (Law.then_ (Law.then_ (Law.then_ (Law.then_ (HB0.out) HB1.out) HB2.out) HB3.out) HB4.out) HB5.out) HB6.out)).bk.c1
  have q0 := (FQ.out.on (HB6.out)).c0
  have q1 := (FQ.out.on (HB6.out)).c1
  go_wp2_with fail
  go_at_call 20
  refine (HH.out A5 c5 xs5 B5 d5 ys5 A7 c7 ys7 w7 (FX.out.mv.stays (Law.then_ (HB5.out) HB6.out)) (FX.out.sv.stays (Law.then_ (HB5.out) HB6.out)) (NRow.of Fxnext.out Fnxnext.out)).mono ?_
  rintro r w8 ⟨rfl, hb⟩
  have HB7 := Lib.hid hb
  clear hb
  clear p0 p1
  have p0 := (HP.out.on (Law.then_ (Law.then_ (Law.then_ (Law.then_ (Law.then_ (Law.then_ (Law.then_ (HB0.out) HB1.out) HB2.out) HB3.out) HB4.out) HB5.out) HB6.out) HB7.out)).bk.c0
  have p1 := (HP.out.on (Law.then_ (Law.then_ (Law.then_ (Law.then_ (Law.then_ (Law.then_ (Law.then_ (HB0.out) HB1.out) HB2.out) HB3.out) HB4.out) HB5.out) HB6.out) HB7.out)).bk.c1
  clear q0 q1
  have q0 := (FQ.out.on (Law.then_ (HB6.out) HB7.out)).c0
  have q1 := (FQ.out.on (Law.then_ (HB6.out) HB7.out)).c1
  cases y <;> cases z
  all_goals
    go_wp2_with fail
    go_region_law ((first
      | (go_simp; go_at_call 18; refine (HTo.out _ ((HP.out.on (Law.then_ (Law.then_ (Law.then_ (Law.then_ (Law.then_ (Law.then_ (Law.then_ (HB0.out) HB1.out) HB2.out) HB3.out) HB4.out) HB5.out) HB6.out) HB7.out)).mv.stays ((Below.refl _ _).drew)) ((HP.out.on (Law.then_ (Law.then_ (Law.then_ (Law.then_ (Law.then_ (Law.then_ (Law.then_ (HB0.out) HB1.out) HB2.out) HB3.out) HB4.out) HB5.out) HB6.out) HB7.out)).sv.stays ((Below.refl _ _).drew))).mono ?_; rintro r w9 ⟨A9, c9, xs9, B9, d9, ys9, rfl, ho, hb⟩; have hb := ((Below.refl w8.heap.size w8).drew).trans hb; have HB8 := Lib.hid hb; have FZ := Lib.hid ho; clear ho hb; clear q0 q1; have q0 := (FQ.out.on (Law.then_ (Law.then_ (HB6.out) HB7.out) HB8.out)).c0; have q1 := (FQ.out.on (Law.then_ (Law.then_ (HB6.out) HB7.out) HB8.out)).c1)
      | (go_simp; go_at_call 21; refine (HEq.out _ A5 c5 xs5 B5 d5 ys5 A9 c9 xs9 B9 d9 ys9 (FX.out.mv.stays (Law.then_ (Law.then_ (Law.then_ (HB5.out) HB6.out) HB7.out) HB8.out)) (FX.out.sv.stays (Law.then_ (Law.then_ (Law.then_ (HB5.out) HB6.out) HB7.out) HB8.out)) FZ.out.mv FZ.out.sv).mono ?_; rintro r w10 ⟨rfl, hb⟩; have HB9 := Lib.hid hb; clear hb)))
    all_goals
      clear p0 p1 q0 q1
      have p0 := (HP.out.on (Law.then_ (Law.then_ (Law.then_ (Law.then_ (Law.then_ (Law.then_ (Law.then_ (Law.then_ (Law.then_ (HB0.out) HB1.out) HB2.out) HB3.out) HB4.out) HB5.out) HB6.out) HB7.out) HB8.out) HB9.out)).bk.c0
      have p1 := (HP.out.on (Law.then_ (Law.then_ (Law.then_ (Law.then_ (Law.then_ (Law.then_ (Law.then_ (Law.then_ (Law.then_ (HB0.out) HB1.out) HB2.out) HB3.out) HB4.out) HB5.out) HB6.out) HB7.out) HB8.out) HB9.out)).bk.c1
      go_wp2_with fail
      go_at_call 19
      refine (HTnext.out w10 (HRnext.out.stays (Law.then_ (Law.then_ (Law.then_ (Law.then_ (Law.then_ (Law.then_ (Law.then_ (Law.then_ (Law.then_ (Law.then_ (HBs.out) HB0.out) HB1.out) HB2.out) HB3.out) HB4.out) HB5.out) HB6.out) HB7.out) HB8.out) HB9.out))).mono ?_
      rintro r w11 ⟨v11, ys11, rfl, ho, hn, hb⟩
      obtain ⟨A11, c11, rfl, _, _, _⟩ := Law.own_len ho
      have Fynext := Lib.hid ho
      have Fnynext := Lib.hid hn
      clear ho hn
      have HB10 := Lib.hid hb
      clear hb
      clear p0 p1
      have p0 := (HP.out.on (Law.then_ (Law.then_ (Law.then_ (Law.then_ (Law.then_ (Law.then_ (Law.then_ (Law.then_ (Law.then_ (Law.then_ (HB0.out) HB1.out) HB2.out) HB3.out) HB4.out) HB5.out) HB6.out) HB7.out) HB8.out) HB9.out) HB10.out)).bk.c0
      have p1 := (HP.out.on (Law.then_ (Law.then_ (Law.then_ (Law.then_ (Law.then_ (Law.then_ (Law.then_ (Law.then_ (Law.then_ (Law.then_ (HB0.out) HB1.out) HB2.out) HB3.out) HB4.out) HB5.out) HB6.out) HB7.out) HB8.out) HB9.out) HB10.out)).bk.c1
      go_wp2_with fail
      go_at_call 22
      refine (HEnext.out w11 A7 A11 c7 c11 ys7 ys11 ((NRow.of Fxnext.out Fnxnext.out).stays (Law.then_ (Law.then_ (Law.then_ (HB7.out) HB8.out) HB9.out) HB10.out)) (NRow.of Fynext.out Fnynext.out)).mono ?_
      rintro r we1 ⟨rfl, m1, rfl⟩
      have hb : Below w11.heap.size w11 (w11.drewN m1) := Law.up (Below.refl _ _) _
      generalize World.drewN w11 m1 = w12 at hb ⊢
      have HB11 := Lib.hid hb
      clear hb
      clear p0 p1
      have p0 := (HP.out.on (Law.then_ (Law.then_ (Law.then_ (Law.then_ (Law.then_ (Law.then_ (Law.then_ (Law.then_ (Law.then_ (Law.then_ (Law.then_ (HB0.out) HB1.out) HB2.out) HB3.out) HB4.out) HB5.out) HB6.out) HB7.out) HB8.out) HB9.out) HB10.out) HB11.out)).bk.c0
      have p1 := (HP.out.on (Law.then_ (Law.then_ (Law.then_ (Law.then_ (Law.then_ (Law.then_ (Law.then_ (Law.then_ (Law.then_ (Law.then_ (Law.then_ (HB0.out) HB1.out) HB2.out) HB3.out) HB4.out) HB5.out) HB6.out) HB7.out) HB8.out) HB9.out) HB10.out) HB11.out)).bk.c1
      go_wp2
      go_ret
      exact ⟨rfl, Law.then_ (Law.then_ (Law.then_ (Law.then_ (Law.then_ (Law.then_ (Law.then_ (Law.then_ (Law.then_ (Law.then_ (Law.then_ (Law.then_ (HBs.out) HB0.out) HB1.out) HB2.out) HB3.out) HB4.out) HB5.out) HB6.out) HB7.out) HB8.out) HB9.out) HB10.out) HB11.out⟩
set_option maxHeartbeats 1600000 in
theorem walk_big (A0 : Option Addr) (c0 : Nat) (xs0 : List Value) (L : List (List Int)) (B0 : Option Addr) (d0 : Nat) (ys0 : List Value) (S : List (List Int)) (next : List (List Int)) (Anext : Option Addr) (cnext : Nat) (ysnext : List Value) (w : World) (hz : ¬ (szN L : Int) + (szN S : Int) ≤ 1048576) (hnL : L.length ≤ maxLen) (hlL : ∀ l ∈ L, l.length ≤ maxLen) (hnS : S.length ≤ maxLen) (hlS : ∀ l ∈ S, l.length ≤ maxLen) (hL : NRow w A0 xs0 L) (hS : NRow w B0 ys0 S) (hMnext : next.length ≤ maxLen) (hmnext : ∀ l ∈ next, l.length ≤ maxLen) (HRnext : Hid (NRow w Anext ysnext next)) :
    Calls Try.prog 3 #[pv A0 L.length c0 B0 S.length d0, .slice Anext next.length cnext] w fun e w' => e = .returned (.bool true) ∧ Below w.heap.size w w' := by
  have hzP : szPr L S = -1 := szPr_no hz
  have HSz := Lib.hid fun (W : World) (h : NRow W A0 xs0 L) (h' : NRow W B0 ys0 S) => szPrb_any A0 c0 xs0 L B0 d0 ys0 S W hnL hlL hnS hlS h h'
  rw [hzP] at HSz
  clear hzP
  have HP := Lib.hid (PIn.start (c := c0) (d := d0) hL hS 24)
  clear hL hS hlL hlS
  go_enter Try.func3, Try.ntmps3
  go_wp2_with fail
  generalize w.alloc (.cells #[.slice A0 L.length c0, .slice B0 S.length d0] 24) = w0 at HP ⊢
  have p0 := HP.out.bk.c0
  have p1 := HP.out.bk.c1
  go_wp2_with fail
  go_at_call 15
  refine (HSz.out w0 HP.out.mv HP.out.sv).mono ?_
  rintro r w1 ⟨rfl, hb⟩
  have HP1 := Lib.hid (HP.out.on hb)
  clear hb p0 p1
  have p0 := HP1.out.bk.c0
  have p1 := HP1.out.bk.c1
  go_wp2
  go_ret
  exact ⟨rfl, HP1.out.bl⟩
set_option maxHeartbeats 1600000 in
theorem walk_big_0 (A0 : Option Addr) (c0 : Nat) (xs0 : List Value) (L : List (List Int)) (B0 : Option Addr) (d0 : Nat) (ys0 : List Value) (S : List (List Int)) (next : List (List Int)) (Anext : Option Addr) (cnext : Nat) (ysnext : List Value) (w : World) (hz : (szN L : Int) + (szN S : Int) ≤ 1048576) (hzz : ¬ (szN L : Int) + (szN S : Int) + (szN next : Int) ≤ 1048576) (hnL : L.length ≤ maxLen) (hlL : ∀ l ∈ L, l.length ≤ maxLen) (hnS : S.length ≤ maxLen) (hlS : ∀ l ∈ S, l.length ≤ maxLen) (hL : NRow w A0 xs0 L) (hS : NRow w B0 ys0 S) (hMnext : next.length ≤ maxLen) (hmnext : ∀ l ∈ next, l.length ≤ maxLen) (HRnext : Hid (NRow w Anext ysnext next)) :
    Calls Try.prog 3 #[pv A0 L.length c0 B0 S.length d0, .slice Anext next.length cnext] w fun e w' => e = .returned (.bool true) ∧ Below w.heap.size w w' := by
  have hzP : szPr L S = 1048576 - (szN L : Int) - (szN S : Int) := szPr_yes (by omega)
  have HSz := Lib.hid fun (W : World) (h : NRow W A0 xs0 L) (h' : NRow W B0 ys0 S) => szPrb_any A0 c0 xs0 L B0 d0 ys0 S W hnL hlL hnS hlS h h'
  rw [hzP] at HSz
  clear hzP
  have HZnext := Lib.hid fun (W : World) (h : NRow W Anext ysnext next) => szSS_g Anext cnext ysnext next (1048576 - (szN L : Int) - (szN S : Int)) W (by omega) (by omega) hMnext hmnext h
  have hznext : szS (1048576 - (szN L : Int) - (szN S : Int)) next = -1 := if_neg (by omega)
  rw [hznext] at HZnext
  clear hznext
  have hs0 : ¬ (1048576 : Int) - (szN L : Int) - (szN S : Int) < 0 := by omega
  generalize (szN L : Int) = zL at *
  generalize (szN S : Int) = zS at *
  generalize (szN next : Int) = znext at *
  have HP := Lib.hid (PIn.start (c := c0) (d := d0) hL hS 24)
  clear hL hS hlL hlS
  go_enter Try.func3, Try.ntmps3
  go_wp2_with fail
  generalize w.alloc (.cells #[.slice A0 L.length c0, .slice B0 S.length d0] 24) = w0 at HP ⊢
  have p0 := HP.out.bk.c0
  have p1 := HP.out.bk.c1
  go_wp2_with fail
  go_at_call 15
  refine (HSz.out w0 HP.out.mv HP.out.sv).mono ?_
  rintro r w1 ⟨rfl, hb⟩
  have HP1 := Lib.hid (HP.out.on hb)
  clear hb p0 p1
  have p0 := HP1.out.bk.c0
  have p1 := HP1.out.bk.c1
  go_wp2_with fail
  go_at_call 16
  refine (HZnext.out w1 (HRnext.out.stays HP1.out.bl)).mono ?_
  rintro r w9 ⟨rfl, e9⟩
  obtain rfl := e9.symm
  clear e9
  go_wp2
  go_ret
  exact ⟨rfl, HP1.out.bl⟩
theorem walk (A0 : Option Addr) (n0 c0 : Nat) (xs0 : List Value) (L : List (List Int)) (B0 : Option Addr) (m0 d0 : Nat) (ys0 : List Value) (S : List (List Int)) (Anext : Option Addr) (nnext cnext : Nat) (ysnext : List Value) (next : List (List Int)) (w : World) (h0 : L.length = n0 ∧ n0 ≤ c0 ∧ c0 ≤ maxLen ∧ (∀ l ∈ L, l.length ≤ maxLen) ∧ NRow w A0 xs0 L) (h1 : S.length = m0 ∧ m0 ≤ d0 ∧ d0 ≤ maxLen ∧ (∀ l ∈ S, l.length ≤ maxLen) ∧ NRow w B0 ys0 S) (hnext : next.length = nnext ∧ nnext ≤ cnext ∧ cnext ≤ maxLen ∧ (∀ l ∈ next, l.length ≤ maxLen) ∧ NRow w Anext ysnext next) (hL : laidMetH Try.prog Rows.fnExactIsAlgorithmRow.laid w) (hsh : w.ShapedOpen Try.prog) :
    Calls Try.prog 3 #[.agg #[.slice A0 n0 c0, .slice B0 m0 d0], .slice Anext nnext cnext] w fun e w' => e = .returned (.bool true) ∧ Below w.heap.size w w' := by
  obtain ⟨rfl, hcA, hcB, hlL, hrL⟩ := h0
  obtain ⟨rfl, hdA, hdB, hlS, hrS⟩ := h1
  obtain ⟨rfl, hAnext, hBnext, hwnext, hrnext⟩ := hnext
  clear hL hsh
  by_cases hz : (szN L : Int) + (szN S : Int) ≤ 1048576
  · skip
    by_cases hz0 : (szN L : Int) + (szN S : Int) + (szN next : Int) ≤ 1048576
    · skip
      have hrs : (∀ l ∈ L, l.length ≤ 1048576) ∧ (∀ l ∈ S, l.length ≤ 1048576) := ⟨fun l hl => szN_row (by omega) hl, fun l hl => szN_row (by omega) hl⟩
      have hqnext : next.length ≤ 1048576 ∧ ∀ l ∈ next, l.length ≤ 1048576 := ⟨szN_len (by omega), fun l hl => szN_row (by omega) hl⟩
      exact walk_core A0 c0 xs0 L B0 d0 ys0 S next Anext cnext ysnext (Q.iaQ L S next) w hz0 (by omega) hlL (by omega) hlS hrL hrS hwnext hrnext (fun A c xs B d ys Bnext dnext ysnext W h h' qnext => specIa_any A c xs L B d ys S W Bnext dnext ysnext next hrs.1 hrs.2 hqnext.2 hqnext.1 h h' qnext) (fun A c xs B d ys Bnext dnext ysnext W h h' qnext => impIa_any A c xs L B d ys S W Bnext dnext ysnext next hrs.1 hrs.2 hqnext.2 hqnext.1 h h' qnext)
    · exact walk_big_0 A0 c0 xs0 L B0 d0 ys0 S next Anext cnext ysnext w hz hz0 (by omega) hlL (by omega) hlS hrL hrS (by omega) hwnext hrnext
  · exact walk_big A0 c0 xs0 L B0 d0 ys0 S next Anext cnext ysnext w hz (by omega) hlL (by omega) hlS hrL hrS (by omega) hwnext hrnext
end LIsAlgorithm
end Go.Proofs.Ythpoeeadhjnljaa
