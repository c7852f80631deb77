/-
  The walk of FnExactScheduleCost: ScheduleCost answers as the model does, whatever it is given, and writes into no argument.
  Conditions: none.
-/
import Derived.Test.YtphmjpafebljaaaRows
import Derived.Test.YtphmjpafebljaaaLawP
import Derived.Test.YtphmjpafebljaaaLawN
import Derived.Test.YtphmjpafebljaaaPlw
import Derived.Test.YtphmjpafebljaaaMarkI
import Derived.Test.YtphmjpafebljaaaSc3
import Derived.Deep.DeepHandedRow
namespace Go.Proofs.Ytphmjpafebljaaa
open Go.RowKit Go.ChangeShapes Go.WideShapes
set_option linter.unusedVariables false
namespace LScheduleCost
set_option maxRecDepth 20000 in
set_option maxHeartbeats 6400000 in
theorem walk_core (A0 : Option Addr) (c0 : Nat) (xs0 : List Value) (L : List (List Int)) (B0 : Option Addr) (d0 : Nat) (ys0 : List Value) (S : List (List Int)) (start : Int) (reqs : List Int) (states : List Int) (Areqs : Option Addr) (creqs : Nat) (Astates : Option Addr) (cstates : Nat) (X : Int × Bool) (w : World) (hz : (szN L : Int) + (szN S : Int) ≤ 1048576) (hnL : L.length ≤ maxLen) (hlL : ∀ l ∈ L, l.length ≤ maxLen) (hnS : S.length ≤ maxLen) (hlS : ∀ l ∈ S, l.length ≤ maxLen) (hL : NRow w A0 xs0 L) (hS : NRow w B0 ys0 S) (hnreqs : reqs.length ≤ 1048576) (HRreqs : Hid (Law.Row w Areqs (ivs reqs))) (hnstates : states.length ≤ 1048576) (HRstates : Hid (Law.Row w Astates (ivs states)))
    (HG : Hid (∀ (A : Option Addr) (c : Nat) (xs : List Value) (B : Option Addr) (d : Nat) (ys : List Value) (Breqs : Option Addr) (dreqs : Nat) (Bstates : Option Addr) (dstates : Nat) (W : World), NRow W A xs L → NRow W B ys S → Law.Row W Breqs (ivs reqs) → Law.Row W Bstates (ivs states) → Calls Try.prog 25 #[pv A L.length c B S.length d, .int .i64 start, .slice Breqs reqs.length dreqs, .slice Bstates states.length dstates] W fun r W' => r = .returned (.tuple #[.int .i64 X.1, .bool X.2]) ∧ Below W.heap.size W W'))
    (HH : Hid (∀ (A : Option Addr) (c : Nat) (xs : List Value) (B : Option Addr) (d : Nat) (ys : List Value) (Breqs : Option Addr) (dreqs : Nat) (Bstates : Option Addr) (dstates : Nat) (W : World), NRow W A xs L → NRow W B ys S → Law.Row W Breqs (ivs reqs) → Law.Row W Bstates (ivs states) → Calls Try.prog 27 #[pv A L.length c B S.length d, .int .i64 start, .slice Breqs reqs.length dreqs, .slice Bstates states.length dstates] W fun r W' => r = .returned (.tuple #[.int .i64 X.1, .bool X.2]) ∧ Below W.heap.size W W')) :
    Calls Try.prog 5 #[pv A0 L.length c0 B0 S.length d0, .int .i64 start, .slice Areqs reqs.length creqs, .slice Astates states.length cstates] w fun e w' => e = .returned (.bool true) ∧ Below w.heap.size w w' := by
  obtain ⟨y, z⟩ := X
  simp only [] at HG HH
  have hIreqs : (reqs.length : Int) ≤ 1048576 := by omega
  have hIstates : (states.length : Int) ≤ 1048576 := by omega
  have hsL : szOk L = true := szOk_iff.2 (by have : (szN L : Int) ≤ 1048576 := by omega
                                             unfold szN at this; omega)
  have hsS : szOk S = true := szOk_iff.2 (by have : (szN S : Int) ≤ 1048576 := by omega
                                             unfold szN at this; omega)
  have htL := (sz_rows hsL).2.2
  have htS := (sz_rows hsS).2.2
  have hzP : szPr L S = 1048576 - (szN L : Int) - (szN S : Int) := szPr_yes (by omega)
  have HSz := Lib.hid fun (W : World) (h : NRow W A0 xs0 L) (h' : NRow W B0 ys0 S) => szPrb_any A0 c0 xs0 L B0 d0 ys0 S W hnL hlL hnS hlS h h'
  rw [hzP] at HSz
  clear hzP
  generalize (szN L : Int) = zL at *
  generalize (szN S : Int) = zS at *
  have HTo := Lib.hid fun (W : World) (h : NRow W A0 xs0 L) (h' : NRow W B0 ys0 S) => toPrb_any A0 c0 xs0 L B0 d0 ys0 S W hsL hsS h h'
  have HEq := Lib.hid fun (W : World) A c xs B d ys A' c' xs' B' d' ys' (h1 : NRow W A xs L) (h2 : NRow W B ys S) (h3 : NRow W A' xs' L) (h4 : NRow W B' ys' S) => eqPrb_same A c xs L B d ys S A' c' xs' B' d' ys' W hsL hsS h1 h2 h3 h4
  have HP := Lib.hid (PIn.start (c := c0) (d := d0) hL hS 24)
  have HBs : Hid (Below w.heap.size w (w.alloc (.cells #[.slice A0 L.length c0, .slice B0 S.length d0] 24))) := Lib.hid ((Below.refl _ _).alloc (Nat.le_refl _) _)
  clear hL hS hlL hlS
  go_enter Try.func5, Try.ntmps5
  go_wp2_with fail
  generalize w.alloc (.cells #[.slice A0 L.length c0, .slice B0 S.length d0] 24) = w0 at HP HBs ⊢
  have p0 := HP.out.bk.c0
  have p1 := HP.out.bk.c1
  go_wp2_with fail
  go_at_call 15
  refine (HSz.out w0 HP.out.mv HP.out.sv).mono ?_
  rintro r w1 ⟨rfl, hb⟩
  have HB0 := Lib.hid hb
  clear hb
  have hs0 : ¬ (1048576 : Int) - zL - zS < 0 := by omega
  clear p0 p1
  have p0 := (HP.out.on (HB0.out)).bk.c0
  have p1 := (HP.out.on (HB0.out)).bk.c1
  go_wp2_with fail
  go_at_call 17
  refine (HTo.out w1 (HP.out.on (HB0.out)).mv (HP.out.on (HB0.out)).sv).mono ?_
  rintro r w2 ⟨A2, c2, xs2, B2, d2, ys2, rfl, ho, hb⟩
  have FV := Lib.hid ho
  clear ho
  have HB1 := Lib.hid hb
  clear hb
  clear p0 p1
  have p0 := (HP.out.on (Law.then_ (HB0.out) HB1.out)).bk.c0
  have p1 := (HP.out.on (Law.then_ (HB0.out) HB1.out)).bk.c1
  go_wp2_with fail
  go_at_call 26
  refine (toInt_any Areqs creqs reqs w2 hnreqs (HRreqs.out.stays (Law.then_ (Law.then_ (HBs.out) HB0.out) HB1.out))).mono ?_
  rintro r w3 ⟨v3, rfl, ho, hb⟩
  obtain ⟨A3, c3, rfl, hc3, _, _⟩ := Law.own_len ho
  have Fareqs := Lib.hid ho
  clear ho
  have HB2 := Lib.hid hb
  clear hb
  clear p0 p1
  have p0 := (HP.out.on (Law.then_ (Law.then_ (HB0.out) HB1.out) HB2.out)).bk.c0
  have p1 := (HP.out.on (Law.then_ (Law.then_ (HB0.out) HB1.out) HB2.out)).bk.c1
  go_wp2_with fail
  go_at_call 26
  refine (toInt_any Astates cstates states w3 hnstates (HRstates.out.stays (Law.then_ (Law.then_ (Law.then_ (HBs.out) HB0.out) HB1.out) HB2.out))).mono ?_
  rintro r w4 ⟨v4, rfl, ho, hb⟩
  obtain ⟨A4, c4, rfl, hc4, _, _⟩ := Law.own_len ho
  have Fastates := Lib.hid ho
  clear ho
  have HB3 := Lib.hid hb
  clear hb
  clear p0 p1
  have p0 := (HP.out.on (Law.then_ (Law.then_ (Law.then_ (HB0.out) HB1.out) HB2.out) HB3.out)).bk.c0
  have p1 := (HP.out.on (Law.then_ (Law.then_ (Law.then_ (HB0.out) HB1.out) HB2.out) HB3.out)).bk.c1
  go_wp2_with fail
  go_at_call 25
  refine (HG.out A2 c2 xs2 B2 d2 ys2 A3 c3 A4 c4 w4 (FV.out.mv.stays (Law.then_ (HB2.out) HB3.out)) (FV.out.sv.stays (Law.then_ (HB2.out) HB3.out)) ((Law.Row.own Fareqs.out).stays (HB3.out)) (Law.Row.own Fastates.out)).mono ?_
  rintro r w5 ⟨rfl, hb⟩
  have HB4 := Lib.hid hb
  clear hb
  clear p0 p1
  have p0 := (HP.out.on (Law.then_ (Law.then_ (Law.then_ (Law.then_ (HB0.out) HB1.out) HB2.out) HB3.out) HB4.out)).bk.c0
  have p1 := (HP.out.on (Law.then_ (Law.then_ (Law.then_ (Law.then_ (HB0.out) HB1.out) HB2.out) HB3.out) HB4.out)).bk.c1
  go_wp2_with fail
  go_at_call 17
  refine (HTo.out w5 (HP.out.on (Law.then_ (Law.then_ (Law.then_ (Law.then_ (HB0.out) HB1.out) HB2.out) HB3.out) HB4.out)).mv (HP.out.on (Law.then_ (Law.then_ (Law.then_ (Law.then_ (HB0.out) HB1.out) HB2.out) HB3.out) HB4.out)).sv).mono ?_
  rintro r w6 ⟨A6, c6, xs6, B6, d6, ys6, rfl, ho, hb⟩
  have FX := Lib.hid ho
  clear ho
  have HB5 := Lib.hid hb
  clear hb
  clear p0 p1
  have p0 := (HP.out.on (Law.then_ (Law.then_ (Law.then_ (Law.then_ (Law.then_ (HB0.out) HB1.out) HB2.out) HB3.out) HB4.out) HB5.out)).bk.c0
  have p1 := (HP.out.on (Law.then_ (Law.then_ (Law.then_ (Law.then_ (Law.then_ (HB0.out) HB1.out) HB2.out) HB3.out) HB4.out) HB5.out)).bk.c1
  have b9 : Below w6.heap.size w6 (w6.alloc (.cells #[.slice A6 L.length c6, .slice B6 S.length d6] 27)) := (Below.refl _ _).alloc (Nat.le_refl _) _
  have FQ := Lib.hid (Bk2.new w6 (.slice A6 L.length c6) (.slice B6 S.length d6) 27)
  obtain ⟨bq, hbq⟩ : ∃ bq, bq = w6.heap.size := ⟨_, rfl⟩
  go_wp2_with fail
  generalize w6.alloc (.cells #[.slice A6 L.length c6, .slice B6 S.length d6] 27) = w7 at b9 FQ ⊢
  rw [← hbq] at FQ ⊢
  clear hbq
  have HB6 := Lib.hid b9
  clear b9
  clear p0 p1
  have p0 := (HP.out.on (Law.then_ (Law.then_ (Law.then_ (Law.then_ (Law.then_ (Law.then_ (HB0.out) HB1.out) HB2.out) HB3.out) HB4.out) HB5.out) HB6.out)).bk.c0
  have p1 := (HP.out.on (Law.then_ (Law.then_ (Law.then_ (Law.then_ (Law.then_ (Law.then_ (HB0.out) HB1.out) HB2.out) HB3.out) HB4.out) HB5.out) HB6.out)).bk.c1
  go_wp2_with fail
  go_at_call 26
  refine (toInt_any Areqs creqs reqs w7 hnreqs (HRreqs.out.stays (Law.then_ (Law.then_ (Law.then_ (Law.then_ (Law.then_ (Law.then_ (Law.then_ (HBs.out) HB0.out) HB1.out) HB2.out) HB3.out) HB4.out) HB5.out) HB6.out))).mono ?_
  rintro r w8 ⟨v8, rfl, ho, hb⟩
  obtain ⟨A8, c8, rfl, hc8, _, _⟩ := Law.own_len ho
  have Fxreqs := Lib.hid ho
  clear ho
  have HB7 := Lib.hid hb
  clear hb
  clear p0 p1
  have p0 := (HP.out.on (Law.then_ (Law.then_ (Law.then_ (Law.then_ (Law.then_ (Law.then_ (Law.then_ (HB0.out) HB1.out) HB2.out) HB3.out) HB4.out) HB5.out) HB6.out) HB7.out)).bk.c0
  have p1 := (HP.out.on (Law.then_ (Law.then_ (Law.then_ (Law.then_ (Law.then_ (Law.then_ (Law.then_ (HB0.out) HB1.out) HB2.out) HB3.out) HB4.out) HB5.out) HB6.out) HB7.out)).bk.c1
  go_wp2_with fail
  go_at_call 26
  refine (toInt_any Astates cstates states w8 hnstates (HRstates.out.stays (Law.then_ (Law.then_ (Law.then_ (Law.then_ (Law.then_ (Law.then_ (Law.then_ (Law.then_ (HBs.out) HB0.out) HB1.out) HB2.out) HB3.out) HB4.out) HB5.out) HB6.out) HB7.out))).mono ?_
  rintro r w9 ⟨v9, rfl, ho, hb⟩
  obtain ⟨A9, c9, rfl, hc9, _, _⟩ := Law.own_len ho
  have Fxstates := Lib.hid ho
  clear ho
  have HB8 := Lib.hid hb
  clear hb
  clear p0 p1
  have p0 := (HP.out.on (Law.then_ (Law.then_ (Law.then_ (Law.then_ (Law.then_ (Law.then_ (Law.then_ (Law.then_ (HB0.out) HB1.out) HB2.out) HB3.out) HB4.out) HB5.out) HB6.out) HB7.out) HB8.out)).bk.c0
  have p1 := (HP.out.on (Law.then_ (Law.then_ (Law.then_ (Law.then_ (Law.then_ (Law.then_ (Law.then_ (Law.then_ (HB0.out) HB1.out) HB2.out) HB3.out) HB4.out) HB5.out) HB6.out) HB7.out) HB8.out)).bk.c1
  have q0 := (FQ.out.on (Law.then_ (HB7.out) HB8.out)).c0
  have q1 := (FQ.out.on (Law.then_ (HB7.out) HB8.out)).c1
  go_wp2_with fail
  go_at_call 27
  refine (HH.out A6 c6 xs6 B6 d6 ys6 A8 c8 A9 c9 w9 (FX.out.mv.stays (Law.then_ (Law.then_ (HB6.out) HB7.out) HB8.out)) (FX.out.sv.stays (Law.then_ (Law.then_ (HB6.out) HB7.out) HB8.out)) ((Law.Row.own Fxreqs.out).stays (HB8.out)) (Law.Row.own Fxstates.out)).mono ?_
  rintro r w10 ⟨rfl, hb⟩
  have HB9 := Lib.hid hb
  clear hb
  clear p0 p1
  have p0 := (HP.out.on (Law.then_ (Law.then_ (Law.then_ (Law.then_ (Law.then_ (Law.then_ (Law.then_ (Law.then_ (Law.then_ (HB0.out) HB1.out) HB2.out) HB3.out) HB4.out) HB5.out) HB6.out) HB7.out) HB8.out) HB9.out)).bk.c0
  have p1 := (HP.out.on (Law.then_ (Law.then_ (Law.then_ (Law.then_ (Law.then_ (Law.then_ (Law.then_ (Law.then_ (Law.then_ (HB0.out) HB1.out) HB2.out) HB3.out) HB4.out) HB5.out) HB6.out) HB7.out) HB8.out) HB9.out)).bk.c1
  clear q0 q1
  have q0 := (FQ.out.on (Law.then_ (Law.then_ (HB7.out) HB8.out) HB9.out)).c0
  have q1 := (FQ.out.on (Law.then_ (Law.then_ (HB7.out) HB8.out) HB9.out)).c1
  cases z
  all_goals
    go_wp2_with fail
    go_region_law ((first
      | (go_simp; go_at_call 17; refine (HTo.out _ ((HP.out.on (Law.then_ (Law.then_ (Law.then_ (Law.then_ (Law.then_ (Law.then_ (Law.then_ (Law.then_ (Law.then_ (HB0.out) HB1.out) HB2.out) HB3.out) HB4.out) HB5.out) HB6.out) HB7.out) HB8.out) HB9.out)).mv.stays ((Below.refl _ _).drew)) ((HP.out.on (Law.then_ (Law.then_ (Law.then_ (Law.then_ (Law.then_ (Law.then_ (Law.then_ (Law.then_ (Law.then_ (HB0.out) HB1.out) HB2.out) HB3.out) HB4.out) HB5.out) HB6.out) HB7.out) HB8.out) HB9.out)).sv.stays ((Below.refl _ _).drew))).mono ?_; rintro r w11 ⟨A11, c11, xs11, B11, d11, ys11, rfl, ho, hb⟩; have hb := ((Below.refl w10.heap.size w10).drew).trans hb; have HB10 := Lib.hid hb; have FZ := Lib.hid ho; clear ho hb; clear q0 q1; have q0 := (FQ.out.on (Law.then_ (Law.then_ (Law.then_ (HB7.out) HB8.out) HB9.out) HB10.out)).c0; have q1 := (FQ.out.on (Law.then_ (Law.then_ (Law.then_ (HB7.out) HB8.out) HB9.out) HB10.out)).c1)
      | (go_simp; go_at_call 19; refine (HEq.out _ A6 c6 xs6 B6 d6 ys6 A11 c11 xs11 B11 d11 ys11 (FX.out.mv.stays (Law.then_ (Law.then_ (Law.then_ (Law.then_ (HB6.out) HB7.out) HB8.out) HB9.out) HB10.out)) (FX.out.sv.stays (Law.then_ (Law.then_ (Law.then_ (Law.then_ (HB6.out) HB7.out) HB8.out) HB9.out) HB10.out)) FZ.out.mv FZ.out.sv).mono ?_; rintro r w12 ⟨rfl, hb⟩; have HB11 := Lib.hid hb; clear hb)))
    all_goals
      clear p0 p1 q0 q1
      have p0 := (HP.out.on (Law.then_ (Law.then_ (Law.then_ (Law.then_ (Law.then_ (Law.then_ (Law.then_ (Law.then_ (Law.then_ (Law.then_ (Law.then_ (HB0.out) HB1.out) HB2.out) HB3.out) HB4.out) HB5.out) HB6.out) HB7.out) HB8.out) HB9.out) HB10.out) HB11.out)).bk.c0
      have p1 := (HP.out.on (Law.then_ (Law.then_ (Law.then_ (Law.then_ (Law.then_ (Law.then_ (Law.then_ (Law.then_ (Law.then_ (Law.then_ (Law.then_ (HB0.out) HB1.out) HB2.out) HB3.out) HB4.out) HB5.out) HB6.out) HB7.out) HB8.out) HB9.out) HB10.out) HB11.out)).bk.c1
      go_wp2_with fail
      go_at_call 26
      refine (toInt_any Areqs creqs reqs w12 hnreqs (HRreqs.out.stays (Law.then_ (Law.then_ (Law.then_ (Law.then_ (Law.then_ (Law.then_ (Law.then_ (Law.then_ (Law.then_ (Law.then_ (Law.then_ (Law.then_ (HBs.out) HB0.out) HB1.out) HB2.out) HB3.out) HB4.out) HB5.out) HB6.out) HB7.out) HB8.out) HB9.out) HB10.out) HB11.out))).mono ?_
      rintro r w13 ⟨v13, rfl, ho, hb⟩
      obtain ⟨A13, c13, rfl, hc13, _, _⟩ := Law.own_len ho
      have Fyreqs := Lib.hid ho
      clear ho
      have HB12 := Lib.hid hb
      clear hb
      clear p0 p1
      have p0 := (HP.out.on (Law.then_ (Law.then_ (Law.then_ (Law.then_ (Law.then_ (Law.then_ (Law.then_ (Law.then_ (Law.then_ (Law.then_ (Law.then_ (Law.then_ (HB0.out) HB1.out) HB2.out) HB3.out) HB4.out) HB5.out) HB6.out) HB7.out) HB8.out) HB9.out) HB10.out) HB11.out) HB12.out)).bk.c0
      have p1 := (HP.out.on (Law.then_ (Law.then_ (Law.then_ (Law.then_ (Law.then_ (Law.then_ (Law.then_ (Law.then_ (Law.then_ (Law.then_ (Law.then_ (Law.then_ (HB0.out) HB1.out) HB2.out) HB3.out) HB4.out) HB5.out) HB6.out) HB7.out) HB8.out) HB9.out) HB10.out) HB11.out) HB12.out)).bk.c1
      go_wp2_with fail
      go_at_call 28
      refine (eqInt_same A8 A13 c8 c13 reqs w13 (by omega) ((Law.Row.own Fxreqs.out).stays (Law.then_ (Law.then_ (Law.then_ (Law.then_ (HB8.out) HB9.out) HB10.out) HB11.out) HB12.out)) (Law.Row.own Fyreqs.out)).mono ?_
      rintro r we1 ⟨rfl, m1, rfl⟩
      have hb : Below w13.heap.size w13 (w13.drewN m1) := Law.up (Below.refl _ _) _
      generalize World.drewN w13 m1 = w14 at hb ⊢
      have HB13 := Lib.hid hb
      clear hb
      clear p0 p1
      have p0 := (HP.out.on (Law.then_ (Law.then_ (Law.then_ (Law.then_ (Law.then_ (Law.then_ (Law.then_ (Law.then_ (Law.then_ (Law.then_ (Law.then_ (Law.then_ (Law.then_ (HB0.out) HB1.out) HB2.out) HB3.out) HB4.out) HB5.out) HB6.out) HB7.out) HB8.out) HB9.out) HB10.out) HB11.out) HB12.out) HB13.out)).bk.c0
      have p1 := (HP.out.on (Law.then_ (Law.then_ (Law.then_ (Law.then_ (Law.then_ (Law.then_ (Law.then_ (Law.then_ (Law.then_ (Law.then_ (Law.then_ (Law.then_ (Law.then_ (HB0.out) HB1.out) HB2.out) HB3.out) HB4.out) HB5.out) HB6.out) HB7.out) HB8.out) HB9.out) HB10.out) HB11.out) HB12.out) HB13.out)).bk.c1
      go_wp2_with fail
      go_at_call 26
      refine (toInt_any Astates cstates states w14 hnstates (HRstates.out.stays (Law.then_ (Law.then_ (Law.then_ (Law.then_ (Law.then_ (Law.then_ (Law.then_ (Law.then_ (Law.then_ (Law.then_ (Law.then_ (Law.then_ (Law.then_ (Law.then_ (HBs.out) HB0.out) HB1.out) HB2.out) HB3.out) HB4.out) HB5.out) HB6.out) HB7.out) HB8.out) HB9.out) HB10.out) HB11.out) HB12.out) HB13.out))).mono ?_
      rintro r w15 ⟨v15, rfl, ho, hb⟩
      obtain ⟨A15, c15, rfl, hc15, _, _⟩ := Law.own_len ho
      have Fystates := Lib.hid ho
      clear ho
      have HB14 := Lib.hid hb
      clear hb
      clear p0 p1
      have p0 := (HP.out.on (Law.then_ (Law.then_ (Law.then_ (Law.then_ (Law.then_ (Law.then_ (Law.then_ (Law.then_ (Law.then_ (Law.then_ (Law.then_ (Law.then_ (Law.then_ (Law.then_ (HB0.out) HB1.out) HB2.out) HB3.out) HB4.out) HB5.out) HB6.out) HB7.out) HB8.out) HB9.out) HB10.out) HB11.out) HB12.out) HB13.out) HB14.out)).bk.c0
      have p1 := (HP.out.on (Law.then_ (Law.then_ (Law.then_ (Law.then_ (Law.then_ (Law.then_ (Law.then_ (Law.then_ (Law.then_ (Law.then_ (Law.then_ (Law.then_ (Law.then_ (Law.then_ (HB0.out) HB1.out) HB2.out) HB3.out) HB4.out) HB5.out) HB6.out) HB7.out) HB8.out) HB9.out) HB10.out) HB11.out) HB12.out) HB13.out) HB14.out)).bk.c1
      go_wp2_with fail
      go_at_call 28
      refine (eqInt_same A9 A15 c9 c15 states w15 (by omega) ((Law.Row.own Fxstates.out).stays (Law.then_ (Law.then_ (Law.then_ (Law.then_ (Law.then_ (HB9.out) HB10.out) HB11.out) HB12.out) HB13.out) HB14.out)) (Law.Row.own Fystates.out)).mono ?_
      rintro r we2 ⟨rfl, m2, rfl⟩
      have hb : Below w15.heap.size w15 (w15.drewN m2) := Law.up (Below.refl _ _) _
      generalize World.drewN w15 m2 = w16 at hb ⊢
      have HB15 := Lib.hid hb
      clear hb
      clear p0 p1
      have p0 := (HP.out.on (Law.then_ (Law.then_ (Law.then_ (Law.then_ (Law.then_ (Law.then_ (Law.then_ (Law.then_ (Law.then_ (Law.then_ (Law.then_ (Law.then_ (Law.then_ (Law.then_ (Law.then_ (HB0.out) HB1.out) HB2.out) HB3.out) HB4.out) HB5.out) HB6.out) HB7.out) HB8.out) HB9.out) HB10.out) HB11.out) HB12.out) HB13.out) HB14.out) HB15.out)).bk.c0
      have p1 := (HP.out.on (Law.then_ (Law.then_ (Law.then_ (Law.then_ (Law.then_ (Law.then_ (Law.then_ (Law.then_ (Law.then_ (Law.then_ (Law.then_ (Law.then_ (Law.then_ (Law.then_ (Law.then_ (HB0.out) HB1.out) HB2.out) HB3.out) HB4.out) HB5.out) HB6.out) HB7.out) HB8.out) HB9.out) HB10.out) HB11.out) HB12.out) HB13.out) HB14.out) HB15.out)).bk.c1
      go_wp2
      go_ret
      exact ⟨rfl, Law.then_ (Law.then_ (Law.then_ (Law.then_ (Law.then_ (Law.then_ (Law.then_ (Law.then_ (Law.then_ (Law.then_ (Law.then_ (Law.then_ (Law.then_ (Law.then_ (Law.then_ (Law.then_ (HBs.out) HB0.out) HB1.out) HB2.out) HB3.out) HB4.out) HB5.out) HB6.out) HB7.out) HB8.out) HB9.out) HB10.out) HB11.out) HB12.out) HB13.out) HB14.out) HB15.out⟩
set_option maxHeartbeats 1600000 in
theorem walk_big (A0 : Option Addr) (c0 : Nat) (xs0 : List Value) (L : List (List Int)) (B0 : Option Addr) (d0 : Nat) (ys0 : List Value) (S : List (List Int)) (start : Int) (reqs : List Int) (states : List Int) (Areqs : Option Addr) (creqs : Nat) (Astates : Option Addr) (cstates : Nat) (w : World) (hz : ¬ (szN L : Int) + (szN S : Int) ≤ 1048576) (hnL : L.length ≤ maxLen) (hlL : ∀ l ∈ L, l.length ≤ maxLen) (hnS : S.length ≤ maxLen) (hlS : ∀ l ∈ S, l.length ≤ maxLen) (hL : NRow w A0 xs0 L) (hS : NRow w B0 ys0 S) (hnreqs : reqs.length ≤ 1048576) (hnstates : states.length ≤ 1048576) :
    Calls Try.prog 5 #[pv A0 L.length c0 B0 S.length d0, .int .i64 start, .slice Areqs reqs.length creqs, .slice Astates states.length cstates] w fun e w' => e = .returned (.bool true) ∧ Below w.heap.size w w' := by
  have hIreqs : (reqs.length : Int) ≤ 1048576 := by omega
  have hIstates : (states.length : Int) ≤ 1048576 := by omega
  have hzP : szPr L S = -1 := szPr_no hz
  have HSz := Lib.hid fun (W : World) (h : NRow W A0 xs0 L) (h' : NRow W B0 ys0 S) => szPrb_any A0 c0 xs0 L B0 d0 ys0 S W hnL hlL hnS hlS h h'
  rw [hzP] at HSz
  clear hzP
  have HP := Lib.hid (PIn.start (c := c0) (d := d0) hL hS 24)
  clear hL hS hlL hlS
  go_enter Try.func5, Try.ntmps5
  go_wp2_with fail
  generalize w.alloc (.cells #[.slice A0 L.length c0, .slice B0 S.length d0] 24) = w0 at HP ⊢
  have p0 := HP.out.bk.c0
  have p1 := HP.out.bk.c1
  go_wp2_with fail
  go_at_call 15
  refine (HSz.out w0 HP.out.mv HP.out.sv).mono ?_
  rintro r w1 ⟨rfl, hb⟩
  have HP1 := Lib.hid (HP.out.on hb)
  clear hb p0 p1
  have p0 := HP1.out.bk.c0
  have p1 := HP1.out.bk.c1
  go_wp2
  go_ret
  exact ⟨rfl, HP1.out.bl⟩
theorem walk (A0 : Option Addr) (n0 c0 : Nat) (xs0 : List Value) (L : List (List Int)) (B0 : Option Addr) (m0 d0 : Nat) (ys0 : List Value) (S : List (List Int)) (start : Int) (Areqs : Option Addr) (nreqs creqs : Nat) (reqs : List Int) (Astates : Option Addr) (nstates cstates : Nat) (states : List Int) (w : World) (h0 : L.length = n0 ∧ n0 ≤ c0 ∧ c0 ≤ maxLen ∧ (∀ l ∈ L, l.length ≤ maxLen) ∧ NRow w A0 xs0 L) (h1 : S.length = m0 ∧ m0 ≤ d0 ∧ d0 ≤ maxLen ∧ (∀ l ∈ S, l.length ≤ maxLen) ∧ NRow w B0 ys0 S) (hstart : (Lit.int .i64 start).wf = true) (hreqs : reqs.length = nreqs ∧ nreqs ≤ creqs ∧ creqs ≤ maxLen ∧ (∀ z ∈ reqs, (Lit.int .i64 z).wf = true) ∧ Law.Row w Areqs (reqs.map (Value.int .i64))) (hstates : states.length = nstates ∧ nstates ≤ cstates ∧ cstates ≤ maxLen ∧ (∀ z ∈ states, (Lit.int .i64 z).wf = true) ∧ Law.Row w Astates (states.map (Value.int .i64))) (hL : laidMetH Try.prog Rows.fnExactScheduleCostRow.laid w) (hsh : w.ShapedOpen Try.prog) :
    Calls Try.prog 5 #[.agg #[.slice A0 n0 c0, .slice B0 m0 d0], .int .i64 start, .slice Areqs nreqs creqs, .slice Astates nstates cstates] w fun e w' => e = .returned (.bool true) ∧ Below w.heap.size w w' := by
  obtain ⟨rfl, hcA, hcB, hlL, hrL⟩ := h0
  obtain ⟨rfl, hdA, hdB, hlS, hrS⟩ := h1
  obtain ⟨rfl, hAreqs, hBreqs, hwreqs, hrreqs⟩ := hreqs
  obtain ⟨rfl, hAstates, hBstates, hwstates, hrstates⟩ := hstates
  clear hL hsh
  by_cases hlreqs : reqs.length ≤ 1048576
  · skip
    by_cases hlstates : states.length ≤ 1048576
    · skip
      by_cases hz : (szN L : Int) + (szN S : Int) ≤ 1048576
      · skip
        have hrs : (∀ l ∈ L, l.length ≤ 1048576) ∧ (∀ l ∈ S, l.length ≤ 1048576) := ⟨fun l hl => szN_row (by omega) hl, fun l hl => szN_row (by omega) hl⟩
        exact walk_core A0 c0 xs0 L B0 d0 ys0 S start reqs states Areqs creqs Astates cstates (Q.schC L S start reqs states) w hz (by omega) hlL (by omega) hlS hrL hrS hlreqs hrreqs hlstates hrstates (fun A c xs B d ys Breqs dreqs Bstates dstates W h h' qreqs qstates => specSc_any A c xs L B d ys S W start reqs states Breqs dreqs Bstates dstates hrs.2 hlreqs hlstates h h' qreqs qstates) (fun A c xs B d ys Breqs dreqs Bstates dstates W h h' qreqs qstates => impSc_any A c xs L B d ys S W start reqs states Breqs dreqs Bstates dstates hrs.1 hrs.2 hlreqs hlstates h h' qreqs qstates)
      · exact walk_big A0 c0 xs0 L B0 d0 ys0 S start reqs states Areqs creqs Astates cstates w hz (by omega) hlL (by omega) hlS hrL hrS hlreqs hlstates
    · have hIstates : ¬ (states.length : Int) ≤ 1048576 := by omega
      have hIreqs : (reqs.length : Int) ≤ 1048576 := by omega
      clear hrL hlL hrS hlS hrreqs hrstates
      go_enter Try.func5, Try.ntmps5
      go_wp2
      go_ret
      exact ⟨rfl, (Below.refl _ _).alloc (Nat.le_refl _) _⟩
  · have hIreqs : ¬ (reqs.length : Int) ≤ 1048576 := by omega
    clear hrL hlL hrS hlS hrreqs hrstates
    go_enter Try.func5, Try.ntmps5
    go_wp2
    go_ret
    exact ⟨rfl, (Below.refl _ _).alloc (Nat.le_refl _) _⟩
end LScheduleCost
end Go.Proofs.Ytphmjpafebljaaa
