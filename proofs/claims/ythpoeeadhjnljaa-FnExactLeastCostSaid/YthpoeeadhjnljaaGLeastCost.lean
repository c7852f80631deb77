/-
  The walk of FnExactLeastCost: LeastCost answers as the model does, whatever it is given, and writes into no argument.
  Conditions: none.
-/
import Derived.Test.YthpoeeadhjnljaaRows
import Derived.Test.YthpoeeadhjnljaaLawP
import Derived.Test.YthpoeeadhjnljaaLawN
import Derived.Test.YthpoeeadhjnljaaPlw
import Derived.Test.YthpoeeadhjnljaaMarkI
import Derived.Test.YthpoeeadhjnljaaSzo
import Derived.Test.YthpoeeadhjnljaaLc8
import Derived.Deep.DeepHandedRow
namespace Go.Proofs.Ythpoeeadhjnljaa
open Go.RowKit Go.ChangeShapes Go.WideShapes
set_option linter.unusedVariables false
namespace LLeastCost
set_option maxRecDepth 20000 in
set_option maxHeartbeats 6400000 in
theorem walk_core (A0 : Option Addr) (c0 : Nat) (xs0 : List Value) (L : List (List Int)) (B0 : Option Addr) (d0 : Nat) (ys0 : List Value) (S : List (List Int)) (start : Int) (reqs : List Int) (Areqs : Option Addr) (creqs : Nat) (X : Int × Bool) (w : World) (hz : (szN L : Int) + (szN S : Int) ≤ 1048576) (hnL : L.length ≤ maxLen) (hlL : ∀ l ∈ L, l.length ≤ maxLen) (hnS : S.length ≤ maxLen) (hlS : ∀ l ∈ S, l.length ≤ maxLen) (hL : NRow w A0 xs0 L) (hS : NRow w B0 ys0 S) (hnreqs : reqs.length ≤ 1048576) (HRreqs : Hid (Law.Row w Areqs (ivs reqs)))
    (HG : Hid (∀ (A : Option Addr) (c : Nat) (xs : List Value) (B : Option Addr) (d : Nat) (ys : List Value) (Breqs : Option Addr) (dreqs : Nat) (W : World), NRow W A xs L → NRow W B ys S → Law.Row W Breqs (ivs reqs) → Calls Try.prog 33 #[pv A L.length c B S.length d, .int .i64 start, .slice Breqs reqs.length dreqs] W fun r W' => r = .returned (.tuple #[.int .i64 X.1, .bool X.2]) ∧ Below W.heap.size W W'))
    (HH : Hid (∀ (A : Option Addr) (c : Nat) (xs : List Value) (B : Option Addr) (d : Nat) (ys : List Value) (Breqs : Option Addr) (dreqs : Nat) (W : World), NRow W A xs L → NRow W B ys S → Law.Row W Breqs (ivs reqs) → Calls Try.prog 34 #[pv A L.length c B S.length d, .int .i64 start, .slice Breqs reqs.length dreqs] W fun r W' => r = .returned (.tuple #[.int .i64 X.1, .bool X.2]) ∧ Below W.heap.size W W')) :
    Calls Try.prog 6 #[pv A0 L.length c0 B0 S.length d0, .int .i64 start, .slice Areqs reqs.length creqs] w fun e w' => e = .returned (.bool true) ∧ Below w.heap.size w w' := by
  obtain ⟨y, z⟩ := X
  simp only [] at HG HH
  have hIreqs : (reqs.length : Int) ≤ 1048576 := by omega
  have hsL : szOk L = true := szOk_iff.2 (by have : (szN L : Int) ≤ 1048576 := by omega
                                             unfold szN at this; omega)
  have hsS : szOk S = true := szOk_iff.2 (by have : (szN S : Int) ≤ 1048576 := by omega
                                             unfold szN at this; omega)
  have htL := (sz_rows hsL).2.2
  have htS := (sz_rows hsS).2.2
  have hzP : szPr L S = 1048576 - (szN L : Int) - (szN S : Int) := szPr_yes (by omega)
  have HSz := Lib.hid fun (W : World) (h : NRow W A0 xs0 L) (h' : NRow W B0 ys0 S) => szPrb_any A0 c0 xs0 L B0 d0 ys0 S W hnL hlL hnS hlS h h'
  rw [hzP] at HSz
  clear hzP
  have h0zL : 0 ≤ (szN L : Int) := by omega
  have h0zS : 0 ≤ (szN S : Int) := by omega
  generalize (szN L : Int) = zL at *
  generalize (szN S : Int) = zS at *
  have HTo := Lib.hid fun (W : World) (h : NRow W A0 xs0 L) (h' : NRow W B0 ys0 S) => toPrb_any A0 c0 xs0 L B0 d0 ys0 S W hsL hsS h h'
  have HEq := Lib.hid fun (W : World) A c xs B d ys A' c' xs' B' d' ys' (h1 : NRow W A xs L) (h2 : NRow W B ys S) (h3 : NRow W A' xs' L) (h4 : NRow W B' ys' S) => eqPrb_same A c xs L B d ys S A' c' xs' B' d' ys' W hsL hsS h1 h2 h3 h4
  have HP := Lib.hid (PIn.start (c := c0) (d := d0) hL hS 24)
  have HBs : Hid (Below w.heap.size w (w.alloc (.cells #[.slice A0 L.length c0, .slice B0 S.length d0] 24))) := Lib.hid ((Below.refl _ _).alloc (Nat.le_refl _) _)
  clear hL hS hlL hlS
  go_enter Try.func6, Try.ntmps6
  go_wp2_with fail
  generalize w.alloc (.cells #[.slice A0 L.length c0, .slice B0 S.length d0] 24) = w0 at HP HBs ⊢
  have p0 := HP.out.bk.c0
  have p1 := HP.out.bk.c1
  go_wp2_with fail
  go_at_call 15
  refine (HSz.out w0 HP.out.mv HP.out.sv).mono ?_
  rintro r w1 ⟨rfl, hb⟩
  have HB0 := Lib.hid hb
  clear hb
  have hs0 : ¬ (1048576 : Int) - zL - zS < 0 := by omega
  clear p0 p1
  have p0 := (HP.out.on (HB0.out)).bk.c0
  have p1 := (HP.out.on (HB0.out)).bk.c1
  go_wp2_with fail
  go_at_call 18
  refine (HTo.out w1 (HP.out.on (HB0.out)).mv (HP.out.on (HB0.out)).sv).mono ?_
  rintro r w2 ⟨A2, c2, xs2, B2, d2, ys2, rfl, ho, hb⟩
  have FV := Lib.hid ho
  clear ho
  have HB1 := Lib.hid hb
  clear hb
  clear p0 p1
  have p0 := (HP.out.on (Law.then_ (HB0.out) HB1.out)).bk.c0
  have p1 := (HP.out.on (Law.then_ (HB0.out) HB1.out)).bk.c1
  go_wp2_with fail
  go_at_call 24
  refine (toInt_any Areqs creqs reqs w2 hnreqs (HRreqs.out.stays (Law.then_ (Law.then_ (HBs.out) HB0.out) HB1.out))).mono ?_
  rintro r w3 ⟨v3, rfl, ho, hb⟩
  obtain ⟨A3, c3, rfl, hc3, _, _⟩ := Law.own_len ho
  have Fareqs := Lib.hid ho
  clear ho
  have HB2 := Lib.hid hb
  clear hb
  clear p0 p1
  have p0 := (HP.out.on (Law.then_ (Law.then_ (HB0.out) HB1.out) HB2.out)).bk.c0
  have p1 := (HP.out.on (Law.then_ (Law.then_ (HB0.out) HB1.out) HB2.out)).bk.c1
  go_wp2_with fail
  go_at_call 33
  refine (HG.out A2 c2 xs2 B2 d2 ys2 A3 c3 w3 (FV.out.mv.stays (HB2.out)) (FV.out.sv.stays (HB2.out)) (Law.Row.own Fareqs.out)).mono ?_
  rintro r w4 ⟨rfl, hb⟩
  have HB3 := Lib.hid hb
  clear hb
  clear p0 p1
  have p0 := (HP.out.on (Law.then_ (Law.then_ (Law.then_ (HB0.out) HB1.out) HB2.out) HB3.out)).bk.c0
  have p1 := (HP.out.on (Law.then_ (Law.then_ (Law.then_ (HB0.out) HB1.out) HB2.out) HB3.out)).bk.c1
  go_wp2_with fail
  go_at_call 18
  refine (HTo.out w4 (HP.out.on (Law.then_ (Law.then_ (Law.then_ (HB0.out) HB1.out) HB2.out) HB3.out)).mv (HP.out.on (Law.then_ (Law.then_ (Law.then_ (HB0.out) HB1.out) HB2.out) HB3.out)).sv).mono ?_
  rintro r w5 ⟨A5, c5, xs5, B5, d5, ys5, rfl, ho, hb⟩
  have FX := Lib.hid ho
  clear ho
  have HB4 := Lib.hid hb
  clear hb
  clear p0 p1
  have p0 := (HP.out.on (Law.then_ (Law.then_ (Law.then_ (Law.then_ (HB0.out) HB1.out) HB2.out) HB3.out) HB4.out)).bk.c0
  have p1 := (HP.out.on (Law.then_ (Law.then_ (Law.then_ (Law.then_ (HB0.out) HB1.out) HB2.out) HB3.out) HB4.out)).bk.c1
  have b9 : Below w5.heap.size w5 (w5.alloc (.cells #[.slice A5 L.length c5, .slice B5 S.length d5] 29)) := (Below.refl _ _).alloc (Nat.le_refl _) _
  have FQ := Lib.hid (Bk2.new w5 (.slice A5 L.length c5) (.slice B5 S.length d5) 29)
  obtain ⟨bq, hbq⟩ : ∃ bq, bq = w5.heap.size := ⟨_, rfl⟩
  go_wp2_with fail
  generalize w5.alloc (.cells #[.slice A5 L.length c5, .slice B5 S.length d5] 29) = w6 at b9 FQ ⊢
  rw [← hbq] at FQ ⊢
  clear hbq
  have HB5 := Lib.hid b9
  clear b9
  clear p0 p1
  have p0 := (HP.out.on (Law.then_ (Law.then_ (Law.then_ (Law.then_ (Law.then_ (HB0.out) HB1.out) HB2.out) HB3.out) HB4.out) HB5.out)).bk.c0
  have p1 := (HP.out.on (Law.then_ (Law.then_ (Law.then_ (Law.then_ (Law.then_ (HB0.out) HB1.out) HB2.out) HB3.out) HB4.out) HB5.out)).bk.c1
  go_wp2_with fail
  go_at_call 24
  refine (toInt_any Areqs creqs reqs w6 hnreqs (HRreqs.out.stays (Law.then_ (Law.then_ (Law.then_ (Law.then_ (Law.then_ (Law.then_ (HBs.out) HB0.out) HB1.out) HB2.out) HB3.out) HB4.out) HB5.out))).mono ?_
  rintro r w7 ⟨v7, rfl, ho, hb⟩
  obtain ⟨A7, c7, rfl, hc7, _, _⟩ := Law.own_len ho
  have Fxreqs := Lib.hid ho
  clear ho
  have HB6 := Lib.hid hb
  clear hb
  clear p0 p1
  have p0 := (HP.out.on (Law.then_ (Law.then_ (Law.then_ (Law.then_ (Law.then_ (Law.then_ (HB0.out) HB1.out) HB2.out) HB3.out) HB4.out) HB5.out) HB6.out)).bk.c0
  have p1 := (HP.out.on (Law.then_ (Law.then_ (Law.then_ (Law.then_ (Law.then_ (Law.then_ (HB0.out) HB1.out) HB2.out) HB3.out) HB4.out) HB5.out) HB6.out)).bk.c1
  have q0 := (FQ.out.on (HB6.out)).c0
  have q1 := (FQ.out.on (HB6.out)).c1
  go_wp2_with fail
  go_at_call 34
  refine (HH.out A5 c5 xs5 B5 d5 ys5 A7 c7 w7 (FX.out.mv.stays (Law.then_ (HB5.out) HB6.out)) (FX.out.sv.stays (Law.then_ (HB5.out) HB6.out)) (Law.Row.own Fxreqs.out)).mono ?_
  rintro r w8 ⟨rfl, hb⟩
  have HB7 := Lib.hid hb
  clear hb
  clear p0 p1
  have p0 := (HP.out.on (Law.then_ (Law.then_ (Law.then_ (Law.then_ (Law.then_ (Law.then_ (Law.then_ (HB0.out) HB1.out) HB2.out) HB3.out) HB4.out) HB5.out) HB6.out) HB7.out)).bk.c0
  have p1 := (HP.out.on (Law.then_ (Law.then_ (Law.then_ (Law.then_ (Law.then_ (Law.then_ (Law.then_ (HB0.out) HB1.out) HB2.out) HB3.out) HB4.out) HB5.out) HB6.out) HB7.out)).bk.c1
  clear q0 q1
  have q0 := (FQ.out.on (Law.then_ (HB6.out) HB7.out)).c0
  have q1 := (FQ.out.on (Law.then_ (HB6.out) HB7.out)).c1
  cases z
  all_goals
    go_wp2_with fail
    go_region_law ((first
      | (go_simp; go_at_call 18; refine (HTo.out _ ((HP.out.on (Law.then_ (Law.then_ (Law.then_ (Law.then_ (Law.then_ (Law.then_ (Law.then_ (HB0.out) HB1.out) HB2.out) HB3.out) HB4.out) HB5.out) HB6.out) HB7.out)).mv.stays ((Below.refl _ _).drew)) ((HP.out.on (Law.then_ (Law.then_ (Law.then_ (Law.then_ (Law.then_ (Law.then_ (Law.then_ (HB0.out) HB1.out) HB2.out) HB3.out) HB4.out) HB5.out) HB6.out) HB7.out)).sv.stays ((Below.refl _ _).drew))).mono ?_; rintro r w9 ⟨A9, c9, xs9, B9, d9, ys9, rfl, ho, hb⟩; have hb := ((Below.refl w8.heap.size w8).drew).trans hb; have HB8 := Lib.hid hb; have FZ := Lib.hid ho; clear ho hb; clear q0 q1; have q0 := (FQ.out.on (Law.then_ (Law.then_ (HB6.out) HB7.out) HB8.out)).c0; have q1 := (FQ.out.on (Law.then_ (Law.then_ (HB6.out) HB7.out) HB8.out)).c1)
      | (go_simp; go_at_call 21; refine (HEq.out _ A5 c5 xs5 B5 d5 ys5 A9 c9 xs9 B9 d9 ys9 (FX.out.mv.stays (Law.then_ (Law.then_ (Law.then_ (HB5.out) HB6.out) HB7.out) HB8.out)) (FX.out.sv.stays (Law.then_ (Law.then_ (Law.then_ (HB5.out) HB6.out) HB7.out) HB8.out)) FZ.out.mv FZ.out.sv).mono ?_; rintro r w10 ⟨rfl, hb⟩; have HB9 := Lib.hid hb; clear hb)))
    all_goals
      clear p0 p1 q0 q1
      have p0 := (HP.out.on (Law.then_ (Law.then_ (Law.then_ (Law.then_ (Law.then_ (Law.then_ (Law.then_ (Law.then_ (Law.then_ (HB0.out) HB1.out) HB2.out) HB3.out) HB4.out) HB5.out) HB6.out) HB7.out) HB8.out) HB9.out)).bk.c0
      have p1 := (HP.out.on (Law.then_ (Law.then_ (Law.then_ (Law.then_ (Law.then_ (Law.then_ (Law.then_ (Law.then_ (Law.then_ (HB0.out) HB1.out) HB2.out) HB3.out) HB4.out) HB5.out) HB6.out) HB7.out) HB8.out) HB9.out)).bk.c1
      go_wp2_with fail
      go_at_call 24
      refine (toInt_any Areqs creqs reqs w10 hnreqs (HRreqs.out.stays (Law.then_ (Law.then_ (Law.then_ (Law.then_ (Law.then_ (Law.then_ (Law.then_ (Law.then_ (Law.then_ (Law.then_ (HBs.out) HB0.out) HB1.out) HB2.out) HB3.out) HB4.out) HB5.out) HB6.out) HB7.out) HB8.out) HB9.out))).mono ?_
      rintro r w11 ⟨v11, rfl, ho, hb⟩
      obtain ⟨A11, c11, rfl, hc11, _, _⟩ := Law.own_len ho
      have Fyreqs := Lib.hid ho
      clear ho
      have HB10 := Lib.hid hb
      clear hb
      clear p0 p1
      have p0 := (HP.out.on (Law.then_ (Law.then_ (Law.then_ (Law.then_ (Law.then_ (Law.then_ (Law.then_ (Law.then_ (Law.then_ (Law.then_ (HB0.out) HB1.out) HB2.out) HB3.out) HB4.out) HB5.out) HB6.out) HB7.out) HB8.out) HB9.out) HB10.out)).bk.c0
      have p1 := (HP.out.on (Law.then_ (Law.then_ (Law.then_ (Law.then_ (Law.then_ (Law.then_ (Law.then_ (Law.then_ (Law.then_ (Law.then_ (HB0.out) HB1.out) HB2.out) HB3.out) HB4.out) HB5.out) HB6.out) HB7.out) HB8.out) HB9.out) HB10.out)).bk.c1
      go_wp2_with fail
      go_at_call 26
      refine (eqInt_same A7 A11 c7 c11 reqs w11 (by omega) ((Law.Row.own Fxreqs.out).stays (Law.then_ (Law.then_ (Law.then_ (HB7.out) HB8.out) HB9.out) HB10.out)) (Law.Row.own Fyreqs.out)).mono ?_
      rintro r we1 ⟨rfl, m1, rfl⟩
      have hb : Below w11.heap.size w11 (w11.drewN m1) := Law.up (Below.refl _ _) _
      generalize World.drewN w11 m1 = w12 at hb ⊢
      have HB11 := Lib.hid hb
      clear hb
      clear p0 p1
      have p0 := (HP.out.on (Law.then_ (Law.then_ (Law.then_ (Law.then_ (Law.then_ (Law.then_ (Law.then_ (Law.then_ (Law.then_ (Law.then_ (Law.then_ (HB0.out) HB1.out) HB2.out) HB3.out) HB4.out) HB5.out) HB6.out) HB7.out) HB8.out) HB9.out) HB10.out) HB11.out)).bk.c0
      have p1 := (HP.out.on (Law.then_ (Law.then_ (Law.then_ (Law.then_ (Law.then_ (Law.then_ (Law.then_ (Law.then_ (Law.then_ (Law.then_ (Law.then_ (HB0.out) HB1.out) HB2.out) HB3.out) HB4.out) HB5.out) HB6.out) HB7.out) HB8.out) HB9.out) HB10.out) HB11.out)).bk.c1
      go_wp2
      go_ret
      exact ⟨rfl, Law.then_ (Law.then_ (Law.then_ (Law.then_ (Law.then_ (Law.then_ (Law.then_ (Law.then_ (Law.then_ (Law.then_ (Law.then_ (Law.then_ (HBs.out) HB0.out) HB1.out) HB2.out) HB3.out) HB4.out) HB5.out) HB6.out) HB7.out) HB8.out) HB9.out) HB10.out) HB11.out⟩
set_option maxHeartbeats 1600000 in
theorem walk_big (A0 : Option Addr) (c0 : Nat) (xs0 : List Value) (L : List (List Int)) (B0 : Option Addr) (d0 : Nat) (ys0 : List Value) (S : List (List Int)) (start : Int) (reqs : List Int) (Areqs : Option Addr) (creqs : Nat) (w : World) (hz : ¬ (szN L : Int) + (szN S : Int) ≤ 1048576) (hnL : L.length ≤ maxLen) (hlL : ∀ l ∈ L, l.length ≤ maxLen) (hnS : S.length ≤ maxLen) (hlS : ∀ l ∈ S, l.length ≤ maxLen) (hL : NRow w A0 xs0 L) (hS : NRow w B0 ys0 S) (hnreqs : reqs.length ≤ 1048576) :
    Calls Try.prog 6 #[pv A0 L.length c0 B0 S.length d0, .int .i64 start, .slice Areqs reqs.length creqs] w fun e w' => e = .returned (.bool true) ∧ Below w.heap.size w w' := by
  have hIreqs : (reqs.length : Int) ≤ 1048576 := by omega
  have hzP : szPr L S = -1 := szPr_no hz
  have HSz := Lib.hid fun (W : World) (h : NRow W A0 xs0 L) (h' : NRow W B0 ys0 S) => szPrb_any A0 c0 xs0 L B0 d0 ys0 S W hnL hlL hnS hlS h h'
  rw [hzP] at HSz
  clear hzP
  have HP := Lib.hid (PIn.start (c := c0) (d := d0) hL hS 24)
  clear hL hS hlL hlS
  go_enter Try.func6, Try.ntmps6
  go_wp2_with fail
  generalize w.alloc (.cells #[.slice A0 L.length c0, .slice B0 S.length d0] 24) = w0 at HP ⊢
  have p0 := HP.out.bk.c0
  have p1 := HP.out.bk.c1
  go_wp2_with fail
  go_at_call 15
  refine (HSz.out w0 HP.out.mv HP.out.sv).mono ?_
  rintro r w1 ⟨rfl, hb⟩
  have HP1 := Lib.hid (HP.out.on hb)
  clear hb p0 p1
  have p0 := HP1.out.bk.c0
  have p1 := HP1.out.bk.c1
  go_wp2
  go_ret
  exact ⟨rfl, HP1.out.bl⟩
theorem walk (A0 : Option Addr) (n0 c0 : Nat) (xs0 : List Value) (L : List (List Int)) (B0 : Option Addr) (m0 d0 : Nat) (ys0 : List Value) (S : List (List Int)) (start : Int) (Areqs : Option Addr) (nreqs creqs : Nat) (reqs : List Int) (w : World) (h0 : L.length = n0 ∧ n0 ≤ c0 ∧ c0 ≤ maxLen ∧ (∀ l ∈ L, l.length ≤ maxLen) ∧ NRow w A0 xs0 L) (h1 : S.length = m0 ∧ m0 ≤ d0 ∧ d0 ≤ maxLen ∧ (∀ l ∈ S, l.length ≤ maxLen) ∧ NRow w B0 ys0 S) (hstart : (Lit.int .i64 start).wf = true) (hreqs : reqs.length = nreqs ∧ nreqs ≤ creqs ∧ creqs ≤ maxLen ∧ (∀ z ∈ reqs, (Lit.int .i64 z).wf = true) ∧ Law.Row w Areqs (reqs.map (Value.int .i64))) (hL : laidMetH Try.prog Rows.fnExactLeastCostRow.laid w) (hsh : w.ShapedOpen Try.prog) :
    Calls Try.prog 6 #[.agg #[.slice A0 n0 c0, .slice B0 m0 d0], .int .i64 start, .slice Areqs nreqs creqs] w fun e w' => e = .returned (.bool true) ∧ Below w.heap.size w w' := by
  obtain ⟨rfl, hcA, hcB, hlL, hrL⟩ := h0
  obtain ⟨rfl, hdA, hdB, hlS, hrS⟩ := h1
  obtain ⟨rfl, hAreqs, hBreqs, hwreqs, hrreqs⟩ := hreqs
  clear hL hsh
  by_cases hlreqs : reqs.length ≤ 1048576
  · skip
    by_cases hz : (szN L : Int) + (szN S : Int) ≤ 1048576
    · skip
      have hrs : (∀ l ∈ L, l.length ≤ 1048576) ∧ (∀ l ∈ S, l.length ≤ 1048576) := ⟨fun l hl => szN_row (by omega) hl, fun l hl => szN_row (by omega) hl⟩
      exact walk_core A0 c0 xs0 L B0 d0 ys0 S start reqs Areqs creqs (Q.lcQ L S start reqs) w hz (by omega) hlL (by omega) hlS hrL hrS hlreqs hrreqs (fun A c xs B d ys Breqs dreqs W h h' qreqs => specLc_any A c xs L B d ys S W start reqs Breqs dreqs hrs.2 hlreqs h h' qreqs) (fun A c xs B d ys Breqs dreqs W h h' qreqs => impLc_any A c xs L B d ys S W start reqs Breqs dreqs hrs.1 hrs.2 hlreqs h h' qreqs)
    · exact walk_big A0 c0 xs0 L B0 d0 ys0 S start reqs Areqs creqs w hz (by omega) hlL (by omega) hlS hrL hrS hlreqs
  · have hIreqs : ¬ (reqs.length : Int) ≤ 1048576 := by omega
    clear hrL hlL hrS hlS hrreqs
    go_enter Try.func6, Try.ntmps6
    go_wp2
    go_ret
    exact ⟨rfl, (Below.refl _ _).alloc (Nat.le_refl _) _⟩
end LLeastCost
end Go.Proofs.Ythpoeeadhjnljaa
