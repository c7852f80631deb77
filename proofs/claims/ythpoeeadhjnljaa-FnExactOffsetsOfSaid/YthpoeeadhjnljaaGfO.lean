/-
  graphFrom at one of its instances (O): the walk.
-/
import Derived.Test.YthpoeeadhjnljaaGeO
import Derived.Sort.CutIn
import Derived.WalkKit
import Derived.OwnWalkIn
import Derived.TacticsInMore
import Derived.LoopNIn
import Derived.LoopIn
import Derived.Maps.OwnIn
import Derived.Maps.AppendAt
import Derived.Shelf.Abstract
namespace Go.Proofs.Ythpoeeadhjnljaa
open Go.RowKit Go.Shelf
set_option linter.unusedVariables false
attribute [local go_sem] Oper.semAt_some
/-- What the iterator asks of a round: what lay below n0 stays, and block B. -/
def KeepsKO (n0 B : Nat) (W W' : World) : Prop := Below n0 W W' ∧ ∀ o, W.heap[B]? = some o → W'.heap[B]? = some o
theorem keepsKO_t {n0 B : Nat} {X Y Z : World} (h : KeepsKO n0 B X Y) (k : KeepsKO n0 B Y Z) : KeepsKO n0 B X Z := ⟨h.1.trans k.1, fun o ho => k.2 o (h.2 o ho)⟩
theorem keepsKO_b {n0 B : Nat} {w : World} (hn : n0 ≤ w.heap.size) (hB : B < w.heap.size) (W : World) (l : Nat) (o o' : Obj) (hl : w.heap.size ≤ l) (h : W.heap[l]? = some o) : KeepsKO n0 B W (W.putObj l o') :=
  ⟨(Below.refl n0 W).grown (grownBy_putObj' W l o') (by have := (Array.getElem?_eq_some_iff.1 h).1; omega) (fun k e => by cases e; omega), fun o2 h2 => ((grownBy_putObj' W l o').block B (Array.getElem?_eq_some_iff.1 h2).1 (fun e => by injection e with e; omega)).trans h2⟩
/-- What is next to a node comes with the knowledge that it is one. -/
abbrev AO (n : Nat) := { e : (List Int) × (Int) // (Q.OkO n) e.1 }
/-- The contract of the function that gives what is next to a node. -/
def AfterO (n : Nat) (stp : List Int → List ((List Int) × (Int))) (w0 : World) (kA : FuncId) (lbA : Array Value) : Prop :=
  ∀ (x : List Int) (W : World), (Q.OkO n) x → Below w0.heap.size w0 W → CallsIn Fence.wide 2 Try.prog kA (#[kvO x] ++ lbA) W fun e W' =>
    ∃ (kI : Nat) (lbI : Array Value) (B : Nat), e = .returned (.func (.func kI) #[] lbI) ∧ Below W.heap.size W W' ∧ W.heap.size ≤ B ∧ B < W'.heap.size ∧ (∀ args w, (callFunc kI args).run Try.prog w = .ok (.enter kI args) w) ∧
      SeqStopsK Fence.wide 2 Try.prog kI lbI (fun e : AO n => #[kvO e.1.1, vZ e.1.2]) (KeepsKO w0.heap.size B) (fun ys => ys.map (·.1) = stp x) (fun pre => pre.map (·.1) <+: stp x) (stp x).length W'
/-- What graphFrom says. -/
def gSaysO (R : Option (List (List Int) × List (List Nat) × List (List (Int)))) (w0 : World) (e : Ending) (w' : World) : Prop :=
  match R with
  | none => e = .returned (.tuple #[.agg nil3, .bool false]) ∧ Below w0.heap.size w0 w'
  | some (ns, nx, ss) => ∃ nv xv sv xsx xss, e = .returned (.tuple #[.agg #[nv, xv, sv], .bool true]) ∧ GOutO w0.heap.size w' nv xv sv xsx xss ns nx ss ∧ Below w0.heap.size w0 w'
theorem retO3 {fn : Func} {tmps : Array Value} {w : World} {pt u : Tmp} {b : Nat} {v0 v1 v2 f : Value} (h : fn.results = #[.cell pt 93, .tmp u]) (hp : tmps.getD pt undef = .pointer (some ⟨b, 0, none⟩)) (hB : Hb w b #[v0, v1, v2] 93) (hf : tmps.getD u undef = f) :
    (results fn tmps).run Try.prog w = .ok (.tuple #[.agg #[v0, v1, v2], f]) w := by
  have c0 := hB.cell (i := 0) (v := v0) rfl
  have c1 := hB.cell (i := 1) (v := v1) rfl
  have c2 := hB.cell (i := 2) (v := v2) rfl
  rw [results_cell_tmp h, hp, hf]
  go_simp
/-- A return behind ranges over a function. -/
theorem leaveO {tmps : Array Value} {R : Ending → World → Prop} {w : World} {b b6 : Nat} {v0 v1 v2 f : Value} {rs : List Nat} (Φ : World → Prop) (hp : tmps.getD 6 undef = .pointer (some ⟨b6, 0, none⟩)) (hf : tmps.getD 7 undef = f) (hm : Marks b w rs) (hB : Hb w b6 #[v0, v1, v2] 93) (hΦ : Φ w)
    (hput : ∀ W r, Φ W → b ≤ r → W.heap[r]? = some (.deferred (some [])) → Φ (W.putObj r (.deferred none))) (hR : ∀ W, Φ W → R (.returned (.tuple #[.agg #[v0, v1, v2], f])) W) :
    LeavesInM Fence.wide 3 Try.prog Try.f110 tmps R (rs.map mkD) .returning w :=
  leaves_marks (b := b) (fun W => Hb W b6 #[v0, v1, v2] 93 ∧ Φ W) (fun W r h hb hr => ⟨h.1.grown (grownBy_putObj' W r _) (fun e => by
      injection e with e
      subst e
      rw [show W.heap[_]? = _ from h.1] at hr
      cases hr), hput W r h.2 hb hr⟩) (fun W h => ⟨_, retO3 rfl hp h.1 hf, hR W h.2⟩) rs w hm ⟨hB, hΦ⟩
set_option maxRecDepth 100000 in
set_option maxHeartbeats 3200000 in
theorem graphO_in (n most : Nat) (hm1 : 1 ≤ most) (hm2 : most ≤ 700) (stp : List Int → List ((List Int) × (Int))) (HS : Hid (∀ x, (Q.OkO n) x → ∀ e ∈ stp x, (Q.OkO n) e.1)) (HL : Hid (∀ x, (stp x).length ≤ 4)) (HK : Hid (∀ x, (Q.OkO n) x → ∃ kl, keyOf Try.prog 98 (kvO x) = some kl)) (HI : Hid (∀ a b, (Q.OkO n) a → (Q.OkO n) b → kvO a = kvO b → a = b))
    (KY : Maps.Keyed Try.prog 98) (x0 : List Int) (hx0 : (Q.OkO n) x0) (lbA : Array Value) (w0 : World) (HA : Hid (AfterO n stp w0 111 lbA)) :
    CallsIn Fence.wide 3 Try.prog 110 #[kvO x0, .int .i64 (most : Int), .func (.func 111) #[] lbA] w0 (gSaysO (Q.graph stp most x0) w0) := by
  have hro : Fence.wide.round = none := rfl
  have hfA : Fence.wide.fn 111 := trivial
  have HX0 := Lib.hid hx0
  have HKY := Lib.hid KY
  clear hx0 KY
  obtain ⟨R, hR⟩ : ∃ R, R = Q.graph stp most x0 := ⟨_, rfl⟩
  rw [← hR]
  have HX0' : Hid (Q.goG stp most (most + 1) 0 [x0] [] [] = R) := hR.symm
  have HGR := Lib.hid (Q.GrI.start (P := (Q.OkO n)) (stp := stp) (most := most) HX0.out hm1)
  clear hR
  refine callsIn_of_wp_marks Try.func110 rfl trivial ?_ hro
  simp only [Try.ntmps110, List.size_toArray, List.length_cons, List.length_nil, Nat.reduceAdd, Nat.reduceSub, Array.replicate_succ, Array.replicate_zero, List.push_toArray, List.append_toArray, List.nil_append, List.cons_append]
  have hk3 := Hb.new w0 (csO x0).toArray 98
  have hk6 := Hb.new (w0.alloc (.cells (csO x0).toArray 98)) nil3 93
  rw [World.size_alloc] at hk6
  have hk3' := hk3.alloc (.cells nil3 93)
  have hbl : Below w0.heap.size w0 ((w0.alloc (.cells (csO x0).toArray 98)).alloc (.cells nil3 93)) := ((Below.refl _ _).alloc (Nat.le_refl _) _).alloc (by simp) _
  gi_upto_region 1 with (fail)
  gi_cut [8, 9] from 17 (fun s8 s9 wc => ∃ (b8 b9 mb : Nat) (An : Option Addr) (cn : Nat), s8 = .pointer (some ⟨b8, 0, none⟩) ∧ s9 = .pointer (some ⟨b9, 0, none⟩) ∧ Hid (GIO n w0 (w0.heap.size + 1) b8 b9 mb An cn none 0 none 0 [] [] [] [x0] [] [] wc))
  case first =>
    rename_i J K' hJ hK
    refine wpIn_wide.2 (region_inv (by kernel_rfl) (by kernel_rfl) (fun b a w => J1O n most (.func (.func 111) #[] lbA) w0 x0 (b 0) (b 1) (b 2) (b 3) (b 4) (b 5) (b 6) (b 7) (b 8) (b 9) (b 10) a w) ?h0 ?step ?done)
    case h0 =>
      refine ⟨0, 0, 0, 0, rfl, ?_⟩
      have hd := ((Below.refl ((w0.alloc (.cells (csO x0).toArray 98)).alloc (.cells nil3 93)).heap.size ((w0.alloc (.cells (csO x0).toArray 98)).alloc (.cells nil3 93))).drew)
      exact ⟨hbl.trans (hd.mono hbl.size), hk3'.on hd, hk6.on hd, fun e => (by cases e), fun e => (by cases e), fun e => (by cases e), fun e => (by cases e), fun e => (by cases e), fun e => (by cases e), fun e => (by cases e), fun e => (by cases e), fun e => (by cases e), fun e => (by cases e), fun e => (by cases e)⟩
    case step =>
      intro b a w i o hI hb ho hpre
      obtain ⟨g, mb, p8, p9, rfl, hI⟩ := hI
      have hi : i < 11 := (Array.getElem?_eq_some_iff.1 ho).1
      clear hk3 hk6 hk3' hbl hJ hK
      rcases (by omega : i = 0 ∨ i = 1 ∨ i = 2 ∨ i = 3 ∨ i = 4 ∨ i = 5 ∨ i = 6 ∨ i = 7 ∨ i = 8 ∨ i = 9 ∨ i = 10) with rfl | rfl | rfl | rfl | rfl | rfl | rfl | rfl | rfl | rfl | rfl
      · injection (show some _ = some o from ho) with ho
        subst ho
        clear hpre
        refine wpOp_step rfl (fun K2 hK2 => ?_)
        replace hK2 : ∀ a w, J1O n most (.func (.func 111) #[] lbA) w0 x0 true (b 1) (b 2) (b 3) (b 4) (b 5) (b 6) (b 7) (b 8) (b 9) (b 10) a w → K2 a w := hK2
        generalize b 0 = b0 at *
        generalize b 1 = b1 at *
        generalize b 2 = b2 at *
        generalize b 3 = b3 at *
        generalize b 4 = b4 at *
        generalize b 5 = b5 at *
        generalize b 6 = b6 at *
        generalize b 7 = b7 at *
        generalize b 8 = b8 at *
        generalize b 9 = b9 at *
        generalize b 10 = b10 at *
        clear b
        subst hb
        simp only [pk]
        have hk := hI.k3
        have c0 := hk.cell (i := 0) (v := .int .i64 (x0.length : Int)) rfl
        have fc0 := hk.frozen 0
        have c1 := hk.cell (i := 1) (v := .int .i64 (x0[0]?.getD 0)) rfl
        have fc1 := hk.frozen 1
        have c2 := hk.cell (i := 2) (v := .int .i64 (x0[1]?.getD 0)) rfl
        have fc2 := hk.frozen 2
        have c3 := hk.cell (i := 3) (v := .int .i64 (x0[2]?.getD 0)) rfl
        have fc3 := hk.frozen 3
        have c4 := hk.cell (i := 4) (v := .int .i64 (x0[3]?.getD 0)) rfl
        have fc4 := hk.frozen 4
        go_simp
        exact hK2 _ _ ⟨g, mb, p8, p9, rfl, hI⟩
      · injection (show some _ = some o from ho) with ho
        subst ho
        have e0 : b 0 = true := hpre ⟨0, .data⟩ (by simp) rfl
        clear hpre
        refine wpOp_step rfl (fun K2 hK2 => ?_)
        replace hK2 : ∀ a w, J1O n most (.func (.func 111) #[] lbA) w0 x0 (b 0) true (b 2) (b 3) (b 4) (b 5) (b 6) (b 7) (b 8) (b 9) (b 10) a w → K2 a w := hK2
        generalize b 0 = b0 at *
        generalize b 1 = b1 at *
        generalize b 2 = b2 at *
        generalize b 3 = b3 at *
        generalize b 4 = b4 at *
        generalize b 5 = b5 at *
        generalize b 6 = b6 at *
        generalize b 7 = b7 at *
        generalize b 8 = b8 at *
        generalize b 9 = b9 at *
        generalize b 10 = b10 at *
        clear b
        subst hb
        subst e0
        obtain rfl : b2 = false := (by cases b2 <;> first | rfl | exact absurd (hI.d2 rfl) (by decide))
        obtain rfl : b9 = false := (by cases b9 <;> first | rfl | exact absurd (hI.d9 rfl) (by decide))
        simp only [pk]
        go_simp
        exact hK2 _ _ ⟨w.heap.size, mb, p8, p9, rfl, { hI.al _ with hg := fun _ => ⟨hI.lt, Hb.new _ _ _⟩, h8 := (hI.al _).h8, d9 := fun e => (by cases e), d2 := fun e => (by cases e) }⟩
      · injection (show some _ = some o from ho) with ho
        subst ho
        have e1 : b 1 = true := hpre ⟨1, .data⟩ (by simp) rfl
        clear hpre
        refine wpOp_step rfl (fun K2 hK2 => ?_)
        replace hK2 : ∀ a w, J1O n most (.func (.func 111) #[] lbA) w0 x0 (b 0) (b 1) true (b 3) (b 4) (b 5) (b 6) (b 7) (b 8) (b 9) (b 10) a w → K2 a w := hK2
        generalize b 0 = b0 at *
        generalize b 1 = b1 at *
        generalize b 2 = b2 at *
        generalize b 3 = b3 at *
        generalize b 4 = b4 at *
        generalize b 5 = b5 at *
        generalize b 6 = b6 at *
        generalize b 7 = b7 at *
        generalize b 8 = b8 at *
        generalize b 9 = b9 at *
        generalize b 10 = b10 at *
        clear b
        subst hb
        subst e1
        simp only [pk]
        go_simp
        exact hK2 _ _ ⟨g, mb, p8, p9, rfl, { hI with d2 := fun _ => rfl }⟩
      · injection (show some _ = some o from ho) with ho
        subst ho
        clear hpre
        refine wpOp_step rfl (fun K2 hK2 => ?_)
        replace hK2 : ∀ a w, J1O n most (.func (.func 111) #[] lbA) w0 x0 (b 0) (b 1) (b 2) true (b 4) (b 5) (b 6) (b 7) (b 8) (b 9) (b 10) a w → K2 a w := hK2
        generalize b 0 = b0 at *
        generalize b 1 = b1 at *
        generalize b 2 = b2 at *
        generalize b 3 = b3 at *
        generalize b 4 = b4 at *
        generalize b 5 = b5 at *
        generalize b 6 = b6 at *
        generalize b 7 = b7 at *
        generalize b 8 = b8 at *
        generalize b 9 = b9 at *
        generalize b 10 = b10 at *
        clear b
        subst hb
        obtain rfl : b6 = false := (by cases b6 <;> first | rfl | exact absurd (hI.d6 rfl) (by decide))
        obtain rfl : b5 = false := (by cases b5 <;> first | rfl | exact absurd (hI.d5 rfl) (by decide))
        obtain rfl : b10 = false := (by cases b10 <;> first | rfl | exact absurd (hI.d10 rfl) (by decide))
        simp only [pk]
        have hmm := @run_makeMap Try.prog
        go_simp
        exact hK2 _ _ ⟨g, w.heap.size, p8, p9, rfl, { hI.al _ with hm := fun _ => ⟨hI.lt, MapN.made _⟩, h9 := (hI.al _).h9, d10 := fun e => (by cases e), d5 := fun e => (by cases e), d6 := fun e => (by cases e) }⟩
      · injection (show some _ = some o from ho) with ho
        subst ho
        clear hpre
        refine wpOp_step rfl (fun K2 hK2 => ?_)
        replace hK2 : ∀ a w, J1O n most (.func (.func 111) #[] lbA) w0 x0 (b 0) (b 1) (b 2) (b 3) true (b 5) (b 6) (b 7) (b 8) (b 9) (b 10) a w → K2 a w := hK2
        generalize b 0 = b0 at *
        generalize b 1 = b1 at *
        generalize b 2 = b2 at *
        generalize b 3 = b3 at *
        generalize b 4 = b4 at *
        generalize b 5 = b5 at *
        generalize b 6 = b6 at *
        generalize b 7 = b7 at *
        generalize b 8 = b8 at *
        generalize b 9 = b9 at *
        generalize b 10 = b10 at *
        clear b
        subst hb
        simp only [pk]
        have hk := hI.k3
        have c0 := hk.cell (i := 0) (v := .int .i64 (x0.length : Int)) rfl
        have fc0 := hk.frozen 0
        have c1 := hk.cell (i := 1) (v := .int .i64 (x0[0]?.getD 0)) rfl
        have fc1 := hk.frozen 1
        have c2 := hk.cell (i := 2) (v := .int .i64 (x0[1]?.getD 0)) rfl
        have fc2 := hk.frozen 2
        have c3 := hk.cell (i := 3) (v := .int .i64 (x0[2]?.getD 0)) rfl
        have fc3 := hk.frozen 3
        have c4 := hk.cell (i := 4) (v := .int .i64 (x0[3]?.getD 0)) rfl
        have fc4 := hk.frozen 4
        go_simp
        exact hK2 _ _ ⟨g, mb, p8, p9, rfl, hI⟩
      · injection (show some _ = some o from ho) with ho
        subst ho
        have e3 : b 3 = true := hpre ⟨3, .data⟩ (by simp) rfl
        have e4 : b 4 = true := hpre ⟨4, .data⟩ (by simp) rfl
        clear hpre
        refine wpOp_step rfl (fun K2 hK2 => ?_)
        replace hK2 : ∀ a w, J1O n most (.func (.func 111) #[] lbA) w0 x0 (b 0) (b 1) (b 2) (b 3) (b 4) true (b 6) (b 7) (b 8) (b 9) (b 10) a w → K2 a w := hK2
        generalize b 0 = b0 at *
        generalize b 1 = b1 at *
        generalize b 2 = b2 at *
        generalize b 3 = b3 at *
        generalize b 4 = b4 at *
        generalize b 5 = b5 at *
        generalize b 6 = b6 at *
        generalize b 7 = b7 at *
        generalize b 8 = b8 at *
        generalize b 9 = b9 at *
        generalize b 10 = b10 at *
        clear b
        subst hb
        subst e3
        subst e4
        simp only [pk]
        obtain ⟨hml, hm⟩ := hI.hm rfl
        obtain ⟨kl, hkl⟩ := HK.out x0 HX0.out
        obtain ⟨w', hrun, hm', hg'⟩ := MapN.store HKY.out Try.underlying133 HI.out hm HX0.out (by simp [pk]) (by simp [pk]) hkl
        have hrun2 : (Instr.mapUpdate 133 (.map (some mb)) (kvO x0) (.int .i64 0)).run Try.prog w = .ok () w' := hrun
        clear hrun hkl
        go_simp
        exact hK2 _ _ ⟨g, mb, p8, p9, rfl, ⟨hI.bl.grown hg' hI.bl.size (fun k e => by cases e; omega), hI.k3.grown hg' (fun e => by injection e with e; omega), hI.k6.grown hg' (fun e => by injection e with e; omega), fun e => ⟨(hI.hg e).1, (hI.hg e).2.grown hg' (fun e2 => by injection e2 with e2; exact hm.not_hb (hI.hg e).2 e2)⟩, fun _ => ⟨hml, hm'⟩, fun e => ⟨(hI.h8 e).1, (hI.h8 e).2.grown hg' (fun e2 => by injection e2 with e2; exact hm.not_hb (hI.h8 e).2 e2)⟩, fun e => ⟨(hI.h9 e).1, (hI.h9 e).2.grown hg' (fun e2 => by injection e2 with e2; exact hm.not_hb (hI.h9 e).2 e2)⟩, hI.d9, hI.d10, fun _ => rfl, hI.d2, hI.d6, hI.d97, hI.d108⟩⟩
      · injection (show some _ = some o from ho) with ho
        subst ho
        have e3 : b 3 = true := hpre ⟨3, .data⟩ (by simp) rfl
        have e4 : b 4 = true := hpre ⟨4, .data⟩ (by simp) rfl
        have e5 : b 5 = true := hpre ⟨5, .data⟩ (by simp) rfl
        clear hpre
        refine wpOp_step rfl (fun K2 hK2 => ?_)
        replace hK2 : ∀ a w, J1O n most (.func (.func 111) #[] lbA) w0 x0 (b 0) (b 1) (b 2) (b 3) (b 4) (b 5) true (b 7) (b 8) (b 9) (b 10) a w → K2 a w := hK2
        generalize b 0 = b0 at *
        generalize b 1 = b1 at *
        generalize b 2 = b2 at *
        generalize b 3 = b3 at *
        generalize b 4 = b4 at *
        generalize b 5 = b5 at *
        generalize b 6 = b6 at *
        generalize b 7 = b7 at *
        generalize b 8 = b8 at *
        generalize b 9 = b9 at *
        generalize b 10 = b10 at *
        clear b
        subst hb
        subst e3
        subst e4
        subst e5
        simp only [pk]
        go_simp
        exact hK2 _ _ ⟨g, mb, p8, p9, rfl, { hI with d6 := fun _ => rfl }⟩
      · injection (show some _ = some o from ho) with ho
        subst ho
        clear hpre
        refine wpOp_step rfl (fun K2 hK2 => ?_)
        replace hK2 : ∀ a w, J1O n most (.func (.func 111) #[] lbA) w0 x0 (b 0) (b 1) (b 2) (b 3) (b 4) (b 5) (b 6) true (b 8) (b 9) (b 10) a w → K2 a w := hK2
        generalize b 0 = b0 at *
        generalize b 1 = b1 at *
        generalize b 2 = b2 at *
        generalize b 3 = b3 at *
        generalize b 4 = b4 at *
        generalize b 5 = b5 at *
        generalize b 6 = b6 at *
        generalize b 7 = b7 at *
        generalize b 8 = b8 at *
        generalize b 9 = b9 at *
        generalize b 10 = b10 at *
        clear b
        subst hb
        obtain rfl : b9 = false := (by cases b9 <;> first | rfl | exact absurd (hI.d97 rfl) (by decide))
        simp only [pk]
        go_simp
        exact hK2 _ _ ⟨g, mb, w.heap.size, p9, rfl, { hI.al _ with h8 := fun _ => ⟨hI.lt, Hb.new _ _ _⟩, d97 := fun e => (by cases e) }⟩
      · injection (show some _ = some o from ho) with ho
        subst ho
        clear hpre
        refine wpOp_step rfl (fun K2 hK2 => ?_)
        replace hK2 : ∀ a w, J1O n most (.func (.func 111) #[] lbA) w0 x0 (b 0) (b 1) (b 2) (b 3) (b 4) (b 5) (b 6) (b 7) true (b 9) (b 10) a w → K2 a w := hK2
        generalize b 0 = b0 at *
        generalize b 1 = b1 at *
        generalize b 2 = b2 at *
        generalize b 3 = b3 at *
        generalize b 4 = b4 at *
        generalize b 5 = b5 at *
        generalize b 6 = b6 at *
        generalize b 7 = b7 at *
        generalize b 8 = b8 at *
        generalize b 9 = b9 at *
        generalize b 10 = b10 at *
        clear b
        subst hb
        obtain rfl : b10 = false := (by cases b10 <;> first | rfl | exact absurd (hI.d108 rfl) (by decide))
        simp only [pk]
        go_simp
        exact hK2 _ _ ⟨g, mb, p8, w.heap.size, rfl, { hI.al _ with h9 := fun _ => ⟨hI.lt, Hb.new _ _ _⟩, d108 := fun e => (by cases e) }⟩
      · injection (show some _ = some o from ho) with ho
        subst ho
        have e0 : b 0 = true := hpre ⟨0, .phase⟩ (by simp) rfl
        have e1 : b 1 = true := hpre ⟨1, .phase⟩ (by simp) rfl
        have e2 : b 2 = true := hpre ⟨2, .data⟩ (by simp) rfl
        have e7 : b 7 = true := hpre ⟨7, .data⟩ (by simp) rfl
        have e8 : b 8 = true := hpre ⟨8, .phase⟩ (by simp) rfl
        clear hpre
        refine wpOp_step rfl (fun K2 hK2 => ?_)
        replace hK2 : ∀ a w, J1O n most (.func (.func 111) #[] lbA) w0 x0 (b 0) (b 1) (b 2) (b 3) (b 4) (b 5) (b 6) (b 7) (b 8) true (b 10) a w → K2 a w := hK2
        generalize b 0 = b0 at *
        generalize b 1 = b1 at *
        generalize b 2 = b2 at *
        generalize b 3 = b3 at *
        generalize b 4 = b4 at *
        generalize b 5 = b5 at *
        generalize b 6 = b6 at *
        generalize b 7 = b7 at *
        generalize b 8 = b8 at *
        generalize b 9 = b9 at *
        generalize b 10 = b10 at *
        clear b
        subst hb
        subst e0
        subst e1
        subst e2
        subst e7
        subst e8
        simp only [pk]
        obtain ⟨hl8, hk⟩ := hI.h8 rfl
        simp only [pk] at hk
        have c0 := hk.cell (i := 0) (v := .slice none 0 0) rfl
        have fc0 := hk.frozen 0
        have c1 := hk.cell (i := 1) (v := .slice none 0 0) rfl
        have fc1 := hk.frozen 1
        have c2 := hk.cell (i := 2) (v := .slice none 0 0) rfl
        have fc2 := hk.frozen 2
        go_simp
        have h3 := (((hI.set8 rfl 0 (sl g 1 1)).set8 rfl 1 (.slice none 0 0)).set8 rfl 2 (.slice none 0 0))
        exact hK2 _ _ ⟨g, mb, p8, p9, rfl, { h3 with d9 := fun _ => rfl, d97 := fun _ => rfl }⟩
      · injection (show some _ = some o from ho) with ho
        subst ho
        have e0 : b 0 = true := hpre ⟨0, .phase⟩ (by simp) rfl
        have e1 : b 1 = true := hpre ⟨1, .phase⟩ (by simp) rfl
        have e2 : b 2 = true := hpre ⟨2, .phase⟩ (by simp) rfl
        have e3 : b 3 = true := hpre ⟨3, .phase⟩ (by simp) rfl
        have e4 : b 4 = true := hpre ⟨4, .phase⟩ (by simp) rfl
        have e5 : b 5 = true := hpre ⟨5, .phase⟩ (by simp) rfl
        have e6 : b 6 = true := hpre ⟨6, .data⟩ (by simp) rfl
        have e7 : b 7 = true := hpre ⟨7, .phase⟩ (by simp) rfl
        have e8 : b 8 = true := hpre ⟨8, .data⟩ (by simp) rfl
        have e9 : b 9 = true := hpre ⟨9, .chain⟩ (by simp) rfl
        clear hpre
        refine wpOp_step rfl (fun K2 hK2 => ?_)
        replace hK2 : ∀ a w, J1O n most (.func (.func 111) #[] lbA) w0 x0 (b 0) (b 1) (b 2) (b 3) (b 4) (b 5) (b 6) (b 7) (b 8) (b 9) true a w → K2 a w := hK2
        generalize b 0 = b0 at *
        generalize b 1 = b1 at *
        generalize b 2 = b2 at *
        generalize b 3 = b3 at *
        generalize b 4 = b4 at *
        generalize b 5 = b5 at *
        generalize b 6 = b6 at *
        generalize b 7 = b7 at *
        generalize b 8 = b8 at *
        generalize b 9 = b9 at *
        generalize b 10 = b10 at *
        clear b
        subst hb
        subst e0
        subst e1
        subst e2
        subst e3
        subst e4
        subst e5
        subst e6
        subst e7
        subst e8
        subst e9
        simp only [pk]
        obtain ⟨hl9, hk⟩ := hI.h9 rfl
        simp only [pk] at hk
        have c0 := hk.cell (i := 0) (v := .map none) rfl
        have fc0 := hk.frozen 0
        go_simp
        have h3 := hI.set9 rfl 0 (.map (some mb))
        exact hK2 _ _ ⟨g, mb, p8, p9, rfl, { h3 with d10 := fun _ => rfl, d108 := fun _ => rfl }⟩
    case done =>
      intro b a w hI hall
      obtain ⟨g, mb, p8, p9, rfl, hI⟩ := hI
      have e0 : b 0 = true := hall 0 (by show 0 < 11; omega)
      have e1 : b 1 = true := hall 1 (by show 1 < 11; omega)
      have e2 : b 2 = true := hall 2 (by show 2 < 11; omega)
      have e3 : b 3 = true := hall 3 (by show 3 < 11; omega)
      have e4 : b 4 = true := hall 4 (by show 4 < 11; omega)
      have e5 : b 5 = true := hall 5 (by show 5 < 11; omega)
      have e6 : b 6 = true := hall 6 (by show 6 < 11; omega)
      have e7 : b 7 = true := hall 7 (by show 7 < 11; omega)
      have e8 : b 8 = true := hall 8 (by show 8 < 11; omega)
      have e9 : b 9 = true := hall 9 (by show 9 < 11; omega)
      have e10 : b 10 = true := hall 10 (by show 10 < 11; omega)
      generalize b 0 = b0 at *
      generalize b 1 = b1 at *
      generalize b 2 = b2 at *
      generalize b 3 = b3 at *
      generalize b 4 = b4 at *
      generalize b 5 = b5 at *
      generalize b 6 = b6 at *
      generalize b 7 = b7 at *
      generalize b 8 = b8 at *
      generalize b 9 = b9 at *
      generalize b 10 = b10 at *
      subst e0
      subst e1
      subst e2
      subst e3
      subst e4
      subst e5
      subst e6
      subst e7
      subst e8
      subst e9
      subst e10
      simp only [pk] at hI ⊢
      obtain ⟨hgl, hg⟩ := hI.hg rfl
      obtain ⟨hml, hm⟩ := hI.hm rfl
      obtain ⟨h8l, h8⟩ := hI.h8 rfl
      obtain ⟨h9l, h9⟩ := hI.h9 rfl
      refine hK _ _ (Met.intro (hJ _ _ ?_))
      (repeat apply Exists.intro)
      refine ⟨⟨p8, p9, mb, some ⟨g, 0, none⟩, 1, rfl, rfl, Lib.hid ⟨⟨⟨by simp [cvs], .inr ⟨g, 1, _, rfl, by omega, hg, Nat.le_refl _, by unfold maxLen; omega, by simp, by simp [cvs]⟩⟩, World.ownsRow_nil _ _ _ _, NG.nil _ _, World.ownsRow_nil _ _ _ _, NG.nil _ _, .inl rfl, fun i j x y k h => by simp at h⟩, hI.k6, h8, h9, hm, Marks.nil _ _, hI.bl, by omega, ⟨by omega, by omega⟩, by omega, by omega⟩⟩, rfl⟩
  case rest =>
    obtain ⟨b8, b9, mb, An, cn, rfl, rfl, HG⟩ := hcut
    clear hk3 hk6 hk3' hbl
    gi_wp2_with (fail)
    refine wpIn_loop (fun a W => ∃ u10 u11 u12 u13 u14 u15 u16 u17 u18 u19 u20 u21 u22 u23 u24 u25 u26 u27 u28 u29 u30 u31 u32 u33 u34 u35 u36 u37 u38 u39 u40 u41 u42 u43 u44 u45 u46 u47 u48 u49 u50 u51 u52 u53 u54 u55 u56 u57 u58 u59 u60 u61 u62 u63 u64 u65 u66 u67 u68 u69 u70 u71 u72 u73 u74 u75 u76 u77 u78 u79 u80 u81 u82 u83 u84 u85 u86 u87 : Value, ∃ ds : List Deferred, (∃ (k : Nat) (ns : List (List Int)) (nx : List (List Nat)) (ss : List (List (Int))) (An : Option Addr) (cn : Nat) (Ax : Option Addr) (cx : Nat) (As : Option Addr) (cz : Nat) (xsx xss : List Value) (rs : List Nat), u10 = .int .i64 (k : Int) ∧ ds = rs.map mkD ∧ Hid (GIO n w0 (w0.heap.size + 1) b8 b9 mb An cn Ax cx As cz xsx xss rs ns nx ss W) ∧ Hid (Q.GrI (Q.OkO n) stp most x0 k ns nx ss) ∧ Hid (Q.goG stp most (most + 1 - k) k ns nx ss = R)) ∧ a = { tmps := (List.toArray ((kvO x0) :: (.int .i64 (most : Int)) :: (.func (.func 111) #[] lbA) :: (.pointer (some ⟨w0.heap.size, 0, none⟩)) :: (undef) :: (undef) :: (.pointer (some ⟨w0.heap.size + 1, 0, none⟩)) :: (.bool false) :: (.pointer (some ⟨b8, 0, none⟩)) :: (.pointer (some ⟨b9, 0, none⟩)) :: (u10) :: (u11) :: (u12) :: (u13) :: (u14) :: (u15) :: (u16) :: (u17) :: (u18) :: (u19) :: (u20) :: (u21) :: (u22) :: (u23) :: (u24) :: (u25) :: (u26) :: (u27) :: (u28) :: (u29) :: (u30) :: (u31) :: (u32) :: (u33) :: (u34) :: (u35) :: (u36) :: (u37) :: (u38) :: (u39) :: (u40) :: (u41) :: (u42) :: (u43) :: (u44) :: (u45) :: (u46) :: (u47) :: (u48) :: (u49) :: (u50) :: (u51) :: (u52) :: (u53) :: (u54) :: (u55) :: (u56) :: (u57) :: (u58) :: (u59) :: (u60) :: (u61) :: (u62) :: (u63) :: (u64) :: (u65) :: (u66) :: (u67) :: (u68) :: (u69) :: (u70) :: (u71) :: (u72) :: (u73) :: (u74) :: (u75) :: (u76) :: (u77) :: (u78) :: (u79) :: (u80) :: (u81) :: (u82) :: (u83) :: (u84) :: (u85) :: (u86) :: (u87) :: [])), defers := ds }) (fun a _ => most + 1 - (intOf (a.tmps.getD 10 undef)).toNat) ?start ?round
    case start =>
      (repeat apply Exists.intro)
      exact ⟨⟨0, [x0], [], [], An, cn, none, 0, none, 0, [], [], [], rfl, rfl, HG, HGR, HX0'⟩, rfl⟩
    case round =>
      intro a W hinv
      obtain ⟨u10, hinv⟩ := hinv
      obtain ⟨u11, hinv⟩ := hinv
      obtain ⟨u12, hinv⟩ := hinv
      obtain ⟨u13, hinv⟩ := hinv
      obtain ⟨u14, hinv⟩ := hinv
      obtain ⟨u15, hinv⟩ := hinv
      obtain ⟨u16, hinv⟩ := hinv
      obtain ⟨u17, hinv⟩ := hinv
      obtain ⟨u18, hinv⟩ := hinv
      obtain ⟨u19, hinv⟩ := hinv
      obtain ⟨u20, hinv⟩ := hinv
      obtain ⟨u21, hinv⟩ := hinv
      obtain ⟨u22, hinv⟩ := hinv
      obtain ⟨u23, hinv⟩ := hinv
      obtain ⟨u24, hinv⟩ := hinv
      obtain ⟨u25, hinv⟩ := hinv
      obtain ⟨u26, hinv⟩ := hinv
      obtain ⟨u27, hinv⟩ := hinv
      obtain ⟨u28, hinv⟩ := hinv
      obtain ⟨u29, hinv⟩ := hinv
      obtain ⟨u30, hinv⟩ := hinv
      obtain ⟨u31, hinv⟩ := hinv
      obtain ⟨u32, hinv⟩ := hinv
      obtain ⟨u33, hinv⟩ := hinv
      obtain ⟨u34, hinv⟩ := hinv
      obtain ⟨u35, hinv⟩ := hinv
      obtain ⟨u36, hinv⟩ := hinv
      obtain ⟨u37, hinv⟩ := hinv
      obtain ⟨u38, hinv⟩ := hinv
      obtain ⟨u39, hinv⟩ := hinv
      obtain ⟨u40, hinv⟩ := hinv
      obtain ⟨u41, hinv⟩ := hinv
      obtain ⟨u42, hinv⟩ := hinv
      obtain ⟨u43, hinv⟩ := hinv
      obtain ⟨u44, hinv⟩ := hinv
      obtain ⟨u45, hinv⟩ := hinv
      obtain ⟨u46, hinv⟩ := hinv
      obtain ⟨u47, hinv⟩ := hinv
      obtain ⟨u48, hinv⟩ := hinv
      obtain ⟨u49, hinv⟩ := hinv
      obtain ⟨u50, hinv⟩ := hinv
      obtain ⟨u51, hinv⟩ := hinv
      obtain ⟨u52, hinv⟩ := hinv
      obtain ⟨u53, hinv⟩ := hinv
      obtain ⟨u54, hinv⟩ := hinv
      obtain ⟨u55, hinv⟩ := hinv
      obtain ⟨u56, hinv⟩ := hinv
      obtain ⟨u57, hinv⟩ := hinv
      obtain ⟨u58, hinv⟩ := hinv
      obtain ⟨u59, hinv⟩ := hinv
      obtain ⟨u60, hinv⟩ := hinv
      obtain ⟨u61, hinv⟩ := hinv
      obtain ⟨u62, hinv⟩ := hinv
      obtain ⟨u63, hinv⟩ := hinv
      obtain ⟨u64, hinv⟩ := hinv
      obtain ⟨u65, hinv⟩ := hinv
      obtain ⟨u66, hinv⟩ := hinv
      obtain ⟨u67, hinv⟩ := hinv
      obtain ⟨u68, hinv⟩ := hinv
      obtain ⟨u69, hinv⟩ := hinv
      obtain ⟨u70, hinv⟩ := hinv
      obtain ⟨u71, hinv⟩ := hinv
      obtain ⟨u72, hinv⟩ := hinv
      obtain ⟨u73, hinv⟩ := hinv
      obtain ⟨u74, hinv⟩ := hinv
      obtain ⟨u75, hinv⟩ := hinv
      obtain ⟨u76, hinv⟩ := hinv
      obtain ⟨u77, hinv⟩ := hinv
      obtain ⟨u78, hinv⟩ := hinv
      obtain ⟨u79, hinv⟩ := hinv
      obtain ⟨u80, hinv⟩ := hinv
      obtain ⟨u81, hinv⟩ := hinv
      obtain ⟨u82, hinv⟩ := hinv
      obtain ⟨u83, hinv⟩ := hinv
      obtain ⟨u84, hinv⟩ := hinv
      obtain ⟨u85, hinv⟩ := hinv
      obtain ⟨u86, hinv⟩ := hinv
      obtain ⟨u87, hinv⟩ := hinv
      obtain ⟨ds, hinv⟩ := hinv
      obtain ⟨⟨k, ns, nx, ss, An, cn, Ax, cx, As, cz, xsx, xss, rs, rfl, rfl, HG, HR, HX⟩, rfl⟩ := hinv
      have hk0 := HG.out.g8
      have c0 := hk0.cell (i := 0) (v := .slice An ns.length cn) rfl
      clear hk0
      by_cases hlt : k < ns.length
      · have hltI : (k : Int) < (ns.length : Int) := by omega
        obtain ⟨x, hx⟩ : ∃ x, ns[k]? = some x := ⟨_, List.getElem?_eq_getElem hlt⟩
        have HXO : Hid ((Q.OkO n) x) := Lib.hid (HR.out.all x (List.mem_of_getElem? hx))
        gi_upto_region 6 with (fail)
        have n1 := own_none W 3 1
        have n2 := own_none (W.alloc (.cells #[] 3)) 3 1
        rw [World.size_alloc] at n2
        have n3 := Hb.new ((W.alloc (.cells #[] 3)).alloc (.cells #[] 3)) #[sl W.heap.size 0 0] 35
        rw [World.size_alloc, World.size_alloc] at n3
        have n4 := Hb.new (((W.alloc (.cells #[] 3)).alloc (.cells #[] 3)).alloc (.cells #[sl W.heap.size 0 0] 35)) #[sl (W.heap.size + 1) 0 0] 35
        rw [World.size_alloc, World.size_alloc, World.size_alloc] at n4
        replace n1 := ((n1.alloc (.cells #[] 3)).alloc (.cells #[sl W.heap.size 0 0] 35)).alloc (.cells #[sl (W.heap.size + 1) 0 0] 35)
        replace n2 := own_down ((n2.alloc (.cells #[sl W.heap.size 0 0] 35)).alloc (.cells #[sl (W.heap.size + 1) 0 0] 35)) (Nat.le_succ _)
        replace n3 := n3.alloc (.cells #[sl (W.heap.size + 1) 0 0] 35)
        have n5 : Below W.heap.size W ((((W.alloc (.cells #[] 3)).alloc (.cells #[] 3)).alloc (.cells #[sl W.heap.size 0 0] 35)).alloc (.cells #[sl (W.heap.size + 1) 0 0] 35)) := ((((Below.refl _ W).alloc (Nat.le_refl _) _).alloc (by simp) _).alloc (by simp; omega) _).alloc (by simp; omega) _
        generalize (((W.alloc (.cells #[] 3)).alloc (.cells #[] 3)).alloc (.cells #[sl W.heap.size 0 0] 35)).alloc (.cells #[sl (W.heap.size + 1) 0 0] 35) = W5 at n1 n2 n3 n4 n5 ⊢
        have HR2 : Hid (∀ B, W5.heap.size ≤ B → R2O W B (W.heap.size + 1 + 1) (W.heap.size + 1 + 1 + 1) W.heap.size 0 (W.heap.size + 1) 0 [] [] W5) := Lib.hid fun B hB => ⟨n3, n4, n1, n2, by omega, ⟨by have := n3.lt; omega, by have := n3.lt; omega⟩, ⟨by omega, by omega, by omega, by have := n3.lt; omega, by have := n4.lt; omega⟩⟩
        have HG5 := Lib.hid (HG.out.on n5)
        have HB5 := Lib.hid n5
        clear n1 n2 n3 n4 n5 c0
        have hk5 := HG5.out.g8
        have c0 := hk5.cell (i := 0) (v := .slice An ns.length cn) rfl
        clear hk5
        obtain ⟨gN, rfl⟩ : ∃ gN, An = some ⟨gN, 0, none⟩ := by
          rcases HG5.out.out.no.2 with ⟨e, h0⟩ | ⟨g, cap, cur, e, _⟩
          · omega
          · injection e with e _ _
            exact ⟨g, e⟩
        have HNC : Hid (∀ (j : Nat) (v : Value), (csO x)[j]? = some v → W5.cell? ⟨gN, k * 5 + j, none⟩ = some v) := Lib.hid fun j v hv => by
          have h1 := HG5.out.out.no.cells (g := gN) rfl _ _ (cvs_at (cs := csO) (sz := 5) (fun _ => rfl) hx hv)
          rw [Law.add_plain, Nat.zero_add] at h1
          exact h1
        have q0 := HNC.out 0 _ rfl
        have q1 := HNC.out 1 _ rfl
        have q2 := HNC.out 2 _ rfl
        have q3 := HNC.out 3 _ rfl
        have q4 := HNC.out 4 _ rfl
        rw [Nat.add_zero] at q0
        have HC := Lib.hid (HA.out x W5 HXO.out HG5.out.bl)
        gi_wp2_with (gi_at_call 111; refine HC.out.mono ?_; rintro e W6 ⟨kI, lbI, B, rfl, hb6, hB1, hB2, hE, hseq⟩)
        clear hfA q0 q1 q2 q3 q4 c0 HC
        have hsz5 := HB5.out.size
        have hsz6 := hb6.size
        have hwsz : w0.heap.size ≤ W.heap.size := HG.out.bl.size
        have HG6 := Lib.hid (HG5.out.on hb6)
        have HR6 := Lib.hid ((HR2.out B hB1).on hb6)
        have HF6 := Lib.hid ((Frm.refl 93 98 W).on (Law.then_ HB5.out hb6))
        have hgN := (HG.out.out.no.lt gN rfl).2
        have HC6 : Hid (CIO n w0 W W6 B (w0.heap.size + 1) b8 mb Ax nx.length cx As ss.length cz ns W6) := Lib.hid ⟨HF6.out, HG6.out.g6, ⟨some ⟨gN, 0, none⟩, cn, HG6.out.g8, HG6.out.out.no, fun e => by injection e with e; simp at e; omega⟩, HG6.out.hm, rfl, HG6.out.bl, ⟨HG.out.l6, HG.out.g6.lt⟩, ⟨HG.out.l8.1, HG.out.g8.lt, HG.out.l8.2⟩, ⟨HG.out.lm, HG.out.hm.lt⟩, ⟨by omega, hB2⟩, hwsz⟩
        have H9 := Lib.hid HG.out.g9
        have HML := Lib.hid HG6.out.ms
        have HX := HX
        clear HR2 HF6
        refine wpIn_rangeFunc_ownH (α := AO n) hro (by omega) (gf := kI) (lb := lbI) rfl trivial hE hseq (fun h k => keepsKO_t h k) (fun W' l o o' h1 h2 _ _ => keepsKO_b (by omega) hB2 W' l o o' h1 h2) (Below.refl _ _) (fun _ => rfl)
          (fun pre W' => ∃ g11 c11 g12 c12, CIO n w0 W W6 B (w0.heap.size + 1) b8 mb Ax nx.length cx As ss.length cz (Q.rowG ns (pre.map (·.1))).1 W' ∧ R2O W B (W.heap.size + 1 + 1) (W.heap.size + 1 + 1 + 1) g11 c11 g12 c12 (Q.rowG ns (pre.map (·.1))).2.1 (Q.rowG ns (pre.map (·.1))).2.2 W')
          (fun _ _ _ => False) ?hI (fun _ _ _ _ _ hs _ _ => hs) ⟨_, _, _, _, HC6.out, HR6.out⟩
          (fun e a' W' => ∃ Bx, Hb W' Bx (csO e.1.1).toArray 98 ∧ a' = { tmps := (List.toArray ((kvO x0) :: (.int .i64 (most : Int)) :: (.func (.func 111) #[] lbA) :: (.pointer (some ⟨w0.heap.size, 0, none⟩)) :: (undef) :: (undef) :: (.pointer (some ⟨w0.heap.size + 1, 0, none⟩)) :: (.bool false) :: (.pointer (some ⟨b8, 0, none⟩)) :: (.pointer (some ⟨b9, 0, none⟩)) :: (.int .i64 (k : Int)) :: (.pointer (some ⟨W.heap.size + 1 + 1, 0, none⟩)) :: (.pointer (some ⟨W.heap.size + 1 + 1 + 1, 0, none⟩)) :: (.pointer (some ⟨Bx, 0, none⟩)) :: (vZ e.1.2) :: (u15) :: (u16) :: (u17) :: (u18) :: (u19) :: (u20) :: (u21) :: (u22) :: (.int .i64 (k : Int)) :: (.pointer (some ⟨b8, 0, none⟩)) :: (.slice (some ⟨gN, 0, none⟩) ns.length cn) :: (.int .i64 (ns.length : Int)) :: (.bool true) :: (u28) :: (u29) :: (.slice (some ⟨W.heap.size, 0, none⟩) 0 0) :: (.slice (some ⟨W.heap.size + 1, 0, none⟩) 0 0) :: (.func (.func 111) #[] lbA) :: (.pointer (some ⟨b8, 0, none⟩)) :: (.slice (some ⟨gN, 0, none⟩) ns.length cn) :: (.int .i64 (k : Int)) :: (.pointer (some ⟨gN, k * 5, none⟩)) :: (kvO x) :: (.func (.func kI) #[] lbI) :: (kvO e.1.1) :: (vZ e.1.2) :: (u41) :: (u42) :: (u43) :: (u44) :: (u45) :: (u46) :: (u47) :: (u48) :: (u49) :: (u50) :: (u51) :: (u52) :: (u53) :: (u54) :: (u55) :: (u56) :: (u57) :: (u58) :: (u59) :: (u60) :: (u61) :: (u62) :: (u63) :: (u64) :: (u65) :: (u66) :: (u67) :: (u68) :: (u69) :: (u70) :: (u71) :: (u72) :: (u73) :: (u74) :: (u75) :: (u76) :: (u77) :: (u78) :: (u79) :: (u80) :: (u81) :: (u82) :: (u83) :: (u84) :: (u85) :: (u86) :: (u87) :: [])), defers := [] }) ?hAx ?assign ?body ?done ?stop
        case hI =>
          rintro pre Y Z row ⟨g11, c11, g12, c12, h1, h2⟩ hg hr
          exact ⟨_, _, _, _, h1.turn hg (by omega) hB2 hr, h2.kept hg (fun k e c t hk => by
            obtain ⟨_, o, h3, h4⟩ := hr k e
            rw [hk] at h3
            injection h3 with h3
            subst h3
            cases h4)⟩
        case hAx =>
          rintro e a' _ Y Z row ⟨Bx, h1, h2⟩ hg hr
          exact ⟨Bx, h1.grown hg (fun e => by
            obtain ⟨_, o, h3, h4⟩ := hr Bx e
            rw [show Y.heap[Bx]? = _ from h1] at h3
            injection h3 with h3
            subst h3
            cases h4), h2⟩
        case assign =>
          rintro l pre e Y K2 ⟨g11, c11, g12, c12, h1, h2⟩ hK
          have h1 := Lib.hid h1
          have h2 := Lib.hid h2
          gi_wp2
          have hal := (Below.refl Y.heap.size Y).alloc (Nat.le_refl _) (.cells (csO e.1.1).toArray 98)
          exact hK _ _ ((KeepsOthers.alloc _ _).from _) ⟨hal.mono (by have := h1.out.bl.size; omega), fun o ho => (hal.block B (Array.getElem?_eq_some_iff.1 ho).1).trans ho⟩ ⟨_, _, _, _, h1.out.alloc _, h2.out.on hal⟩ ⟨_, Hb.new _ _ _, rfl⟩
        case body =>
          rintro l pre e a' Y hlY ⟨r, hr⟩ ⟨g11, c11, g12, c12, h1, h2⟩ ⟨Bx, hBx, rfl⟩ hlt2
          have HC := Lib.hid h1
          have HR2 := Lib.hid h2
          have HBx := Lib.hid hBx
          clear h1 h2 hBx hlY hr
          have HST : Hid (Q.rowG ns ((pre ++ [e]).map (·.1)) = Q.addG (Q.rowG ns (pre.map (·.1))) e.1) := by
            show _ = _
            rw [List.map_append]
            exact Q.rowG_snoc _ _ _
          have hRI := Q.RowI.of HR.out.nd HR.out.all (pre.map (·.1)) (fun q hq => by
            obtain ⟨q', _, rfl⟩ := List.mem_map.1 hq
            exact q'.2)
          have hl1 := hRI.l1
          have hl2 : (Q.rowG ns (pre.map (·.1))).2.2.length = pre.length := by rw [hRI.s2]; simp
          have hl3 := hRI.hi
          have hl4 := HR.out.mo
          have hl5 := HL.out x
          rw [List.length_map] at hl1 hl3
          clear hRI
          generalize Q.rowG ns (pre.map (·.1)) = st at HC HR2 HST hl1 hl2 hl3
          obtain ⟨N1, I1, T1⟩ := st
          simp only [] at HC HR2 hl1 hl2 hl3
          obtain ⟨⟨v, s⟩, hv⟩ := e
          simp only [] at HBx hv
          have HV := Lib.hid hv
          obtain ⟨kl, hkl⟩ := HK.out v HV.out
          obtain ⟨An', cn', h8, hno, hnB⟩ := HC.out.g8
          have H8 := Lib.hid h8
          have HNO := Lib.hid hno
          have HNB := Lib.hid hnB
          clear hnB
          have hmb := HC.out.hm
          have HKL := Lib.hid hkl
          have hlk : ∃ (r : Int) (kn : Bool), (Instr.lookup 133 (.map (some mb)) (kvO v) true).run Try.prog Y = .ok (.tuple #[.int .i64 r, .bool kn]) Y ∧ Hid ((kn = true → v ∈ N1 ∧ r = (Q.place N1 v : Int)) ∧ (kn = false → v ∉ N1)) := by
            by_cases hm : v ∈ N1
            · exact ⟨_, true, MapN.find_yes HKY.out Try.underlying133 hmb (Q.place_yes hm) hkl, Lib.hid ⟨fun _ => ⟨hm, rfl⟩, fun e => (by cases e)⟩⟩
            · exact ⟨_, false, MapN.find_no HKY.out Try.underlying133 hmb HV.out hm hkl, Lib.hid ⟨fun e => (by cases e), fun _ => hm⟩⟩
          obtain ⟨r, kn, hrun, HKN⟩ := hlk
          clear hkl hmb
          have hk9 := HC.out.fr.hb H9.out (by decide) (by decide)
          have z9 := hk9.cell (i := 0) (v := .map (some mb)) rfl
          clear hk9
          have hkx := HBx.out
          have hk8 := H8.out
          have y0 := hkx.cell (i := 0) (v := .int .i64 (v.length : Int)) rfl
          have y1 := hkx.cell (i := 1) (v := .int .i64 (v[0]?.getD 0)) rfl
          have y2 := hkx.cell (i := 2) (v := .int .i64 (v[1]?.getD 0)) rfl
          have y3 := hkx.cell (i := 3) (v := .int .i64 (v[2]?.getD 0)) rfl
          have y4 := hkx.cell (i := 4) (v := .int .i64 (v[3]?.getD 0)) rfl
          clear hkx
          have z8 := hk8.cell (i := 0) (v := .slice An' N1.length cn') rfl
          clear hk8 h8 hno
          gi_upto_if 48 with (fail)
          gi_cut [15] from 47 (fun s15 wc => s15 = .int .i64 (Q.place N1 v : Int) ∧ Hid (CIO n w0 W W6 B (w0.heap.size + 1) b8 mb Ax nx.length cx As ss.length cz (Q.grow N1 v) wc) ∧ Hid (R2O W B (W.heap.size + 1 + 1) (W.heap.size + 1 + 1 + 1) g11 c11 g12 c12 I1 T1 wc) ∧ Hid (KeepsFrom W6.heap.size Y wc))
          case first =>
            cases kn
            · have hnm := HKN.out.2 rfl
              have HNM := Lib.hid hnm
              obtain ⟨Y2, hupd, hm1, hg1⟩ := MapN.store HKY.out Try.underlying133 HI.out HC.out.hm HV.out hnm (by omega) HKL.out
              have HM1 := Lib.hid hm1
              have HG1 := Lib.hid hg1
              have hmbr : ∀ (q : Nat) (a : Array Value) (t : TypeId), Hb Y q a t → some mb ≠ some q := fun q a t hk e => by injection e with e; exact HC.out.hm.not_hb hk e
              have hkx := HBx.out.grown hg1 (hmbr _ _ _ HBx.out)
              have hk8 := H8.out.grown hg1 (hmbr _ _ _ H8.out)
              have yy0 := hkx.cell (i := 0) (v := .int .i64 (v.length : Int)) rfl
              have yy1 := hkx.cell (i := 1) (v := .int .i64 (v[0]?.getD 0)) rfl
              have yy2 := hkx.cell (i := 2) (v := .int .i64 (v[1]?.getD 0)) rfl
              have yy3 := hkx.cell (i := 3) (v := .int .i64 (v[2]?.getD 0)) rfl
              have yy4 := hkx.cell (i := 4) (v := .int .i64 (v[3]?.getD 0)) rfl
              have zz8 := hk8.cell (i := 0) (v := .slice An' N1.length cn') rfl
              have aN := Lib.hid (HNO.out.kept hg1 (.inr (fun e => HC.out.hm.not_row HNO.out e.symm)))
              have a8 := Lib.hid (hk8.alloc (.cells (csO v).toArray 98))
              have hwY : w0.heap.size ≤ Y2.heap.size := Nat.le_trans HC.out.bl.size hg1.size
              clear hkx hk8 hm1 hg1 hnm hmbr
              obtain ⟨iN, hiN, hzN, hsN, hbN⟩ := info_parts infoOff
              gi_wp2_with (gi_at_builtin; go_loud (refine wpListIn_append_own_at _ rfl _ _ 91 rfl w0.heap.size 98 iN (.agg #[.int .i64 0, .int .i64 0, .int .i64 0, .int .i64 0, .int .i64 0]) 5 40 Try.underlying91 hiN hzN hsN hbN rfl (by decide) _ _ _ rfl (aN.out.alloc _) ⟨Y2.heap.size, 0, none⟩ 1 1 (csO v) rfl rfl (fun j u hj => by rw [Law.add_plain, Nat.zero_add]; exact (Hb.new Y2 (csO v).toArray 98).cell (by simpa using hj)) (by simp [Value.oneCell']) (by unfold maxLen; omega) (by omega) (by simp; omega) ?_; intro v' Y3 hown' hgrow _ hloc; obtain ⟨g', cap', rfl⟩ := ownsRow_succ hown'; have q8 := a8.out.grown hgrow (a8.out.not_row (by decide) (aN.out.alloc _)); have e8 := q8.cell (i := 0) (v := .slice An' N1.length cn') rfl; have f8 := q8.frozen 0))
              gi_meet
              case rel => exact ⟨by rw [Q.place_no HNM.out], Lib.hid (by rw [Q.grow_no HNM.out]; exact HC.out.put H8.out HNO.out HNB.out HG1.out HM1.out hown' hgrow hloc), Lib.hid (HR2.out.put HC.out H8.out HNO.out HG1.out hgrow _), Lib.hid (kfO_put (by have := HC.out.lm.2; omega) aN.out HG1.out hgrow _)⟩
            · obtain ⟨hm, rfl⟩ := HKN.out.1 rfl
              have HM := Lib.hid hm
              clear hm
              gi_wp2
              gi_meet
              case rel => exact ⟨rfl, Lib.hid (by rw [Q.grow_yes HM.out]; exact HC.out), HR2, Lib.hid (KeepsFrom.refl _ _)⟩
          case rest =>
            obtain ⟨rfl, HC2, HR3, HKF⟩ := hcut
            obtain ⟨p, hp⟩ : ∃ p, p = Q.place N1 v := ⟨_, rfl⟩
            rw [← hp]
            obtain ⟨N2, hN2⟩ : ∃ N2, N2 = (Q.grow N1 v) := ⟨_, rfl⟩
            rw [← hN2] at HC2
            have HST2 : Hid (Q.rowG ns (List.map (fun q : AO n => q.1) (pre ++ [⟨(v, s), hv⟩])) = (N2, I1 ++ [p], T1 ++ [s])) := by
              show _ = _
              rw [HST.out, Q.addG_eq, hN2, hp]
            have hlI : I1.length ≤ 10 := by omega
            have hlT : T1.length ≤ 10 := by omega
            clear hl1 hl2 hl3 HST hN2 hp hrun y0 y1 y2 y3 y4 z8 z9 HKN HKL H8 HNO HNB HBx
            obtain ⟨iI, hiI, hzI, hsI, hbI⟩ := info_parts infoInts
            obtain ⟨iS, hiS, hzS, hsS, hbS⟩ := info_parts infoInts
            gi_upto_region 14 with (fail)
            refine region_inv_round_u (by kernel_rfl) (by kernel_rfl) (by kernel_rfl) (fun u b a w => J14O u n w0 W W6 Y B (w0.heap.size + 1) b8 mb Ax nx.length cx As ss.length cz N2 (W.heap.size + 1 + 1) (W.heap.size + 1 + 1 + 1) I1 T1 p s g11 c11 g12 c12 (b 0) (b 1) (b 2) (b 3) (b 4) (b 5) (b 6) (b 7) (b 8) (b 9) a w) ?h14 ?s14 ?d14
            case h14 =>
              have hd := (Below.refl wc.heap.size wc).drew
              exact ⟨0, 0, 0, 0, 0, 0, rfl, ⟨HC2.out.drew, HR3.out.x11.on hd, HR3.out.x12.on hd, own_past HR3.out.r11 hd, own_past HR3.out.r12 hd, HR3.out.ap, HR3.out.nB, fun e => (by cases e), fun e => (by cases e), fun e => (by cases e), fun e => (by cases e), fun e => (by cases e), fun e => (by cases e), HKF.out.trans ((KeepsOthers.drew _).from _), HR3.out.lb⟩⟩
            case s14 =>
              intro u b a w i o hI hb ho hpre
              obtain ⟨p63, g11', c11', p67, g12', c12', rfl, hI⟩ := hI
              have hi : i < 10 := (Array.getElem?_eq_some_iff.1 ho).1
              rcases (by omega : i = 0 ∨ i = 1 ∨ i = 2 ∨ i = 3 ∨ i = 4 ∨ i = 5 ∨ i = 6 ∨ i = 7 ∨ i = 8 ∨ i = 9) with rfl | rfl | rfl | rfl | rfl | rfl | rfl | rfl | rfl | rfl
              · injection (show some _ = some o from ho) with ho
                subst ho
                clear hpre
                refine wpOp_step rfl (fun K2 hK2 => ?_)
                replace hK2 : ∀ a w, J14O u n w0 W W6 Y B (w0.heap.size + 1) b8 mb Ax nx.length cx As ss.length cz N2 (W.heap.size + 1 + 1) (W.heap.size + 1 + 1 + 1) I1 T1 p s g11 c11 g12 c12 true (b 1) (b 2) (b 3) (b 4) (b 5) (b 6) (b 7) (b 8) (b 9) a w → K2 a w := hK2
                generalize b 0 = b0 at *
                generalize b 1 = b1 at *
                generalize b 2 = b2 at *
                generalize b 3 = b3 at *
                generalize b 4 = b4 at *
                generalize b 5 = b5 at *
                generalize b 6 = b6' at *
                generalize b 7 = b7 at *
                generalize b 8 = b8' at *
                generalize b 9 = b9 at *
                clear b
                subst hb
                obtain rfl : b8' = false := (by cases b8' <;> first | rfl | exact absurd (hI.d80 rfl) (by decide))
                simp only [pk] at hI ⊢
                have c0 := hI.x11.cell (i := 0) (v := sl g11 I1.length c11) rfl
                go_simp
                exact hK2 _ _ ⟨p63, g11', c11', p67, g12', c12', rfl, { hI with d80 := fun e => (by cases e) }⟩
              · injection (show some _ = some o from ho) with ho
                subst ho
                clear hpre
                refine wpOp_step rfl (fun K2 hK2 => ?_)
                replace hK2 : ∀ a w, J14O u n w0 W W6 Y B (w0.heap.size + 1) b8 mb Ax nx.length cx As ss.length cz N2 (W.heap.size + 1 + 1) (W.heap.size + 1 + 1 + 1) I1 T1 p s g11 c11 g12 c12 (b 0) true (b 2) (b 3) (b 4) (b 5) (b 6) (b 7) (b 8) (b 9) a w → K2 a w := hK2
                generalize b 0 = b0 at *
                generalize b 1 = b1 at *
                generalize b 2 = b2 at *
                generalize b 3 = b3 at *
                generalize b 4 = b4 at *
                generalize b 5 = b5 at *
                generalize b 6 = b6' at *
                generalize b 7 = b7 at *
                generalize b 8 = b8' at *
                generalize b 9 = b9 at *
                clear b
                subst hb
                simp only [pk] at hI ⊢
                go_simp
                exact hK2 _ _ ⟨p63, g11', c11', p67, g12', c12', rfl, hI⟩
              · injection (show some _ = some o from ho) with ho
                subst ho
                have e1 : b 1 = true := hpre ⟨1, .data⟩ (by simp) rfl
                clear hpre
                refine wpOp_step rfl (fun K2 hK2 => ?_)
                replace hK2 : ∀ a w, J14O u n w0 W W6 Y B (w0.heap.size + 1) b8 mb Ax nx.length cx As ss.length cz N2 (W.heap.size + 1 + 1) (W.heap.size + 1 + 1 + 1) I1 T1 p s g11 c11 g12 c12 (b 0) (b 1) true (b 3) (b 4) (b 5) (b 6) (b 7) (b 8) (b 9) a w → K2 a w := hK2
                generalize b 0 = b0 at *
                generalize b 1 = b1 at *
                generalize b 2 = b2 at *
                generalize b 3 = b3 at *
                generalize b 4 = b4 at *
                generalize b 5 = b5 at *
                generalize b 6 = b6' at *
                generalize b 7 = b7 at *
                generalize b 8 = b8' at *
                generalize b 9 = b9 at *
                clear b
                subst hb
                subst e1
                simp only [pk] at hI ⊢
                go_simp
                exact hK2 _ _ ⟨w.heap.size, g11', c11', p67, g12', c12', rfl, hI.o2⟩
              · injection (show some _ = some o from ho) with ho
                subst ho
                have e0 : b 0 = true := hpre ⟨0, .data⟩ (by simp) rfl
                have e2 : b 2 = true := hpre ⟨2, .data⟩ (by simp) rfl
                clear hpre
                refine wpOp_mono (K := fun a w => J14O u n w0 W W6 Y B (w0.heap.size + 1) b8 mb Ax nx.length cx As ss.length cz N2 (W.heap.size + 1 + 1) (W.heap.size + 1 + 1 + 1) I1 T1 p s g11 c11 g12 c12 (b 0) (b 1) (b 2) true (b 4) (b 5) (b 6) (b 7) (b 8) (b 9) a w) (fun _ _ h => h) ?_
                generalize b 0 = b0 at *
                generalize b 1 = b1 at *
                generalize b 2 = b2 at *
                generalize b 3 = b3 at *
                generalize b 4 = b4 at *
                generalize b 5 = b5 at *
                generalize b 6 = b6' at *
                generalize b 7 = b7 at *
                generalize b 8 = b8' at *
                generalize b 9 = b9 at *
                clear b
                subst hb
                subst e0
                subst e2
                obtain rfl : b8' = false := (by cases b8' <;> first | rfl | exact absurd (hI.d8 rfl) (by decide))
                simp only [pk] at hI ⊢
                refine wpOp_append w rfl rfl _ _ _ rfl W.heap.size 3 iI (.int .i64 0) 1 8 Try.underlying35 hiI hzI hsI hbI rfl (by decide) (sl g11 I1.length c11) I1.length (cvs csI I1) rfl (show w.ownsRow W.heap.size 3 1 (sl g11 I1.length c11) I1.length (cvs csI I1) from hI.r11) ⟨p63, 0, none⟩ 1 1 (csI p) rfl rfl (fun j z hj => by rw [Law.add_plain, Nat.zero_add]; exact (hI.q63 rfl rfl).1.cell (by simpa using hj)) (by simp [Value.oneCell']) (by decide) (by unfold maxLen; omega) (by omega) (by have := hI.core.fr.size; exact this) ?_
                intro g cap w' ho hg hloc hlt
                exact ⟨p63, g, cap, p67, g12', c12', rfl, hI.o3 ho hg hloc⟩
              · injection (show some _ = some o from ho) with ho
                subst ho
                clear hpre
                refine wpOp_step rfl (fun K2 hK2 => ?_)
                replace hK2 : ∀ a w, J14O u n w0 W W6 Y B (w0.heap.size + 1) b8 mb Ax nx.length cx As ss.length cz N2 (W.heap.size + 1 + 1) (W.heap.size + 1 + 1 + 1) I1 T1 p s g11 c11 g12 c12 (b 0) (b 1) (b 2) (b 3) true (b 5) (b 6) (b 7) (b 8) (b 9) a w → K2 a w := hK2
                generalize b 0 = b0 at *
                generalize b 1 = b1 at *
                generalize b 2 = b2 at *
                generalize b 3 = b3 at *
                generalize b 4 = b4 at *
                generalize b 5 = b5 at *
                generalize b 6 = b6' at *
                generalize b 7 = b7 at *
                generalize b 8 = b8' at *
                generalize b 9 = b9 at *
                clear b
                subst hb
                obtain rfl : b9 = false := (by cases b9 <;> first | rfl | exact absurd (hI.d94 rfl) (by decide))
                simp only [pk] at hI ⊢
                have c0 := hI.x12.cell (i := 0) (v := sl g12 T1.length c12) rfl
                go_simp
                exact hK2 _ _ ⟨p63, g11', c11', p67, g12', c12', rfl, { hI with d94 := fun e => (by cases e) }⟩
              · injection (show some _ = some o from ho) with ho
                subst ho
                clear hpre
                refine wpOp_step rfl (fun K2 hK2 => ?_)
                replace hK2 : ∀ a w, J14O u n w0 W W6 Y B (w0.heap.size + 1) b8 mb Ax nx.length cx As ss.length cz N2 (W.heap.size + 1 + 1) (W.heap.size + 1 + 1 + 1) I1 T1 p s g11 c11 g12 c12 (b 0) (b 1) (b 2) (b 3) (b 4) true (b 6) (b 7) (b 8) (b 9) a w → K2 a w := hK2
                generalize b 0 = b0 at *
                generalize b 1 = b1 at *
                generalize b 2 = b2 at *
                generalize b 3 = b3 at *
                generalize b 4 = b4 at *
                generalize b 5 = b5 at *
                generalize b 6 = b6' at *
                generalize b 7 = b7 at *
                generalize b 8 = b8' at *
                generalize b 9 = b9 at *
                clear b
                subst hb
                simp only [pk] at hI ⊢
                go_simp
                exact hK2 _ _ ⟨p63, g11', c11', p67, g12', c12', rfl, hI⟩
              · injection (show some _ = some o from ho) with ho
                subst ho
                have e5 : b 5 = true := hpre ⟨5, .data⟩ (by simp) rfl
                clear hpre
                refine wpOp_step rfl (fun K2 hK2 => ?_)
                replace hK2 : ∀ a w, J14O u n w0 W W6 Y B (w0.heap.size + 1) b8 mb Ax nx.length cx As ss.length cz N2 (W.heap.size + 1 + 1) (W.heap.size + 1 + 1 + 1) I1 T1 p s g11 c11 g12 c12 (b 0) (b 1) (b 2) (b 3) (b 4) (b 5) true (b 7) (b 8) (b 9) a w → K2 a w := hK2
                generalize b 0 = b0 at *
                generalize b 1 = b1 at *
                generalize b 2 = b2 at *
                generalize b 3 = b3 at *
                generalize b 4 = b4 at *
                generalize b 5 = b5 at *
                generalize b 6 = b6' at *
                generalize b 7 = b7 at *
                generalize b 8 = b8' at *
                generalize b 9 = b9 at *
                clear b
                subst hb
                subst e5
                simp only [pk] at hI ⊢
                go_simp
                exact hK2 _ _ ⟨p63, g11', c11', w.heap.size, g12', c12', rfl, hI.o6⟩
              · injection (show some _ = some o from ho) with ho
                subst ho
                have e3 : b 3 = true := hpre ⟨3, .chain⟩ (by simp) rfl
                have e4 : b 4 = true := hpre ⟨4, .data⟩ (by simp) rfl
                have e6 : b 6 = true := hpre ⟨6, .data⟩ (by simp) rfl
                clear hpre
                refine wpOp_mono (K := fun a w => J14O u n w0 W W6 Y B (w0.heap.size + 1) b8 mb Ax nx.length cx As ss.length cz N2 (W.heap.size + 1 + 1) (W.heap.size + 1 + 1 + 1) I1 T1 p s g11 c11 g12 c12 (b 0) (b 1) (b 2) (b 3) (b 4) (b 5) (b 6) true (b 8) (b 9) a w) (fun _ _ h => h) ?_
                generalize b 0 = b0 at *
                generalize b 1 = b1 at *
                generalize b 2 = b2 at *
                generalize b 3 = b3 at *
                generalize b 4 = b4 at *
                generalize b 5 = b5 at *
                generalize b 6 = b6' at *
                generalize b 7 = b7 at *
                generalize b 8 = b8' at *
                generalize b 9 = b9 at *
                clear b
                subst hb
                subst e3
                subst e4
                subst e6
                obtain rfl : b9 = false := (by cases b9 <;> first | rfl | exact absurd (hI.d9 rfl) (by decide))
                simp only [pk] at hI ⊢
                refine wpOp_append w rfl rfl _ _ _ rfl W.heap.size 3 iS (.int .i64 0) 1 8 Try.underlying35 hiS hzS hsS hbS rfl (by decide) (sl g12 T1.length c12) T1.length (cvs csZ T1) rfl (show w.ownsRow W.heap.size 3 1 (sl g12 T1.length c12) T1.length (cvs csZ T1) from hI.r12) ⟨p67, 0, none⟩ 1 1 (csZ s) rfl rfl (fun j z hj => by rw [Law.add_plain, Nat.zero_add]; exact (hI.q67 rfl rfl).1.cell (by simpa using hj)) (by simp [Value.oneCell']) (by decide) (by unfold maxLen; omega) (by omega) (by have := hI.core.fr.size; exact this) ?_
                intro g cap w' ho hg hloc hlt
                exact ⟨p63, g11', c11', p67, g, cap, rfl, hI.o7 ho hg hloc⟩
              · injection (show some _ = some o from ho) with ho
                subst ho
                have e0 : b 0 = true := hpre ⟨0, .phase⟩ (by simp) rfl
                have e1 : b 1 = true := hpre ⟨1, .phase⟩ (by simp) rfl
                have e2 : b 2 = true := hpre ⟨2, .phase⟩ (by simp) rfl
                have e3 : b 3 = true := hpre ⟨3, .data⟩ (by simp) rfl
                have e7 : b 7 = true := hpre ⟨7, .chain⟩ (by simp) rfl
                clear hpre
                refine wpOp_step rfl (fun K2 hK2 => ?_)
                replace hK2 : ∀ a w, J14O u n w0 W W6 Y B (w0.heap.size + 1) b8 mb Ax nx.length cx As ss.length cz N2 (W.heap.size + 1 + 1) (W.heap.size + 1 + 1 + 1) I1 T1 p s g11 c11 g12 c12 (b 0) (b 1) (b 2) (b 3) (b 4) (b 5) (b 6) (b 7) true (b 9) a w → K2 a w := hK2
                generalize b 0 = b0 at *
                generalize b 1 = b1 at *
                generalize b 2 = b2 at *
                generalize b 3 = b3 at *
                generalize b 4 = b4 at *
                generalize b 5 = b5 at *
                generalize b 6 = b6' at *
                generalize b 7 = b7 at *
                generalize b 8 = b8' at *
                generalize b 9 = b9 at *
                clear b
                subst hb
                subst e0
                subst e1
                subst e2
                subst e3
                subst e7
                simp only [pk] at hI ⊢
                have c0 := hI.x11.cell (i := 0) (v := sl g11 I1.length c11) rfl
                have f0 := hI.x11.frozen 0
                go_simp
                exact hK2 _ _ ⟨p63, g11', c11', p67, g12', c12', rfl, hI.o8 rfl⟩
              · injection (show some _ = some o from ho) with ho
                subst ho
                have e0 : b 0 = true := hpre ⟨0, .phase⟩ (by simp) rfl
                have e1 : b 1 = true := hpre ⟨1, .phase⟩ (by simp) rfl
                have e2 : b 2 = true := hpre ⟨2, .phase⟩ (by simp) rfl
                have e3 : b 3 = true := hpre ⟨3, .phase⟩ (by simp) rfl
                have e4 : b 4 = true := hpre ⟨4, .phase⟩ (by simp) rfl
                have e5 : b 5 = true := hpre ⟨5, .phase⟩ (by simp) rfl
                have e6 : b 6 = true := hpre ⟨6, .phase⟩ (by simp) rfl
                have e7 : b 7 = true := hpre ⟨7, .data⟩ (by simp) rfl
                have e8 : b 8 = true := hpre ⟨8, .chain⟩ (by simp) rfl
                clear hpre
                refine wpOp_step rfl (fun K2 hK2 => ?_)
                replace hK2 : ∀ a w, J14O u n w0 W W6 Y B (w0.heap.size + 1) b8 mb Ax nx.length cx As ss.length cz N2 (W.heap.size + 1 + 1) (W.heap.size + 1 + 1 + 1) I1 T1 p s g11 c11 g12 c12 (b 0) (b 1) (b 2) (b 3) (b 4) (b 5) (b 6) (b 7) (b 8) true a w → K2 a w := hK2
                generalize b 0 = b0 at *
                generalize b 1 = b1 at *
                generalize b 2 = b2 at *
                generalize b 3 = b3 at *
                generalize b 4 = b4 at *
                generalize b 5 = b5 at *
                generalize b 6 = b6' at *
                generalize b 7 = b7 at *
                generalize b 8 = b8' at *
                generalize b 9 = b9 at *
                clear b
                subst hb
                subst e0
                subst e1
                subst e2
                subst e3
                subst e4
                subst e5
                subst e6
                subst e7
                subst e8
                simp only [pk] at hI ⊢
                have c0 := hI.x12.cell (i := 0) (v := sl g12 T1.length c12) rfl
                have f0 := hI.x12.frozen 0
                go_simp
                exact hK2 _ _ ⟨p63, g11', c11', p67, g12', c12', rfl, hI.o9 rfl⟩
            case d14 =>
              intro u b a w hI hall
              obtain ⟨p63, g11', c11', p67, g12', c12', rfl, hI⟩ := hI
              have e0 : b 0 = true := hall 0 (by show 0 < 10; omega)
              have e1 : b 1 = true := hall 1 (by show 1 < 10; omega)
              have e2 : b 2 = true := hall 2 (by show 2 < 10; omega)
              have e3 : b 3 = true := hall 3 (by show 3 < 10; omega)
              have e4 : b 4 = true := hall 4 (by show 4 < 10; omega)
              have e5 : b 5 = true := hall 5 (by show 5 < 10; omega)
              have e6 : b 6 = true := hall 6 (by show 6 < 10; omega)
              have e7 : b 7 = true := hall 7 (by show 7 < 10; omega)
              have e8 : b 8 = true := hall 8 (by show 8 < 10; omega)
              have e9 : b 9 = true := hall 9 (by show 9 < 10; omega)
              generalize b 0 = b0_ at *
              generalize b 1 = b1_ at *
              generalize b 2 = b2_ at *
              generalize b 3 = b3_ at *
              generalize b 4 = b4_ at *
              generalize b 5 = b5_ at *
              generalize b 6 = b6_ at *
              generalize b 7 = b7_ at *
              generalize b 8 = b8_ at *
              generalize b 9 = b9_ at *
              subst e0
              subst e1
              subst e2
              subst e3
              subst e4
              subst e5
              subst e6
              subst e7
              subst e8
              subst e9
              have hk := HC.out.keeps hI.core hI.kf.size
              refine ⟨hI.kf, hk, g11', c11', g12', c12', ?_⟩
              rw [HST2.out]
              have hlI : (I1 ++ [p]).length = I1.length + 1 := by simp
              have hlT : (T1 ++ [s]).length = T1.length + 1 := by simp
              exact ⟨hI.core, ⟨by rw [hlI]; exact hI.x11, by rw [hlT]; exact hI.x12, by rw [hlI]; exact hI.r11, by rw [hlT]; exact hI.r12, hI.ap, hI.nB, hI.lb⟩⟩
        case done =>
          rintro D ys Y hD hys ⟨g11, c11, g12, c12, h1, h2⟩ hKD
          have hys : ys.map (·.1) = stp x := hys
          rw [hys] at h1 h2
          have HC := Lib.hid h1
          have HR2 := Lib.hid h2
          have HKD := Lib.hid hKD
          have hRI := HR.out.rowI HS.out hx
          have hl1 := hRI.l1
          have hl2 : (Q.rowG ns (stp x)).2.2.length = (stp x).length := by rw [hRI.s2]; simp
          have hl3 := hRI.hi
          have hl4 := HR.out.mo
          have hl5 := HL.out x
          have HSTEP := Lib.hid (fun (hb : ¬ most < (Q.rowG ns (stp x)).1.length) => HR.out.step HS.out hx hb)
          have HGO := Lib.hid (fun (hb : ¬ most < (Q.rowG ns (stp x)).1.length) => Q.goG_step (stp := stp) (most := most) (f := most - k) (nx := nx) (ss := ss) hx hb)
          have HGB := Lib.hid (fun (hb : most < (Q.rowG ns (stp x)).1.length) => Q.goG_big (stp := stp) (most := most) (f := most - k) (nx := nx) (ss := ss) hx hb)
          clear hRI h1 h2 hKD hys
          generalize Q.rowG ns (stp x) = st at HC HR2 HSTEP HGO HGB hl1 hl2 hl3
          obtain ⟨N1, I1, T1⟩ := st
          simp only [] at HC HR2 hl1 hl2 hl3 HSTEP HGO HGB
          have hk1 := HR.out.kl
          have HX2 : Hid (Q.goG stp most (most - k + 1) k ns nx ss = R) := by
            show _ = _
            rw [show most - k + 1 = most + 1 - k by omega]
            exact HX.out
          have hlI : I1.length ≤ 10 := by omega
          have hlT : T1.length ≤ 10 := by omega
          have HMk : Hid (Marks w0.heap.size Y (D :: rs)) := Lib.hid ((HG.out.ms.frm HC.out.fr).cons (by omega) HKD.out (fun q hq => by have := HG.out.ms.lt q hq; omega))
          have H9Y := Lib.hid (HC.out.fr.hb H9.out (by decide) (by decide))
          have HXN := Lib.hid (HG.out.out.xn.frm HC.out.fr (by decide) (by decide))
          have HSN := Lib.hid (HG.out.out.sn.frm HC.out.fr (by decide) (by decide))
          have HXO' := Lib.hid (HC.out.fr.own HG.out.out.xo (by decide) (by decide))
          have HSO := Lib.hid (HC.out.fr.own HG.out.out.so (by decide) (by decide))
          have HAP := Lib.hid HG.out.out.ap
          have HCR := Lib.hid HG.out.out.cr
          have hxb := Lib.hid (fun b (e : (Value.slice Ax nx.length cx).ownBlock = some b) => (HG.out.out.xo.lt b e).2)
          have HXL := Lib.hid HG.out.out.xn.len
          have hkN : nx.length = k ∧ ss.length = k := ⟨HR.out.k1, HR.out.k2⟩
          obtain ⟨hkN1, hkN2⟩ := hkN
          have HKN1 := Lib.hid hkN1
          have HKN2 := Lib.hid hkN2
          clear hkN1 hkN2
          clear hl1 hl2 HX
          obtain ⟨An', cn', h8, hno, _⟩ := HC.out.g8
          have H8 := Lib.hid h8
          have HNO := Lib.hid hno
          have hk8 := H8.out
          have z8 := hk8.cell (i := 0) (v := .slice An' N1.length cn') rfl
          clear h8 hno hk8
          by_cases hb : most < N1.length
          · have hbI : (most : Int) < (N1.length : Int) := by omega
            have HRn : Hid (R = none) := by
              show _ = _
              rw [← HX2.out]
              exact HGB.out hb
            have hk6 := HC.out.g6
            have y0 := hk6.cell (i := 0) (v := .slice none 0 0) rfl
            have y1 := hk6.cell (i := 1) (v := .slice none 0 0) rfl
            have y2 := hk6.cell (i := 2) (v := .slice none 0 0) rfl
            have f0 := hk6.frozen 0
            have f1 := hk6.frozen 1
            have f2 := hk6.frozen 2
            clear hk6
            gi_wp2
            have q1 := HC.out.g6.set 0 (.slice none 0 0)
            have q2 := q1.set 1 (.slice none 0 0)
            have q3 := q2.set 2 (.slice none 0 0)
            have hbl := ((HC.out.bl.setCell (p := ⟨w0.heap.size + 1, 0, none⟩) (by show _ ≤ _; simp) (.slice none 0 0)).setCell (p := ⟨w0.heap.size + 1, 1, none⟩) (by show _ ≤ _; simp) (.slice none 0 0)).setCell (p := ⟨w0.heap.size + 1, 2, none⟩) (by show _ ≤ _; simp) (.slice none 0 0)
            rw [HRn.out]
            exact leaveO (b := w0.heap.size) (rs := D :: rs) (fun W => Below w0.heap.size w0 W) rfl rfl (((HMk.out.set HC.out.g6 _).set q1 _).set q2 _) q3 hbl (fun W r h hb hr => h.grown (grownBy_putObj' W r _) h.size (fun k e => by injection e with e; omega)) (fun W h => ⟨rfl, h⟩)
          · have hbI : (N1.length : Int) ≤ (most : Int) := by omega
            obtain ⟨iX, hiX, hzX, hsX, hbX⟩ := info_parts infoII
            obtain ⟨iZ, hiZ, hzZ, hsZ, hbZ⟩ := info_parts infoII
            have HC17 : Hid (C17O n w0 W (w0.heap.size + 1) b9 mb An' cn' xsx xss (D :: rs) N1 nx ss g11 c11 g12 c12 I1 T1 Y) := Lib.hid ⟨HNO.out, HXN.out, HSN.out, HC.out.g6, H9Y.out, HC.out.hm, HMk.out, HC.out.bl, HR2.out.r11, HR2.out.r12⟩
            have hlnx : nx.length ≤ 700 := by have := HKN1.out; omega
            have hlss : ss.length ≤ 700 := by have := HKN2.out; omega
            gi_upto_region 17 with (fail)
            refine wpIn_wide.2 (region_inv_u (by kernel_rfl) (by kernel_rfl) (fun u b a w => (u 0 = kvO x0 ∧ u 1 = .int .i64 (most : Int) ∧ u 2 = .func (.func 111) #[] lbA ∧ u 3 = .pointer (some ⟨w0.heap.size, 0, none⟩) ∧ u 4 = undef ∧ u 5 = undef ∧ u 6 = .pointer (some ⟨w0.heap.size + 1, 0, none⟩) ∧ u 7 = .bool false ∧ u 9 = .pointer (some ⟨b9, 0, none⟩) ∧ u 10 = .int .i64 (k : Int)) ∧ J17O u (List.map mkD (D :: rs)) n w0 W (w0.heap.size + 1) b8 b9 mb An' cn' Ax cx As cz xsx xss (D :: rs) N1 nx ss (W.heap.size + 1 + 1) (W.heap.size + 1 + 1 + 1) g11 c11 g12 c12 I1 T1 (b 0) (b 1) (b 2) (b 3) (b 4) (b 5) (b 6) (b 7) (b 8) (b 9) (b 10) (b 11) (b 12) (b 13) a w) ?h17 ?s17 ?d17)
            case h17 =>
              have hd := (Below.refl Y.heap.size Y).drew
              exact ⟨⟨rfl, rfl, rfl, rfl, rfl, rfl, rfl, rfl, rfl, rfl⟩, 0, 0, 0, 0, 0, 0, rfl, ⟨HC17.out.drew, H8.out.on hd, own_past HXO'.out hd, own_past HSO.out hd, HAP.out, fun _ _ => ⟨HR2.out.x11.on hd, fun e => by have := hxb.out _ e; omega⟩, fun _ => ⟨HR2.out.x12.on hd, fun _ e => by have := hxb.out _ e; omega⟩, fun e => (by cases e), fun e => (by cases e), fun e => (by cases e), fun e => (by cases e), fun e => (by cases e), fun e => (by cases e), fun e => (by cases e), fun e => (by cases e), fun e => (by cases e), fun e => (by cases e), fun e => (by cases e), ⟨HC.out.l8.1, fun e => HC.out.l8.2.2 e.symm⟩⟩⟩
            case s17 =>
              intro u b a w i o hI hb2 ho hpre
              obtain ⟨HU, p78, gx, cx', p83, gs, cz', rfl, hI⟩ := hI
              replace HU := Lib.hid HU
              have hi : i < 14 := (Array.getElem?_eq_some_iff.1 ho).1
              clear z8 hb hbI
              rcases (by omega : i = 0 ∨ i = 1 ∨ i = 2 ∨ i = 3 ∨ i = 4 ∨ i = 5 ∨ i = 6 ∨ i = 7 ∨ i = 8 ∨ i = 9 ∨ i = 10 ∨ i = 11 ∨ i = 12 ∨ i = 13) with rfl | rfl | rfl | rfl | rfl | rfl | rfl | rfl | rfl | rfl | rfl | rfl | rfl | rfl
              · injection (show some _ = some o from ho) with ho
                subst ho
                clear hpre
                refine wpOp_step rfl (fun K2 hK2 => ?_)
                replace hK2 : ∀ a w, J17O u (List.map mkD (D :: rs)) n w0 W (w0.heap.size + 1) b8 b9 mb An' cn' Ax cx As cz xsx xss (D :: rs) N1 nx ss (W.heap.size + 1 + 1) (W.heap.size + 1 + 1 + 1) g11 c11 g12 c12 I1 T1 true (b 1) (b 2) (b 3) (b 4) (b 5) (b 6) (b 7) (b 8) (b 9) (b 10) (b 11) (b 12) (b 13) a w → K2 a w := fun a w h => hK2 a w ⟨HU.out, h⟩
                generalize b 0 = t0 at *
                generalize b 1 = t1 at *
                generalize b 2 = t2 at *
                generalize b 3 = t3 at *
                generalize b 4 = t4 at *
                generalize b 5 = t5 at *
                generalize b 6 = t6 at *
                generalize b 7 = t7 at *
                generalize b 8 = t8 at *
                generalize b 9 = t9 at *
                generalize b 10 = t10 at *
                generalize b 11 = t11 at *
                generalize b 12 = t12 at *
                generalize b 13 = t13 at *
                clear b
                subst hb2
                simp only [pk] at hI ⊢
                go_simp
                exact hK2 _ _ ⟨p78, gx, cx', p83, gs, cz', rfl, hI⟩
              · injection (show some _ = some o from ho) with ho
                subst ho
                have e0 : b 0 = true := hpre ⟨0, .data⟩ (by simp) rfl
                clear hpre
                refine wpOp_step rfl (fun K2 hK2 => ?_)
                replace hK2 : ∀ a w, J17O u (List.map mkD (D :: rs)) n w0 W (w0.heap.size + 1) b8 b9 mb An' cn' Ax cx As cz xsx xss (D :: rs) N1 nx ss (W.heap.size + 1 + 1) (W.heap.size + 1 + 1 + 1) g11 c11 g12 c12 I1 T1 (b 0) true (b 2) (b 3) (b 4) (b 5) (b 6) (b 7) (b 8) (b 9) (b 10) (b 11) (b 12) (b 13) a w → K2 a w := fun a w h => hK2 a w ⟨HU.out, h⟩
                generalize b 0 = t0 at *
                generalize b 1 = t1 at *
                generalize b 2 = t2 at *
                generalize b 3 = t3 at *
                generalize b 4 = t4 at *
                generalize b 5 = t5 at *
                generalize b 6 = t6 at *
                generalize b 7 = t7 at *
                generalize b 8 = t8 at *
                generalize b 9 = t9 at *
                generalize b 10 = t10 at *
                generalize b 11 = t11 at *
                generalize b 12 = t12 at *
                generalize b 13 = t13 at *
                clear b
                subst hb2
                subst e0
                obtain rfl : t11 = false := (by cases t11 <;> first | rfl | exact absurd (hI.d111 rfl) (by decide))
                simp only [pk] at hI ⊢
                have c1 := hI.g8.cell (i := 1) (v := .slice Ax nx.length cx) rfl
                go_simp
                exact hK2 _ _ ⟨p78, gx, cx', p83, gs, cz', rfl, { hI with d111 := fun e => (by cases e) }⟩
              · injection (show some _ = some o from ho) with ho
                subst ho
                clear hpre
                refine wpOp_step rfl (fun K2 hK2 => ?_)
                replace hK2 : ∀ a w, J17O u (List.map mkD (D :: rs)) n w0 W (w0.heap.size + 1) b8 b9 mb An' cn' Ax cx As cz xsx xss (D :: rs) N1 nx ss (W.heap.size + 1 + 1) (W.heap.size + 1 + 1 + 1) g11 c11 g12 c12 I1 T1 (b 0) (b 1) true (b 3) (b 4) (b 5) (b 6) (b 7) (b 8) (b 9) (b 10) (b 11) (b 12) (b 13) a w → K2 a w := fun a w h => hK2 a w ⟨HU.out, h⟩
                generalize b 0 = t0 at *
                generalize b 1 = t1 at *
                generalize b 2 = t2 at *
                generalize b 3 = t3 at *
                generalize b 4 = t4 at *
                generalize b 5 = t5 at *
                generalize b 6 = t6 at *
                generalize b 7 = t7 at *
                generalize b 8 = t8 at *
                generalize b 9 = t9 at *
                generalize b 10 = t10 at *
                generalize b 11 = t11 at *
                generalize b 12 = t12 at *
                generalize b 13 = t13 at *
                clear b
                subst hb2
                obtain rfl : t4 = false := (by cases t4 <;> first | rfl | exact absurd (hI.d42 rfl) (by decide))
                obtain rfl : t9 = false := (by cases t9 <;> first | rfl | exact absurd (hI.d9 rfl) (by decide))
                simp only [pk] at hI ⊢
                have c1 := (hI.x11 rfl rfl).1.cell (i := 0) (v := sl g11 I1.length c11) rfl
                go_simp
                exact hK2 _ _ ⟨p78, gx, cx', p83, gs, cz', rfl, { hI with d42 := fun e => (by cases e), d32 := fun _ => rfl }⟩
              · injection (show some _ = some o from ho) with ho
                subst ho
                have e2 : b 2 = true := hpre ⟨2, .data⟩ (by simp) rfl
                clear hpre
                refine wpOp_step rfl (fun K2 hK2 => ?_)
                replace hK2 : ∀ a w, J17O u (List.map mkD (D :: rs)) n w0 W (w0.heap.size + 1) b8 b9 mb An' cn' Ax cx As cz xsx xss (D :: rs) N1 nx ss (W.heap.size + 1 + 1) (W.heap.size + 1 + 1 + 1) g11 c11 g12 c12 I1 T1 (b 0) (b 1) (b 2) true (b 4) (b 5) (b 6) (b 7) (b 8) (b 9) (b 10) (b 11) (b 12) (b 13) a w → K2 a w := fun a w h => hK2 a w ⟨HU.out, h⟩
                generalize b 0 = t0 at *
                generalize b 1 = t1 at *
                generalize b 2 = t2 at *
                generalize b 3 = t3 at *
                generalize b 4 = t4 at *
                generalize b 5 = t5 at *
                generalize b 6 = t6 at *
                generalize b 7 = t7 at *
                generalize b 8 = t8 at *
                generalize b 9 = t9 at *
                generalize b 10 = t10 at *
                generalize b 11 = t11 at *
                generalize b 12 = t12 at *
                generalize b 13 = t13 at *
                clear b
                subst hb2
                subst e2
                simp only [pk] at hI ⊢
                go_simp
                exact hK2 _ _ ⟨w.heap.size, gx, cx', p83, gs, cz', rfl, hI.o3⟩
              · injection (show some _ = some o from ho) with ho
                subst ho
                have e1 : b 1 = true := hpre ⟨1, .data⟩ (by simp) rfl
                have e3 : b 3 = true := hpre ⟨3, .data⟩ (by simp) rfl
                clear hpre
                refine wpOp_mono (K := fun a w => J17O u (List.map mkD (D :: rs)) n w0 W (w0.heap.size + 1) b8 b9 mb An' cn' Ax cx As cz xsx xss (D :: rs) N1 nx ss (W.heap.size + 1 + 1) (W.heap.size + 1 + 1 + 1) g11 c11 g12 c12 I1 T1 (b 0) (b 1) (b 2) (b 3) true (b 5) (b 6) (b 7) (b 8) (b 9) (b 10) (b 11) (b 12) (b 13) a w) (fun _ _ h => ⟨HU.out, h⟩) ?_
                generalize b 0 = t0 at *
                generalize b 1 = t1 at *
                generalize b 2 = t2 at *
                generalize b 3 = t3 at *
                generalize b 4 = t4 at *
                generalize b 5 = t5 at *
                generalize b 6 = t6 at *
                generalize b 7 = t7 at *
                generalize b 8 = t8 at *
                generalize b 9 = t9 at *
                generalize b 10 = t10 at *
                generalize b 11 = t11 at *
                generalize b 12 = t12 at *
                generalize b 13 = t13 at *
                clear b
                subst hb2
                subst e1
                subst e3
                obtain rfl : t9 = false := (by cases t9 <;> first | rfl | exact absurd (hI.d9 rfl) (by decide))
                obtain rfl : t11 = false := (by cases t11 <;> first | rfl | exact absurd (hI.d11 rfl) (by decide))
                simp only [pk] at hI ⊢
                refine wpOp_append w rfl rfl _ _ _ rfl w0.heap.size 35 iX (.slice none 0 0) 1 24 Try.underlying22 hiX hzX hsX hbX rfl (by decide) (.slice Ax nx.length cx) nx.length xsx rfl (show w.ownsRow w0.heap.size 35 1 (.slice Ax nx.length cx) nx.length xsx from hI.xo) ⟨p78, 0, none⟩ 1 1 [sl g11 I1.length c11] rfl rfl (fun j z hj => by rw [Law.add_plain, Nat.zero_add]; exact (hI.q78 rfl rfl).cell (by simpa using hj)) (by simp [Value.oneCell']) (by decide) (by unfold maxLen; omega) (by omega) hI.core.bl.size ?_
                intro g cap w' ho hg hloc hlt
                exact ⟨p78, g, cap, p83, gs, cz', rfl, hI.o4 ho hg hloc⟩
              · injection (show some _ = some o from ho) with ho
                subst ho
                clear hpre
                refine wpOp_step rfl (fun K2 hK2 => ?_)
                replace hK2 : ∀ a w, J17O u (List.map mkD (D :: rs)) n w0 W (w0.heap.size + 1) b8 b9 mb An' cn' Ax cx As cz xsx xss (D :: rs) N1 nx ss (W.heap.size + 1 + 1) (W.heap.size + 1 + 1 + 1) g11 c11 g12 c12 I1 T1 (b 0) (b 1) (b 2) (b 3) (b 4) true (b 6) (b 7) (b 8) (b 9) (b 10) (b 11) (b 12) (b 13) a w → K2 a w := fun a w h => hK2 a w ⟨HU.out, h⟩
                generalize b 0 = t0 at *
                generalize b 1 = t1 at *
                generalize b 2 = t2 at *
                generalize b 3 = t3 at *
                generalize b 4 = t4 at *
                generalize b 5 = t5 at *
                generalize b 6 = t6 at *
                generalize b 7 = t7 at *
                generalize b 8 = t8 at *
                generalize b 9 = t9 at *
                generalize b 10 = t10 at *
                generalize b 11 = t11 at *
                generalize b 12 = t12 at *
                generalize b 13 = t13 at *
                clear b
                subst hb2
                simp only [pk] at hI ⊢
                go_simp
                exact hK2 _ _ ⟨p78, gx, cx', p83, gs, cz', rfl, hI⟩
              · injection (show some _ = some o from ho) with ho
                subst ho
                have e5 : b 5 = true := hpre ⟨5, .data⟩ (by simp) rfl
                clear hpre
                refine wpOp_step rfl (fun K2 hK2 => ?_)
                replace hK2 : ∀ a w, J17O u (List.map mkD (D :: rs)) n w0 W (w0.heap.size + 1) b8 b9 mb An' cn' Ax cx As cz xsx xss (D :: rs) N1 nx ss (W.heap.size + 1 + 1) (W.heap.size + 1 + 1 + 1) g11 c11 g12 c12 I1 T1 (b 0) (b 1) (b 2) (b 3) (b 4) (b 5) true (b 7) (b 8) (b 9) (b 10) (b 11) (b 12) (b 13) a w → K2 a w := fun a w h => hK2 a w ⟨HU.out, h⟩
                generalize b 0 = t0 at *
                generalize b 1 = t1 at *
                generalize b 2 = t2 at *
                generalize b 3 = t3 at *
                generalize b 4 = t4 at *
                generalize b 5 = t5 at *
                generalize b 6 = t6 at *
                generalize b 7 = t7 at *
                generalize b 8 = t8 at *
                generalize b 9 = t9 at *
                generalize b 10 = t10 at *
                generalize b 11 = t11 at *
                generalize b 12 = t12 at *
                generalize b 13 = t13 at *
                clear b
                subst hb2
                subst e5
                obtain rfl : t13 = false := (by cases t13 <;> first | rfl | exact absurd (hI.d136 rfl) (by decide))
                simp only [pk] at hI ⊢
                have c1 := hI.g8.cell (i := 2) (v := .slice As ss.length cz) rfl
                go_simp
                exact hK2 _ _ ⟨p78, gx, cx', p83, gs, cz', rfl, { hI with d136 := fun e => (by cases e) }⟩
              · injection (show some _ = some o from ho) with ho
                subst ho
                clear hpre
                refine wpOp_step rfl (fun K2 hK2 => ?_)
                replace hK2 : ∀ a w, J17O u (List.map mkD (D :: rs)) n w0 W (w0.heap.size + 1) b8 b9 mb An' cn' Ax cx As cz xsx xss (D :: rs) N1 nx ss (W.heap.size + 1 + 1) (W.heap.size + 1 + 1 + 1) g11 c11 g12 c12 I1 T1 (b 0) (b 1) (b 2) (b 3) (b 4) (b 5) (b 6) true (b 8) (b 9) (b 10) (b 11) (b 12) (b 13) a w → K2 a w := fun a w h => hK2 a w ⟨HU.out, h⟩
                generalize b 0 = t0 at *
                generalize b 1 = t1 at *
                generalize b 2 = t2 at *
                generalize b 3 = t3 at *
                generalize b 4 = t4 at *
                generalize b 5 = t5 at *
                generalize b 6 = t6 at *
                generalize b 7 = t7 at *
                generalize b 8 = t8 at *
                generalize b 9 = t9 at *
                generalize b 10 = t10 at *
                generalize b 11 = t11 at *
                generalize b 12 = t12 at *
                generalize b 13 = t13 at *
                clear b
                subst hb2
                obtain rfl : t9 = false := (by cases t9 <;> first | rfl | exact absurd (hI.d97 rfl) (by decide))
                simp only [pk] at hI ⊢
                have c1 := (hI.x12 rfl).1.cell (i := 0) (v := sl g12 T1.length c12) rfl
                go_simp
                exact hK2 _ _ ⟨p78, gx, cx', p83, gs, cz', rfl, { hI with d97 := fun e => (by cases e), d87 := fun _ => rfl }⟩
              · injection (show some _ = some o from ho) with ho
                subst ho
                have e7 : b 7 = true := hpre ⟨7, .data⟩ (by simp) rfl
                clear hpre
                refine wpOp_step rfl (fun K2 hK2 => ?_)
                replace hK2 : ∀ a w, J17O u (List.map mkD (D :: rs)) n w0 W (w0.heap.size + 1) b8 b9 mb An' cn' Ax cx As cz xsx xss (D :: rs) N1 nx ss (W.heap.size + 1 + 1) (W.heap.size + 1 + 1 + 1) g11 c11 g12 c12 I1 T1 (b 0) (b 1) (b 2) (b 3) (b 4) (b 5) (b 6) (b 7) true (b 9) (b 10) (b 11) (b 12) (b 13) a w → K2 a w := fun a w h => hK2 a w ⟨HU.out, h⟩
                generalize b 0 = t0 at *
                generalize b 1 = t1 at *
                generalize b 2 = t2 at *
                generalize b 3 = t3 at *
                generalize b 4 = t4 at *
                generalize b 5 = t5 at *
                generalize b 6 = t6 at *
                generalize b 7 = t7 at *
                generalize b 8 = t8 at *
                generalize b 9 = t9 at *
                generalize b 10 = t10 at *
                generalize b 11 = t11 at *
                generalize b 12 = t12 at *
                generalize b 13 = t13 at *
                clear b
                subst hb2
                subst e7
                simp only [pk] at hI ⊢
                go_simp
                exact hK2 _ _ ⟨p78, gx, cx', w.heap.size, gs, cz', rfl, hI.o8⟩
              · injection (show some _ = some o from ho) with ho
                subst ho
                have e4 : b 4 = true := hpre ⟨4, .chain⟩ (by simp) rfl
                have e6 : b 6 = true := hpre ⟨6, .data⟩ (by simp) rfl
                have e8 : b 8 = true := hpre ⟨8, .data⟩ (by simp) rfl
                clear hpre
                refine wpOp_mono (K := fun a w => J17O u (List.map mkD (D :: rs)) n w0 W (w0.heap.size + 1) b8 b9 mb An' cn' Ax cx As cz xsx xss (D :: rs) N1 nx ss (W.heap.size + 1 + 1) (W.heap.size + 1 + 1 + 1) g11 c11 g12 c12 I1 T1 (b 0) (b 1) (b 2) (b 3) (b 4) (b 5) (b 6) (b 7) (b 8) true (b 10) (b 11) (b 12) (b 13) a w) (fun _ _ h => ⟨HU.out, h⟩) ?_
                generalize b 0 = t0 at *
                generalize b 1 = t1 at *
                generalize b 2 = t2 at *
                generalize b 3 = t3 at *
                generalize b 4 = t4 at *
                generalize b 5 = t5 at *
                generalize b 6 = t6 at *
                generalize b 7 = t7 at *
                generalize b 8 = t8 at *
                generalize b 9 = t9 at *
                generalize b 10 = t10 at *
                generalize b 11 = t11 at *
                generalize b 12 = t12 at *
                generalize b 13 = t13 at *
                clear b
                subst hb2
                subst e4
                subst e6
                subst e8
                obtain rfl : t13 = false := (by cases t13 <;> first | rfl | exact absurd (hI.d13 rfl) (by decide))
                simp only [pk] at hI ⊢
                refine wpOp_append w rfl rfl _ _ _ rfl w0.heap.size 35 iZ (.slice none 0 0) 1 24 Try.underlying22 hiZ hzZ hsZ hbZ rfl (by decide) (.slice As ss.length cz) ss.length xss rfl (show w.ownsRow w0.heap.size 35 1 (.slice As ss.length cz) ss.length xss from hI.so) ⟨p83, 0, none⟩ 1 1 [sl g12 T1.length c12] rfl rfl (fun j z hj => by rw [Law.add_plain, Nat.zero_add]; exact (hI.q83 rfl rfl).1.cell (by simpa using hj)) (by simp [Value.oneCell']) (by decide) (by unfold maxLen; omega) (by omega) hI.core.bl.size ?_
                intro g cap w' ho hg hloc hlt
                exact ⟨p78, gx, cx', p83, g, cap, rfl, hI.o9 ho hg hloc⟩
              · injection (show some _ = some o from ho) with ho
                subst ho
                have e0 : b 0 = true := hpre ⟨0, .phase⟩ (by simp) rfl
                have e1 : b 1 = true := hpre ⟨1, .phase⟩ (by simp) rfl
                have e2 : b 2 = true := hpre ⟨2, .phase⟩ (by simp) rfl
                have e3 : b 3 = true := hpre ⟨3, .phase⟩ (by simp) rfl
                have e4 : b 4 = true := hpre ⟨4, .phase⟩ (by simp) rfl
                have e5 : b 5 = true := hpre ⟨5, .phase⟩ (by simp) rfl
                have e6 : b 6 = true := hpre ⟨6, .phase⟩ (by simp) rfl
                clear hpre
                refine wpOp_step rfl (fun K2 hK2 => ?_)
                replace hK2 : ∀ a w, J17O u (List.map mkD (D :: rs)) n w0 W (w0.heap.size + 1) b8 b9 mb An' cn' Ax cx As cz xsx xss (D :: rs) N1 nx ss (W.heap.size + 1 + 1) (W.heap.size + 1 + 1 + 1) g11 c11 g12 c12 I1 T1 (b 0) (b 1) (b 2) (b 3) (b 4) (b 5) (b 6) (b 7) (b 8) (b 9) true (b 11) (b 12) (b 13) a w → K2 a w := fun a w h => hK2 a w ⟨HU.out, h⟩
                generalize b 0 = t0 at *
                generalize b 1 = t1 at *
                generalize b 2 = t2 at *
                generalize b 3 = t3 at *
                generalize b 4 = t4 at *
                generalize b 5 = t5 at *
                generalize b 6 = t6 at *
                generalize b 7 = t7 at *
                generalize b 8 = t8 at *
                generalize b 9 = t9 at *
                generalize b 10 = t10 at *
                generalize b 11 = t11 at *
                generalize b 12 = t12 at *
                generalize b 13 = t13 at *
                clear b
                subst hb2
                subst e0
                subst e1
                subst e2
                subst e3
                subst e4
                subst e5
                subst e6
                simp only [pk] at hI ⊢
                go_simp
                exact hK2 _ _ ⟨p78, gx, cx', p83, gs, cz', rfl, hI⟩
              · injection (show some _ = some o from ho) with ho
                subst ho
                have e0 : b 0 = true := hpre ⟨0, .phase⟩ (by simp) rfl
                have e1 : b 1 = true := hpre ⟨1, .phase⟩ (by simp) rfl
                have e2 : b 2 = true := hpre ⟨2, .phase⟩ (by simp) rfl
                have e3 : b 3 = true := hpre ⟨3, .phase⟩ (by simp) rfl
                have e4 : b 4 = true := hpre ⟨4, .data⟩ (by simp) rfl
                have e5 : b 5 = true := hpre ⟨5, .phase⟩ (by simp) rfl
                have e6 : b 6 = true := hpre ⟨6, .phase⟩ (by simp) rfl
                have e9 : b 9 = true := hpre ⟨9, .chain⟩ (by simp) rfl
                have e10 : b 10 = true := hpre ⟨10, .data⟩ (by simp) rfl
                clear hpre
                refine wpOp_step rfl (fun K2 hK2 => ?_)
                replace hK2 : ∀ a w, J17O u (List.map mkD (D :: rs)) n w0 W (w0.heap.size + 1) b8 b9 mb An' cn' Ax cx As cz xsx xss (D :: rs) N1 nx ss (W.heap.size + 1 + 1) (W.heap.size + 1 + 1 + 1) g11 c11 g12 c12 I1 T1 (b 0) (b 1) (b 2) (b 3) (b 4) (b 5) (b 6) (b 7) (b 8) (b 9) (b 10) true (b 12) (b 13) a w → K2 a w := fun a w h => hK2 a w ⟨HU.out, h⟩
                generalize b 0 = t0 at *
                generalize b 1 = t1 at *
                generalize b 2 = t2 at *
                generalize b 3 = t3 at *
                generalize b 4 = t4 at *
                generalize b 5 = t5 at *
                generalize b 6 = t6 at *
                generalize b 7 = t7 at *
                generalize b 8 = t8 at *
                generalize b 9 = t9 at *
                generalize b 10 = t10 at *
                generalize b 11 = t11 at *
                generalize b 12 = t12 at *
                generalize b 13 = t13 at *
                clear b
                subst hb2
                subst e0
                subst e1
                subst e2
                subst e3
                subst e4
                subst e5
                subst e6
                subst e9
                subst e10
                simp only [pk] at hI ⊢
                have c1 := hI.g8.cell (i := 1) (v := .slice Ax nx.length cx) rfl
                have f1 := hI.g8.frozen 1
                go_simp
                exact hK2 _ _ ⟨p78, gx, cx', p83, gs, cz', rfl, hI.o11⟩
              · injection (show some _ = some o from ho) with ho
                subst ho
                have e0 : b 0 = true := hpre ⟨0, .phase⟩ (by simp) rfl
                have e1 : b 1 = true := hpre ⟨1, .phase⟩ (by simp) rfl
                have e2 : b 2 = true := hpre ⟨2, .phase⟩ (by simp) rfl
                have e3 : b 3 = true := hpre ⟨3, .phase⟩ (by simp) rfl
                have e4 : b 4 = true := hpre ⟨4, .phase⟩ (by simp) rfl
                have e5 : b 5 = true := hpre ⟨5, .phase⟩ (by simp) rfl
                have e6 : b 6 = true := hpre ⟨6, .phase⟩ (by simp) rfl
                have e7 : b 7 = true := hpre ⟨7, .phase⟩ (by simp) rfl
                have e8 : b 8 = true := hpre ⟨8, .phase⟩ (by simp) rfl
                have e9 : b 9 = true := hpre ⟨9, .phase⟩ (by simp) rfl
                have e10 : b 10 = true := hpre ⟨10, .phase⟩ (by simp) rfl
                have e11 : b 11 = true := hpre ⟨11, .phase⟩ (by simp) rfl
                clear hpre
                refine wpOp_step rfl (fun K2 hK2 => ?_)
                replace hK2 : ∀ a w, J17O u (List.map mkD (D :: rs)) n w0 W (w0.heap.size + 1) b8 b9 mb An' cn' Ax cx As cz xsx xss (D :: rs) N1 nx ss (W.heap.size + 1 + 1) (W.heap.size + 1 + 1 + 1) g11 c11 g12 c12 I1 T1 (b 0) (b 1) (b 2) (b 3) (b 4) (b 5) (b 6) (b 7) (b 8) (b 9) (b 10) (b 11) true (b 13) a w → K2 a w := fun a w h => hK2 a w ⟨HU.out, h⟩
                generalize b 0 = t0 at *
                generalize b 1 = t1 at *
                generalize b 2 = t2 at *
                generalize b 3 = t3 at *
                generalize b 4 = t4 at *
                generalize b 5 = t5 at *
                generalize b 6 = t6 at *
                generalize b 7 = t7 at *
                generalize b 8 = t8 at *
                generalize b 9 = t9 at *
                generalize b 10 = t10 at *
                generalize b 11 = t11 at *
                generalize b 12 = t12 at *
                generalize b 13 = t13 at *
                clear b
                subst hb2
                subst e0
                subst e1
                subst e2
                subst e3
                subst e4
                subst e5
                subst e6
                subst e7
                subst e8
                subst e9
                subst e10
                subst e11
                simp only [pk] at hI ⊢
                go_simp
                exact hK2 _ _ ⟨p78, gx, cx', p83, gs, cz', rfl, hI⟩
              · injection (show some _ = some o from ho) with ho
                subst ho
                have e0 : b 0 = true := hpre ⟨0, .phase⟩ (by simp) rfl
                have e1 : b 1 = true := hpre ⟨1, .phase⟩ (by simp) rfl
                have e2 : b 2 = true := hpre ⟨2, .phase⟩ (by simp) rfl
                have e3 : b 3 = true := hpre ⟨3, .phase⟩ (by simp) rfl
                have e4 : b 4 = true := hpre ⟨4, .phase⟩ (by simp) rfl
                have e5 : b 5 = true := hpre ⟨5, .phase⟩ (by simp) rfl
                have e6 : b 6 = true := hpre ⟨6, .phase⟩ (by simp) rfl
                have e7 : b 7 = true := hpre ⟨7, .phase⟩ (by simp) rfl
                have e8 : b 8 = true := hpre ⟨8, .phase⟩ (by simp) rfl
                have e9 : b 9 = true := hpre ⟨9, .data⟩ (by simp) rfl
                have e10 : b 10 = true := hpre ⟨10, .phase⟩ (by simp) rfl
                have e11 : b 11 = true := hpre ⟨11, .chain⟩ (by simp) rfl
                have e12 : b 12 = true := hpre ⟨12, .data⟩ (by simp) rfl
                clear hpre
                refine wpOp_step rfl (fun K2 hK2 => ?_)
                replace hK2 : ∀ a w, J17O u (List.map mkD (D :: rs)) n w0 W (w0.heap.size + 1) b8 b9 mb An' cn' Ax cx As cz xsx xss (D :: rs) N1 nx ss (W.heap.size + 1 + 1) (W.heap.size + 1 + 1 + 1) g11 c11 g12 c12 I1 T1 (b 0) (b 1) (b 2) (b 3) (b 4) (b 5) (b 6) (b 7) (b 8) (b 9) (b 10) (b 11) (b 12) true a w → K2 a w := fun a w h => hK2 a w ⟨HU.out, h⟩
                generalize b 0 = t0 at *
                generalize b 1 = t1 at *
                generalize b 2 = t2 at *
                generalize b 3 = t3 at *
                generalize b 4 = t4 at *
                generalize b 5 = t5 at *
                generalize b 6 = t6 at *
                generalize b 7 = t7 at *
                generalize b 8 = t8 at *
                generalize b 9 = t9 at *
                generalize b 10 = t10 at *
                generalize b 11 = t11 at *
                generalize b 12 = t12 at *
                generalize b 13 = t13 at *
                clear b
                subst hb2
                subst e0
                subst e1
                subst e2
                subst e3
                subst e4
                subst e5
                subst e6
                subst e7
                subst e8
                subst e9
                subst e10
                subst e11
                subst e12
                simp only [pk] at hI ⊢
                have c1 := hI.g8.cell (i := 2) (v := .slice As ss.length cz) rfl
                have f1 := hI.g8.frozen 2
                go_simp
                exact hK2 _ _ ⟨p78, gx, cx', p83, gs, cz', rfl, hI.o13⟩
            case d17 =>
              intro u b a w hI hall
              obtain ⟨⟨e0, e1, e2, e3, e4, e5, e6, e7, e9, e10⟩, hI⟩ := hI
              have e0_ : b 0 = true := hall 0 (by show 0 < 14; omega)
              have e1_ : b 1 = true := hall 1 (by show 1 < 14; omega)
              have e2_ : b 2 = true := hall 2 (by show 2 < 14; omega)
              have e3_ : b 3 = true := hall 3 (by show 3 < 14; omega)
              have e4_ : b 4 = true := hall 4 (by show 4 < 14; omega)
              have e5_ : b 5 = true := hall 5 (by show 5 < 14; omega)
              have e6_ : b 6 = true := hall 6 (by show 6 < 14; omega)
              have e7_ : b 7 = true := hall 7 (by show 7 < 14; omega)
              have e8_ : b 8 = true := hall 8 (by show 8 < 14; omega)
              have e9_ : b 9 = true := hall 9 (by show 9 < 14; omega)
              have e10_ : b 10 = true := hall 10 (by show 10 < 14; omega)
              have e11_ : b 11 = true := hall 11 (by show 11 < 14; omega)
              have e12_ : b 12 = true := hall 12 (by show 12 < 14; omega)
              have e13_ : b 13 = true := hall 13 (by show 13 < 14; omega)
              rw [e0_] at hI
              rw [e1_] at hI
              rw [e2_] at hI
              rw [e3_] at hI
              rw [e4_] at hI
              rw [e5_] at hI
              rw [e6_] at hI
              rw [e7_] at hI
              rw [e8_] at hI
              rw [e9_] at hI
              rw [e10_] at hI
              rw [e11_] at hI
              rw [e12_] at hI
              rw [e13_] at hI
              obtain ⟨p78, gx, cx', p83, gs, cz', rfl, hI⟩ := hI
              have HI := Lib.hid hI
              clear z8 hI hall hb
              simp only [pk, e0, e1, e2, e3, e4, e5, e6, e7, e9, e10]
              clear e0 e1 e2 e3 e4 e5 e6 e7 e9 e10
              have hkb : (k : Int) + 1 ≤ 1000000 := by omega
              gi_wp2
              refine ⟨?inv, ?mu⟩
              case mu =>
                show most + 1 - (((k : Int) + 1)).toNat < most + 1 - ((k : Int)).toNat
                omega
              case inv =>
                have e1 : (nx ++ [I1]).length = nx.length + 1 := by simp
                have e2 : (ss ++ [T1]).length = ss.length + 1 := by simp
                have hwW : w0.heap.size ≤ W.heap.size := HG.out.bl.size
                have hg1 : W.heap.size ≤ g11 := (HI.out.core.r11.lt g11 rfl).1
                have hg2 : W.heap.size ≤ g12 := (HI.out.core.r12.lt g12 rfl).1
                (repeat apply Exists.intro)
                refine ⟨⟨k + 1, N1, nx ++ [I1], ss ++ [T1], An', cn', some ⟨gx, 0, none⟩, cx', some ⟨gs, 0, none⟩, cz', xsx ++ [sl g11 I1.length c11], xss ++ [sl g12 T1.length c12], D :: rs, ?nk, rfl, Lib.hid ⟨⟨HI.out.core.no, ?x1, NG.snoc HG.out.out.xn HI.out.core.xn HI.out.core.r11 hwW, ?x2, NG.snoc HG.out.out.sn HI.out.core.sn HI.out.core.r12 hwW, ?x3, ?x4⟩, HI.out.core.g6, ?x5, HI.out.core.g9, HI.out.core.hm, HI.out.core.ms, HI.out.core.bl, HG.out.l6, HG.out.l8, HG.out.l9, HG.out.lm⟩, Lib.hid (HSTEP.out (by omega)), ?x6⟩, rfl⟩
                case nk => go_num
                case x1 => rw [e1]; exact HI.out.xo
                case x2 => rw [e2]; exact HI.out.so
                case x3 => rw [e1, e2]; exact HI.out.ap
                case x5 => rw [e1, e2]; exact HI.out.g8
                case x6 =>
                  show _ = _
                  rw [show most + 1 - (k + 1) = most - k by omega, ← HX2.out]
                  exact (HGO.out (by omega)).symm
                case x4 =>
                  intro i j y z q h1 h2 h3 h4
                  have hl1 : xsx.length = nx.length := HG.out.out.xn.len
                  have hl2 : xss.length = ss.length := HG.out.out.sn.len
                  by_cases hi : i < xsx.length
                  · rw [List.getElem?_append_left hi] at h1
                    have := HG.out.out.xn.blt h1 h3
                    by_cases hj : j < xss.length
                    · rw [List.getElem?_append_left hj] at h2
                      exact HG.out.out.cr i j y z q h1 h2 h3 h4
                    · rw [List.getElem?_append_right (by omega)] at h2
                      have e := List.mem_of_getElem? h2
                      obtain rfl := List.mem_singleton.1 e
                      injection h4 with h4
                      have h4 : g12 = q := h4
                      omega
                  · rw [List.getElem?_append_right (by omega)] at h1
                    have e := List.mem_of_getElem? h1
                    obtain rfl := List.mem_singleton.1 e
                    injection h3 with h3
                    by_cases hj : j < xss.length
                    · rw [List.getElem?_append_left hj] at h2
                      have := HG.out.out.sn.blt h2 h4
                      have h3 : g11 = q := h3
                      omega
                    · rw [List.getElem?_append_right (by omega)] at h2
                      have e := List.mem_of_getElem? h2
                      obtain rfl := List.mem_singleton.1 e
                      injection h4 with h4
                      exact HR2.out.ap (h3.trans h4.symm)
        case stop =>
          rintro D c pre Y _ _ h _
          exact h.elim
      · have hltI : ¬ (k : Int) < (ns.length : Int) := by omega
        have hkl := HR.out.kl
        have hmo := HR.out.mo
        have HRs : Hid (R = some (ns, nx, ss)) := by
          show _ = _
          rw [← HX.out, show most + 1 - k = most - k + 1 by omega]
          exact Q.goG_end (by omega)
        have hk8 := HG.out.g8
        have c1 := hk8.cell (i := 1) (v := .slice Ax nx.length cx) rfl
        have c2 := hk8.cell (i := 2) (v := .slice As ss.length cz) rfl
        have hk6 := HG.out.g6
        have y0 := hk6.cell (i := 0) (v := .slice none 0 0) rfl
        have y1 := hk6.cell (i := 1) (v := .slice none 0 0) rfl
        have y2 := hk6.cell (i := 2) (v := .slice none 0 0) rfl
        have f0 := hk6.frozen 0
        have f1 := hk6.frozen 1
        have f2 := hk6.frozen 2
        clear hk8 hk6 HX
        gi_wp2
        have q1 := HG.out.g6.set 0 (.slice An ns.length cn)
        have q2 := q1.set 1 (.slice Ax nx.length cx)
        have q3 := q2.set 2 (.slice As ss.length cz)
        have hbl := ((HG.out.bl.setCell (p := ⟨w0.heap.size + 1, 0, none⟩) (by show _ ≤ _; simp) (.slice An ns.length cn)).setCell (p := ⟨w0.heap.size + 1, 1, none⟩) (by show _ ≤ _; simp) (.slice Ax nx.length cx)).setCell (p := ⟨w0.heap.size + 1, 2, none⟩) (by show _ ≤ _; simp) (.slice As ss.length cz)
        have ho1 := HG.out.out.set HG.out.g6 0 (.slice An ns.length cn)
        have ho2 := ho1.set q1 1 (.slice Ax nx.length cx)
        have ho3 := ho2.set q2 2 (.slice As ss.length cz)
        rw [HRs.out]
        exact leaveO (b := w0.heap.size) (rs := rs) (fun W => GOutO w0.heap.size W (.slice An ns.length cn) (.slice Ax nx.length cx) (.slice As ss.length cz) xsx xss ns nx ss ∧ Below w0.heap.size w0 W) rfl rfl (((HG.out.ms.set HG.out.g6 _).set q1 _).set q2 _) q3 ⟨ho3, hbl⟩ (fun W r h hb hr => ⟨h.1.put hr _, h.2.grown (grownBy_putObj' W r _) h.2.size (fun k e => by injection e with e; omega)⟩) (fun W h => ⟨_, _, _, _, _, rfl, h.1, h.2⟩)
end Go.Proofs.Ythpoeeadhjnljaa
