/-
  FnExactStepCache: StepCache answers as the model does, whatever it is given, writes into no argument and hands out memory of its own.
  Conditions: none.
-/
import Derived.Test.YtdjafooabpcbmaaRows
import Derived.Test.YtdjafooabpcbmaaChecked
import Derived.Test.YtdjafooabpcbmaaLawC
import Derived.Test.YtdjafooabpcbmaaMkD
import Derived.Test.YtdjafooabpcbmaaStp3
import Derived.Deep.DeepHandedRow
import Derived.Stop.Joined
namespace Go.Proofs.Ytdjafooabpcbmaa
open Go.RowKit Go.ChangeShapes Go.WideShapes
set_option linter.unusedVariables false
namespace LStepCache
theorem stp_len (n : Int) (c : Ca) (x : Int) : (stpC n c x).ps.length ≤ 1000 ∧ (stpC n c x).ms.length ≤ 1000 := by
  unfold stpC
  by_cases hy : Q.okC n c ∧ 0 ≤ x ∧ x ≤ n - 1
  · rw [show stpOk n c x = true from bo_true hy]
    have := ok_len (Q.step_ok hy.1 hy.2)
    exact ⟨by show (Q.stepC c x).ps.length ≤ _; omega, by show (Q.stepC c x).ms.length ≤ _; omega⟩
  · rw [show stpOk n c x = false from bo_false hy]
    exact ⟨Nat.zero_le _, Nat.zero_le _⟩
set_option maxRecDepth 100000 in
set_option maxHeartbeats 12800000 in
theorem walk_core (n : Int) (item : Int) (c : Ca) (A0 B0 : Option Addr) (d0 e0 : Nat) (C : Ca) (ok : Bool) (w : World) (h : CaIn w A0 d0 B0 e0 c) (hl : c.ps.length + c.ms.length ≤ 1048576) (hC1 : C.ps.length ≤ 1000) (hC2 : C.ms.length ≤ 1000)
    (HG : Hid (∀ (A : Option Addr) (d : Nat) (B : Option Addr) (e : Nat) (W : World), CaIn W A d B e c → Calls Try.prog 16 #[.int .i64 n, .agg #[.int .i64 c.p, .int .i64 c.s, .slice A c.ps.length d, .slice B c.ms.length e, .int .i64 c.h], .int .i64 item] W (spGives C ok W)))
    (HH : Hid (∀ (A : Option Addr) (d : Nat) (B : Option Addr) (e : Nat) (W : World), CaIn W A d B e c → Calls Try.prog 18 #[.int .i64 n, .agg #[.int .i64 c.p, .int .i64 c.s, .slice A c.ps.length d, .slice B c.ms.length e, .int .i64 c.h], .int .i64 item] W (imGives C ok W))) :
    Calls Try.prog 3 #[.int .i64 n, .agg #[.int .i64 c.p, .int .i64 c.s, .slice A0 c.ps.length d0, .slice B0 c.ms.length e0, .int .i64 c.h], .int .i64 item] w fun e w' => e = .returned (.bool true) ∧ Below w.heap.size w w' := by
  have HSz := Lib.hid fun X => sz_fits X c A0 B0 d0 e0 hl
  have HTo := Lib.hid fun X (hb : Below w.heap.size w X) => toCache_any (h.stays hb) (by omega) (by omega)
  have HEx := Lib.hid fun X A' B' A2 B2 d' e' d2 e2 (h1 : CaIn X A' d' B' e' c) (h2 : CaIn X A2 d2 B2 e2 c) => eqCache_same h1 h2 (by omega) (by omega)
  have HEg := Lib.hid fun X A' B' A2 B2 d' e' d2 e2 (h1 : CaIn X A' d' B' e' C) (h2 : CaIn X A2 d2 B2 e2 C) => eqCache_same h1 h2 (by omega) (by omega)
  have hL0 : ¬ 1048576 - (c.ps.length : Int) - (c.ms.length : Int) < 0 := by omega
  have L0b : Hid (Below w.heap.size w (w.alloc (.cells #[.int .i64 c.p, .int .i64 c.s, .slice A0 c.ps.length d0, .slice B0 c.ms.length e0, .int .i64 c.h] 24))) := (Below.refl _ _).alloc (Nat.le_refl _) _
  have P0b := Lib.hid (blk5_of (heap_alloc_new w (.cells #[.int .i64 c.p, .int .i64 c.s, .slice A0 c.ps.length d0, .slice B0 c.ms.length e0, .int .i64 c.h] 24)))
  have hy0 : (w.alloc (.cells #[.int .i64 c.p, .int .i64 c.s, .slice A0 c.ps.length d0, .slice B0 c.ms.length e0, .int .i64 c.h] 24)).heap.size = w.heap.size + 1 := by simp
  unfold toCaSays at HTo
  unfold caV at HSz HTo HEx HEg
  unfold spGives caV at HG
  unfold imGives caV at HH
  have HMx := Lib.hid fun X A' B' d' e' lo hi hp hm hd hA hB hhi => markCache_any (W := X) (c := c) (A := A') (B := B') (d := d') (e := e') (lo := lo) (hi := hi) (k := 1) hp hm hd hA hB hhi (by omega) (by omega)
  have HMg := Lib.hid fun X A' B' d' e' lo hi hp hm hd hA hB hhi => markCache_any (W := X) (c := C) (A := A') (B := B') (d := d') (e := e') (lo := lo) (hi := hi) (k := 1) hp hm hd hA hB hhi (by omega) (by omega)
  have HHg := Lib.hid fun X A' B' d' e' hp hm => heldCache_any (W := X) (c := C) (A := A') (B := B') (d := d') (e := e') (k := 1) (by omega) (by omega) hp hm
  unfold caV at HMx HMg HHg
  go_enter Try.func3, Try.ntmps3
  go_wp2_with fail
  generalize w.alloc (.cells #[.int .i64 c.p, .int .i64 c.s, .slice A0 c.ps.length d0, .slice B0 c.ms.length e0, .int .i64 c.h] 24) = w0b at L0b P0b hy0 ⊢
  obtain ⟨p0, p1, p2, p3, p4, _, _, _, _, _⟩ := P0b.out
  go_wp2_with fail
  go_at_call 15
  refine (HSz.out w0b).mono ?_
  rintro r w1 ⟨rfl, hb⟩
  clear p0 p1 p2 p3 p4
  have hz1 := hb.size
  have L1 := Lib.hid (Law.then_ L0b.out hb)
  have P1 := Lib.hid (P0b.out.kept (hb.block _ (by omega)))
  clear hb
  obtain ⟨p0, p1, p2, p3, p4, _, _, _, _, _⟩ := P1.out
  go_wp2_with fail
  go_at_call 17
  refine (HTo.out w1 L1.out).mono ?_
  rintro r w2 ⟨A1, d1, B1, e1, rfl, ho, hm, _, hb⟩
  clear p0 p1 p2 p3 p4
  have hz2 := hb.size
  have L2 := Lib.hid (Law.then_ L1.out hb)
  have P2 := Lib.hid (P1.out.kept (hb.block _ (by omega)))
  obtain ⟨_, _, hv1, hcp1, hcm1, _⟩ := Law.own_len ho
  cases hv1
  obtain ⟨_, _, hv2, hcp2, hcm2, _⟩ := Law.own_len hm
  cases hv2
  have CX2 : Hid (CaIn w2 A1 d1 B1 e1 c) := Lib.hid ⟨⟨hcp1, hcm1, Law.Row.own ho⟩, hcp2, hcm2, Law.Row.own hm⟩
  clear hb ho hm hcp1 hcm1 hcp2 hcm2
  obtain ⟨p0, p1, p2, p3, p4, _, _, _, _, _⟩ := P2.out
  go_wp2_with fail
  go_at_call 16
  refine (HG.out A1 d1 B1 e1 w2 CX2.out).mono ?_
  rintro r w3 ⟨Aw, dw, Bw, ew, rfl, hcw, hb⟩
  clear p0 p1 p2 p3 p4
  have hz3 := hb.size
  have L3 := Lib.hid (Law.then_ L2.out hb)
  have P3 := Lib.hid (P2.out.kept (hb.block _ (by omega)))
  have CG3 := Lib.hid hcw
  clear hb hcw CX2
  have b3 : Below w3.heap.size w3 (w3.alloc (.cells #[.int .i64 C.p, .int .i64 C.s, .slice Aw C.ps.length dw, .slice Bw C.ms.length ew, .int .i64 C.h] 26)) := (Below.refl _ _).alloc (Nat.le_refl _) _
  have hy3 : (w3.alloc (.cells #[.int .i64 C.p, .int .i64 C.s, .slice Aw C.ps.length dw, .slice Bw C.ms.length ew, .int .i64 C.h] 26)).heap.size = w3.heap.size + 1 := by simp
  have L3b := Lib.hid (Law.then_ L3.out b3)
  have P3b := Lib.hid (P3.out.kept (b3.block _ (by omega)))
  have CG3b := Lib.hid (CG3.out.stays b3)
  have G3b := Lib.hid (blk5_of (heap_alloc_new w3 (.cells #[.int .i64 C.p, .int .i64 C.s, .slice Aw C.ps.length dw, .slice Bw C.ms.length ew, .int .i64 C.h] 26)))
  clear b3
  obtain ⟨p0, p1, p2, p3, p4, _, _, _, _, _⟩ := P3b.out
  obtain ⟨g0, g1, g2, g3, g4, _, _, _, _, _⟩ := G3b.out
  go_wp2_with fail
  generalize w3.alloc (.cells #[.int .i64 C.p, .int .i64 C.s, .slice Aw C.ps.length dw, .slice Bw C.ms.length ew, .int .i64 C.h] 26) = w3b at hy3 L3b P3b G3b CG3b p0 p1 p2 p3 p4 g0 g1 g2 g3 g4 ⊢
  go_at_call 17
  refine (HTo.out w3b L3b.out).mono ?_
  rintro r w4 ⟨A2, d2, B2, e2, rfl, ho, hm, hdx, hb⟩
  have hz4 := hb.size
  have L4 := Lib.hid (Law.then_ L3b.out hb)
  have P4 := Lib.hid (P3b.out.kept (hb.block _ (by omega)))
  have G4 := Lib.hid (G3b.out.kept (hb.block _ (by omega)))
  have CG4 := Lib.hid (CG3b.out.stays hb)
  clear p0 p1 p2 p3 p4 g0 g1 g2 g3 g4
  obtain ⟨_, _, hv1, hcp1, hcm1, _⟩ := Law.own_len ho
  cases hv1
  obtain ⟨_, _, hv2, hcp2, hcm2, _⟩ := Law.own_len hm
  cases hv2
  have OA4 := Lib.hid ho
  have OB4 := Lib.hid hm
  have DX := Lib.hid hdx
  have IA := Lib.hid (In.of ho)
  have IB := Lib.hid (In.of hm)
  have HX := Lib.hid (And.intro (And.intro hcp1 hcm1) (And.intro hcp2 hcm2))
  clear hb ho hm hdx hcp1 hcm1 hcp2 hcm2
  have b4 : Below w4.heap.size w4 (w4.alloc (.cells #[.int .i64 c.p, .int .i64 c.s, .slice A2 c.ps.length d2, .slice B2 c.ms.length e2, .int .i64 c.h] 26)) := (Below.refl _ _).alloc (Nat.le_refl _) _
  have hy4 : (w4.alloc (.cells #[.int .i64 c.p, .int .i64 c.s, .slice A2 c.ps.length d2, .slice B2 c.ms.length e2, .int .i64 c.h] 26)).heap.size = w4.heap.size + 1 := by simp
  have L4b := Lib.hid (Law.then_ L4.out b4)
  have P4b := Lib.hid (P4.out.kept (b4.block _ (by omega)))
  have G4b := Lib.hid (G4.out.kept (b4.block _ (by omega)))
  have CG4b := Lib.hid (CG4.out.stays b4)
  have OA4b := Lib.hid (own_past OA4.out b4)
  have OB4b := Lib.hid (own_past OB4.out b4)
  have X4b := Lib.hid (blk5_of (heap_alloc_new w4 (.cells #[.int .i64 c.p, .int .i64 c.s, .slice A2 c.ps.length d2, .slice B2 c.ms.length e2, .int .i64 c.h] 26)))
  clear b4
  obtain ⟨p0, p1, p2, p3, p4, _, _, _, _, _⟩ := P4b.out
  obtain ⟨g0, g1, g2, g3, g4, _, _, _, _, _⟩ := G4b.out
  obtain ⟨x0, x1, x2, x3, x4, _, _, _, _, _⟩ := X4b.out
  go_wp2_with fail
  generalize w4.alloc (.cells #[.int .i64 c.p, .int .i64 c.s, .slice A2 c.ps.length d2, .slice B2 c.ms.length e2, .int .i64 c.h] 26) = w4b at hy4 L4b P4b G4b X4b CG4b OA4b OB4b p0 p1 p2 p3 p4 g0 g1 g2 g3 g4 x0 x1 x2 x3 x4 ⊢
  have CX4 : Hid (CaIn w4b A2 d2 B2 e2 c) := Lib.hid ⟨⟨HX.out.1.1, HX.out.1.2, Law.Row.own OA4b.out⟩, HX.out.2.1, HX.out.2.2, Law.Row.own OB4b.out⟩
  go_at_call 18
  refine (HH.out A2 d2 B2 e2 w4b CX4.out).mono ?_
  rintro r w5 ⟨Ag, dg, Bg, eg, rfl, ho, hm, hdg, hb⟩
  have hz5 := hb.size
  have L5 := Lib.hid (Law.then_ L4b.out hb)
  have P5 := Lib.hid (P4b.out.kept (hb.block _ (by omega)))
  have G5 := Lib.hid (G4b.out.kept (hb.block _ (by omega)))
  have X5 := Lib.hid (X4b.out.kept (hb.block _ (by omega)))
  have CG5 := Lib.hid (CG4b.out.stays hb)
  have OA5 := Lib.hid (own_past OA4b.out hb)
  have OB5 := Lib.hid (own_past OB4b.out hb)
  clear p0 p1 p2 p3 p4 g0 g1 g2 g3 g4 x0 x1 x2 x3 x4
  obtain ⟨_, _, hv1, hcp1, hcm1, _⟩ := Law.own_len ho
  cases hv1
  obtain ⟨_, _, hv2, hcp2, hcm2, _⟩ := Law.own_len hm
  cases hv2
  have QA5 := Lib.hid ho
  have QB5 := Lib.hid hm
  have DG := Lib.hid hdg
  have JA := Lib.hid (In.of ho)
  have JB := Lib.hid (In.of hm)
  have HY := Lib.hid (And.intro (And.intro hcp1 hcm1) (And.intro hcp2 hcm2))
  clear hb ho hm hdg CX4 hcp1 hcm1 hcp2 hcm2
  have b5 : Below w5.heap.size w5 (w5.alloc (.cells #[.int .i64 C.p, .int .i64 C.s, .slice Ag C.ps.length dg, .slice Bg C.ms.length eg, .int .i64 C.h] 26)) := (Below.refl _ _).alloc (Nat.le_refl _) _
  have hy5 : (w5.alloc (.cells #[.int .i64 C.p, .int .i64 C.s, .slice Ag C.ps.length dg, .slice Bg C.ms.length eg, .int .i64 C.h] 26)).heap.size = w5.heap.size + 1 := by simp
  have L5b := Lib.hid (Law.then_ L5.out b5)
  have P5b := Lib.hid (P5.out.kept (b5.block _ (by omega)))
  have G5b := Lib.hid (G5.out.kept (b5.block _ (by omega)))
  have X5b := Lib.hid (X5.out.kept (b5.block _ (by omega)))
  have CG5b := Lib.hid (CG5.out.stays b5)
  have OA5b := Lib.hid (own_past OA5.out b5)
  have OB5b := Lib.hid (own_past OB5.out b5)
  have QA5b := Lib.hid (own_past QA5.out b5)
  have QB5b := Lib.hid (own_past QB5.out b5)
  have H5b := Lib.hid (blk5_of (heap_alloc_new w5 (.cells #[.int .i64 C.p, .int .i64 C.s, .slice Ag C.ps.length dg, .slice Bg C.ms.length eg, .int .i64 C.h] 26)))
  clear b5
  obtain ⟨p0, p1, p2, p3, p4, _, _, _, _, _⟩ := P5b.out
  obtain ⟨g0, g1, g2, g3, g4, _, _, _, _, _⟩ := G5b.out
  obtain ⟨x0, x1, x2, x3, x4, _, _, _, _, _⟩ := X5b.out
  obtain ⟨h0, h1, h2, h3, h4, _, _, _, _, _⟩ := H5b.out
  go_wp2_with fail
  generalize w5.alloc (.cells #[.int .i64 C.p, .int .i64 C.s, .slice Ag C.ps.length dg, .slice Bg C.ms.length eg, .int .i64 C.h] 26) = w5b at hy5 L5b P5b G5b X5b H5b CG5b OA5b OB5b QA5b QB5b p0 p1 p2 p3 p4 g0 g1 g2 g3 g4 x0 x1 x2 x3 x4 h0 h1 h2 h3 h4 ⊢
  go_at_call 19
  refine (HEg.out w5b Ag Bg Aw Bw dg eg dw ew ⟨⟨HY.out.1.1, HY.out.1.2, Law.Row.own QA5b.out⟩, HY.out.2.1, HY.out.2.2, Law.Row.own QB5b.out⟩ CG5b.out).mono ?_
  rintro r w6 ⟨rfl, hb⟩
  have hz6 := hb.size
  have L6 := Lib.hid (Law.then_ L5b.out hb)
  have P6 := Lib.hid (P5b.out.kept (hb.block _ (by omega)))
  have G6 := Lib.hid (G5b.out.kept (hb.block _ (by omega)))
  have X6 := Lib.hid (X5b.out.kept (hb.block _ (by omega)))
  have H6 := Lib.hid (H5b.out.kept (hb.block _ (by omega)))
  have CG6 := Lib.hid (CG5b.out.stays hb)
  have OA6 := Lib.hid (own_past OA5b.out hb)
  have OB6 := Lib.hid (own_past OB5b.out hb)
  have QA6 := Lib.hid (own_past QA5b.out hb)
  have QB6 := Lib.hid (own_past QB5b.out hb)
  clear p0 p1 p2 p3 p4 g0 g1 g2 g3 g4 x0 x1 x2 x3 x4 h0 h1 h2 h3 h4
  clear hb
  cases ok
  all_goals
    obtain ⟨p0, p1, p2, p3, p4, _, _, _, _, _⟩ := P6.out
    obtain ⟨g0, g1, g2, g3, g4, _, _, _, _, _⟩ := G6.out
    obtain ⟨x0, x1, x2, x3, x4, _, _, _, _, _⟩ := X6.out
    obtain ⟨h0, h1, h2, h3, h4, _, _, _, _, _⟩ := H6.out
    go_wp2_with fail
    go_region_law ((first
      | (go_simp; go_at_call 17; refine (HTo.out _ (L6.out.drew)).mono ?_; rintro r w7 ⟨A3, d3, B3, e3, rfl, ho, hm, _, hb⟩; have hb := ((Below.refl w6.heap.size w6).drew).trans hb; have hz7 := hb.size; have L7 := Lib.hid (Law.then_ L6.out hb); have P7 := Lib.hid (P6.out.kept (hb.block _ (by omega))); have G7 := Lib.hid (G6.out.kept (hb.block _ (by omega))); have X7 := Lib.hid (X6.out.kept (hb.block _ (by omega))); have H7 := Lib.hid (H6.out.kept (hb.block _ (by omega))); have CG7 := Lib.hid (CG6.out.stays hb); have OA7 := Lib.hid (own_past OA6.out hb); have OB7 := Lib.hid (own_past OB6.out hb); have QA7 := Lib.hid (own_past QA6.out hb); have QB7 := Lib.hid (own_past QB6.out hb); obtain ⟨_, _, hv1, hcp1, hcm1, _⟩ := Law.own_len ho; cases hv1; obtain ⟨_, _, hv2, hcp2, hcm2, _⟩ := Law.own_len hm; cases hv2; have CY7 : Hid (CaIn w7 A3 d3 B3 e3 c) := Lib.hid ⟨⟨hcp1, hcm1, Law.Row.own ho⟩, hcp2, hcm2, Law.Row.own hm⟩; clear hb ho hm hcp1 hcm1 hcp2 hcm2; obtain ⟨y0, y1, y2, y3, y4, _, _, _, _, _⟩ := X7.out)
      | (go_simp; go_at_call 19; refine (HEx.out _ A2 B2 A3 B3 d2 e2 d3 e3 ⟨⟨HX.out.1.1, HX.out.1.2, Law.Row.own OA7.out⟩, HX.out.2.1, HX.out.2.2, Law.Row.own OB7.out⟩ CY7.out).mono ?_; rintro r w8 ⟨rfl, hb⟩; have hz8 := hb.size; have L8 := Lib.hid (Law.then_ L7.out hb); have P8 := Lib.hid (P7.out.kept (hb.block _ (by omega))); have G8 := Lib.hid (G7.out.kept (hb.block _ (by omega))); have X8 := Lib.hid (X7.out.kept (hb.block _ (by omega))); have H8 := Lib.hid (H7.out.kept (hb.block _ (by omega))); have CG8 := Lib.hid (CG7.out.stays hb); have OA8 := Lib.hid (own_past OA7.out hb); have OB8 := Lib.hid (own_past OB7.out hb); have QA8 := Lib.hid (own_past QA7.out hb); have QB8 := Lib.hid (own_past QB7.out hb); clear hb)))
    all_goals
      try (clear p0 p1 p2 p3 p4 g0 g1 g2 g3 g4 x0 x1 x2 x3 x4 h0 h1 h2 h3 h4)
      try (clear y0 y1 y2 y3 y4)
      obtain ⟨p0, p1, p2, p3, p4, _, _, _, _, _⟩ := P8.out
      obtain ⟨g0, g1, g2, g3, g4, _, _, _, _, _⟩ := G8.out
      obtain ⟨x0, x1, x2, x3, x4, _, _, _, _, _⟩ := X8.out
      obtain ⟨h0, h1, h2, h3, h4, _, _, _, _, _⟩ := H8.out
      go_wp2_with fail
      go_at_call 20
      refine (HMx.out w8 A2 B2 d2 e2 w3b.heap.size w4.heap.size OA8.out OB8.out DX.out IA.out IB.out (by omega)).mono ?_
      rintro r w9 ⟨rfl, _, _, hs⟩
      clear p0 p1 p2 p3 p4 g0 g1 g2 g3 g4 x0 x1 x2 x3 x4 h0 h1 h2 h3 h4
      have hq9 : ¬ ((1 + c.ps.length + c.ms.length : Nat) : Int) < 0 := by omega
      have hz9 := hs.size
      have L9 := Lib.hid (L8.out.trans ((hs.below (by omega)).mono (by omega)))
      have P9 := Lib.hid (hs.blk P8.out (by omega) (by omega))
      have G9 := Lib.hid (hs.blk G8.out (by omega) (by omega))
      have X9 := Lib.hid (hs.blk X8.out (by omega) (by omega))
      have H9 := Lib.hid (hs.blk H8.out (by omega) (by omega))
      have CG9 := Lib.hid (CaIn.span CG3.out CG8.out hs (by omega))
      have QA9 := Lib.hid (hs.own QA8.out JA.out (by omega))
      have QB9 := Lib.hid (hs.own QB8.out JB.out (by omega))
      clear hs
      obtain ⟨p0, p1, p2, p3, p4, _, _, _, _, _⟩ := P9.out
      obtain ⟨g0, g1, g2, g3, g4, _, _, _, _, _⟩ := G9.out
      obtain ⟨x0, x1, x2, x3, x4, _, _, _, _, _⟩ := X9.out
      obtain ⟨h0, h1, h2, h3, h4, _, _, _, _, _⟩ := H9.out
      go_wp2_with fail
      go_at_call 19
      refine (HEg.out w9 Ag Bg Aw Bw dg eg dw ew ⟨⟨HY.out.1.1, HY.out.1.2, Law.Row.own QA9.out⟩, HY.out.2.1, HY.out.2.2, Law.Row.own QB9.out⟩ CG9.out).mono ?_
      rintro r w10 ⟨rfl, hb⟩
      clear p0 p1 p2 p3 p4 g0 g1 g2 g3 g4 x0 x1 x2 x3 x4 h0 h1 h2 h3 h4
      have hz10 := hb.size
      have L10 := Lib.hid (Law.then_ L9.out hb)
      have P10 := Lib.hid (P9.out.kept (hb.block _ (by omega)))
      have G10 := Lib.hid (G9.out.kept (hb.block _ (by omega)))
      have X10 := Lib.hid (X9.out.kept (hb.block _ (by omega)))
      have H10 := Lib.hid (H9.out.kept (hb.block _ (by omega)))
      have CG10 := Lib.hid (CG9.out.stays hb)
      have QA10 := Lib.hid (own_past QA9.out hb)
      have QB10 := Lib.hid (own_past QB9.out hb)
      clear hb
      obtain ⟨p0, p1, p2, p3, p4, _, _, _, _, _⟩ := P10.out
      obtain ⟨g0, g1, g2, g3, g4, _, _, _, _, _⟩ := G10.out
      obtain ⟨x0, x1, x2, x3, x4, _, _, _, _, _⟩ := X10.out
      obtain ⟨h0, h1, h2, h3, h4, _, _, _, _, _⟩ := H10.out
      go_wp2_with fail
      go_at_call 20
      refine (HMg.out w10 Ag Bg dg eg w4b.heap.size w5.heap.size QA10.out QB10.out DG.out JA.out JB.out (by omega)).mono ?_
      rintro r w11 ⟨rfl, hma, hmb, hs⟩
      clear p0 p1 p2 p3 p4 g0 g1 g2 g3 g4 x0 x1 x2 x3 x4 h0 h1 h2 h3 h4
      have hz11 := hs.size
      have L11 := Lib.hid (L10.out.trans ((hs.below (by omega)).mono (by omega)))
      have P11 := Lib.hid (hs.blk P10.out (by omega) (by omega))
      have G11 := Lib.hid (hs.blk G10.out (by omega) (by omega))
      have X11 := Lib.hid (hs.blk X10.out (by omega) (by omega))
      have H11 := Lib.hid (hs.blk H10.out (by omega) (by omega))
      have CG11 := Lib.hid (CaIn.span CG3.out CG10.out hs (by omega))
      clear hs
      have MA11 := Lib.hid hma
      have MB11 := Lib.hid hmb
      clear hma hmb
      have hq11 : ¬ ((1 + C.ps.length + C.ms.length : Nat) : Int) < 0 := by omega
      obtain ⟨p0, p1, p2, p3, p4, _, _, _, _, _⟩ := P11.out
      obtain ⟨g0, g1, g2, g3, g4, _, _, _, _, _⟩ := G11.out
      obtain ⟨x0, x1, x2, x3, x4, _, _, _, _, _⟩ := X11.out
      obtain ⟨h0, h1, h2, h3, h4, _, _, _, _, _⟩ := H11.out
      go_wp2_with fail
      go_at_call 21
      refine (HHg.out w11 Ag Bg dg eg (Law.Row.own MA11.out) (Law.Row.own MB11.out)).mono ?_
      rintro r w12 ⟨rfl, hb⟩
      clear p0 p1 p2 p3 p4 g0 g1 g2 g3 g4 x0 x1 x2 x3 x4 h0 h1 h2 h3 h4
      have hz12 := hb.size
      have L12 := Lib.hid (Law.then_ L11.out hb)
      have P12 := Lib.hid (P11.out.kept (hb.block _ (by omega)))
      have G12 := Lib.hid (G11.out.kept (hb.block _ (by omega)))
      have X12 := Lib.hid (X11.out.kept (hb.block _ (by omega)))
      have H12 := Lib.hid (H11.out.kept (hb.block _ (by omega)))
      have CG12 := Lib.hid (CG11.out.stays hb)
      have MA12 := Lib.hid (own_past MA11.out hb)
      have MB12 := Lib.hid (own_past MB11.out hb)
      clear hb
      obtain ⟨p0, p1, p2, p3, p4, _, _, _, _, _⟩ := P12.out
      obtain ⟨g0, g1, g2, g3, g4, _, _, _, _, _⟩ := G12.out
      obtain ⟨x0, x1, x2, x3, x4, _, _, _, _, _⟩ := X12.out
      obtain ⟨h0, h1, h2, h3, h4, _, _, _, _, _⟩ := H12.out
      go_wp2_with fail
      go_at_call 17
      refine (HTo.out w12 L12.out).mono ?_
      rintro r w13 ⟨A4, d4, B4, e4, rfl, ho, hm, _, hb⟩
      clear p0 p1 p2 p3 p4 g0 g1 g2 g3 g4 x0 x1 x2 x3 x4 h0 h1 h2 h3 h4
      have hz13 := hb.size
      have L13 := Lib.hid (Law.then_ L12.out hb)
      have P13 := Lib.hid (P12.out.kept (hb.block _ (by omega)))
      have G13 := Lib.hid (G12.out.kept (hb.block _ (by omega)))
      have X13 := Lib.hid (X12.out.kept (hb.block _ (by omega)))
      have H13 := Lib.hid (H12.out.kept (hb.block _ (by omega)))
      have CG13 := Lib.hid (CG12.out.stays hb)
      have MA13 := Lib.hid (own_past MA12.out hb)
      have MB13 := Lib.hid (own_past MB12.out hb)
      obtain ⟨_, _, hv1, hcp1, hcm1, _⟩ := Law.own_len ho
      cases hv1
      obtain ⟨_, _, hv2, hcp2, hcm2, _⟩ := Law.own_len hm
      cases hv2
      have CY13 : Hid (CaIn w13 A4 d4 B4 e4 c) := Lib.hid ⟨⟨hcp1, hcm1, Law.Row.own ho⟩, hcp2, hcm2, Law.Row.own hm⟩
      clear hb ho hm hcp1 hcm1 hcp2 hcm2
      obtain ⟨p0, p1, p2, p3, p4, _, _, _, _, _⟩ := P13.out
      obtain ⟨g0, g1, g2, g3, g4, _, _, _, _, _⟩ := G13.out
      obtain ⟨x0, x1, x2, x3, x4, _, _, _, _, _⟩ := X13.out
      obtain ⟨h0, h1, h2, h3, h4, _, _, _, _, _⟩ := H13.out
      go_wp2_with fail
      go_at_call 18
      refine (HH.out A4 d4 B4 e4 w13 CY13.out).mono ?_
      rintro r w14 ⟨Ah, dh, Bh, eh, rfl, ho, hm, _, hb⟩
      clear p0 p1 p2 p3 p4 g0 g1 g2 g3 g4 x0 x1 x2 x3 x4 h0 h1 h2 h3 h4
      have hz14 := hb.size
      have L14 := Lib.hid (Law.then_ L13.out hb)
      have P14 := Lib.hid (P13.out.kept (hb.block _ (by omega)))
      have G14 := Lib.hid (G13.out.kept (hb.block _ (by omega)))
      have X14 := Lib.hid (X13.out.kept (hb.block _ (by omega)))
      have H14 := Lib.hid (H13.out.kept (hb.block _ (by omega)))
      have CG14 := Lib.hid (CG13.out.stays hb)
      have MA14 := Lib.hid (own_past MA13.out hb)
      have MB14 := Lib.hid (own_past MB13.out hb)
      obtain ⟨_, _, hv1, hcp1, hcm1, _⟩ := Law.own_len ho
      cases hv1
      obtain ⟨_, _, hv2, hcp2, hcm2, _⟩ := Law.own_len hm
      cases hv2
      have CH14 : Hid (CaIn w14 Ah dh Bh eh C) := Lib.hid ⟨⟨hcp1, hcm1, Law.Row.own ho⟩, hcp2, hcm2, Law.Row.own hm⟩
      clear hb ho hm CY13 hcp1 hcm1 hcp2 hcm2
      have b14 : Below w14.heap.size w14 (w14.alloc (.cells #[.int .i64 C.p, .int .i64 C.s, .slice Ah C.ps.length dh, .slice Bh C.ms.length eh, .int .i64 C.h] 26)) := (Below.refl _ _).alloc (Nat.le_refl _) _
      have hy14 : (w14.alloc (.cells #[.int .i64 C.p, .int .i64 C.s, .slice Ah C.ps.length dh, .slice Bh C.ms.length eh, .int .i64 C.h] 26)).heap.size = w14.heap.size + 1 := by simp
      have L14b := Lib.hid (Law.then_ L14.out b14)
      have P14b := Lib.hid (P14.out.kept (b14.block _ (by omega)))
      have G14b := Lib.hid (G14.out.kept (b14.block _ (by omega)))
      have X14b := Lib.hid (X14.out.kept (b14.block _ (by omega)))
      have H14b := Lib.hid (H14.out.kept (b14.block _ (by omega)))
      have CG14b := Lib.hid (CG14.out.stays b14)
      have MA14b := Lib.hid (own_past MA14.out b14)
      have MB14b := Lib.hid (own_past MB14.out b14)
      have CH14b := Lib.hid (CH14.out.stays b14)
      have Z14b := Lib.hid (blk5_of (heap_alloc_new w14 (.cells #[.int .i64 C.p, .int .i64 C.s, .slice Ah C.ps.length dh, .slice Bh C.ms.length eh, .int .i64 C.h] 26)))
      clear b14
      obtain ⟨p0, p1, p2, p3, p4, _, _, _, _, _⟩ := P14b.out
      obtain ⟨g0, g1, g2, g3, g4, _, _, _, _, _⟩ := G14b.out
      obtain ⟨x0, x1, x2, x3, x4, _, _, _, _, _⟩ := X14b.out
      obtain ⟨h0, h1, h2, h3, h4, _, _, _, _, _⟩ := H14b.out
      obtain ⟨z0, z1, z2, z3, z4, _, _, _, _, _⟩ := Z14b.out
      go_wp2_with fail
      generalize w14.alloc (.cells #[.int .i64 C.p, .int .i64 C.s, .slice Ah C.ps.length dh, .slice Bh C.ms.length eh, .int .i64 C.h] 26) = w14b at hy14 L14b P14b G14b X14b H14b Z14b CG14b MA14b MB14b CH14b p0 p1 p2 p3 p4 g0 g1 g2 g3 g4 x0 x1 x2 x3 x4 h0 h1 h2 h3 h4 z0 z1 z2 z3 z4 ⊢
      go_at_call 19
      refine (HEg.out w14b Ah Bh Aw Bw dh eh dw ew CH14b.out CG14b.out).mono ?_
      rintro r w15 ⟨rfl, hb⟩
      have hz15 := hb.size
      have L15 := Lib.hid (Law.then_ L14b.out hb)
      have P15 := Lib.hid (P14b.out.kept (hb.block _ (by omega)))
      have G15 := Lib.hid (G14b.out.kept (hb.block _ (by omega)))
      have X15 := Lib.hid (X14b.out.kept (hb.block _ (by omega)))
      have H15 := Lib.hid (H14b.out.kept (hb.block _ (by omega)))
      have Z15 := Lib.hid (Z14b.out.kept (hb.block _ (by omega)))
      have CG15 := Lib.hid (CG14b.out.stays hb)
      have MA15 := Lib.hid (own_past MA14b.out hb)
      have MB15 := Lib.hid (own_past MB14b.out hb)
      have CH15 := Lib.hid (CH14b.out.stays hb)
      clear p0 p1 p2 p3 p4 g0 g1 g2 g3 g4 x0 x1 x2 x3 x4 h0 h1 h2 h3 h4 z0 z1 z2 z3 z4
      clear hb
      obtain ⟨p0, p1, p2, p3, p4, _, _, _, _, _⟩ := P15.out
      obtain ⟨g0, g1, g2, g3, g4, _, _, _, _, _⟩ := G15.out
      obtain ⟨x0, x1, x2, x3, x4, _, _, _, _, _⟩ := X15.out
      obtain ⟨h0, h1, h2, h3, h4, _, _, _, _, _⟩ := H15.out
      obtain ⟨z0, z1, z2, z3, z4, _, _, _, _, _⟩ := Z15.out
      go_wp2_with fail
      go_at_call 21
      refine (HHg.out w15 Ag Bg dg eg (Law.Row.own MA15.out) (Law.Row.own MB15.out)).mono ?_
      rintro r w16 ⟨rfl, hb⟩
      clear p0 p1 p2 p3 p4 g0 g1 g2 g3 g4 x0 x1 x2 x3 x4 h0 h1 h2 h3 h4 z0 z1 z2 z3 z4
      have hz16 := hb.size
      have L16 := Lib.hid (Law.then_ L15.out hb)
      have P16 := Lib.hid (P15.out.kept (hb.block _ (by omega)))
      have G16 := Lib.hid (G15.out.kept (hb.block _ (by omega)))
      have X16 := Lib.hid (X15.out.kept (hb.block _ (by omega)))
      have H16 := Lib.hid (H15.out.kept (hb.block _ (by omega)))
      have Z16 := Lib.hid (Z15.out.kept (hb.block _ (by omega)))
      have CG16 := Lib.hid (CG15.out.stays hb)
      have MA16 := Lib.hid (own_past MA15.out hb)
      have MB16 := Lib.hid (own_past MB15.out hb)
      have CH16 := Lib.hid (CH15.out.stays hb)
      clear hb
      go_wp2
      go_ret
      exact ⟨rfl, L16.out⟩
set_option maxHeartbeats 1600000 in
theorem walk_big1 (n : Int) (item : Int) (c : Ca) (A0 B0 : Option Addr) (d0 e0 : Nat) (w : World) (hb1 : 1048576 < c.ps.length) (hm : c.ps.length ≤ maxLen) :
    Calls Try.prog 3 #[.int .i64 n, .agg #[.int .i64 c.p, .int .i64 c.s, .slice A0 c.ps.length d0, .slice B0 c.ms.length e0, .int .i64 c.h], .int .i64 item] w fun e w' => e = .returned (.bool true) ∧ Below w.heap.size w w' := by
  have HSz := Lib.hid fun X => sz_big1 X c A0 B0 d0 e0 hb1 hm
  have L0 : Hid (Below w.heap.size w (w.alloc (.cells #[.int .i64 c.p, .int .i64 c.s, .slice A0 c.ps.length d0, .slice B0 c.ms.length e0, .int .i64 c.h] 24))) := (Below.refl _ _).alloc (Nat.le_refl _) _
  have P0 := Lib.hid (blk5_of (heap_alloc_new w (.cells #[.int .i64 c.p, .int .i64 c.s, .slice A0 c.ps.length d0, .slice B0 c.ms.length e0, .int .i64 c.h] 24)))
  unfold caV at HSz
  clear hb1 hm
  go_enter Try.func3, Try.ntmps3
  go_wp2_with fail
  generalize w.alloc (.cells #[.int .i64 c.p, .int .i64 c.s, .slice A0 c.ps.length d0, .slice B0 c.ms.length e0, .int .i64 c.h] 24) = X0 at L0 P0 ⊢
  obtain ⟨p0, p1, p2, p3, p4, _, _, _, _, _⟩ := P0.out
  go_wp2_with fail
  go_at_call 15
  refine (HSz.out X0).mono ?_
  rintro r w1 ⟨rfl, hb⟩
  have L1 := Lib.hid (L0.out.trans (hb.mono L0.out.size))
  clear hb p0 p1 p2 p3 p4
  go_wp2
  go_ret
  exact ⟨rfl, L1.out⟩
set_option maxHeartbeats 1600000 in
theorem walk_big2 (n : Int) (item : Int) (c : Ca) (A0 B0 : Option Addr) (d0 e0 : Nat) (w : World) (hb1 : c.ps.length ≤ 1048576) (hb2 : 1048576 < c.ps.length + c.ms.length) (hm : c.ms.length ≤ maxLen) :
    Calls Try.prog 3 #[.int .i64 n, .agg #[.int .i64 c.p, .int .i64 c.s, .slice A0 c.ps.length d0, .slice B0 c.ms.length e0, .int .i64 c.h], .int .i64 item] w fun e w' => e = .returned (.bool true) ∧ Below w.heap.size w w' := by
  have HSz := Lib.hid fun X => sz_big2 X c A0 B0 d0 e0 hb1 hb2 hm
  have L0 : Hid (Below w.heap.size w (w.alloc (.cells #[.int .i64 c.p, .int .i64 c.s, .slice A0 c.ps.length d0, .slice B0 c.ms.length e0, .int .i64 c.h] 24))) := (Below.refl _ _).alloc (Nat.le_refl _) _
  have P0 := Lib.hid (blk5_of (heap_alloc_new w (.cells #[.int .i64 c.p, .int .i64 c.s, .slice A0 c.ps.length d0, .slice B0 c.ms.length e0, .int .i64 c.h] 24)))
  unfold caV at HSz
  clear hb1 hm
  go_enter Try.func3, Try.ntmps3
  go_wp2_with fail
  generalize w.alloc (.cells #[.int .i64 c.p, .int .i64 c.s, .slice A0 c.ps.length d0, .slice B0 c.ms.length e0, .int .i64 c.h] 24) = X0 at L0 P0 ⊢
  obtain ⟨p0, p1, p2, p3, p4, _, _, _, _, _⟩ := P0.out
  go_wp2_with fail
  go_at_call 15
  refine (HSz.out X0).mono ?_
  rintro r w1 ⟨rfl, hb⟩
  have L1 := Lib.hid (L0.out.trans (hb.mono L0.out.size))
  clear hb p0 p1 p2 p3 p4
  go_wp2
  go_ret
  exact ⟨rfl, L1.out⟩
theorem walk (n : Int) (p s : Int) (A : Option Addr) (np d : Nat) (ps : List Int) (B : Option Addr) (nm e : Nat) (ms : List Int) (hh : Int) (item : Int) (w : World) (hn : (Lit.int .i64 n).wf = true) (hps : ps.length = np ∧ np ≤ d ∧ d ≤ maxLen ∧ Law.Row w A (ps.map (Value.int .i64))) (hms : ms.length = nm ∧ nm ≤ e ∧ e ≤ maxLen ∧ Law.Row w B (ms.map (Value.int .i64))) (hx : (Lit.int .i64 p).wf = true ∧ (Lit.int .i64 s).wf = true ∧ (Lit.int .i64 hh).wf = true) (hitem : (Lit.int .i64 item).wf = true) (hL : laidMetH Try.prog Rows.fnExactStepCacheRow.laid w) (hsh : w.ShapedOpen Try.prog) :
    Calls Try.prog 3 #[.int .i64 n, .agg #[.int .i64 p, .int .i64 s, .slice A np d, .slice B nm e, .int .i64 hh], .int .i64 item] w fun e w' => e = .returned (.bool true) ∧ Below w.heap.size w w' := by
  obtain ⟨rfl, hA1, hA2, hA3⟩ := hps
  obtain ⟨rfl, hB1, hB2, hB3⟩ := hms
  clear hL hsh
  obtain ⟨c, hc⟩ : ∃ c : Ca, c = { p := p, s := s, ps := ps, ms := ms, h := hh } := ⟨_, rfl⟩
  have h : CaIn w A d B e c := by subst hc; exact ⟨⟨hA1, hA2, hA3⟩, hB1, hB2, hB3⟩
  have e1 : ps = c.ps := by rw [hc]
  have e2 : ms = c.ms := by rw [hc]
  have e3 : p = c.p := by rw [hc]
  have e4 : s = c.s := by rw [hc]
  have e5 : hh = c.h := by rw [hc]
  rw [e1, e2, e3, e4, e5]
  rw [e1] at hA1
  rw [e2] at hB1
  clear hc e1 e2 e3 e4 e5 hA3 hB3 hx
  by_cases hl : c.ps.length + c.ms.length ≤ 1048576
  · have hC := stp_len n c item
    exact walk_core n item c A B d e (stpC n c item) (stpOk n c item) w h hl hC.1 hC.2 (fun A d B e W h => specStp_any n item h (by omega) (by omega)) (fun A d B e W h => impStp_any n item h (by omega) (by omega))
  · by_cases h1 : c.ps.length ≤ 1048576
    · exact walk_big2 n item c A B d e w h1 (by omega) (by omega)
    · exact walk_big1 n item c A B d e w (by omega) (by omega)
theorem lawOwn : ownKnob Try.prog.godebug = none := by kernel_rfl
theorem lawLaidOut : laidOutB Try.prog = true := by kernel_rfl
set_option maxRecDepth 100000 in
theorem contract (H : Type) (enc : TypeId × Value → H) (W : World) (base : Nat) (args : Array Value) (ds : List (DataW H)) (gs : List (DataW H)) (before : List MemPlace)
    (hval0 : ∀ (j : Nat) t v, Try.f3.params[j]? = some t → args[j]? = some v → Value.okWide Try.prog W .any base t v)
    (hW : DataW.Whole enc Try.prog Try.f3.params.toList Rows.fnExactStepCacheSpec.vars false W args.toList ds gs before) (hL : laidMetH Try.prog Rows.fnExactStepCacheRow.laid W) (hsh : W.ShapedOpen Try.prog) :
    Calls Try.prog 3 args W fun e W' => ∃ v, e = .returned v ∧ Rows.fnExactStepCacheSpec.post enc Try.prog Try.f3 false true false false W args v W' := by
  have hval : ∀ (j : Nat) t v, Try.f3.params[j]? = some t → args[j]? = some v → Value.okWide Try.prog W .any base t v := hval0
  have hW' := hW
  obtain ⟨p, q, hA0, hV, rfl, hfz, hnd⟩ := hW
  have hA : DataW.TrodAll enc Try.prog W 0 (fun _ => true) true Try.f3.params.toList args.toList ds p := hA0
  rw [Try.params3] at hA hval
  obtain ⟨v0, vs0, d0, ds0, p0, q0, hargs0, rfl, rfl, h0, r0⟩ := trodAll_cons hA
  obtain ⟨v1, vs1, d1, ds1, p1, q1, hargs1, rfl, rfl, h1, r1⟩ := trodAll_cons r0
  obtain ⟨v2, vs2, d2, ds2, p2, q2, hargs2, rfl, rfl, h2, r2⟩ := trodAll_cons r1
  obtain ⟨rfl, rfl, rfl⟩ := trodAll_nil r2
  obtain rfl : args = #[v0, v1, v2] := by cases args; simp_all
  obtain ⟨rfl, rfl⟩ := trodVars_none hV
  obtain ⟨a0, rfl, rfl, rfl, w0⟩ := open_int Try.underlying3 (hval 0 3 v0 rfl rfl) h0
  obtain ⟨a1, b1, A1, n1, c1, xs1, B1, m1, d1', ms1, g1, rfl, w1, u1, t1⟩ := Law.in_cache Try.underlying24 Try.underlying3 Try.underlying3 Try.underlying22 Try.underlying3 (by kernel_rfl) Try.underlying22 Try.underlying3 (by kernel_rfl) Try.underlying3 (by kernel_rfl) (by kernel_rfl) (hval 1 24 v1 rfl rfl) h1
  obtain ⟨a2, rfl, rfl, rfl, w2⟩ := open_int Try.underlying3 (hval 2 3 v2 rfl rfl) h2
  clear hA0 hval0
  refine (walk a0 a1 b1 A1 n1 c1 xs1 B1 m1 d1' ms1 g1 a2 W w0 w1 u1 t1 w2 hL hsh).mono fun e W' ⟨he, hb⟩ => ?_
  subst he
  exact ⟨_, rfl, Law.close hW' rfl rfl lawLaidOut (by kernel_rfl) Try.underlying4 (by kernel_rfl) hb⟩
theorem reads (os : Os) {H : Type} (enc : TypeId × Value → H) : ∃ places, DataW.whole enc Try.prog ((World.holding Try.prog os ⟨#[], #[], []⟩).forCall (fun _ _ => 0) ⟨#[], #[.int .i64 0, .agg #[.int .i64 0, .int .i64 0, .slice none 0 0, .slice none 0 0, .int .i64 0], .int .i64 0], []⟩).memory Try.f3.params.toList Rows.fnExactStepCacheSpec.vars false (#[.int .i64 0, .agg #[.int .i64 0, .int .i64 0, .slice none 0 0, .slice none 0 0, .int .i64 0], .int .i64 0] : Array Value).toList 8 = some ([.lit (.int .i64 0), .agg [.lit (.int .i64 0), .lit (.int .i64 0), .nil, .nil, .lit (.int .i64 0)], .lit (.int .i64 0)], [], places) :=
  ⟨[], by kernel_rfl⟩
set_option maxRecDepth 100000 in
theorem lifted (os : Os) (started : os.Started) (H : Type) (enc : TypeId × Value → H) (F : Stop.Interp) :
    ReturnsInHanded {} Try.checked os 3 .any ((OpenSpec.ofChange Rows.fnExactStepCacheSpec).preRow enc Try.prog Try.f3 Rows.fnExactStepCacheRow.domain false Rows.fnExactStepCacheRow.laid) (((OpenSpec.ofChange Rows.fnExactStepCacheSpec).at F).post enc Try.prog Try.f3 false true false false) := by
  obtain ⟨places, hx⟩ := reads os enc
  refine returnsInHanded_of_row (C := Try.checked) (s := OpenSpec.ofChange Rows.fnExactStepCacheSpec) lawOwn started (by kernel_rfl) Try.func3
    (witness_row_at (enc := enc) (C := Try.checked) false (World.holding Try.prog os ⟨#[], #[], []⟩) #[.int .i64 0, .agg #[.int .i64 0, .int .i64 0, .slice none 0 0, .slice none 0 0, .int .i64 0], .int .i64 0] rfl (by kernel_rfl) (by kernel_rfl) (by kernel_rfl)
      (OpenSpec.preRow_of_cond 8 hx (by kernel_rfl) (fun k hk => by cases hk) (by kernel_rfl) (laidMet_nil _ _))) ?_
  intro W base args ds gs before hval hW _ _ _ hL hsh _
  exact contract H enc W base args ds gs before hval hW hL hsh
theorem proved : Rows.FnExactStepCacheSaid :=
  OpenClaim.holds_of_cond 3 Try.f3 rfl rfl rfl rfl rfl rfl rfl ⟨rfl, rfl, rfl, rfl, rfl⟩ rfl rfl rfl rfl rfl (by kernel_rfl) Try.func3 (by kernel_rfl)
    (of_decide_eq_true (by kernel_rfl)) (by unfold Func.isWrapper; first | (rw [if_pos (by decide +kernel)]; kernel_rfl) | (rw [if_neg (by decide +kernel)]; exact ⟨rfl, rfl⟩))
    (fun os started H enc _ F => by rw [OpenClaim.pre_eq_preRow]; exact lifted os started H enc F)
end LStepCache
end Go.Proofs.Ytdjafooabpcbmaa
