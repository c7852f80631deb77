/-
  FnExactRunCache: the walk, for a cache and requests that are not too long.
-/
import Derived.Test.YtdjafooabpcbmaaRows
import Derived.Test.YtdjafooabpcbmaaChecked
import Derived.Test.YtdjafooabpcbmaaLawC
import Derived.Test.YtdjafooabpcbmaaMkD
import Derived.Test.YtdjafooabpcbmaaRun2
import Derived.Deep.DeepHandedRow
import Derived.Stop.Joined
namespace Go.Proofs.Ytdjafooabpcbmaa
open Go.RowKit Go.ChangeShapes Go.WideShapes
set_option linter.unusedVariables false
namespace LRunCache
theorem run_len (n : Int) (c : Ca) (zs : List Int) : (runC n c zs).ps.length ≤ 1000 ∧ (runC n c zs).ms.length ≤ 1000 := by
  unfold runC
  by_cases hy : Q.okC n c ∧ Q.good n zs = true
  · rw [show runOk n c zs = true from bo_true hy]
    have := ok_len (Q.run_ok hy.1 (Q.good_iff.1 hy.2).2.2 zs.length)
    exact ⟨by show (Q.runK c zs zs.length).ps.length ≤ _; omega, by show (Q.runK c zs zs.length).ms.length ≤ _; omega⟩
  · rw [show runOk n c zs = false from bo_false hy]
    exact ⟨Nat.zero_le _, Nat.zero_le _⟩
theorem eqInt_b (A B : Option Addr) (c d : Nat) (ss : List Int) (w : World) (hn : ss.length ≤ 9223372036854775807) (ha : Law.Row w A (ivs ss)) (hb : Law.Row w B (ivs ss)) :
    Calls Try.prog 25 #[.slice A ss.length c, .slice B ss.length d] w fun e w' => e = .returned (.bool true) ∧ Below w.heap.size w w' :=
  (eqInt_same A B c d ss w hn ha hb).mono fun _ _ ⟨h1, m, h2⟩ => ⟨h1, by rw [h2]; exact Law.draws _ _ _⟩
theorem markInt_span {lo hi : Nat} (kI : Int) (k : Nat) (hkI : kI = (k : Int)) (n : Nat) (A : Option Addr) (c : Nat) (xs : List Value) (w : World) (hk : 0 < k) (hkn : k + n ≤ 100000000) (ho : w.ownsRow lo 3 1 (.slice A n c) n xs) (hA : In lo hi A) :
    Calls Try.prog 26 #[.slice A n c, .int .i64 kI] w fun e w' => e = .returned (.int .i64 (kI + (n : Int))) ∧ Span lo hi w w' := by
  subst hkI
  exact (markInt_by lo k n A c xs w hk hkn ho).mono fun _ _ ⟨h1, _, h3⟩ => ⟨by rw [h1, Int.natCast_add], Span.of_grown h3 hA⟩
set_option maxRecDepth 100000 in
set_option maxHeartbeats 25600000 in
theorem walk_core (n : Int) (c : Ca) (zs : List Int) (A0 B0 : Option Addr) (d0 e0 : Nat) (Rq0 : Option Addr) (q0 : Nat) (C : Ca) (F : Nat) (ok : Bool) (w : World) (h : CaIn w A0 d0 B0 e0 c) (hl : c.ps.length + c.ms.length ≤ 1048576) (hz : zs.length ≤ 1048576) (hrq : Law.Row w Rq0 (ivs zs)) (hC1 : C.ps.length ≤ 1000) (hC2 : C.ms.length ≤ 1000)
    (HG : Hid (∀ (A : Option Addr) (d : Nat) (B : Option Addr) (e : Nat) (Rq : Option Addr) (q : Nat) (W : World), CaIn W A d B e c → Law.Row W Rq (ivs zs) → Calls Try.prog 22 #[.int .i64 n, .agg #[.int .i64 c.p, .int .i64 c.s, .slice A c.ps.length d, .slice B c.ms.length e, .int .i64 c.h], .slice Rq zs.length q] W (spGives3 C F ok W)))
    (HH : Hid (∀ (A : Option Addr) (d : Nat) (B : Option Addr) (e : Nat) (Rq : Option Addr) (q : Nat) (W : World), CaIn W A d B e c → Law.Row W Rq (ivs zs) → Calls Try.prog 24 #[.int .i64 n, .agg #[.int .i64 c.p, .int .i64 c.s, .slice A c.ps.length d, .slice B c.ms.length e, .int .i64 c.h], .slice Rq zs.length q] W (imGives3 C F ok W))) :
    Calls Try.prog 4 #[.int .i64 n, .agg #[.int .i64 c.p, .int .i64 c.s, .slice A0 c.ps.length d0, .slice B0 c.ms.length e0, .int .i64 c.h], .slice Rq0 zs.length q0] w fun e w' => e = .returned (.bool true) ∧ Below w.heap.size w w' := by
  have HSz := Lib.hid fun X => sz_fits X c A0 B0 d0 e0 hl
  have HTo := Lib.hid fun X (hb : Below w.heap.size w X) => toCache_any (h.stays hb) (by omega) (by omega)
  have HEx := Lib.hid fun X A' B' A2 B2 d' e' d2 e2 (h1 : CaIn X A' d' B' e' c) (h2 : CaIn X A2 d2 B2 e2 c) => eqCache_same h1 h2 (by omega) (by omega)
  have HEg := Lib.hid fun X A' B' A2 B2 d' e' d2 e2 (h1 : CaIn X A' d' B' e' C) (h2 : CaIn X A2 d2 B2 e2 C) => eqCache_same h1 h2 (by omega) (by omega)
  have hL0 : ¬ 1048576 - (c.ps.length : Int) - (c.ms.length : Int) < 0 := by omega
  have L0b : Hid (Below w.heap.size w (w.alloc (.cells #[.int .i64 c.p, .int .i64 c.s, .slice A0 c.ps.length d0, .slice B0 c.ms.length e0, .int .i64 c.h] 24))) := (Below.refl _ _).alloc (Nat.le_refl _) _
  have P0b := Lib.hid (blk5_of (heap_alloc_new w (.cells #[.int .i64 c.p, .int .i64 c.s, .slice A0 c.ps.length d0, .slice B0 c.ms.length e0, .int .i64 c.h] 24)))
  have hy0 : (w.alloc (.cells #[.int .i64 c.p, .int .i64 c.s, .slice A0 c.ps.length d0, .slice B0 c.ms.length e0, .int .i64 c.h] 24)).heap.size = w.heap.size + 1 := by simp
  have HRt := Lib.hid fun X (hb : Below w.heap.size w X) => toInt_any Rq0 q0 zs X hz (hrq.stays hb)
  unfold toSays at HRt
  unfold toCaSays at HTo
  unfold caV at HSz HTo HEx HEg
  unfold spGives3 caV at HG
  unfold imGives3 caV at HH
  have HMx := Lib.hid fun X A' B' d' e' lo hi hp hm hd hA hB hhi => markCache_any (W := X) (c := c) (A := A') (B := B') (d := d') (e := e') (lo := lo) (hi := hi) (k := 1) hp hm hd hA hB hhi (by omega) (by omega)
  have HMg := Lib.hid fun X A' B' d' e' lo hi hp hm hd hA hB hhi => markCache_any (W := X) (c := C) (A := A') (B := B') (d := d') (e := e') (lo := lo) (hi := hi) (k := 1) hp hm hd hA hB hhi (by omega) (by omega)
  have HHg := Lib.hid fun X A' B' d' e' hp hm => heldCache_any (W := X) (c := C) (A := A') (B := B') (d := d') (e := e') (k := 1) (by omega) (by omega) hp hm
  unfold caV at HMx HMg HHg
  have hIz : (zs.length : Int) ≤ 1048576 := by omega
  clear hrq
  go_enter Try.func4, Try.ntmps4
  go_wp2_with fail
  generalize w.alloc (.cells #[.int .i64 c.p, .int .i64 c.s, .slice A0 c.ps.length d0, .slice B0 c.ms.length e0, .int .i64 c.h] 24) = w0b at L0b P0b hy0 ⊢
  obtain ⟨p0, p1, p2, p3, p4, _, _, _, _, _⟩ := P0b.out
  go_wp2_with fail
  go_at_call 15
  refine (HSz.out w0b).mono ?_
  rintro r w1 ⟨rfl, hb⟩
  clear p0 p1 p2 p3 p4
  have hz1 := hb.size
  have L1 := Lib.hid (Law.then_ L0b.out hb)
  have P1 := Lib.hid (P0b.out.kept (hb.block _ (by omega)))
  clear hb
  obtain ⟨p0, p1, p2, p3, p4, _, _, _, _, _⟩ := P1.out
  go_wp2_with fail
  go_at_call 17
  refine (HTo.out w1 L1.out).mono ?_
  rintro r w2 ⟨A1, d1, B1, e1, rfl, ho, hm, _, hb⟩
  clear p0 p1 p2 p3 p4
  have hz2 := hb.size
  have L2 := Lib.hid (Law.then_ L1.out hb)
  have P2 := Lib.hid (P1.out.kept (hb.block _ (by omega)))
  obtain ⟨_, _, hv1, hcp1, hcm1, _⟩ := Law.own_len ho
  cases hv1
  obtain ⟨_, _, hv2, hcp2, hcm2, _⟩ := Law.own_len hm
  cases hv2
  have CX2 : Hid (CaIn w2 A1 d1 B1 e1 c) := Lib.hid ⟨⟨hcp1, hcm1, Law.Row.own ho⟩, hcp2, hcm2, Law.Row.own hm⟩
  clear hb ho hm hcp1 hcm1 hcp2 hcm2
  obtain ⟨p0, p1, p2, p3, p4, _, _, _, _, _⟩ := P2.out
  go_wp2_with fail
  go_at_call 23
  refine (HRt.out _ L2.out).mono ?_
  rintro r w3 ⟨v3, rfl, hr, hb⟩
  clear p0 p1 p2 p3 p4
  have hz3 := hb.size
  have L3 := Lib.hid (Law.then_ L2.out hb)
  have P3 := Lib.hid (P2.out.kept (hb.block _ (by omega)))
  have CX3 := Lib.hid (CX2.out.stays hb)
  obtain ⟨R1, q1, hv, hcr, hcq, _⟩ := Law.own_len hr
  cases hv
  have RR3 := Lib.hid hr
  clear hb hr hcr hcq
  obtain ⟨p0, p1, p2, p3, p4, _, _, _, _, _⟩ := P3.out
  go_wp2_with fail
  go_at_call 22
  refine (HG.out A1 d1 B1 e1 R1 q1 w3 CX3.out (Law.Row.own RR3.out)).mono ?_
  rintro r w4 ⟨Aw, dw, Bw, ew, rfl, hcw, hb⟩
  clear p0 p1 p2 p3 p4
  have hz4 := hb.size
  have L4 := Lib.hid (Law.then_ L3.out hb)
  have P4 := Lib.hid (P3.out.kept (hb.block _ (by omega)))
  have CX4 := Lib.hid (CX3.out.stays hb)
  have CG4 := Lib.hid hcw
  clear hb hcw CX2 CX3 CX4 RR3
  have b4 : Below w4.heap.size w4 (w4.alloc (.cells #[.int .i64 C.p, .int .i64 C.s, .slice Aw C.ps.length dw, .slice Bw C.ms.length ew, .int .i64 C.h] 26)) := (Below.refl _ _).alloc (Nat.le_refl _) _
  have hy4 : (w4.alloc (.cells #[.int .i64 C.p, .int .i64 C.s, .slice Aw C.ps.length dw, .slice Bw C.ms.length ew, .int .i64 C.h] 26)).heap.size = w4.heap.size + 1 := by simp
  have L4b := Lib.hid (Law.then_ L4.out b4)
  have P4b := Lib.hid (P4.out.kept (b4.block _ (by omega)))
  have CG4b := Lib.hid (CG4.out.stays b4)
  have G4b := Lib.hid (blk5_of (heap_alloc_new w4 (.cells #[.int .i64 C.p, .int .i64 C.s, .slice Aw C.ps.length dw, .slice Bw C.ms.length ew, .int .i64 C.h] 26)))
  clear b4
  obtain ⟨p0, p1, p2, p3, p4, _, _, _, _, _⟩ := P4b.out
  obtain ⟨g0, g1, g2, g3, g4, _, _, _, _, _⟩ := G4b.out
  go_wp2_with fail
  generalize w4.alloc (.cells #[.int .i64 C.p, .int .i64 C.s, .slice Aw C.ps.length dw, .slice Bw C.ms.length ew, .int .i64 C.h] 26) = w4b at hy4 L4b P4b G4b CG4b p0 p1 p2 p3 p4 g0 g1 g2 g3 g4 ⊢
  go_at_call 17
  refine (HTo.out w4b L4b.out).mono ?_
  rintro r w5 ⟨A2, d2, B2, e2, rfl, ho, hm, hdx, hb⟩
  have hz5 := hb.size
  have L5 := Lib.hid (Law.then_ L4b.out hb)
  have P5 := Lib.hid (P4b.out.kept (hb.block _ (by omega)))
  have G5 := Lib.hid (G4b.out.kept (hb.block _ (by omega)))
  have CG5 := Lib.hid (CG4b.out.stays hb)
  clear p0 p1 p2 p3 p4 g0 g1 g2 g3 g4
  obtain ⟨_, _, hv1, hcp1, hcm1, _⟩ := Law.own_len ho
  cases hv1
  obtain ⟨_, _, hv2, hcp2, hcm2, _⟩ := Law.own_len hm
  cases hv2
  have OA5 := Lib.hid ho
  have OB5 := Lib.hid hm
  have DX := Lib.hid hdx
  have IA := Lib.hid (In.of ho)
  have IB := Lib.hid (In.of hm)
  have HX := Lib.hid (And.intro (And.intro hcp1 hcm1) (And.intro hcp2 hcm2))
  clear hb ho hm hdx hcp1 hcm1 hcp2 hcm2
  have b5 : Below w5.heap.size w5 (w5.alloc (.cells #[.int .i64 c.p, .int .i64 c.s, .slice A2 c.ps.length d2, .slice B2 c.ms.length e2, .int .i64 c.h] 26)) := (Below.refl _ _).alloc (Nat.le_refl _) _
  have hy5 : (w5.alloc (.cells #[.int .i64 c.p, .int .i64 c.s, .slice A2 c.ps.length d2, .slice B2 c.ms.length e2, .int .i64 c.h] 26)).heap.size = w5.heap.size + 1 := by simp
  have L5b := Lib.hid (Law.then_ L5.out b5)
  have P5b := Lib.hid (P5.out.kept (b5.block _ (by omega)))
  have G5b := Lib.hid (G5.out.kept (b5.block _ (by omega)))
  have CG5b := Lib.hid (CG5.out.stays b5)
  have OA5b := Lib.hid (own_past OA5.out b5)
  have OB5b := Lib.hid (own_past OB5.out b5)
  have X5b := Lib.hid (blk5_of (heap_alloc_new w5 (.cells #[.int .i64 c.p, .int .i64 c.s, .slice A2 c.ps.length d2, .slice B2 c.ms.length e2, .int .i64 c.h] 26)))
  clear b5
  obtain ⟨p0, p1, p2, p3, p4, _, _, _, _, _⟩ := P5b.out
  obtain ⟨g0, g1, g2, g3, g4, _, _, _, _, _⟩ := G5b.out
  obtain ⟨x0, x1, x2, x3, x4, _, _, _, _, _⟩ := X5b.out
  go_wp2_with fail
  generalize w5.alloc (.cells #[.int .i64 c.p, .int .i64 c.s, .slice A2 c.ps.length d2, .slice B2 c.ms.length e2, .int .i64 c.h] 26) = w5b at hy5 L5b P5b G5b X5b CG5b OA5b OB5b p0 p1 p2 p3 p4 g0 g1 g2 g3 g4 x0 x1 x2 x3 x4 ⊢
  go_at_call 23
  refine (HRt.out w5b L5b.out).mono ?_
  rintro r w6 ⟨v6, rfl, hr, hb⟩
  have hz6 := hb.size
  have L6 := Lib.hid (Law.then_ L5b.out hb)
  have P6 := Lib.hid (P5b.out.kept (hb.block _ (by omega)))
  have G6 := Lib.hid (G5b.out.kept (hb.block _ (by omega)))
  have X6 := Lib.hid (X5b.out.kept (hb.block _ (by omega)))
  have CG6 := Lib.hid (CG5b.out.stays hb)
  have OA6 := Lib.hid (own_past OA5b.out hb)
  have OB6 := Lib.hid (own_past OB5b.out hb)
  clear p0 p1 p2 p3 p4 g0 g1 g2 g3 g4 x0 x1 x2 x3 x4
  obtain ⟨R2, q2, hv, hcr, hcq, _⟩ := Law.own_len hr
  cases hv
  have OR6 := Lib.hid hr
  have IR := Lib.hid (In.of hr)
  clear hb hr hcr hcq
  have CX6 : Hid (CaIn w6 A2 d2 B2 e2 c) := Lib.hid ⟨⟨HX.out.1.1, HX.out.1.2, Law.Row.own OA6.out⟩, HX.out.2.1, HX.out.2.2, Law.Row.own OB6.out⟩
  obtain ⟨p0, p1, p2, p3, p4, _, _, _, _, _⟩ := P6.out
  obtain ⟨g0, g1, g2, g3, g4, _, _, _, _, _⟩ := G6.out
  obtain ⟨x0, x1, x2, x3, x4, _, _, _, _, _⟩ := X6.out
  go_wp2_with fail
  go_at_call 24
  refine (HH.out A2 d2 B2 e2 R2 q2 w6 CX6.out (Law.Row.own OR6.out)).mono ?_
  rintro r w7 ⟨Ag, dg, Bg, eg, rfl, ho, hm, hdg, hb⟩
  clear p0 p1 p2 p3 p4 g0 g1 g2 g3 g4 x0 x1 x2 x3 x4
  have hz7 := hb.size
  have L7 := Lib.hid (Law.then_ L6.out hb)
  have P7 := Lib.hid (P6.out.kept (hb.block _ (by omega)))
  have G7 := Lib.hid (G6.out.kept (hb.block _ (by omega)))
  have X7 := Lib.hid (X6.out.kept (hb.block _ (by omega)))
  have CG7 := Lib.hid (CG6.out.stays hb)
  have OA7 := Lib.hid (own_past OA6.out hb)
  have OB7 := Lib.hid (own_past OB6.out hb)
  have OR7 := Lib.hid (own_past OR6.out hb)
  obtain ⟨_, _, hv1, hcp1, hcm1, _⟩ := Law.own_len ho
  cases hv1
  obtain ⟨_, _, hv2, hcp2, hcm2, _⟩ := Law.own_len hm
  cases hv2
  have QA7 := Lib.hid ho
  have QB7 := Lib.hid hm
  have DG := Lib.hid hdg
  have JA := Lib.hid (In.of ho)
  have JB := Lib.hid (In.of hm)
  have HY := Lib.hid (And.intro (And.intro hcp1 hcm1) (And.intro hcp2 hcm2))
  clear hb ho hm hdg CX6 hcp1 hcm1 hcp2 hcm2
  have b7 : Below w7.heap.size w7 (w7.alloc (.cells #[.int .i64 C.p, .int .i64 C.s, .slice Ag C.ps.length dg, .slice Bg C.ms.length eg, .int .i64 C.h] 26)) := (Below.refl _ _).alloc (Nat.le_refl _) _
  have hy7 : (w7.alloc (.cells #[.int .i64 C.p, .int .i64 C.s, .slice Ag C.ps.length dg, .slice Bg C.ms.length eg, .int .i64 C.h] 26)).heap.size = w7.heap.size + 1 := by simp
  have L7b := Lib.hid (Law.then_ L7.out b7)
  have P7b := Lib.hid (P7.out.kept (b7.block _ (by omega)))
  have G7b := Lib.hid (G7.out.kept (b7.block _ (by omega)))
  have X7b := Lib.hid (X7.out.kept (b7.block _ (by omega)))
  have CG7b := Lib.hid (CG7.out.stays b7)
  have OA7b := Lib.hid (own_past OA7.out b7)
  have OB7b := Lib.hid (own_past OB7.out b7)
  have OR7b := Lib.hid (own_past OR7.out b7)
  have QA7b := Lib.hid (own_past QA7.out b7)
  have QB7b := Lib.hid (own_past QB7.out b7)
  have H7b := Lib.hid (blk5_of (heap_alloc_new w7 (.cells #[.int .i64 C.p, .int .i64 C.s, .slice Ag C.ps.length dg, .slice Bg C.ms.length eg, .int .i64 C.h] 26)))
  clear b7
  obtain ⟨p0, p1, p2, p3, p4, _, _, _, _, _⟩ := P7b.out
  obtain ⟨g0, g1, g2, g3, g4, _, _, _, _, _⟩ := G7b.out
  obtain ⟨x0, x1, x2, x3, x4, _, _, _, _, _⟩ := X7b.out
  obtain ⟨h0, h1, h2, h3, h4, _, _, _, _, _⟩ := H7b.out
  go_wp2_with fail
  generalize w7.alloc (.cells #[.int .i64 C.p, .int .i64 C.s, .slice Ag C.ps.length dg, .slice Bg C.ms.length eg, .int .i64 C.h] 26) = w7b at hy7 L7b P7b G7b X7b H7b CG7b OA7b OB7b OR7b QA7b QB7b p0 p1 p2 p3 p4 g0 g1 g2 g3 g4 x0 x1 x2 x3 x4 h0 h1 h2 h3 h4 ⊢
  go_at_call 19
  refine (HEg.out w7b Ag Bg Aw Bw dg eg dw ew ⟨⟨HY.out.1.1, HY.out.1.2, Law.Row.own QA7b.out⟩, HY.out.2.1, HY.out.2.2, Law.Row.own QB7b.out⟩ CG7b.out).mono ?_
  rintro r w8 ⟨rfl, hb⟩
  have hz8 := hb.size
  have L8 := Lib.hid (Law.then_ L7b.out hb)
  have P8 := Lib.hid (P7b.out.kept (hb.block _ (by omega)))
  have G8 := Lib.hid (G7b.out.kept (hb.block _ (by omega)))
  have X8 := Lib.hid (X7b.out.kept (hb.block _ (by omega)))
  have H8 := Lib.hid (H7b.out.kept (hb.block _ (by omega)))
  have CG8 := Lib.hid (CG7b.out.stays hb)
  have OA8 := Lib.hid (own_past OA7b.out hb)
  have OB8 := Lib.hid (own_past OB7b.out hb)
  have OR8 := Lib.hid (own_past OR7b.out hb)
  have QA8 := Lib.hid (own_past QA7b.out hb)
  have QB8 := Lib.hid (own_past QB7b.out hb)
  clear p0 p1 p2 p3 p4 g0 g1 g2 g3 g4 x0 x1 x2 x3 x4 h0 h1 h2 h3 h4
  clear hb
  cases ok
  all_goals
    obtain ⟨p0, p1, p2, p3, p4, _, _, _, _, _⟩ := P8.out
    obtain ⟨g0, g1, g2, g3, g4, _, _, _, _, _⟩ := G8.out
    obtain ⟨x0, x1, x2, x3, x4, _, _, _, _, _⟩ := X8.out
    obtain ⟨h0, h1, h2, h3, h4, _, _, _, _, _⟩ := H8.out
    go_wp2_with fail
    go_region_law ((first
      | (go_simp; go_at_call 17; refine (HTo.out _ (L8.out.drew)).mono ?_; rintro r w9 ⟨A3, d3, B3, e3, rfl, ho, hm, _, hb⟩; have hb := ((Below.refl w8.heap.size w8).drew).trans hb; have hz9 := hb.size; have L9 := Lib.hid (Law.then_ L8.out hb); have P9 := Lib.hid (P8.out.kept (hb.block _ (by omega))); have G9 := Lib.hid (G8.out.kept (hb.block _ (by omega))); have X9 := Lib.hid (X8.out.kept (hb.block _ (by omega))); have H9 := Lib.hid (H8.out.kept (hb.block _ (by omega))); have CG9 := Lib.hid (CG8.out.stays hb); have OA9 := Lib.hid (own_past OA8.out hb); have OB9 := Lib.hid (own_past OB8.out hb); have OR9 := Lib.hid (own_past OR8.out hb); have QA9 := Lib.hid (own_past QA8.out hb); have QB9 := Lib.hid (own_past QB8.out hb); obtain ⟨_, _, hv1, hcp1, hcm1, _⟩ := Law.own_len ho; cases hv1; obtain ⟨_, _, hv2, hcp2, hcm2, _⟩ := Law.own_len hm; cases hv2; have CY9 : Hid (CaIn w9 A3 d3 B3 e3 c) := Lib.hid ⟨⟨hcp1, hcm1, Law.Row.own ho⟩, hcp2, hcm2, Law.Row.own hm⟩; clear hb ho hm hcp1 hcm1 hcp2 hcm2; obtain ⟨y0, y1, y2, y3, y4, _, _, _, _, _⟩ := X9.out)
      | (go_simp; go_at_call 19; refine (HEx.out _ A2 B2 A3 B3 d2 e2 d3 e3 ⟨⟨HX.out.1.1, HX.out.1.2, Law.Row.own OA9.out⟩, HX.out.2.1, HX.out.2.2, Law.Row.own OB9.out⟩ CY9.out).mono ?_; rintro r w10 ⟨rfl, hb⟩; have hz10 := hb.size; have L10 := Lib.hid (Law.then_ L9.out hb); have P10 := Lib.hid (P9.out.kept (hb.block _ (by omega))); have G10 := Lib.hid (G9.out.kept (hb.block _ (by omega))); have X10 := Lib.hid (X9.out.kept (hb.block _ (by omega))); have H10 := Lib.hid (H9.out.kept (hb.block _ (by omega))); have CG10 := Lib.hid (CG9.out.stays hb); have OA10 := Lib.hid (own_past OA9.out hb); have OB10 := Lib.hid (own_past OB9.out hb); have OR10 := Lib.hid (own_past OR9.out hb); have QA10 := Lib.hid (own_past QA9.out hb); have QB10 := Lib.hid (own_past QB9.out hb); clear hb)))
    all_goals
      try (clear p0 p1 p2 p3 p4 g0 g1 g2 g3 g4 x0 x1 x2 x3 x4 h0 h1 h2 h3 h4)
      try (clear y0 y1 y2 y3 y4)
      obtain ⟨p0, p1, p2, p3, p4, _, _, _, _, _⟩ := P10.out
      obtain ⟨g0, g1, g2, g3, g4, _, _, _, _, _⟩ := G10.out
      obtain ⟨x0, x1, x2, x3, x4, _, _, _, _, _⟩ := X10.out
      obtain ⟨h0, h1, h2, h3, h4, _, _, _, _, _⟩ := H10.out
      go_wp2_with fail
      go_at_call 23
      refine (HRt.out _ L10.out).mono ?_
      rintro r w11 ⟨v11, rfl, hr, hb⟩
      clear p0 p1 p2 p3 p4 g0 g1 g2 g3 g4 x0 x1 x2 x3 x4 h0 h1 h2 h3 h4
      have hz11 := hb.size
      have L11 := Lib.hid (Law.then_ L10.out hb)
      have P11 := Lib.hid (P10.out.kept (hb.block _ (by omega)))
      have G11 := Lib.hid (G10.out.kept (hb.block _ (by omega)))
      have X11 := Lib.hid (X10.out.kept (hb.block _ (by omega)))
      have H11 := Lib.hid (H10.out.kept (hb.block _ (by omega)))
      have CG11 := Lib.hid (CG10.out.stays hb)
      have OA11 := Lib.hid (own_past OA10.out hb)
      have OB11 := Lib.hid (own_past OB10.out hb)
      have OR11 := Lib.hid (own_past OR10.out hb)
      have QA11 := Lib.hid (own_past QA10.out hb)
      have QB11 := Lib.hid (own_past QB10.out hb)
      obtain ⟨R3, q3, hv, hcr, hcq, _⟩ := Law.own_len hr
      cases hv
      have RY11 := Lib.hid hr
      clear hb hr hcr hcq
      obtain ⟨p0, p1, p2, p3, p4, _, _, _, _, _⟩ := P11.out
      obtain ⟨g0, g1, g2, g3, g4, _, _, _, _, _⟩ := G11.out
      obtain ⟨x0, x1, x2, x3, x4, _, _, _, _, _⟩ := X11.out
      obtain ⟨h0, h1, h2, h3, h4, _, _, _, _, _⟩ := H11.out
      go_wp2_with fail
      go_at_call 25
      refine (eqInt_b R2 R3 q2 q3 zs w11 (by omega) (Law.Row.own OR11.out) (Law.Row.own RY11.out)).mono ?_
      rintro r w12 ⟨rfl, hb⟩
      clear p0 p1 p2 p3 p4 g0 g1 g2 g3 g4 x0 x1 x2 x3 x4 h0 h1 h2 h3 h4
      have hz12 := hb.size
      have L12 := Lib.hid (Law.then_ L11.out hb)
      have P12 := Lib.hid (P11.out.kept (hb.block _ (by omega)))
      have G12 := Lib.hid (G11.out.kept (hb.block _ (by omega)))
      have X12 := Lib.hid (X11.out.kept (hb.block _ (by omega)))
      have H12 := Lib.hid (H11.out.kept (hb.block _ (by omega)))
      have CG12 := Lib.hid (CG11.out.stays hb)
      have OA12 := Lib.hid (own_past OA11.out hb)
      have OB12 := Lib.hid (own_past OB11.out hb)
      have OR12 := Lib.hid (own_past OR11.out hb)
      have QA12 := Lib.hid (own_past QA11.out hb)
      have QB12 := Lib.hid (own_past QB11.out hb)
      clear hb RY11
      obtain ⟨p0, p1, p2, p3, p4, _, _, _, _, _⟩ := P12.out
      obtain ⟨g0, g1, g2, g3, g4, _, _, _, _, _⟩ := G12.out
      obtain ⟨x0, x1, x2, x3, x4, _, _, _, _, _⟩ := X12.out
      obtain ⟨h0, h1, h2, h3, h4, _, _, _, _, _⟩ := H12.out
      go_wp2_with fail
      go_at_call 20
      refine (HMx.out w12 A2 B2 d2 e2 w4b.heap.size w5.heap.size OA12.out OB12.out DX.out IA.out IB.out (by omega)).mono ?_
      rintro r w13 ⟨rfl, _, _, hs⟩
      clear p0 p1 p2 p3 p4 g0 g1 g2 g3 g4 x0 x1 x2 x3 x4 h0 h1 h2 h3 h4
      have hz13 := hs.size
      have L13 := Lib.hid (L12.out.trans ((hs.below (by omega)).mono (by omega)))
      have P13 := Lib.hid (hs.blk P12.out (by omega) (by omega))
      have G13 := Lib.hid (hs.blk G12.out (by omega) (by omega))
      have X13 := Lib.hid (hs.blk X12.out (by omega) (by omega))
      have H13 := Lib.hid (hs.blk H12.out (by omega) (by omega))
      have CG13 := Lib.hid (CaIn.span CG4.out CG12.out hs (by omega))
      have OR13 := Lib.hid (hs.own OR12.out IR.out (by omega))
      have QA13 := Lib.hid (hs.own QA12.out JA.out (by omega))
      have QB13 := Lib.hid (hs.own QB12.out JB.out (by omega))
      clear hs
      obtain ⟨p0, p1, p2, p3, p4, _, _, _, _, _⟩ := P13.out
      obtain ⟨g0, g1, g2, g3, g4, _, _, _, _, _⟩ := G13.out
      obtain ⟨x0, x1, x2, x3, x4, _, _, _, _, _⟩ := X13.out
      obtain ⟨h0, h1, h2, h3, h4, _, _, _, _, _⟩ := H13.out
      go_wp2_with fail
      go_at_call 26
      refine (markInt_span (lo := w5b.heap.size) (hi := w6.heap.size) (1 + (c.ps.length : Int) + (c.ms.length : Int)) (1 + c.ps.length + c.ms.length) (by omega) zs.length R2 q2 (ivs zs) w13 (by omega) (by omega) OR13.out IR.out).mono ?_
      rintro r w14 ⟨rfl, hs⟩
      clear p0 p1 p2 p3 p4 g0 g1 g2 g3 g4 x0 x1 x2 x3 x4 h0 h1 h2 h3 h4
      have hq14 : ¬ (1 + (c.ps.length : Int) + (c.ms.length : Int) + (zs.length : Int) < 0) := by omega
      have hz14 := hs.size
      have L14 := Lib.hid (L13.out.trans ((hs.below (by omega)).mono (by omega)))
      have P14 := Lib.hid (hs.blk P13.out (by omega) (by omega))
      have G14 := Lib.hid (hs.blk G13.out (by omega) (by omega))
      have X14 := Lib.hid (hs.blk X13.out (by omega) (by omega))
      have H14 := Lib.hid (hs.blk H13.out (by omega) (by omega))
      have CG14 := Lib.hid (CaIn.span CG4.out CG13.out hs (by omega))
      have QA14 := Lib.hid (hs.own QA13.out JA.out (by omega))
      have QB14 := Lib.hid (hs.own QB13.out JB.out (by omega))
      clear hs
      obtain ⟨p0, p1, p2, p3, p4, _, _, _, _, _⟩ := P14.out
      obtain ⟨g0, g1, g2, g3, g4, _, _, _, _, _⟩ := G14.out
      obtain ⟨x0, x1, x2, x3, x4, _, _, _, _, _⟩ := X14.out
      obtain ⟨h0, h1, h2, h3, h4, _, _, _, _, _⟩ := H14.out
      go_wp2_with fail
      go_at_call 19
      refine (HEg.out w14 Ag Bg Aw Bw dg eg dw ew ⟨⟨HY.out.1.1, HY.out.1.2, Law.Row.own QA14.out⟩, HY.out.2.1, HY.out.2.2, Law.Row.own QB14.out⟩ CG14.out).mono ?_
      rintro r w15 ⟨rfl, hb⟩
      clear p0 p1 p2 p3 p4 g0 g1 g2 g3 g4 x0 x1 x2 x3 x4 h0 h1 h2 h3 h4
      have hz15 := hb.size
      have L15 := Lib.hid (Law.then_ L14.out hb)
      have P15 := Lib.hid (P14.out.kept (hb.block _ (by omega)))
      have G15 := Lib.hid (G14.out.kept (hb.block _ (by omega)))
      have X15 := Lib.hid (X14.out.kept (hb.block _ (by omega)))
      have H15 := Lib.hid (H14.out.kept (hb.block _ (by omega)))
      have CG15 := Lib.hid (CG14.out.stays hb)
      have QA15 := Lib.hid (own_past QA14.out hb)
      have QB15 := Lib.hid (own_past QB14.out hb)
      clear hb
      obtain ⟨p0, p1, p2, p3, p4, _, _, _, _, _⟩ := P15.out
      obtain ⟨g0, g1, g2, g3, g4, _, _, _, _, _⟩ := G15.out
      obtain ⟨x0, x1, x2, x3, x4, _, _, _, _, _⟩ := X15.out
      obtain ⟨h0, h1, h2, h3, h4, _, _, _, _, _⟩ := H15.out
      go_wp2_with fail
      go_at_call 20
      refine (HMg.out w15 Ag Bg dg eg w6.heap.size w7.heap.size QA15.out QB15.out DG.out JA.out JB.out (by omega)).mono ?_
      rintro r w16 ⟨rfl, hma, hmb, hs⟩
      clear p0 p1 p2 p3 p4 g0 g1 g2 g3 g4 x0 x1 x2 x3 x4 h0 h1 h2 h3 h4
      have hz16 := hs.size
      have L16 := Lib.hid (L15.out.trans ((hs.below (by omega)).mono (by omega)))
      have P16 := Lib.hid (hs.blk P15.out (by omega) (by omega))
      have G16 := Lib.hid (hs.blk G15.out (by omega) (by omega))
      have X16 := Lib.hid (hs.blk X15.out (by omega) (by omega))
      have H16 := Lib.hid (hs.blk H15.out (by omega) (by omega))
      have CG16 := Lib.hid (CaIn.span CG4.out CG15.out hs (by omega))
      clear hs
      have MA16 := Lib.hid hma
      have MB16 := Lib.hid hmb
      clear hma hmb
      have hq16 : ¬ ((1 + C.ps.length + C.ms.length : Nat) : Int) < 0 := by omega
      obtain ⟨p0, p1, p2, p3, p4, _, _, _, _, _⟩ := P16.out
      obtain ⟨g0, g1, g2, g3, g4, _, _, _, _, _⟩ := G16.out
      obtain ⟨x0, x1, x2, x3, x4, _, _, _, _, _⟩ := X16.out
      obtain ⟨h0, h1, h2, h3, h4, _, _, _, _, _⟩ := H16.out
      go_wp2_with fail
      go_at_call 21
      refine (HHg.out w16 Ag Bg dg eg (Law.Row.own MA16.out) (Law.Row.own MB16.out)).mono ?_
      rintro r w17 ⟨rfl, hb⟩
      clear p0 p1 p2 p3 p4 g0 g1 g2 g3 g4 x0 x1 x2 x3 x4 h0 h1 h2 h3 h4
      have hz17 := hb.size
      have L17 := Lib.hid (Law.then_ L16.out hb)
      have P17 := Lib.hid (P16.out.kept (hb.block _ (by omega)))
      have G17 := Lib.hid (G16.out.kept (hb.block _ (by omega)))
      have X17 := Lib.hid (X16.out.kept (hb.block _ (by omega)))
      have H17 := Lib.hid (H16.out.kept (hb.block _ (by omega)))
      have CG17 := Lib.hid (CG16.out.stays hb)
      have MA17 := Lib.hid (own_past MA16.out hb)
      have MB17 := Lib.hid (own_past MB16.out hb)
      clear hb
      obtain ⟨p0, p1, p2, p3, p4, _, _, _, _, _⟩ := P17.out
      obtain ⟨g0, g1, g2, g3, g4, _, _, _, _, _⟩ := G17.out
      obtain ⟨x0, x1, x2, x3, x4, _, _, _, _, _⟩ := X17.out
      obtain ⟨h0, h1, h2, h3, h4, _, _, _, _, _⟩ := H17.out
      go_wp2_with fail
      go_at_call 17
      refine (HTo.out w17 L17.out).mono ?_
      rintro r w18 ⟨A4, d4, B4, e4, rfl, ho, hm, _, hb⟩
      clear p0 p1 p2 p3 p4 g0 g1 g2 g3 g4 x0 x1 x2 x3 x4 h0 h1 h2 h3 h4
      have hz18 := hb.size
      have L18 := Lib.hid (Law.then_ L17.out hb)
      have P18 := Lib.hid (P17.out.kept (hb.block _ (by omega)))
      have G18 := Lib.hid (G17.out.kept (hb.block _ (by omega)))
      have X18 := Lib.hid (X17.out.kept (hb.block _ (by omega)))
      have H18 := Lib.hid (H17.out.kept (hb.block _ (by omega)))
      have CG18 := Lib.hid (CG17.out.stays hb)
      have MA18 := Lib.hid (own_past MA17.out hb)
      have MB18 := Lib.hid (own_past MB17.out hb)
      obtain ⟨_, _, hv1, hcp1, hcm1, _⟩ := Law.own_len ho
      cases hv1
      obtain ⟨_, _, hv2, hcp2, hcm2, _⟩ := Law.own_len hm
      cases hv2
      have CY18 : Hid (CaIn w18 A4 d4 B4 e4 c) := Lib.hid ⟨⟨hcp1, hcm1, Law.Row.own ho⟩, hcp2, hcm2, Law.Row.own hm⟩
      clear hb ho hm hcp1 hcm1 hcp2 hcm2
      obtain ⟨p0, p1, p2, p3, p4, _, _, _, _, _⟩ := P18.out
      obtain ⟨g0, g1, g2, g3, g4, _, _, _, _, _⟩ := G18.out
      obtain ⟨x0, x1, x2, x3, x4, _, _, _, _, _⟩ := X18.out
      obtain ⟨h0, h1, h2, h3, h4, _, _, _, _, _⟩ := H18.out
      go_wp2_with fail
      go_at_call 23
      refine (HRt.out _ L18.out).mono ?_
      rintro r w19 ⟨v19, rfl, hr, hb⟩
      clear p0 p1 p2 p3 p4 g0 g1 g2 g3 g4 x0 x1 x2 x3 x4 h0 h1 h2 h3 h4
      have hz19 := hb.size
      have L19 := Lib.hid (Law.then_ L18.out hb)
      have P19 := Lib.hid (P18.out.kept (hb.block _ (by omega)))
      have G19 := Lib.hid (G18.out.kept (hb.block _ (by omega)))
      have X19 := Lib.hid (X18.out.kept (hb.block _ (by omega)))
      have H19 := Lib.hid (H18.out.kept (hb.block _ (by omega)))
      have CG19 := Lib.hid (CG18.out.stays hb)
      have MA19 := Lib.hid (own_past MA18.out hb)
      have MB19 := Lib.hid (own_past MB18.out hb)
      have CY19 := Lib.hid (CY18.out.stays hb)
      obtain ⟨R4, q4, hv, hcr, hcq, _⟩ := Law.own_len hr
      cases hv
      have RZ19 := Lib.hid hr
      clear hb hr hcr hcq
      obtain ⟨p0, p1, p2, p3, p4, _, _, _, _, _⟩ := P19.out
      obtain ⟨g0, g1, g2, g3, g4, _, _, _, _, _⟩ := G19.out
      obtain ⟨x0, x1, x2, x3, x4, _, _, _, _, _⟩ := X19.out
      obtain ⟨h0, h1, h2, h3, h4, _, _, _, _, _⟩ := H19.out
      go_wp2_with fail
      go_at_call 24
      refine (HH.out A4 d4 B4 e4 R4 q4 w19 CY19.out (Law.Row.own RZ19.out)).mono ?_
      rintro r w20 ⟨Ah, dh, Bh, eh, rfl, ho, hm, _, hb⟩
      clear p0 p1 p2 p3 p4 g0 g1 g2 g3 g4 x0 x1 x2 x3 x4 h0 h1 h2 h3 h4
      have hz20 := hb.size
      have L20 := Lib.hid (Law.then_ L19.out hb)
      have P20 := Lib.hid (P19.out.kept (hb.block _ (by omega)))
      have G20 := Lib.hid (G19.out.kept (hb.block _ (by omega)))
      have X20 := Lib.hid (X19.out.kept (hb.block _ (by omega)))
      have H20 := Lib.hid (H19.out.kept (hb.block _ (by omega)))
      have CG20 := Lib.hid (CG19.out.stays hb)
      have MA20 := Lib.hid (own_past MA19.out hb)
      have MB20 := Lib.hid (own_past MB19.out hb)
      obtain ⟨_, _, hv1, hcp1, hcm1, _⟩ := Law.own_len ho
      cases hv1
      obtain ⟨_, _, hv2, hcp2, hcm2, _⟩ := Law.own_len hm
      cases hv2
      have CH20 : Hid (CaIn w20 Ah dh Bh eh C) := Lib.hid ⟨⟨hcp1, hcm1, Law.Row.own ho⟩, hcp2, hcm2, Law.Row.own hm⟩
      clear hb ho hm CY18 CY19 RZ19 hcp1 hcm1 hcp2 hcm2
      have b20 : Below w20.heap.size w20 (w20.alloc (.cells #[.int .i64 C.p, .int .i64 C.s, .slice Ah C.ps.length dh, .slice Bh C.ms.length eh, .int .i64 C.h] 26)) := (Below.refl _ _).alloc (Nat.le_refl _) _
      have hy20 : (w20.alloc (.cells #[.int .i64 C.p, .int .i64 C.s, .slice Ah C.ps.length dh, .slice Bh C.ms.length eh, .int .i64 C.h] 26)).heap.size = w20.heap.size + 1 := by simp
      have L20b := Lib.hid (Law.then_ L20.out b20)
      have P20b := Lib.hid (P20.out.kept (b20.block _ (by omega)))
      have G20b := Lib.hid (G20.out.kept (b20.block _ (by omega)))
      have X20b := Lib.hid (X20.out.kept (b20.block _ (by omega)))
      have H20b := Lib.hid (H20.out.kept (b20.block _ (by omega)))
      have CG20b := Lib.hid (CG20.out.stays b20)
      have MA20b := Lib.hid (own_past MA20.out b20)
      have MB20b := Lib.hid (own_past MB20.out b20)
      have CH20b := Lib.hid (CH20.out.stays b20)
      have Z20b := Lib.hid (blk5_of (heap_alloc_new w20 (.cells #[.int .i64 C.p, .int .i64 C.s, .slice Ah C.ps.length dh, .slice Bh C.ms.length eh, .int .i64 C.h] 26)))
      clear b20
      obtain ⟨p0, p1, p2, p3, p4, _, _, _, _, _⟩ := P20b.out
      obtain ⟨g0, g1, g2, g3, g4, _, _, _, _, _⟩ := G20b.out
      obtain ⟨x0, x1, x2, x3, x4, _, _, _, _, _⟩ := X20b.out
      obtain ⟨h0, h1, h2, h3, h4, _, _, _, _, _⟩ := H20b.out
      obtain ⟨z0, z1, z2, z3, z4, _, _, _, _, _⟩ := Z20b.out
      go_wp2_with fail
      generalize w20.alloc (.cells #[.int .i64 C.p, .int .i64 C.s, .slice Ah C.ps.length dh, .slice Bh C.ms.length eh, .int .i64 C.h] 26) = w20b at hy20 L20b P20b G20b X20b H20b Z20b CG20b MA20b MB20b CH20b p0 p1 p2 p3 p4 g0 g1 g2 g3 g4 x0 x1 x2 x3 x4 h0 h1 h2 h3 h4 z0 z1 z2 z3 z4 ⊢
      go_at_call 19
      refine (HEg.out w20b Ah Bh Aw Bw dh eh dw ew CH20b.out CG20b.out).mono ?_
      rintro r w21 ⟨rfl, hb⟩
      have hz21 := hb.size
      have L21 := Lib.hid (Law.then_ L20b.out hb)
      have P21 := Lib.hid (P20b.out.kept (hb.block _ (by omega)))
      have G21 := Lib.hid (G20b.out.kept (hb.block _ (by omega)))
      have X21 := Lib.hid (X20b.out.kept (hb.block _ (by omega)))
      have H21 := Lib.hid (H20b.out.kept (hb.block _ (by omega)))
      have Z21 := Lib.hid (Z20b.out.kept (hb.block _ (by omega)))
      have CG21 := Lib.hid (CG20b.out.stays hb)
      have MA21 := Lib.hid (own_past MA20b.out hb)
      have MB21 := Lib.hid (own_past MB20b.out hb)
      have CH21 := Lib.hid (CH20b.out.stays hb)
      clear p0 p1 p2 p3 p4 g0 g1 g2 g3 g4 x0 x1 x2 x3 x4 h0 h1 h2 h3 h4 z0 z1 z2 z3 z4
      clear hb
      obtain ⟨p0, p1, p2, p3, p4, _, _, _, _, _⟩ := P21.out
      obtain ⟨g0, g1, g2, g3, g4, _, _, _, _, _⟩ := G21.out
      obtain ⟨x0, x1, x2, x3, x4, _, _, _, _, _⟩ := X21.out
      obtain ⟨h0, h1, h2, h3, h4, _, _, _, _, _⟩ := H21.out
      obtain ⟨z0, z1, z2, z3, z4, _, _, _, _, _⟩ := Z21.out
      go_wp2_with fail
      go_at_call 21
      refine (HHg.out w21 Ag Bg dg eg (Law.Row.own MA21.out) (Law.Row.own MB21.out)).mono ?_
      rintro r w22 ⟨rfl, hb⟩
      clear p0 p1 p2 p3 p4 g0 g1 g2 g3 g4 x0 x1 x2 x3 x4 h0 h1 h2 h3 h4 z0 z1 z2 z3 z4
      have hz22 := hb.size
      have L22 := Lib.hid (Law.then_ L21.out hb)
      have P22 := Lib.hid (P21.out.kept (hb.block _ (by omega)))
      have G22 := Lib.hid (G21.out.kept (hb.block _ (by omega)))
      have X22 := Lib.hid (X21.out.kept (hb.block _ (by omega)))
      have H22 := Lib.hid (H21.out.kept (hb.block _ (by omega)))
      have Z22 := Lib.hid (Z21.out.kept (hb.block _ (by omega)))
      have CG22 := Lib.hid (CG21.out.stays hb)
      have MA22 := Lib.hid (own_past MA21.out hb)
      have MB22 := Lib.hid (own_past MB21.out hb)
      have CH22 := Lib.hid (CH21.out.stays hb)
      clear hb
      go_wp2
      go_ret
      exact ⟨rfl, L22.out⟩
end LRunCache
end Go.Proofs.Ytdjafooabpcbmaa
