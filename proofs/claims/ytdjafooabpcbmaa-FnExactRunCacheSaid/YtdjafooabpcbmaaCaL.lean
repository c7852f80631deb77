/-
  Caches in the laws' own helpers: 'szCache', 'toCache', 'eqCache'.
-/
import Derived.Test.YtdjafooabpcbmaaTri
namespace Go.Proofs.Ytdjafooabpcbmaa
open Go.RowKit
set_option linter.unusedVariables false
theorem sz_fits (W : World) (c : Ca) (A B : Option Addr) (d e : Nat) (h : c.ps.length + c.ms.length ≤ 1048576) : Calls Try.prog 15 #[caV c A d B e, .int .i64 1048576] W fun r W' => r = .returned (.int .i64 (1048576 - (c.ps.length : Int) - (c.ms.length : Int))) ∧ Below W.heap.size W W' := by
  have hw1 : IntKind.i64.wrap (1048576 - (c.ps.length : Int)) = 1048576 - (c.ps.length : Int) := by rw [IntKind.wrap_i64]; (try unfold maxLen at *); omega
  have hw2 : IntKind.i64.wrap (1048576 - (c.ps.length : Int) - (c.ms.length : Int)) = 1048576 - (c.ps.length : Int) - (c.ms.length : Int) := by rw [IntKind.wrap_i64]; (try unfold maxLen at *); omega
  have h1 : ¬ 1048576 - (c.ps.length : Int) < 0 := by omega
  have h2 : ¬ 1048576 - (c.ps.length : Int) - (c.ms.length : Int) < 0 := by omega
  unfold caV
  go_enter Try.func15, Try.ntmps15
  go_wp2
  go_ret
  exact ⟨rfl, (Below.refl _ _).alloc (Nat.le_refl _) _⟩
theorem sz_big1 (W : World) (c : Ca) (A B : Option Addr) (d e : Nat) (h : 1048576 < c.ps.length) (hm : c.ps.length ≤ maxLen) : Calls Try.prog 15 #[caV c A d B e, .int .i64 1048576] W fun r W' => r = .returned (.int .i64 (-1)) ∧ Below W.heap.size W W' := by
  have hw1 : IntKind.i64.wrap (1048576 - (c.ps.length : Int)) = 1048576 - (c.ps.length : Int) := by rw [IntKind.wrap_i64]; (try unfold maxLen at *); omega
  have h1 : 1048576 - (c.ps.length : Int) < 0 := by omega
  unfold caV
  go_enter Try.func15, Try.ntmps15
  go_wp2
  go_ret
  exact ⟨rfl, (Below.refl _ _).alloc (Nat.le_refl _) _⟩
theorem sz_big2 (W : World) (c : Ca) (A B : Option Addr) (d e : Nat) (h : c.ps.length ≤ 1048576) (h' : 1048576 < c.ps.length + c.ms.length) (hm : c.ms.length ≤ maxLen) : Calls Try.prog 15 #[caV c A d B e, .int .i64 1048576] W fun r W' => r = .returned (.int .i64 (-1)) ∧ Below W.heap.size W W' := by
  have hw1 : IntKind.i64.wrap (1048576 - (c.ps.length : Int)) = 1048576 - (c.ps.length : Int) := by rw [IntKind.wrap_i64]; (try unfold maxLen at *); omega
  have hw2 : IntKind.i64.wrap (1048576 - (c.ps.length : Int) - (c.ms.length : Int)) = 1048576 - (c.ps.length : Int) - (c.ms.length : Int) := by rw [IntKind.wrap_i64]; (try unfold maxLen at *); omega
  have h1 : ¬ 1048576 - (c.ps.length : Int) < 0 := by omega
  have h2 : 1048576 - (c.ps.length : Int) - (c.ms.length : Int) < 0 := by omega
  unfold caV
  go_enter Try.func15, Try.ntmps15
  go_wp2
  go_ret
  exact ⟨rfl, (Below.refl _ _).alloc (Nat.le_refl _) _⟩
/-- Two rows do not share a block. -/
def Dis (A B : Option Addr) : Prop := ∀ a b, A = some a → B = some b → a.block ≠ b.block
/-- What 'toCache' gives: a cache with rows of its own. -/
def toCaSays (c : Ca) (W : World) (r : Ending) (W' : World) : Prop := ∃ A d B e, r = .returned (caV c A d B e) ∧ W'.ownsRow W.heap.size 3 1 (.slice A c.ps.length d) c.ps.length (ivs c.ps) ∧ W'.ownsRow W.heap.size 3 1 (.slice B c.ms.length e) c.ms.length (ivs c.ms) ∧ Dis A B ∧ Below W.heap.size W W'
section
variable {W : World} {A B : Option Addr} {d e : Nat} {c : Ca}
set_option maxRecDepth 20000 in
set_option maxHeartbeats 1600000 in
theorem toCache_any (h : CaIn W A d B e c) (hl : c.ps.length ≤ 1048576) (hl2 : c.ms.length ≤ 1048576) : Calls Try.prog 17 #[caV c A d B e] W (toCaSays c W) := by
  have HI := Lib.hid h
  unfold caV
  clear h
  go_enter Try.func17, Try.ntmps17
  go_wp2_with fail
  have HS1 := Lib.hid (tri_new (al3 W (.cells #[.int .i64 c.p, .int .i64 c.s, .slice A c.ps.length d, .slice B c.ms.length e, .int .i64 c.h] 24) (.cells #[.int .i64 0, .int .i64 0, .slice none 0 0, .slice none 0 0, .int .i64 0] 26) (.cells #[.int .i64 c.p, .int .i64 c.s, .slice none 0 0, .slice none 0 0, .int .i64 0] 26)))
  generalize ((W.alloc (.cells #[.int .i64 c.p, .int .i64 c.s, .slice A c.ps.length d, .slice B c.ms.length e, .int .i64 c.h] 24)).alloc (.cells #[.int .i64 0, .int .i64 0, .slice none 0 0, .slice none 0 0, .int .i64 0] 26)).alloc (.cells #[.int .i64 c.p, .int .i64 c.s, .slice none 0 0, .slice none 0 0, .int .i64 0] 26) = X at HS1 ⊢
  refine (toInt_any A d c.ps X hl (HI.out.1.2.2.stays HS1.out.bl)).mono ?_
  rintro r w1 ⟨v1, rfl, ho1, hb1⟩
  obtain ⟨A1, n1, rfl, hr1, hq1, _⟩ := Law.own_len ho1
  have HS2 := Lib.hid (HS1.out.call hb1)
  have HO2 := Lib.hid (own_down ho1 HS1.out.lo)
  clear ho1 hb1
  obtain ⟨⟨c0, c1, c2, c3, c4, f0, f1, f2, f3, f4⟩, _, ⟨d0, d1, d2, d3, d4, e0, e1, e2, e3, e4⟩, hlo, hbl⟩ := HS2.out
  go_wp2_with fail
  clear c0 c1 c2 c3 c4 f0 f1 f2 f3 f4 d0 d1 d2 d3 d4 e0 e1 e2 e3 e4 hlo hbl
  have HS3 := Lib.hid (HS2.out.put2 (.slice A1 c.ps.length n1))
  have HO3 := Lib.hid (own_lo HO2.out ⟨W.heap.size + 1 + 1, 2, none⟩ (by simp) (.slice A1 c.ps.length n1))
  generalize w1.setCell ⟨W.heap.size + 1 + 1, 2, none⟩ (.slice A1 c.ps.length n1) = Y at HS3 HO3 ⊢
  refine (toInt_any B e c.ms Y hl2 (HI.out.2.2.2.stays HS3.out.bl)).mono ?_
  rintro r w4 ⟨v4, rfl, ho4, hb4⟩
  obtain ⟨A4, n4, rfl, hr4, hq4, _⟩ := Law.own_len ho4
  have HS4 := Lib.hid (HS3.out.call hb4)
  have HD : Hid (Dis A1 A4) := Lib.hid fun a b ha hb => by
    have h1 := (In.of HO3.out a ha).2
    have h2 := (In.of ho4 b hb).1
    omega
  have HO4 := Lib.hid (own_past HO3.out hb4)
  have HM4 := Lib.hid (own_down ho4 HS3.out.lo)
  clear ho4 hb4
  obtain ⟨⟨c0, c1, c2, c3, c4, f0, f1, f2, f3, f4⟩, ⟨z0, z1, z2, z3, z4, y0, y1, y2, y3, y4, k0, k1, k2, k3, k4⟩, ⟨d0, d1, d2, d3, d4, e0, e1, e2, e3, e4⟩, hlo, hbl⟩ := HS4.out
  go_wp2
  have HS5 := Lib.hid ((HS4.out.put3 (.slice A4 c.ms.length n4)).put4 (.int .i64 c.h))
  have HO5 := Lib.hid (own_lo (own_lo HO4.out ⟨W.heap.size + 1 + 1, 3, none⟩ (by simp) (.slice A4 c.ms.length n4)) ⟨W.heap.size + 1 + 1, 4, none⟩ (by simp) (.int .i64 c.h))
  have HM5 := Lib.hid (own_lo (own_lo HM4.out ⟨W.heap.size + 1 + 1, 3, none⟩ (by simp) (.slice A4 c.ms.length n4)) ⟨W.heap.size + 1 + 1, 4, none⟩ (by simp) (.int .i64 c.h))
  have HR := Lib.hid (own5 HO5.out (b := W.heap.size + 1) (by omega) (.int .i64 c.p) (.int .i64 c.s) (.slice A1 c.ps.length n1) (.slice A4 c.ms.length n4) (.int .i64 c.h))
  have HQ := Lib.hid (own5 HM5.out (b := W.heap.size + 1) (by omega) (.int .i64 c.p) (.int .i64 c.s) (.slice A1 c.ps.length n1) (.slice A4 c.ms.length n4) (.int .i64 c.h))
  have HF := Lib.hid (below5 HS5.out.bl (b := W.heap.size + 1) (by omega) (.int .i64 c.p) (.int .i64 c.s) (.slice A1 c.ps.length n1) (.slice A4 c.ms.length n4) (.int .i64 c.h))
  obtain ⟨_, _, _, _, _, hb1⟩ := HS5.out.b1
  exact ret_ca1 rfl rfl rfl (hb1.all _ _ _ _ _) ⟨A1, n1, A4, n4, rfl, own_down HR.out (by omega), own_down HQ.out (by omega), HD.out, HF.out⟩
set_option maxRecDepth 20000 in
set_option maxHeartbeats 1600000 in
theorem eqCache_same {A' B' : Option Addr} {d' e' : Nat} (h : CaIn W A d B e c) (h' : CaIn W A' d' B' e' c) (hl : c.ps.length ≤ 1048576) (hl2 : c.ms.length ≤ 1048576) : Calls Try.prog 19 #[caV c A d B e, caV c A' d' B' e'] W fun r W' => r = .returned (.bool true) ∧ Below W.heap.size W W' := by
  have HI := Lib.hid (And.intro h h')
  unfold caV
  clear h h'
  go_enter Try.func19, Try.ntmps19
  go_wp2_with fail
  have H2 := Lib.hid (al2' W (.cells #[.int .i64 c.p, .int .i64 c.s, .slice A c.ps.length d, .slice B c.ms.length e, .int .i64 c.h] 26) (.cells #[.int .i64 c.p, .int .i64 c.s, .slice A' c.ps.length d', .slice B' c.ms.length e', .int .i64 c.h] 26))
  generalize (W.alloc (.cells #[.int .i64 c.p, .int .i64 c.s, .slice A c.ps.length d, .slice B c.ms.length e, .int .i64 c.h] 26)).alloc (.cells #[.int .i64 c.p, .int .i64 c.s, .slice A' c.ps.length d', .slice B' c.ms.length e', .int .i64 c.h] 26) = X at H2 ⊢
  have HI := Lib.hid (And.intro (HI.out.1.stays H2.out.2.2.2) (HI.out.2.stays H2.out.2.2.2))
  refine (eqInt_same A A' d d' c.ps X (by omega) HI.out.1.1.2.2 HI.out.2.1.2.2).mono ?_
  rintro r w1 ⟨rfl, m, rfl⟩
  have HI1 := Lib.hid (And.intro (HI.out.1.2.2.2.drewN m) (HI.out.2.2.2.2.drewN m))
  have HB := Lib.hid (Law.up H2.out.2.2.2 m)
  obtain ⟨c0, c1, c2, c3, c4, _, _, _, _, _⟩ := blk5_of H2.out.1
  obtain ⟨d0, d1, d2, d3, d4, _, _, _, _, _⟩ := blk5_of H2.out.2.1
  go_wp2_with fail
  refine (eqInt_same B B' e e' c.ms _ (by omega) HI1.out.1 HI1.out.2).mono ?_
  rintro r w2 ⟨rfl, m2, rfl⟩
  go_wp2
  go_ret
  exact ⟨rfl, Law.up H2.out.2.2.2 _⟩
end
end Go.Proofs.Ytdjafooabpcbmaa
