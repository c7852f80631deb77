/-
  StepCache: the code's.
-/
import Derived.Test.YtdjafooabpcbmaaStp2
namespace Go.Proofs.Ytdjafooabpcbmaa
open Go.RowKit
set_option linter.unusedVariables false
section
variable {W : World} {A B : Option Addr} {d e : Nat} {c : Ca}
set_option maxRecDepth 20000 in
set_option maxHeartbeats 1600000 in
theorem impStp_any (n x : Int) (h : CaIn W A d B e c) (hl : c.ps.length ≤ 1048576) (hl2 : c.ms.length ≤ 1048576) : Calls Try.prog 18 #[.int .i64 n, .agg #[.int .i64 c.p, .int .i64 c.s, .slice A c.ps.length d, .slice B c.ms.length e, .int .i64 c.h], .int .i64 x] W (imGives (stpC n c x) (stpOk n c x) W) := by
  have hrow : ∀ X : World, X.cell? ⟨W.heap.size + 1 + 1, 0, none⟩ = some (.int .i64 x) → Law.Row X (some ⟨W.heap.size + 1 + 1, 0, none⟩) (ivs [x]) := fun X hX _ => ⟨W.heap.size + 1 + 1, 0, rfl, Law.cell_in hX, fun j u hu => by
    match j, hu with
    | 0, hu => simp at hu; subst hu; exact hX⟩
  have H3 := Lib.hid (al3 W (.cells #[.int .i64 c.p, .int .i64 c.s, .slice A c.ps.length d, .slice B c.ms.length e, .int .i64 c.h] 26) (.cells #[.int .i64 0, .int .i64 0, .slice none 0 0, .slice none 0 0, .int .i64 0] 26) (.cells #[.int .i64 x] 3))
  have hgx : Q.good n [x] = true ↔ (1 ≤ n ∧ n ≤ 8) ∧ 0 ≤ x ∧ x ≤ n - 1 := by
    rw [Q.good_iff]
    simp
  unfold imGives stpC
  by_cases hy : Q.okC n c ∧ 0 ≤ x ∧ x ≤ n - 1
  · rw [show stpOk n c x = true from bo_true hy]
    have hg : Q.good n [x] = true := hgx.2 ⟨((okC_iff n c).1 hy.1).1, hy.2⟩
    have HRun : Hid (∀ X, Below W.heap.size W X → X.cell? ⟨W.heap.size + 1 + 1, 0, none⟩ = some (.int .i64 x) → Calls Try.prog 24 #[.int .i64 n, .agg #[.int .i64 c.p, .int .i64 c.s, .slice A c.ps.length d, .slice B c.ms.length e, .int .i64 c.h], .slice (some ⟨W.heap.size + 1 + 1, 0, none⟩) 1 1] X (runYes (Q.stepC c x) (Q.fltK c [x] 1).length X)) := Lib.hid fun X hb hX => impRun_yes (W := X) n [x] (some ⟨W.heap.size + 1 + 1, 0, none⟩) 1 (h.stays hb) hy.1 hg (hrow X hX)
    clear h hg hy hgx hrow
    show Calls _ _ _ _ _
    generalize Q.stepC c x = c1 at HRun ⊢
    go_enter Try.func18, Try.ntmps18
    go_wp2_with fail
    generalize ((W.alloc (.cells #[.int .i64 c.p, .int .i64 c.s, .slice A c.ps.length d, .slice B c.ms.length e, .int .i64 c.h] 26)).alloc (.cells #[.int .i64 0, .int .i64 0, .slice none 0 0, .slice none 0 0, .int .i64 0] 26)).alloc (.cells #[.int .i64 x] 3) = X at H3 ⊢
    have R0 := Lib.hid (blk5_of H3.out.2.1)
    have L0 := Lib.hid H3.out.2.2.2.2
    have hs0 := H3.out.2.2.2.1
    have hcx : X.cell? ⟨W.heap.size + 1 + 1, 0, none⟩ = some (.int .i64 x) := by simp [World.cell?, H3.out.2.2.1]
    refine (HRun.out X L0.out hcx).mono ?_
    rintro r w4 ⟨A4, d4, B4, e4, rfl, ho, hm, hd, hb⟩
    have b5 : Below w4.heap.size w4 (w4.alloc (.cells #[.int .i64 c1.p, .int .i64 c1.s, .slice A4 c1.ps.length d4, .slice B4 c1.ms.length e4, .int .i64 c1.h] 26)) := (Below.refl _ _).alloc (Nat.le_refl _) _
    have hz := hb.size
    have R4 := Lib.hid (R0.out.kept (hb.block _ (by omega)))
    have R5 := Lib.hid (R4.out.kept (b5.block _ (by omega)))
    have L5 := Lib.hid ((L0.out.trans (hb.mono L0.out.size)).trans (b5.mono (by omega)))
    have O5 := Lib.hid (own_past ho b5)
    have M5 := Lib.hid (own_past hm b5)
    have D5 := Lib.hid hd
    clear ho hm hd hb b5 hcx H3
    unfold caV
    obtain ⟨q0, q1, q2, q3, q4, q5, q6, q7, q8, q9⟩ := R5.out
    go_wp2
    exact ret_ca rfl rfl rfl (R5.out.all _ _ _ _ _) rfl ⟨A4, d4, B4, e4, rfl, own_down (own5 O5.out (by omega) _ _ _ _ _) (by omega), own_down (own5 M5.out (by omega) _ _ _ _ _) (by omega), D5.out, below5 L5.out (by omega) _ _ _ _ _⟩
  · rw [show stpOk n c x = false from bo_false hy]
    have hno : ¬ (Q.okC n c ∧ Q.good n [x] = true) := fun h' => hy ⟨h'.1, (hgx.1 h'.2).2⟩
    have HRun : Hid (∀ X, Below W.heap.size W X → X.cell? ⟨W.heap.size + 1 + 1, 0, none⟩ = some (.int .i64 x) → Calls Try.prog 24 #[.int .i64 n, .agg #[.int .i64 c.p, .int .i64 c.s, .slice A c.ps.length d, .slice B c.ms.length e, .int .i64 c.h], .slice (some ⟨W.heap.size + 1 + 1, 0, none⟩) 1 1] X (runNo X)) := Lib.hid fun X hb hX => impRun_no (W := X) n [x] (some ⟨W.heap.size + 1 + 1, 0, none⟩) 1 (h.stays hb) hl hl2 (by simp) (hrow X hX) hno
    clear h hno hy hgx hrow
    go_enter Try.func18, Try.ntmps18
    go_wp2_with fail
    generalize ((W.alloc (.cells #[.int .i64 c.p, .int .i64 c.s, .slice A c.ps.length d, .slice B c.ms.length e, .int .i64 c.h] 26)).alloc (.cells #[.int .i64 0, .int .i64 0, .slice none 0 0, .slice none 0 0, .int .i64 0] 26)).alloc (.cells #[.int .i64 x] 3) = X at H3 ⊢
    have R0 := Lib.hid (blk5_of H3.out.2.1)
    have L0 := Lib.hid H3.out.2.2.2.2
    have hs0 := H3.out.2.2.2.1
    have hcx : X.cell? ⟨W.heap.size + 1 + 1, 0, none⟩ = some (.int .i64 x) := by simp [World.cell?, H3.out.2.2.1]
    refine (HRun.out X L0.out hcx).mono ?_
    rintro r w4 ⟨rfl, hb⟩
    have b5 : Below w4.heap.size w4 (w4.alloc (.cells #[.int .i64 0, .int .i64 0, .slice none 0 0, .slice none 0 0, .int .i64 0] 26)) := (Below.refl _ _).alloc (Nat.le_refl _) _
    have hz := hb.size
    have R4 := Lib.hid (R0.out.kept (hb.block _ (by omega)))
    have R5 := Lib.hid (R4.out.kept (b5.block _ (by omega)))
    have L5 := Lib.hid ((L0.out.trans (hb.mono L0.out.size)).trans (b5.mono (by omega)))
    clear hb b5 hcx H3
    obtain ⟨q0, q1, q2, q3, q4, q5, q6, q7, q8, q9⟩ := R5.out
    go_wp2
    exact ret_ca rfl rfl rfl (R5.out.all _ _ _ _ _) rfl ⟨none, 0, none, 0, rfl, ⟨rfl, .inl ⟨rfl, rfl⟩⟩, ⟨rfl, .inl ⟨rfl, rfl⟩⟩, (fun a b h => by cases h), below5 L5.out (by omega) _ _ _ _ _⟩
end
end Go.Proofs.Ytdjafooabpcbmaa
