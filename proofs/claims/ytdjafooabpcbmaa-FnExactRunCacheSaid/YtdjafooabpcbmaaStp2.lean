/-
  StepCache: the model's and the code's.
-/
import Derived.Test.YtdjafooabpcbmaaRunS
namespace Go.Proofs.Ytdjafooabpcbmaa
open Go.RowKit
set_option linter.unusedVariables false
/-- No cache. -/
def zeroC : Ca := { p := 0, s := 0, ps := [], ms := [], h := 0 }
theorem in_zero (W : World) : CaIn W none 0 none 0 zeroC := ⟨⟨Nat.le_refl _, Nat.zero_le _, fun h => absurd rfl h⟩, ⟨Nat.le_refl _, Nat.zero_le _, fun h => absurd rfl h⟩⟩
/-- What the model says that gives a cache and a flag. -/
def spGives (c' : Ca) (ok : Bool) (W : World) (r : Ending) (W' : World) : Prop := ∃ A d B e, r = .returned (.tuple #[caV c' A d B e, .bool ok]) ∧ CaIn W' A d B e c' ∧ Below W.heap.size W W'
/-- .. the code: rows of its own. -/
def imGives (c' : Ca) (ok : Bool) (W : World) (r : Ending) (W' : World) : Prop := ∃ A d B e, r = .returned (.tuple #[caV c' A d B e, .bool ok]) ∧ W'.ownsRow W.heap.size 3 1 (.slice A c'.ps.length d) c'.ps.length (ivs c'.ps) ∧ W'.ownsRow W.heap.size 3 1 (.slice B c'.ms.length e) c'.ms.length (ivs c'.ms) ∧ Dis A B ∧ Below W.heap.size W W'
noncomputable def stpOk (n : Int) (c : Ca) (x : Int) : Bool := bo (Q.okC n c ∧ 0 ≤ x ∧ x ≤ n - 1)
noncomputable def stpC (n : Int) (c : Ca) (x : Int) : Ca := match stpOk n c x with
  | true => Q.stepC c x
  | false => zeroC
theorem ok_len {n : Int} {c : Ca} (hok : Q.okC n c) : c.ps.length ≤ 6 ∧ c.ms.length ≤ 6 := by
  have hl6 : c.ps.length ≤ 6 := by have := hok.2.2.1; have := hok.2.2.2.1; omega
  refine ⟨hl6, ?_⟩
  have h7 := ((okC_iff n c).1 hok).2.2.2.2.2.2.1
  unfold marksP at h7
  split at h7
  · omega
  · split at h7
    · omega
    · rw [h7]; exact Nat.zero_le _
section
variable {W : World} {A B : Option Addr} {d e : Nat} {c : Ca}
set_option maxRecDepth 20000 in
set_option maxHeartbeats 1600000 in
theorem specStp_any (n x : Int) (h : CaIn W A d B e c) (hl : c.ps.length ≤ 1048576) (hl2 : c.ms.length ≤ 1048576) : Calls Try.prog 16 #[.int .i64 n, .agg #[.int .i64 c.p, .int .i64 c.s, .slice A c.ps.length d, .slice B c.ms.length e, .int .i64 c.h], .int .i64 x] W (spGives (stpC n c x) (stpOk n c x) W) := by
  have HC := Lib.hid fun X (hb : Below W.heap.size W X) => l4Good_any n (h.stays hb) hl hl2
  unfold isSays at HC
  unfold caV at HC
  unfold spGives stpC
  by_cases hk : Q.okC n c
  · have hn8 := ((okC_iff n c).1 hk).1
    have hIn := fun X => l1In_any x 0 (n - 1) X
    have hw1 : IntKind.i64.wrap (n - 1) = n - 1 := by rw [IntKind.wrap_i64]; omega
    rw [bo_true hk] at HC
    by_cases hx : 0 ≤ x ∧ x ≤ n - 1
    · rw [show stpOk n c x = true from bo_true ⟨hk, hx⟩]
      rw [show (decide (0 ≤ x) && decide (x ≤ n - 1)) = true by simp [hx]] at hIn
      have HI := Lib.hid hIn
      have HSt := Lib.hid fun X (hb : Below W.heap.size W X) => l4Step_any (x := x) (h.stays hb) hk
      have hsl := ok_len (Q.step_ok hk hx)
      have HCp := Lib.hid fun X A' d' B' e' (hX : CaIn X A' d' B' e' (Q.stepC c x)) => l4Copy_any hX (by omega) (by omega)
      unfold caV at HSt
      clear h hk hx hIn hsl
      show Calls _ _ _ _ _
      generalize Q.stepC c x = c1 at HSt HCp ⊢
      go_enter Try.func16, Try.ntmps16
      go_wp2_with fail
      have H2 := Lib.hid (al2 W (.cells #[.int .i64 c.p, .int .i64 c.s, .slice A c.ps.length d, .slice B c.ms.length e, .int .i64 c.h] 26) (.cells #[.int .i64 0, .int .i64 0, .slice none 0 0, .slice none 0 0, .int .i64 0] 26))
      generalize (W.alloc (.cells #[.int .i64 c.p, .int .i64 c.s, .slice A c.ps.length d, .slice B c.ms.length e, .int .i64 c.h] 26)).alloc (.cells #[.int .i64 0, .int .i64 0, .slice none 0 0, .slice none 0 0, .int .i64 0] 26) = X at H2 ⊢
      have P0 := Lib.hid (blk5_of H2.out.1)
      have R0 := Lib.hid (blk5_of H2.out.2.1)
      have L0 := Lib.hid H2.out.2.2.2
      have hs0 := H2.out.2.2.1
      clear H2
      obtain ⟨p0, p1, p2, p3, p4, _, _, _, _, _⟩ := P0.out
      go_wp2_with fail
      go_at_call 59
      refine (HC.out X L0.out).mono ?_
      rintro r w1 ⟨rfl, hb⟩
      have L1 := Lib.hid (L0.out.trans (hb.mono L0.out.size))
      have P1 := Lib.hid (P0.out.kept (hb.block _ (by omega)))
      have R1 := Lib.hid (R0.out.kept (hb.block _ (by omega)))
      have hs1 : W.heap.size + 1 + 1 ≤ w1.heap.size := by have := hb.size; omega
      clear hb p0 p1 p2 p3 p4
      go_wp2_with fail
      go_at_call 60
      refine (HI.out _).mono ?_
      rintro e w' ⟨rfl, hw'⟩
      obtain rfl := hw'.symm
      clear hw'
      obtain ⟨p0, p1, p2, p3, p4, _, _, _, _, _⟩ := P1.out
      go_wp2_with fail
      go_at_call 62
      refine (HSt.out w1 L1.out).mono ?_
      rintro r w2 ⟨A2, d2, B2, e2, rfl, hI2, hb2, _, _⟩
      have L2 := Lib.hid (L1.out.trans (hb2.mono L1.out.size))
      have R2 := Lib.hid (R1.out.kept (hb2.block _ (by omega)))
      have hs2 := hb2.size
      have HCp2 := Lib.hid (HCp.out w2 A2 d2 B2 e2 hI2)
      unfold caV at HCp2 ⊢
      clear hI2 hb2 p0 p1 p2 p3 p4
      go_wp2_with fail
      go_at_call 61
      refine HCp2.out.mono ?_
      rintro r w3 ⟨A3, d3, B3, e3, rfl, ho3, hm3, hb3⟩
      have L3 := Lib.hid (L2.out.trans (hb3.mono L2.out.size))
      have R3 := Lib.hid (R2.out.kept (hb3.block _ (by omega)))
      obtain ⟨_, _, hv1, hcp1, hcm1, _⟩ := Law.own_len ho3
      cases hv1
      obtain ⟨_, _, hv2, hcp2, hcm2, _⟩ := Law.own_len hm3
      cases hv2
      have HO3 := Lib.hid ho3
      have HM3 := Lib.hid hm3
      have HCP := Lib.hid (And.intro (And.intro hcp1 hcm1) (And.intro hcp2 hcm2))
      clear ho3 hm3 hb3 hcp1 hcm1 hcp2 hcm2
      obtain ⟨q0, q1, q2, q3, q4, q5, q6, q7, q8, q9⟩ := R3.out
      unfold caV
      go_wp2
      exact ret_ca rfl rfl rfl (R3.out.all _ _ _ _ _) rfl ⟨A3, d3, B3, e3, rfl, ⟨⟨HCP.out.1.1, HCP.out.1.2, Law.Row.own (own5 HO3.out (by omega) _ _ _ _ _)⟩, HCP.out.2.1, HCP.out.2.2, Law.Row.own (own5 HM3.out (by omega) _ _ _ _ _)⟩, below5 L3.out (by omega) _ _ _ _ _⟩
    · rw [show stpOk n c x = false from bo_false fun h => hx h.2]
      rw [show (decide (0 ≤ x) && decide (x ≤ n - 1)) = false by rw [Bool.and_eq_false_iff]; simp; omega] at hIn
      have HI := Lib.hid hIn
      clear h hk hx hIn
      go_enter Try.func16, Try.ntmps16
      go_wp2_with fail
      have H2 := Lib.hid (al2 W (.cells #[.int .i64 c.p, .int .i64 c.s, .slice A c.ps.length d, .slice B c.ms.length e, .int .i64 c.h] 26) (.cells #[.int .i64 0, .int .i64 0, .slice none 0 0, .slice none 0 0, .int .i64 0] 26))
      generalize (W.alloc (.cells #[.int .i64 c.p, .int .i64 c.s, .slice A c.ps.length d, .slice B c.ms.length e, .int .i64 c.h] 26)).alloc (.cells #[.int .i64 0, .int .i64 0, .slice none 0 0, .slice none 0 0, .int .i64 0] 26) = X at H2 ⊢
      have P0 := Lib.hid (blk5_of H2.out.1)
      have R0 := Lib.hid (blk5_of H2.out.2.1)
      have L0 := Lib.hid H2.out.2.2.2
      have hs0 := H2.out.2.2.1
      clear H2
      obtain ⟨p0, p1, p2, p3, p4, _, _, _, _, _⟩ := P0.out
      go_wp2_with fail
      go_at_call 59
      refine (HC.out X L0.out).mono ?_
      rintro r w1 ⟨rfl, hb⟩
      have L1 := Lib.hid (L0.out.trans (hb.mono L0.out.size))
      have P1 := Lib.hid (P0.out.kept (hb.block _ (by omega)))
      have R1 := Lib.hid (R0.out.kept (hb.block _ (by omega)))
      have hs1 : W.heap.size + 1 + 1 ≤ w1.heap.size := by have := hb.size; omega
      clear hb p0 p1 p2 p3 p4
      go_wp2_with fail
      go_at_call 60
      refine (HI.out _).mono ?_
      rintro e w' ⟨rfl, hw'⟩
      obtain rfl := hw'.symm
      clear hw'
      obtain ⟨q0, q1, q2, q3, q4, q5, q6, q7, q8, q9⟩ := R1.out
      go_wp2
      exact ret_ca rfl rfl rfl (R1.out.all _ _ _ _ _) rfl ⟨none, 0, none, 0, rfl, in_zero _, below5 L1.out (by omega) _ _ _ _ _⟩
  · rw [show stpOk n c x = false from bo_false fun h => hk h.1]
    rw [bo_false hk] at HC
    clear h hk
    go_enter Try.func16, Try.ntmps16
    go_wp2_with fail
    have H2 := Lib.hid (al2 W (.cells #[.int .i64 c.p, .int .i64 c.s, .slice A c.ps.length d, .slice B c.ms.length e, .int .i64 c.h] 26) (.cells #[.int .i64 0, .int .i64 0, .slice none 0 0, .slice none 0 0, .int .i64 0] 26))
    generalize (W.alloc (.cells #[.int .i64 c.p, .int .i64 c.s, .slice A c.ps.length d, .slice B c.ms.length e, .int .i64 c.h] 26)).alloc (.cells #[.int .i64 0, .int .i64 0, .slice none 0 0, .slice none 0 0, .int .i64 0] 26) = X at H2 ⊢
    have P0 := Lib.hid (blk5_of H2.out.1)
    have R0 := Lib.hid (blk5_of H2.out.2.1)
    have L0 := Lib.hid H2.out.2.2.2
    have hs0 := H2.out.2.2.1
    clear H2
    obtain ⟨p0, p1, p2, p3, p4, _, _, _, _, _⟩ := P0.out
    go_wp2_with fail
    go_at_call 59
    refine (HC.out X L0.out).mono ?_
    rintro r w1 ⟨rfl, hb⟩
    have L1 := Lib.hid (L0.out.trans (hb.mono L0.out.size))
    have P1 := Lib.hid (P0.out.kept (hb.block _ (by omega)))
    have R1 := Lib.hid (R0.out.kept (hb.block _ (by omega)))
    have hs1 : W.heap.size + 1 + 1 ≤ w1.heap.size := by have := hb.size; omega
    clear hb p0 p1 p2 p3 p4
    obtain ⟨q0, q1, q2, q3, q4, q5, q6, q7, q8, q9⟩ := R1.out
    go_wp2
    exact ret_ca rfl rfl rfl (R1.out.all _ _ _ _ _) rfl ⟨none, 0, none, 0, rfl, in_zero _, below5 L1.out (by omega) _ _ _ _ _⟩
end
end Go.Proofs.Ytdjafooabpcbmaa
