/-
  The code's tests of a cache: isFull, hasValidHand.
-/
import Derived.Test.YtdjafooabpcbmabIsc0
namespace Go.Proofs.Ytdjafooabpcbmab
open Go.RowKit
set_option linter.unusedVariables false
theorem impFull_any (W : World) (c : Ca) (A B : Option Addr) (d e : Nat) : Calls Try.prog 113 #[caV c A d B e] W fun r W' => r = .returned (.bool ((c.ps.length : Int) == c.s)) ∧ Below W.heap.size W W' := by
  unfold caV
  go_enter Try.func113, Try.ntmps113
  go_wp2
  go_ret
  exact ⟨rfl, (Below.refl _ _).alloc (Nat.le_refl _) _⟩
set_option maxRecDepth 20000 in
set_option maxHeartbeats 1600000 in
theorem validHand_any (W : World) (c : Ca) (A B : Option Addr) (d e : Nat) : Calls Try.prog 76 #[caV c A d B e] W fun r W' => r = .returned (.bool (bo (handP c.p c.s c.ps.length c.h))) ∧ Below W.heap.size W W' := by
  by_cases h6 : c.p = 6
  · have HE := Lib.hid (show caV c A d B e = .agg #[.int .i64 6, .int .i64 c.s, .slice A c.ps.length d, .slice B c.ms.length e, .int .i64 c.h] by rw [← h6]; rfl)
    rw [HE.out]
    cases hf : ((c.ps.length : Int) == c.s)
    · have HN : Hid (bo (handP c.p c.s c.ps.length c.h) = (c.h == 0)) := by
        show _ = _
        have hf' : (c.ps.length : Int) ≠ c.s := by simpa using hf
        unfold handP
        rw [if_neg (fun h => hf' h.2)]
        by_cases h0 : c.h = 0
        · rw [bo_true h0]; simp [h0]
        · rw [bo_false h0]; simp [h0]
      clear h6
      go_enter Try.func76, Try.ntmps76
      go_wp2
      go_ret
      exact ⟨by rw [HN.out]; rfl, ((Below.refl _ _).alloc (Nat.le_refl _) _).alloc (by simp) _⟩
    · have HN : Hid (bo (handP c.p c.s c.ps.length c.h) = bo (0 ≤ c.h ∧ c.h < c.s)) := by
        show _ = _
        unfold handP
        rw [if_pos ⟨h6, by simpa using hf⟩]
      clear h6
      by_cases h0 : 0 ≤ c.h
      · have HN2 : Hid (bo (0 ≤ c.h ∧ c.h < c.s) = decide (c.h < c.s)) := by
          show _ = _
          by_cases h1 : c.h < c.s
          · rw [bo_true ⟨h0, h1⟩]; simp [h1]
          · rw [bo_false fun h => h1 h.2]; simp [h1]
        go_enter Try.func76, Try.ntmps76
        go_wp2
        go_ret
        exact ⟨by rw [HN.out, HN2.out]; rfl, ((Below.refl _ _).alloc (Nat.le_refl _) _).alloc (by simp) _⟩
      · have HN2 : Hid (bo (0 ≤ c.h ∧ c.h < c.s) = false) := bo_false fun h => h0 h.1
        go_enter Try.func76, Try.ntmps76
        go_wp2
        go_ret
        exact ⟨by rw [HN.out, HN2.out]; rfl, ((Below.refl _ _).alloc (Nat.le_refl _) _).alloc (by simp) _⟩
  · have HN : Hid (bo (handP c.p c.s c.ps.length c.h) = (c.h == 0)) := by
      show _ = _
      unfold handP
      rw [if_neg (fun h => h6 h.1)]
      by_cases h0 : c.h = 0
      · rw [bo_true h0]; simp [h0]
      · rw [bo_false h0]; simp [h0]
    unfold caV
    go_enter Try.func76, Try.ntmps76
    go_wp2
    go_ret
    exact ⟨by rw [HN.out]; rfl, (Below.refl _ _).alloc (Nat.le_refl _) _⟩
end Go.Proofs.Ytdjafooabpcbmab
