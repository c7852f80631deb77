/-
  The model's l4Good, a part: case q1.
-/
import Derived.Test.YtdjafooabpcbmaaGos1
namespace Go.Proofs.Ytdjafooabpcbmaa
open Go.RowKit
set_option linter.unusedVariables false
set_option maxRecDepth 20000 in
set_option maxHeartbeats 3200000 in
theorem good_q1 {W : World} {A B : Option Addr} {d e : Nat} {c : Ca} (n : Int)
    (HIt : Hid (∀ X, Calls Try.prog 96 #[.int .i64 n] X fun e w' => e = .returned (.bool false) ∧ w' = X)) :
    Calls Try.prog 59 #[.int .i64 n, .agg #[.int .i64 c.p, .int .i64 c.s, .slice A c.ps.length d, .slice B c.ms.length e, .int .i64 c.h]] W fun r W' => r = .returned (.bool false) ∧ Below W.heap.size W W' := by
  go_enter Try.func59, Try.ntmps59
  go_wp2_with fail
  have HB0 : Hid (Below W.heap.size W (W.alloc (.cells #[.int .i64 c.p, .int .i64 c.s, .slice A c.ps.length d, .slice B c.ms.length e, .int .i64 c.h] 26))) := (Below.refl _ _).alloc (Nat.le_refl _) _
  have HBB := Lib.hid (blk5_of (heap_alloc_new W (.cells #[.int .i64 c.p, .int .i64 c.s, .slice A c.ps.length d, .slice B c.ms.length e, .int .i64 c.h] 26)))
  generalize W.alloc (.cells #[.int .i64 c.p, .int .i64 c.s, .slice A c.ps.length d, .slice B c.ms.length e, .int .i64 c.h] 26) = X at HB0 HBB ⊢
  obtain ⟨c0, c1, c2, c3, c4, f0, f1, f2, f3, f4⟩ := HBB.out
  go_quiet ((go_at_call 96; exact Calls.quiet_of_same (HIt.out _)))
  go_wp2
  go_ret
  exact ⟨rfl, Law.up HB0.out _⟩
end Go.Proofs.Ytdjafooabpcbmaa
