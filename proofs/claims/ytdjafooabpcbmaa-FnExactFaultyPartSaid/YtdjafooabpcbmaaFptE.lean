/-
  Two arrays of two ints that are the same.
-/
import Derived.Test.YtdjafooabpcbmaaHmake
import Derived.OwnWalk
import Derived.LoopTactic
namespace Go.Proofs.Ytdjafooabpcbmaa
open Go.RowKit
set_option linter.unusedVariables false
theorem Blk.drewN {w : World} {b : Nat} {x y : Value} (h : Blk w b x y) (m : Nat) : Blk (w.drewN m) b x y := ⟨h.c0, h.c1, h.f0, h.f1⟩
set_option maxHeartbeats 800000 in
theorem eqA2_same (x y : Int) (w : World) : Calls Try.prog 50 #[.agg #[.int .i64 x, .int .i64 y], .agg #[.int .i64 x, .int .i64 y]] w fun e w' => e = .returned (.bool true) ∧ Below w.heap.size w w' := by
  go_enter Try.func50, Try.ntmps50
  go_wp2
  go_loopw [5] (fun i wr => ∃ k : Nat, k ≤ 2 ∧ i = .int .i64 k ∧ Hid (Blk wr w.heap.size (.int .i64 x) (.int .i64 y)) ∧ Hid (Blk wr (w.heap.size + 1) (.int .i64 x) (.int .i64 y)) ∧ Hid (Below w.heap.size w wr)) (fun i _ => 2 - (intOf i).toNat)
  case atStart =>
    refine ⟨0, by omega, rfl, ⟨by go_simp, by go_simp, by go_simp, by go_simp⟩, ⟨by go_simp, by go_simp, by go_simp, by go_simp⟩, ?_⟩
    show Below _ _ _
    (repeat (first | exact Below.refl _ _ | refine Below.setCell ?_ (by first | omega | (simp; omega) | (simp; done)) _ | refine Below.drew ?_ | refine Law.up ?_ _ | refine Below.alloc ?_ (by first | omega | (simp; omega) | (simp; done)) _ | refine Law.then_ ?_ (Hid.out (by assumption))))
  case round =>
    obtain ⟨k, hk, rfl, h0, h1, hb⟩ := hrel
    obtain ⟨a0, a1, _, _⟩ := h0.out
    obtain ⟨b0, b1, _, _⟩ := h1.out
    have hk3 : k = 0 ∨ k = 1 ∨ k = 2 := by omega
    rcases hk3 with rfl | rfl | rfl
    · go_wp2
      go_quiet (fail)
      go_wp2
      go_roundw
      case rel => exact ⟨1, by omega, by go_num, h0.out.drewN _, h1.out.drewN _, Law.up hb.out _⟩
      case measure => simp [intOf]
    · go_wp2
      go_quiet (fail)
      go_wp2
      go_roundw
      case rel => exact ⟨2, by omega, by go_num, h0.out.drewN _, h1.out.drewN _, Law.up hb.out _⟩
      case measure => simp [intOf]
    · go_wp2
      go_ret
      exact ⟨rfl, hb.out⟩
end Go.Proofs.Ytdjafooabpcbmaa
