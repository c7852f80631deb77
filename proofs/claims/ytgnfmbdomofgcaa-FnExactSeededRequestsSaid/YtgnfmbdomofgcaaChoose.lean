/-
  The code's chooserOf and the function that it hands out; SeededRequests.
-/
import Derived.Test.YtgnfmbdomofgcaaSeedR
import Derived.Test.YtgnfmbdomofgcaaOwn
import Derived.Test.YtgnfmbdomofgcaaPart
import Derived.Test.YtgnfmbdomofgcaaImpQ
namespace Go.Proofs.Ytgnfmbdomofgcaa
open Go.RowKit
set_option linter.unusedVariables false
/-- The chooser whose state lies in block b. -/
abbrev chooser (b : Nat) : Value := .func (.func 102) #[] #[.pointer (some ⟨b, 0, none⟩)]
theorem isSeed_any (n : Int) (w : World) : Calls Try.prog 93 #[.int .i64 n] w fun e w' => e = .returned (.bool (decide (0 ≤ n) && decide (n ≤ 9999))) ∧ w' = w := by
  by_cases h1 : 0 ≤ n
  · go_enter Try.func93, Try.ntmps93
    go_wp2
    go_ret
    exact ⟨by simp [h1], rfl⟩
  · go_enter Try.func93, Try.ntmps93
    go_wp2
    go_ret
    exact ⟨by simp [show ¬ 0 ≤ n from by omega], rfl⟩
theorem chooserOf_any (s : Nat) (w : World) : Calls Try.prog 94 #[.int .i64 s] w fun e w' => e = .returned (chooser w.heap.size) ∧ w' = w.alloc (.cells #[.int .i64 (s : Int)] 3) := by
  go_enter Try.func94, Try.ntmps94
  go_wp2
  go_ret
  exact ⟨rfl, rfl⟩
theorem choose_any (s k b : Nat) (w : World) (hs : s < 65536) (hk : 1 ≤ k) (hk8 : k ≤ 8) (hc : w.cell? ⟨b, 0, none⟩ = some (.int .i64 (s : Int))) (hf : w.frozen? ⟨b, 0, none⟩ = false) :
    Calls Try.prog 102 #[.int .i64 k, .pointer (some ⟨b, 0, none⟩)] w fun e w' => e = .returned (.int .i64 ((Q.nxt s / 16 % k : Nat) : Int)) ∧ w' = w.setCell ⟨b, 0, none⟩ (.int .i64 (Q.nxt s : Nat)) := by
  have HE : Hid (((Q.nxt s : Nat) : Int) = (1021 * (s : Int) + 12345) % 65536) := by show _ = _; simp [Q.nxt]
  have hq := Q.nxt_lt s
  generalize Q.nxt s = q at HE hq
  go_enter Try.func102, Try.ntmps102
  go_wp2
  go_ret
  exact ⟨by rw [← HE.out]; rfl, by rw [← HE.out]⟩
end Go.Proofs.Ytgnfmbdomofgcaa
