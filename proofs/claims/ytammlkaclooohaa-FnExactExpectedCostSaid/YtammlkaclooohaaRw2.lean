/-
  Rows of servers: IsSorted, isServers, isRow, apart; l6Row, l1Most.
-/
import Derived.Test.YtammlkaclooohaaRw
namespace Go.Proofs.Ytammlkaclooohaa
open Go.RowKit
set_option linter.unusedVariables false
theorem isNaN_any (x : Int) (w : World) : Calls Try.prog 194 #[.int .i64 x] w fun e w' => e = .returned (.bool false) ∧ w' = w := by
  go_enter Try.func194, Try.ntmps194
  go_wp2
  go_ret
  exact ⟨by simp, rfl⟩
theorem l1Most_hi (a b : Int) (w : World) (h : a ≤ b) : Calls Try.prog 165 #[.int .i64 a, .int .i64 b] w fun e w' => e = .returned (.int .i64 b) ∧ w' = w := by
  have h' : ¬ b < a := by omega
  go_enter Try.func165, Try.ntmps165
  go_wp2
  go_ret
  exact ⟨rfl, rfl⟩
theorem l1Most_lo (a b : Int) (w : World) (h : b < a) : Calls Try.prog 165 #[.int .i64 a, .int .i64 b] w fun e w' => e = .returned (.int .i64 a) ∧ w' = w := by
  go_enter Try.func165, Try.ntmps165
  go_wp2
  go_ret
  exact ⟨rfl, rfl⟩
theorem most_ap (a b : Int) (w : World) : Calls Try.prog 165 #[.int .i64 (a - b), .int .i64 (b - a)] w fun e w' => e = .returned (.int .i64 (Q.ap a b)) ∧ w' = w := by
  unfold Q.ap
  split
  · exact l1Most_hi _ _ w (by omega)
  · exact l1Most_lo _ _ w (by omega)
end Go.Proofs.Ytammlkaclooohaa
