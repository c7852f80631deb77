/-
  Sequences of requests: the model's tests (l3Items, l3List, l3Good, l3Length).
-/
import Derived.Test.YtammlkaclooohaaInts
namespace Go.Proofs.Ytammlkaclooohaa
open Go.RowKit
set_option linter.unusedVariables false
namespace Q
def okItem (n z : Int) : Bool := decide (0 ≤ z) && decide (z ≤ n - 1)
def okList (n : Int) (zs : List Int) : Bool := zs.all (okItem n)
def okN (n : Int) : Bool := decide (1 ≤ n) && decide (n ≤ 8)
def good (n : Int) (zs : List Int) : Bool := okN n && (decide (zs.length ≤ 60) && okList n zs)
theorem okN_iff {n : Int} : okN n = true ↔ 1 ≤ n ∧ n ≤ 8 := by simp [okN]
theorem good_iff {n : Int} {zs : List Int} : good n zs = true ↔ (1 ≤ n ∧ n ≤ 8) ∧ zs.length ≤ 60 ∧ ∀ z ∈ zs, 0 ≤ z ∧ z ≤ n - 1 := by
  simp [good, okN, okList, okItem]
end Q
theorem l1In_any (x a b : Int) (w : World) : Calls Try.prog 83 #[.int .i64 x, .int .i64 a, .int .i64 b] w fun e w' => e = .returned (.bool (decide (a ≤ x) && decide (x ≤ b))) ∧ w' = w := by
  by_cases h1 : a ≤ x
  · go_enter Try.func83, Try.ntmps83
    go_wp2
    go_ret
    exact ⟨by simp [h1], rfl⟩
  · go_enter Try.func83, Try.ntmps83
    go_wp2
    go_ret
    exact ⟨by simp [show ¬ a ≤ x from by omega], rfl⟩
end Go.Proofs.Ytammlkaclooohaa
