/-
  IsConfig: both sides.
-/
import Derived.Test.YtphfjhnmnehfkaaMtS
namespace Go.Proofs.Ytphfjhnmnehfkaa
open Go.RowKit
set_option linter.unusedVariables false
namespace Q
theorem met_sqr {L : List (List Int)} (h : metQ L = true) : tabQ false L = true ∧ (1 ≤ L.length ∧ L.length ≤ 6) ∧ (∀ l ∈ L, l.length = L.length) := by
  simp only [metQ, Bool.and_eq_true] at h
  have h2 := sqr_iff.1 (tab_iff.1 h.1).1
  exact ⟨h.1, h2.1, h2.2⟩
noncomputable def icfQ (L : List (List Int)) (a : List Int) : Bool × Bool := if metQ L then (servers ((L.length : Int) - 1) a, true) else (false, false)
theorem icf_yes {L : List (List Int)} {a : List Int} (h : metQ L = true) : icfQ L a = (servers ((L.length : Int) - 1) a, true) := if_pos h
theorem icf_no {L : List (List Int)} {a : List Int} (h : metQ L = false) : icfQ L a = (false, false) := if_neg (by simp [h])
end Q
end Go.Proofs.Ytphfjhnmnehfkaa
