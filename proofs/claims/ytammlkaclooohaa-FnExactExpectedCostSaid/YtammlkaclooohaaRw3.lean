/-
  isServers, isRow, l6Row.
-/
import Derived.Test.YtammlkaclooohaaRw2
namespace Go.Proofs.Ytammlkaclooohaa
open Go.RowKit
set_option linter.unusedVariables false
namespace Q
theorem servers_iff {m : Int} {l : List Int} : servers m l = true ↔ 1 ≤ l.length ∧ l.length ≤ 3 ∧ within 0 m l = true ∧ asc l = true := by simp [servers, and_assoc]
theorem within_at {lo hi : Int} {l : List Int} (h : within lo hi l = true) {k : Nat} (hk : k < l.length) : ∃ x, l[k]? = some x ∧ lo ≤ x ∧ x ≤ hi := by
  have h1 := List.all_eq_true.1 h _ (List.getElem_mem hk)
  simp [okW] at h1
  exact ⟨l[k], List.getElem?_eq_getElem hk, h1.1, h1.2⟩
end Q
end Go.Proofs.Ytammlkaclooohaa
