/-
  Small things about rows of rows that are made empty.
-/
import Derived.Test.YtammlkaclooohaaNestL
namespace Go.Proofs.Ytammlkaclooohaa
open Go.RowKit
set_option linter.unusedVariables false
theorem ints_ne : (3 : TypeId) ≠ 25 := by decide
theorem made_nils (n : Nat) : (madeCells #[Value.slice none 0 0] n).toList = List.replicate n (.slice none 0 0) := by
  apply List.ext_getElem (by simp [size_madeCells])
  intro k h1 h2
  simp [madeCells, Nat.mod_one]
theorem nils_set (xs : List Value) (n j : Nat) (v : Value) (h : xs.length = j) (hj : j < n) : (xs ++ List.replicate (n - j) (Value.slice none 0 0)).set j v = (xs ++ [v]) ++ List.replicate (n - (j + 1)) (.slice none 0 0) := by
  rw [List.set_append, if_neg (by omega), h, Nat.sub_self, show n - j = (n - (j + 1)) + 1 by omega, List.replicate_succ]
  simp
end Go.Proofs.Ytammlkaclooohaa
