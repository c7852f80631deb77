/-
  A slice of slices of ints that came in.
-/
import Derived.Test.YtammlkaclooohaaMgm
namespace Go.Proofs.Ytammlkaclooohaa.Law
open Go.RowKit Go.ChangeShapes Go.WideShapes Go.Joins Go.Deep
set_option linter.unusedVariables false
section
variable {H : Type} {enc : TypeId × Value → H} {P : Program}
theorem in_nest {t e q : TypeId} {W : World} {base : Nat} {v : Value} {d : DataW H} {p : List MemPlace} (ht : P.underlying t = some (.slice e)) (he : P.underlying e = some (.slice q)) (hq : P.underlying q = some (.int .i64)) (ce : P.cellsOf e = 1) (cq : P.cellsOf q = 1)
    (hval : Value.okWide P W .any base t v) (hd : DataW.Trod enc P W 0 (fun _ => true) true t v d p) :
    ∃ (A : Option Addr) (n c : Nat) (xs : List Value) (L : List (List Int)), v = .slice A n c ∧ (L.length = n ∧ n ≤ c ∧ c ≤ maxLen ∧ (∀ l ∈ L, l.length ≤ maxLen) ∧ NRow W A xs L) := by
  obtain ⟨a0, len, cap, rfl⟩ := okWide_slice ht hval
  obtain ⟨fuel, hf⟩ := hd
  simp only [Value.cells] at hf
  exact in_rows_of ht he hq ce cq hf
end
end Go.Proofs.Ytammlkaclooohaa.Law
