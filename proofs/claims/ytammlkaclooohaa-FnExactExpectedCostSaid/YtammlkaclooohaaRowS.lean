/-
  A row of the call's own: the empty one, one more at its end, what an answer says.
-/
import Derived.Test.YtammlkaclooohaaInts
import Derived.Laws.AppendOwn
namespace Go.Proofs.Ytammlkaclooohaa
open Go.RowKit
set_option linter.unusedVariables false
theorem ownsRow_nil (w : World) (e : TypeId) : (w.alloc (.cells #[] e)).ownsRow w.heap.size e 1 (.slice (some ⟨w.heap.size, 0, none⟩) 0 0) 0 [] :=
  ⟨rfl, .inr ⟨w.heap.size, 0, #[], rfl, Nat.le_refl _, heap_alloc_new w _, Nat.le_refl _, Nat.zero_le _, rfl, rfl⟩⟩
theorem ivs_snoc (zs : List Int) (x : Int) : ivs (zs ++ [x]) = ivs zs ++ [.int .i64 x] := by simp [ivs]
/-- What a call says that gives a new row of ints and whether it is one. -/
def rowSays (X : List Int × Bool) (w : World) (e : Ending) (w' : World) : Prop :=
  ∃ v, e = .returned (.tuple #[v, .bool X.2]) ∧ w'.ownsRow w.heap.size 3 1 v X.1.length (ivs X.1) ∧ Below w.heap.size w w'
end Go.Proofs.Ytammlkaclooohaa
