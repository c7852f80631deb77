/-
  Two rows of a call's own that lie in different blocks.
-/
import Derived.Test.YtphfjhnmnehfkaaAppB
namespace Go.Proofs.Ytphfjhnmnehfkaa
open Go.RowKit
set_option linter.unusedVariables false
/-- Two rows of a call's own lie in different blocks. -/
def Apart (s v : Value) : Prop := ∀ b, s.ownBlock = some b → v.ownBlock ≠ some b
theorem Apart.new {w w' : World} {base n m e e' s s' : Nat} {x v : Value} {xs ys : List Value} (hx : w'.ownsRow w.heap.size e s x n xs) (hv : w.ownsRow base e' s' v m ys) : Apart x v := fun b hb hvb => by
  have h1 := (hx.lt b hb).1
  have h2 := (hv.lt b hvb).2
  omega
theorem Apart.next {w : World} {base n e s : Nat} {x v v' : Value} {xs : List Value} (h : Apart x v) (ha : atOrNew v w v') (hx : w.ownsRow base e s x n xs) : Apart x v' := fun b hb hvb => by
  rcases ha with e | e
  · exact h b hb (e ▸ hvb)
  · rw [e] at hvb
    injection hvb with hvb
    have := (hx.lt b hb).2
    omega
theorem Apart.kept {w w' : World} {base n e s : Nat} {x v : Value} {xs : List Value} (h : Apart x v) (hx : w.ownsRow base e s x n xs) (hg : w.grownBy w' v.ownBlock) : w'.ownsRow base e s x n xs := hx.kept hg (by
  cases hb : x.ownBlock with
  | none => exact .inl rfl
  | some b => exact .inr (fun e => h b hb e.symm))
end Go.Proofs.Ytphfjhnmnehfkaa
