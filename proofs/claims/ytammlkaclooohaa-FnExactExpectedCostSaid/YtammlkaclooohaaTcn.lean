/-
  Rows of rows of one's own stay where a mark touches older blocks alone.
-/
import Derived.Test.YtammlkaclooohaaTch
namespace Go.Proofs.Ytammlkaclooohaa
open Go.RowKit
set_option linter.unusedVariables false
theorem NOwn.tch {lo hi : Nat} {w w' : World} {base : Nat} {xs : List Value} {L : List (List Int)} (h : NOwn w base xs L) (ht : Tch lo hi w w') (hb : hi ≤ base) : NOwn w' base xs L :=
  ⟨h.len, fun j x l h1 h2 => own_tch (h.own j x l h1 h2) ht hb, h.apart⟩
end Go.Proofs.Ytammlkaclooohaa
