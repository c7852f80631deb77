/-
  One set of pages less another, as bits.
-/
import Derived.Test.YtklpdfilhgjllaaBits
namespace Go.Proofs.Ytklpdfilhgjllaa
open Go.RowKit
namespace Q
def subB (S T : Nat) : Nat := S ^^^ (S &&& T)
end Q
set_option maxRecDepth 100000 in
theorem sub_fin : ∀ S : Fin 256, ∀ T : Fin 256, bits BinOp.andNot IntKind.u64 ((S.val : Nat) : Int) ((T.val : Nat) : Int) = ((Q.subB S.val T.val : Nat) : Int) ∧ Q.subB S.val T.val < 256 := by decide +kernel
end Go.Proofs.Ytklpdfilhgjllaa
