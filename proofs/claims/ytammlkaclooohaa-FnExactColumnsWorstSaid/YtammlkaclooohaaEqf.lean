/-
  eqFrac of two equal Fracs.
-/
import Derived.Test.YtammlkaclooohaaHmake
namespace Go.Proofs.Ytammlkaclooohaa
open Go.RowKit
theorem eqFrac_yes (n d : Int) (w : World) : Calls Try.prog 22 #[fr n d, fr n d] w fun e w' => e = .returned (.bool true) ∧ Below w.heap.size w w' := by
  go_enter Try.func22, Try.ntmps22
  go_wp2
  go_ret
  refine ⟨rfl, ?_⟩
  (repeat (first | exact Below.refl _ _ | refine Below.setCell ?_ (by first | omega | (simp; omega) | (simp; done)) _ | refine Below.drew ?_ | refine Law.up ?_ _ | refine Below.alloc ?_ (by first | omega | (simp; omega) | (simp; done)) _ | refine Law.then_ ?_ (Hid.out (by assumption))))
end Go.Proofs.Ytammlkaclooohaa
