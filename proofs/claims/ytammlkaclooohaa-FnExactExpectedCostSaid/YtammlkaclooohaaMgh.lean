/-
  What a law's drawn region leaves that calls the model and puts a Frac into a block of its own. eqFrac of two equal Fracs.
-/
import Derived.Test.YtammlkaclooohaaMgg
import Derived.Test.YtammlkaclooohaaMgq
/- What a law's drawn region leaves that calls the model and puts a Frac into a block of its own. -/
namespace Go.Proofs.Ytammlkaclooohaa
open Go.RowKit
set_option linter.unusedVariables false
theorem bel_al (W : World) (o : Obj) : Below W.heap.size W (W.alloc o) := (Below.refl _ _).alloc (Nat.le_refl _) o
theorem bel_alloc {w2 W : World} (h : Below w2.heap.size w2 W) (o : Obj) : Below w2.heap.size w2 (W.alloc o) := h.alloc h.size o
theorem bel_store {w2 W : World} (h : Below w2.heap.size w2 W) {p : Addr} (hp : w2.heap.size ≤ p.block) (v : Value) : Below w2.heap.size w2 (W.setCell p v) := h.setCell hp v
theorem bel_realloc {w2 W : World} (o o' : Obj) (h : Below w2.heap.size w2 (W.alloc o)) (hW : w2.heap.size ≤ W.heap.size) : Below w2.heap.size w2 (W.alloc o') := by
  refine ⟨h.os, h.tape, h.output, ?_, fun k hk => ?_⟩
  · simpa using h.size
  · rw [Below.heap_alloc W o' k (by omega), ← Below.heap_alloc W o k (by omega)]; exact h.block k hk
structure GotF (w2 : World) (y y2 : Int) (z : Bool) (s8 s9 : Value) (wx : World) : Prop where
  b : Below w2.heap.size w2 wx
  k : ∃ b, s8 = .pointer (some ⟨b, 0, none⟩) ∧ Blk wx b (.int .i64 y) (.int .i64 y2) ∧ b < wx.heap.size
  z : s9 = .bool z
end Go.Proofs.Ytammlkaclooohaa

/- eqFrac of two equal Fracs. -/
namespace Go.Proofs.Ytammlkaclooohaa
open Go.RowKit
theorem eqFrac_yes (n d : Int) (w : World) : Calls Try.prog 22 #[fr n d, fr n d] w fun e w' => e = .returned (.bool true) ∧ Below w.heap.size w w' := by
  go_enter Try.func22, Try.ntmps22
  go_wp2
  go_ret
  refine ⟨rfl, ?_⟩
  (repeat (first | exact Below.refl _ _ | refine Below.setCell ?_ (by first | omega | (simp; omega) | (simp; done)) _ | refine Below.drew ?_ | refine Law.up ?_ _ | refine Below.alloc ?_ (by first | omega | (simp; omega) | (simp; done)) _ | refine Law.then_ ?_ (Hid.out (by assumption))))
end Go.Proofs.Ytammlkaclooohaa
