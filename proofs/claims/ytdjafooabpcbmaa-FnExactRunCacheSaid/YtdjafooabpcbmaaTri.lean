/-
  Three blocks of a call's own, each of five cells: what calls and stores leave of them.
-/
import Derived.Test.YtdjafooabpcbmaaMsa
namespace Go.Proofs.Ytdjafooabpcbmaa
open Go.RowKit
set_option linter.unusedVariables false
/-- The parameter's block, the result's, and a third one. -/
structure Tri (W Y : World) (a0 a1 a2 a3 a4 x0 x1 x2 x3 x4 : Value) : Prop where
  b0 : Blk5 Y W.heap.size a0 a1 a2 a3 a4
  b1 : ∃ v0 v1 v2 v3 v4, Blk5 Y (W.heap.size + 1) v0 v1 v2 v3 v4
  b2 : Blk5 Y (W.heap.size + 1 + 1) x0 x1 x2 x3 x4
  lo : W.heap.size + 1 + 1 + 1 ≤ Y.heap.size
  bl : Below W.heap.size W Y
namespace Tri
variable {W Y Y' : World} {a0 a1 a2 a3 a4 x0 x1 x2 x3 x4 : Value}
theorem call (h : Tri W Y a0 a1 a2 a3 a4 x0 x1 x2 x3 x4) (hb : Below Y.heap.size Y Y') : Tri W Y' a0 a1 a2 a3 a4 x0 x1 x2 x3 x4 := by
  obtain ⟨v0, v1, v2, v3, v4, h1⟩ := h.b1
  have hl := h.lo
  exact ⟨h.b0.kept (hb.block _ (by omega)), ⟨v0, v1, v2, v3, v4, h1.kept (hb.block _ (by omega))⟩, h.b2.kept (hb.block _ (by omega)), Nat.le_trans h.lo hb.size, h.bl.trans (hb.mono (by omega))⟩
theorem put0 (h : Tri W Y a0 a1 a2 a3 a4 x0 x1 x2 x3 x4) (u : Value) : Tri W (Y.setCell ⟨W.heap.size + 1 + 1, 0, none⟩ u) a0 a1 a2 a3 a4 u x1 x2 x3 x4 := by
  obtain ⟨v0, v1, v2, v3, v4, h1⟩ := h.b1
  exact ⟨h.b0.other _ (by simp; omega) _, ⟨v0, v1, v2, v3, v4, h1.other _ (by simp) _⟩, h.b2.set0 u, by simpa using h.lo, h.bl.setCell (by simp; omega) u⟩
theorem put1 (h : Tri W Y a0 a1 a2 a3 a4 x0 x1 x2 x3 x4) (u : Value) : Tri W (Y.setCell ⟨W.heap.size + 1 + 1, 1, none⟩ u) a0 a1 a2 a3 a4 x0 u x2 x3 x4 := by
  obtain ⟨v0, v1, v2, v3, v4, h1⟩ := h.b1
  exact ⟨h.b0.other _ (by simp; omega) _, ⟨v0, v1, v2, v3, v4, h1.other _ (by simp) _⟩, h.b2.set1 u, by simpa using h.lo, h.bl.setCell (by simp; omega) u⟩
theorem put2 (h : Tri W Y a0 a1 a2 a3 a4 x0 x1 x2 x3 x4) (u : Value) : Tri W (Y.setCell ⟨W.heap.size + 1 + 1, 2, none⟩ u) a0 a1 a2 a3 a4 x0 x1 u x3 x4 := by
  obtain ⟨v0, v1, v2, v3, v4, h1⟩ := h.b1
  exact ⟨h.b0.other _ (by simp; omega) _, ⟨v0, v1, v2, v3, v4, h1.other _ (by simp) _⟩, h.b2.set2 u, by simpa using h.lo, h.bl.setCell (by simp; omega) u⟩
theorem put3 (h : Tri W Y a0 a1 a2 a3 a4 x0 x1 x2 x3 x4) (u : Value) : Tri W (Y.setCell ⟨W.heap.size + 1 + 1, 3, none⟩ u) a0 a1 a2 a3 a4 x0 x1 x2 u x4 := by
  obtain ⟨v0, v1, v2, v3, v4, h1⟩ := h.b1
  exact ⟨h.b0.other _ (by simp; omega) _, ⟨v0, v1, v2, v3, v4, h1.other _ (by simp) _⟩, h.b2.set3 u, by simpa using h.lo, h.bl.setCell (by simp; omega) u⟩
theorem put4 (h : Tri W Y a0 a1 a2 a3 a4 x0 x1 x2 x3 x4) (u : Value) : Tri W (Y.setCell ⟨W.heap.size + 1 + 1, 4, none⟩ u) a0 a1 a2 a3 a4 x0 x1 x2 x3 u := by
  obtain ⟨v0, v1, v2, v3, v4, h1⟩ := h.b1
  exact ⟨h.b0.other _ (by simp; omega) _, ⟨v0, v1, v2, v3, v4, h1.other _ (by simp) _⟩, h.b2.set4 u, by simpa using h.lo, h.bl.setCell (by simp; omega) u⟩
end Tri
theorem tri_new {W X : World} {t0 t1 t2 : TypeId} {a0 a1 a2 a3 a4 v0 v1 v2 v3 v4 x0 x1 x2 x3 x4 : Value}
    (h : X.heap[W.heap.size]? = some (.cells #[a0, a1, a2, a3, a4] t0) ∧ X.heap[W.heap.size + 1]? = some (.cells #[v0, v1, v2, v3, v4] t1) ∧ X.heap[W.heap.size + 1 + 1]? = some (.cells #[x0, x1, x2, x3, x4] t2) ∧ X.heap.size = W.heap.size + 1 + 1 + 1 ∧ Below W.heap.size W X) :
    Tri W X a0 a1 a2 a3 a4 x0 x1 x2 x3 x4 := ⟨blk5_of h.1, ⟨_, _, _, _, _, blk5_of h.2.1⟩, blk5_of h.2.2.1, by omega, h.2.2.2.2⟩
theorem al2' (W : World) (o0 o1 : Obj) : ((W.alloc o0).alloc o1).heap[W.heap.size]? = some o0 ∧ ((W.alloc o0).alloc o1).heap[W.heap.size + 1]? = some o1 ∧ ((W.alloc o0).alloc o1).heap.size = W.heap.size + 1 + 1 ∧ Below W.heap.size W ((W.alloc o0).alloc o1) := by
  have a1 : Below (W.alloc o0).heap.size (W.alloc o0) ((W.alloc o0).alloc o1) := (Below.refl _ _).alloc (Nat.le_refl _) _
  have s1 : (W.alloc o0).heap.size = W.heap.size + 1 := by simp
  refine ⟨?_, ?_, by simp, ((Below.refl W.heap.size W).alloc (Nat.le_refl _) _).alloc (by simp) _⟩
  · rw [a1.block _ (by omega)]
    exact heap_alloc_new W o0
  · rw [← s1]
    exact heap_alloc_new _ o1
end Go.Proofs.Ytdjafooabpcbmaa
