/-
  What a sum's loop keeps of the memory.
-/
import Derived.Test.YtppmepajcdldkaaMake
namespace Go.Proofs.Ytppmepajcdldkaa
open Go.RowKit
set_option linter.unusedVariables false
/-- What a sum's loop keeps: the total, the result's block, all that is older. -/
structure Loc (w : World) (N D : Int) (W : World) : Prop where
  tot : Blk W (w.heap.size + 1) (.int .i64 N) (.int .i64 D)
  res : Blk W w.heap.size (.int .i64 0) (.int .i64 0)
  bel : Below w.heap.size w W
  sz : w.heap.size + 2 ≤ W.heap.size
section
variable {w W w' : World} {N D : Int}
theorem Loc.past {B : Nat} (h : Loc w N D W) (hb : Below B W w') (hB : w.heap.size + 2 ≤ B) : Loc w N D w' := ⟨h.tot.below hb (by omega), h.res.below hb (by omega), h.bel.trans (hb.mono (by omega)), Nat.le_trans h.sz hb.size⟩
theorem Loc.call (h : Loc w N D W) (hb : Below W.heap.size W w') : Loc w N D w' := h.past hb h.sz
theorem Loc.put (h : Loc w N D W) (N' D' : Int) : Loc w N' D' ((W.setCell ⟨w.heap.size + 1, 0, none⟩ (.int .i64 N')).setCell ⟨w.heap.size + 1, 1, none⟩ (.int .i64 D')) := by
  have hb : Below (w.heap.size + 1) W ((W.setCell ⟨w.heap.size + 1, 0, none⟩ (.int .i64 N')).setCell ⟨w.heap.size + 1, 1, none⟩ (.int .i64 D')) := Below.setCell (p := ⟨w.heap.size + 1, 1, none⟩) (Below.setCell (p := ⟨w.heap.size + 1, 0, none⟩) (Below.refl _ _) (Nat.le_refl _) _) (Nat.le_refl _) _
  exact ⟨h.tot.set2 _ _, h.res.below hb (by omega), h.bel.trans (hb.mono (by omega)), Nat.le_trans h.sz hb.size⟩
/-- .. in the form that a drawn region wants: the loaded cells in sight. -/
abbrev Seen (w : World) (N D : Int) (W : World) : Prop := W.cell? ⟨w.heap.size + 1, 0, none⟩ = some (.int .i64 N) ∧ W.cell? ⟨w.heap.size + 1, 1, none⟩ = some (.int .i64 D) ∧ Loc w N D W
theorem Loc.seen (h : Loc w N D W) : W.cell? ⟨w.heap.size + 1, 0, none⟩ = some (.int .i64 N) ∧ W.cell? ⟨w.heap.size + 1, 1, none⟩ = some (.int .i64 D) ∧ Loc w N D W := ⟨h.tot.c0, h.tot.c1, h⟩
theorem seen_call (h : W.cell? ⟨w.heap.size + 1, 0, none⟩ = some (.int .i64 N) ∧ W.cell? ⟨w.heap.size + 1, 1, none⟩ = some (.int .i64 D) ∧ Loc w N D W) (hb : Below W.heap.size W w') : w'.cell? ⟨w.heap.size + 1, 0, none⟩ = some (.int .i64 N) ∧ w'.cell? ⟨w.heap.size + 1, 1, none⟩ = some (.int .i64 D) ∧ Loc w N D w' := (h.2.2.call hb).seen
theorem seen_alloc (h : W.cell? ⟨w.heap.size + 1, 0, none⟩ = some (.int .i64 N) ∧ W.cell? ⟨w.heap.size + 1, 1, none⟩ = some (.int .i64 D) ∧ Loc w N D W) (o : Obj) : (W.alloc o).cell? ⟨w.heap.size + 1, 0, none⟩ = some (.int .i64 N) ∧ (W.alloc o).cell? ⟨w.heap.size + 1, 1, none⟩ = some (.int .i64 D) ∧ Loc w N D (W.alloc o) := seen_call h ((Below.refl _ _).alloc (Nat.le_refl _) o)
theorem seen_store (h : W.cell? ⟨w.heap.size + 1, 0, none⟩ = some (.int .i64 N) ∧ W.cell? ⟨w.heap.size + 1, 1, none⟩ = some (.int .i64 D) ∧ Loc w N D W) {p : Addr} (hp : w.heap.size + 2 ≤ p.block) (v : Value) : (W.setCell p v).cell? ⟨w.heap.size + 1, 0, none⟩ = some (.int .i64 N) ∧ (W.setCell p v).cell? ⟨w.heap.size + 1, 1, none⟩ = some (.int .i64 D) ∧ Loc w N D (W.setCell p v) :=
  (h.2.2.past ((Below.refl _ _).setCell hp v) (Nat.le_refl _)).seen
theorem seen_realloc (o o' : Obj) (h : (W.alloc o).cell? ⟨w.heap.size + 1, 0, none⟩ = some (.int .i64 N) ∧ (W.alloc o).cell? ⟨w.heap.size + 1, 1, none⟩ = some (.int .i64 D) ∧ Loc w N D (W.alloc o)) (hW : w.heap.size + 2 ≤ W.heap.size) :
    (W.alloc o').cell? ⟨w.heap.size + 1, 0, none⟩ = some (.int .i64 N) ∧ (W.alloc o').cell? ⟨w.heap.size + 1, 1, none⟩ = some (.int .i64 D) ∧ Loc w N D (W.alloc o') := by
  obtain ⟨_, _, h⟩ := h
  have hb : Below W.heap.size (W.alloc o) (W.alloc o') := ⟨rfl, rfl, rfl, by simp, fun k hk => by rw [Below.heap_alloc W o' k hk, Below.heap_alloc W o k hk]⟩
  exact (h.past hb hW).seen
end
end Go.Proofs.Ytppmepajcdldkaa
