/-
  A struct of five cells in a block (a cache): its cells, stores, a return of it.
-/
import Derived.Test.YtdjafooabpcbmabOwnS
import Derived.Test.YtdjafooabpcbmabCacM
import Derived.Laws.ResultCell
namespace Go.Proofs.Ytdjafooabpcbmab
open Go.RowKit
set_option linter.unusedVariables false
/-- A struct of five cells in a block: its cells, and that none is frozen. -/
structure Blk5 (w : World) (b : Nat) (v0 v1 v2 v3 v4 : Value) : Prop where
  c0 : w.cell? ⟨b, 0, none⟩ = some v0
  c1 : w.cell? ⟨b, 1, none⟩ = some v1
  c2 : w.cell? ⟨b, 2, none⟩ = some v2
  c3 : w.cell? ⟨b, 3, none⟩ = some v3
  c4 : w.cell? ⟨b, 4, none⟩ = some v4
  f0 : w.frozen? ⟨b, 0, none⟩ = false
  f1 : w.frozen? ⟨b, 1, none⟩ = false
  f2 : w.frozen? ⟨b, 2, none⟩ = false
  f3 : w.frozen? ⟨b, 3, none⟩ = false
  f4 : w.frozen? ⟨b, 4, none⟩ = false
theorem Blk5.kept {w w' : World} {b : Nat} {v0 v1 v2 v3 v4 : Value} (h : Blk5 w b v0 v1 v2 v3 v4) (hb : w'.heap[b]? = w.heap[b]?) : Blk5 w' b v0 v1 v2 v3 v4 := by
  have q : ∀ i, w'.cell? ⟨b, i, none⟩ = w.cell? ⟨b, i, none⟩ := fun i => World.cell?_of_block (a := ⟨b, i, none⟩) hb
  have r : ∀ i, w'.frozen? ⟨b, i, none⟩ = w.frozen? ⟨b, i, none⟩ := fun i => World.frozen?_of_block (a := ⟨b, i, none⟩) hb
  exact ⟨(q 0).trans h.c0, (q 1).trans h.c1, (q 2).trans h.c2, (q 3).trans h.c3, (q 4).trans h.c4, (r 0).trans h.f0, (r 1).trans h.f1, (r 2).trans h.f2, (r 3).trans h.f3, (r 4).trans h.f4⟩
theorem off_ne {b i j : Nat} (h : i ≠ j) : (⟨b, i, none⟩ : Addr) ≠ ⟨b, j, none⟩ := fun e => by injection e with _ e; exact h e
theorem Blk5.set2 {w : World} {b : Nat} {v0 v1 v2 v3 v4 : Value} (h : Blk5 w b v0 v1 v2 v3 v4) (u : Value) : Blk5 (w.setCell ⟨b, 2, none⟩ u) b v0 v1 u v3 v4 :=
  ⟨by rw [World.cell?_setCell_other (h := off_ne (by decide))]; exact h.c0, by rw [World.cell?_setCell_other (h := off_ne (by decide))]; exact h.c1, by rw [World.cell?_setCell_same (h := h.c2)], by rw [World.cell?_setCell_other (h := off_ne (by decide))]; exact h.c3, by rw [World.cell?_setCell_other (h := off_ne (by decide))]; exact h.c4,
    by simp [h.f0], by simp [h.f1], by simp [h.f2], by simp [h.f3], by simp [h.f4]⟩
theorem Blk5.set3 {w : World} {b : Nat} {v0 v1 v2 v3 v4 : Value} (h : Blk5 w b v0 v1 v2 v3 v4) (u : Value) : Blk5 (w.setCell ⟨b, 3, none⟩ u) b v0 v1 v2 u v4 :=
  ⟨by rw [World.cell?_setCell_other (h := off_ne (by decide))]; exact h.c0, by rw [World.cell?_setCell_other (h := off_ne (by decide))]; exact h.c1, by rw [World.cell?_setCell_other (h := off_ne (by decide))]; exact h.c2, by rw [World.cell?_setCell_same (h := h.c3)], by rw [World.cell?_setCell_other (h := off_ne (by decide))]; exact h.c4,
    by simp [h.f0], by simp [h.f1], by simp [h.f2], by simp [h.f3], by simp [h.f4]⟩
theorem Blk5.set4 {w : World} {b : Nat} {v0 v1 v2 v3 v4 : Value} (h : Blk5 w b v0 v1 v2 v3 v4) (u : Value) : Blk5 (w.setCell ⟨b, 4, none⟩ u) b v0 v1 v2 v3 u :=
  ⟨by rw [World.cell?_setCell_other (h := off_ne (by decide))]; exact h.c0, by rw [World.cell?_setCell_other (h := off_ne (by decide))]; exact h.c1, by rw [World.cell?_setCell_other (h := off_ne (by decide))]; exact h.c2, by rw [World.cell?_setCell_other (h := off_ne (by decide))]; exact h.c3, by rw [World.cell?_setCell_same (h := h.c4)],
    by simp [h.f0], by simp [h.f1], by simp [h.f2], by simp [h.f3], by simp [h.f4]⟩
/-- A return of a cache that lies in a block of the call's own. -/
theorem ret_ca1 {fn : Func} {R : Ending → World → Prop} {a : Act} {w : World} {pt : Tmp} {b : Nat} {v0 v1 v2 v3 v4 : Value}
    (h : fn.results = #[.cell pt 27]) (hd : a.defers = []) (hp : a.tmps.getD pt undef = .pointer (some ⟨b, 0, none⟩)) (hB : Blk5 w b v0 v1 v2 v3 v4)
    (hR : R (.returned (.agg #[v0, v1, v2, v3, v4])) w) : bodyPost Try.prog fn R .ret a w := by
  refine bodyPost_ret_by (v := .agg #[v0, v1, v2, v3, v4]) ?_ hd hR
  obtain ⟨c0, c1, c2, c3, c4, _, _, _, _, _⟩ := hB
  have key : (results fn a.tmps).run Try.prog w = ((asAddr (a.tmps.getD pt undef)).run Try.prog w).andThen fun q w1 => (loadVar 27 q).run Try.prog w1 := by
    simp only [results, h]
    simp [Sem.run_bind, Result.andThen]
  rw [key, hp]
  go_simp
theorem ret_ca {fn : Func} {R : Ending → World → Prop} {a : Act} {w : World} {pt u : Tmp} {b : Nat} {v0 v1 v2 v3 v4 f : Value}
    (h : fn.results = #[.cell pt 27, .tmp u]) (hd : a.defers = []) (hp : a.tmps.getD pt undef = .pointer (some ⟨b, 0, none⟩)) (hB : Blk5 w b v0 v1 v2 v3 v4) (hf : a.tmps.getD u undef = f)
    (hR : R (.returned (.tuple #[.agg #[v0, v1, v2, v3, v4], f])) w) : bodyPost Try.prog fn R .ret a w := by
  refine bodyPost_ret_by (v := .tuple #[.agg #[v0, v1, v2, v3, v4], f]) ?_ hd hR
  rw [results_cell_tmp h, hp, hf]
  obtain ⟨c0, c1, c2, c3, c4, _, _, _, _, _⟩ := hB
  go_simp
end Go.Proofs.Ytdjafooabpcbmab
