/-
  Arrays of two ints in the laws' own helpers: blocks.
-/
import Derived.Test.YtklpdfilhgjllaaOwn
import Derived.Laws.ResultCell
import Derived.Deep.RegionHeld3
namespace Go.Proofs.Ytklpdfilhgjllaa
open Go.RowKit
set_option linter.unusedVariables false
/-- An array of two ints as a value. -/
abbrev av (x y : Int) : Value := .agg #[.int .i64 x, .int .i64 y]
/-- Two cells in a block of the call's own, none frozen. -/
structure Blk (w : World) (b : Nat) (x y : Value) : Prop where
  c0 : w.cell? ⟨b, 0, none⟩ = some x
  c1 : w.cell? ⟨b, 1, none⟩ = some y
  f0 : w.frozen? ⟨b, 0, none⟩ = false
  f1 : w.frozen? ⟨b, 1, none⟩ = false
theorem Blk.below {B : Nat} {w w' : World} {b : Nat} {x y : Value} (h : Blk w b x y) (hb : Below B w w') (hlt : b < B) : Blk w' b x y :=
  ⟨(hb.cell (p := ⟨b, 0, none⟩) hlt).trans h.c0, (hb.cell (p := ⟨b, 1, none⟩) hlt).trans h.c1, (hb.frozen (p := ⟨b, 0, none⟩) hlt).trans h.f0, (hb.frozen (p := ⟨b, 1, none⟩) hlt).trans h.f1⟩
theorem Blk.other {w : World} {b : Nat} {x y : Value} (h : Blk w b x y) (p : Addr) (hp : p.block ≠ b) (u : Value) : Blk (w.setCell p u) b x y := by
  have k : ∀ i, p ≠ (⟨b, i, none⟩ : Addr) := fun i e => hp (by rw [e])
  exact ⟨by rw [World.cell?_setCell_other (h := k 0)]; exact h.c0, by rw [World.cell?_setCell_other (h := k 1)]; exact h.c1, by simp [h.f0], by simp [h.f1]⟩
theorem Blk.set0 {w : World} {b : Nat} {x y : Value} (h : Blk w b x y) (x' : Value) : Blk (w.setCell ⟨b, 0, none⟩ x') b x' y :=
  ⟨by rw [World.cell?_setCell_same (h := h.c0)], by rw [World.cell?_setCell_other (h := fun h => by injection h with _ h; exact absurd h (by decide))]; exact h.c1, by simp [h.f0], by simp [h.f1]⟩
theorem Blk.set1 {w : World} {b : Nat} {x y : Value} (h : Blk w b x y) (y' : Value) : Blk (w.setCell ⟨b, 1, none⟩ y') b x y' :=
  ⟨by rw [World.cell?_setCell_other (h := fun h => by injection h with _ h; exact absurd h (by decide))]; exact h.c0, by rw [World.cell?_setCell_same (h := h.c1)], by simp [h.f0], by simp [h.f1]⟩
theorem ret_arr {fn : Func} {R : Ending → World → Prop} {a : Act} {w : World} {pt : Tmp} {b : Nat} {x y : Value}
    (h : fn.results = #[.cell pt 76]) (hd : a.defers = []) (hp : a.tmps.getD pt undef = .pointer (some ⟨b, 0, none⟩)) (hB : Blk w b x y)
    (hR : R (.returned (.agg #[x, y])) w) : bodyPost Try.prog fn R .ret a w := by
  refine bodyPost_ret_by (v := .agg #[x, y]) ?_ hd hR
  obtain ⟨c0, c1, _, _⟩ := hB
  have key : (results fn a.tmps).run Try.prog w = ((asAddr (a.tmps.getD pt undef)).run Try.prog w).andThen fun q w1 => (loadVar 76 q).run Try.prog w1 := by
    simp only [results, h]
    simp [Sem.run_bind, Result.andThen]
  rw [key, hp]
  go_simp
end Go.Proofs.Ytklpdfilhgjllaa
