/-
  A struct of two ints in a block of the call's own.
-/
import Derived.Test.YtppmepajcdldkabDoorFrac
import Derived.Lib.SmallJoins
import Derived.Laws.ResultCell
namespace Go.Proofs.YtppmepajcdldkabDoor
open Go.RowKit
set_option linter.unusedVariables false
/-- A fraction and a flag, as a call hands them back. -/
abbrev res (x : Int × Int × Bool) : Value := .tuple #[fr x.1 x.2.1, .bool x.2.2]
theorem mk_yes {n d N D : Int} (hN : n / Int.gcd n d = N) (hD : d / Int.gcd n d = D) (hg : F.good N D = true) : F.mk n d = (N, D, true) := by
  unfold F.mk
  rw [hN, hD, if_pos hg]
theorem mk_no {n d N D : Int} (hN : n / Int.gcd n d = N) (hD : d / Int.gcd n d = D) (hg : F.good N D = false) : F.mk n d = (0, 0, false) := by
  unfold F.mk
  rw [hN, hD, if_neg (by rw [hg]; exact Bool.false_ne_true)]
/-- A struct of two ints in a block of the call's own: its cells, and that none is frozen. -/
structure Blk (w : World) (b : Nat) (x y : Value) : Prop where
  c0 : w.cell? ⟨b, 0, none⟩ = some x
  c1 : w.cell? ⟨b, 1, none⟩ = some y
  f0 : w.frozen? ⟨b, 0, none⟩ = false
  f1 : w.frozen? ⟨b, 1, none⟩ = false
theorem Blk.below {B : Nat} {w w' : World} {b : Nat} {x y : Value} (h : Blk w b x y) (hb : Below B w w') (hlt : b < B) : Blk w' b x y :=
  ⟨(hb.cell (p := ⟨b, 0, none⟩) hlt).trans h.c0, (hb.cell (p := ⟨b, 1, none⟩) hlt).trans h.c1, (hb.frozen (p := ⟨b, 0, none⟩) hlt).trans h.f0, (hb.frozen (p := ⟨b, 1, none⟩) hlt).trans h.f1⟩
theorem Blk.carry {G : Prop} {B : Nat} {w w' : World} {b : Nat} {x y : Value} (hb : Below B w w') (h0 : w.cell? ⟨b, 0, none⟩ = some x) (h1 : w.cell? ⟨b, 1, none⟩ = some y) (h2 : w.frozen? ⟨b, 0, none⟩ = false) (h3 : w.frozen? ⟨b, 1, none⟩ = false) (hlt : b < B)
    (k : Blk w' b x y → G) : G := k (Blk.below ⟨h0, h1, h2, h3⟩ hb hlt)
theorem Blk.set2 {w : World} {b : Nat} {x y : Value} (h : Blk w b x y) (x' y' : Value) : Blk ((w.setCell ⟨b, 0, none⟩ x').setCell ⟨b, 1, none⟩ y') b x' y' := by
  have n1 : (⟨b, 1, none⟩ : Addr) ≠ ⟨b, 0, none⟩ := fun h => by injection h with _ h; exact absurd h (by decide)
  have e1 : (w.setCell ⟨b, 0, none⟩ x').cell? ⟨b, 1, none⟩ = some y := by rw [World.cell?_setCell_other (h := n1.symm)]; exact h.c1
  have e0 : (w.setCell ⟨b, 0, none⟩ x').cell? ⟨b, 0, none⟩ = some x' := by rw [World.cell?_setCell_same (h := h.c0)]
  refine ⟨?_, ?_, by simp [h.f0], by simp [h.f1]⟩
  · rw [World.cell?_setCell_other (h := n1)]; exact e0
  · rw [World.cell?_setCell_same (h := e1)]
/-- A return of a struct that lies in a block of the call's own, and a flag. -/
theorem ret_frac {fn : Func} {R : Ending → World → Prop} {a : Act} {w : World} {pt u : Tmp} {b : Nat} {x y f : Value}
    (h : fn.results = #[.cell pt 26, .tmp u]) (hd : a.defers = []) (hp : a.tmps.getD pt undef = .pointer (some ⟨b, 0, none⟩)) (hB : Blk w b x y) (hf : a.tmps.getD u undef = f)
    (hR : R (.returned (.tuple #[.agg #[x, y], f])) w) : bodyPost Tryd.prog fn R .ret a w := by
  refine bodyPost_ret_by (v := .tuple #[.agg #[x, y], f]) ?_ hd hR
  rw [results_cell_tmp h, hp, hf]
  obtain ⟨c0, c1, _, _⟩ := hB
  go_simp
theorem ret_frac1 {fn : Func} {R : Ending → World → Prop} {a : Act} {w : World} {pt : Tmp} {b : Nat} {x y : Value}
    (h : fn.results = #[.cell pt 26]) (hd : a.defers = []) (hp : a.tmps.getD pt undef = .pointer (some ⟨b, 0, none⟩)) (hB : Blk w b x y)
    (hR : R (.returned (.agg #[x, y])) w) : bodyPost Tryd.prog fn R .ret a w := by
  refine bodyPost_ret_by (v := .agg #[x, y]) ?_ hd hR
  obtain ⟨c0, c1, _, _⟩ := hB
  have key : (results fn a.tmps).run Tryd.prog w = ((asAddr (a.tmps.getD pt undef)).run Tryd.prog w).andThen fun q w1 => (loadVar 26 q).run Tryd.prog w1 := by
    simp only [results, h]
    simp [Sem.run_bind, Result.andThen]
  rw [key, hp]
  go_simp
theorem wf_small {x : Int} (h1 : -9223372036854775808 ≤ x) (h2 : x ≤ 9223372036854775807) : (Lit.int .i64 x).wf = true := by
  simp [Lit.wf, IntKind.min, IntKind.max, IntKind.signed, IntKind.bits]
  omega
end Go.Proofs.YtppmepajcdldkabDoor
