/-
  Arrays of two ints in the laws' own helpers: 'toIntA2', 'eqIntA2'.
-/
import Derived.Test.YtgnfmbdomofgcaaOwn
import Derived.Laws.ResultCell
import Derived.Deep.RegionHeld3
namespace Go.Proofs.Ytgnfmbdomofgcaa
open Go.RowKit
set_option linter.unusedVariables false
/-- An array of two ints as a value. -/
abbrev av (x y : Int) : Value := .agg #[.int .i64 x, .int .i64 y]
/-- Two cells in a block of the call's own, none frozen. -/
structure Blk (w : World) (b : Nat) (x y : Value) : Prop where
  c0 : w.cell? ⟨b, 0, none⟩ = some x
  c1 : w.cell? ⟨b, 1, none⟩ = some y
  f0 : w.frozen? ⟨b, 0, none⟩ = false
  f1 : w.frozen? ⟨b, 1, none⟩ = false
theorem Blk.below {B : Nat} {w w' : World} {b : Nat} {x y : Value} (h : Blk w b x y) (hb : Below B w w') (hlt : b < B) : Blk w' b x y :=
  ⟨(hb.cell (p := ⟨b, 0, none⟩) hlt).trans h.c0, (hb.cell (p := ⟨b, 1, none⟩) hlt).trans h.c1, (hb.frozen (p := ⟨b, 0, none⟩) hlt).trans h.f0, (hb.frozen (p := ⟨b, 1, none⟩) hlt).trans h.f1⟩
theorem Blk.other {w : World} {b : Nat} {x y : Value} (h : Blk w b x y) (p : Addr) (hp : p.block ≠ b) (u : Value) : Blk (w.setCell p u) b x y := by
  have k : ∀ i, p ≠ (⟨b, i, none⟩ : Addr) := fun i e => hp (by rw [e])
  exact ⟨by rw [World.cell?_setCell_other (h := k 0)]; exact h.c0, by rw [World.cell?_setCell_other (h := k 1)]; exact h.c1, by simp [h.f0], by simp [h.f1]⟩
theorem Blk.set0 {w : World} {b : Nat} {x y : Value} (h : Blk w b x y) (x' : Value) : Blk (w.setCell ⟨b, 0, none⟩ x') b x' y :=
  ⟨by rw [World.cell?_setCell_same (h := h.c0)], by rw [World.cell?_setCell_other (h := fun h => by injection h with _ h; exact absurd h (by decide))]; exact h.c1, by simp [h.f0], by simp [h.f1]⟩
theorem Blk.set1 {w : World} {b : Nat} {x y : Value} (h : Blk w b x y) (y' : Value) : Blk (w.setCell ⟨b, 1, none⟩ y') b x y' :=
  ⟨by rw [World.cell?_setCell_other (h := fun h => by injection h with _ h; exact absurd h (by decide))]; exact h.c0, by rw [World.cell?_setCell_same (h := h.c1)], by simp [h.f0], by simp [h.f1]⟩
theorem ret_arr {fn : Func} {R : Ending → World → Prop} {a : Act} {w : World} {pt : Tmp} {b : Nat} {x y : Value}
    (h : fn.results = #[.cell pt 57]) (hd : a.defers = []) (hp : a.tmps.getD pt undef = .pointer (some ⟨b, 0, none⟩)) (hB : Blk w b x y)
    (hR : R (.returned (.agg #[x, y])) w) : bodyPost Try.prog fn R .ret a w := by
  refine bodyPost_ret_by (v := .agg #[x, y]) ?_ hd hR
  obtain ⟨c0, c1, _, _⟩ := hB
  have key : (results fn a.tmps).run Try.prog w = ((asAddr (a.tmps.getD pt undef)).run Try.prog w).andThen fun q w1 => (loadVar 57 q).run Try.prog w1 := by
    simp only [results, h]
    simp [Sem.run_bind, Result.andThen]
  rw [key, hp]
  go_simp
set_option maxHeartbeats 800000 in
theorem toA2_any (x y : Int) (w : World) : Calls Try.prog 96 #[av x y] w fun e w' => e = .returned (av x y) ∧ Below w.heap.size w w' := by
  go_enter Try.func96, Try.ntmps96
  go_wp2
  go_loopw [4] (fun i wr => ∃ k : Nat, k ≤ 2 ∧ i = .int .i64 k ∧ Hid (Blk wr w.heap.size (.int .i64 x) (.int .i64 y)) ∧ Hid (Blk wr (w.heap.size + 1) (.int .i64 0) (.int .i64 0)) ∧ Hid (Blk wr (w.heap.size + 2) (.int .i64 (if 0 < k then x else 0)) (.int .i64 (if 1 < k then y else 0))) ∧ Hid (Below w.heap.size w wr)) (fun i _ => 2 - (intOf i).toNat)
  case atStart =>
    refine ⟨0, by omega, rfl, ⟨by go_simp, by go_simp, by go_simp, by go_simp⟩, ⟨by go_simp, by go_simp, by go_simp, by go_simp⟩, ⟨by go_simp, by go_simp, by go_simp, by go_simp⟩, ?_⟩
    show Below _ _ _
    (repeat (first | exact Below.refl _ _ | refine Below.setCell ?_ (by first | omega | (simp; omega) | (simp; done)) _ | refine Below.drew ?_ | refine Law.up ?_ _ | refine Below.alloc ?_ (by first | omega | (simp; omega) | (simp; done)) _ | refine Law.then_ ?_ (Hid.out (by assumption))))
  case round =>
    obtain ⟨k, hk, rfl, h0, h1, h2, hb⟩ := hrel
    obtain ⟨a0, a1, a2, a3⟩ := h0.out
    obtain ⟨b0, b1, b2, b3⟩ := h1.out
    obtain ⟨c0, c1, c2, c3⟩ := h2.out
    have hk3 : k = 0 ∨ k = 1 ∨ k = 2 := by omega
    rcases hk3 with rfl | rfl | rfl
    · have H0 := Lib.hid (h0.out.other ⟨w.heap.size + 2, 0, none⟩ (by simp) (.int .i64 x))
      have H1 := Lib.hid (h1.out.other ⟨w.heap.size + 2, 0, none⟩ (by simp) (.int .i64 x))
      have H2 := Lib.hid (h2.out.set0 (.int .i64 x))
      have HB := Lib.hid (Below.setCell (p := ⟨w.heap.size + 2, 0, none⟩) hb.out (by show w.heap.size ≤ w.heap.size + 2; omega) (.int .i64 x))
      go_wp2
      go_roundw
      case rel => exact ⟨1, by omega, by go_num, H0.out, H1.out, H2.out, HB.out⟩
      case measure => simp [intOf]
    · have H0 := Lib.hid (h0.out.other ⟨w.heap.size + 2, 1, none⟩ (by simp) (.int .i64 y))
      have H1 := Lib.hid (h1.out.other ⟨w.heap.size + 2, 1, none⟩ (by simp) (.int .i64 y))
      have H2 := Lib.hid (h2.out.set1 (.int .i64 y))
      have HB := Lib.hid (Below.setCell (p := ⟨w.heap.size + 2, 1, none⟩) hb.out (by show w.heap.size ≤ w.heap.size + 2; omega) (.int .i64 y))
      go_wp2
      go_roundw
      case rel => exact ⟨2, by omega, by go_num, H0.out, H1.out, H2.out, HB.out⟩
      case measure => simp [intOf]
    · have H1 := Lib.hid ((h1.out.set0 (.int .i64 x)).set1 (.int .i64 y))
      have HB := Lib.hid (Below.setCell (p := ⟨w.heap.size + 1, 1, none⟩) (Below.setCell (p := ⟨w.heap.size + 1, 0, none⟩) hb.out (by show w.heap.size ≤ w.heap.size + 1; omega) (.int .i64 x)) (by show w.heap.size ≤ w.heap.size + 1; omega) (.int .i64 y))
      go_wp2
      exact ret_arr rfl rfl rfl H1.out ⟨rfl, HB.out⟩
end Go.Proofs.Ytgnfmbdomofgcaa
