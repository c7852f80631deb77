/-
  The laws' own helpers on fractions: toFrac hands back the same two numbers, eqFrac compares them.
-/
import Derived.Test.YtppmepajcdldkabDoorMake
namespace Go.Proofs.YtppmepajcdldkabDoor
open Go.RowKit
set_option linter.unusedVariables false
theorem toFrac_any (n d : Int) (w : World) : Calls Tryd.prog 6 #[fr n d] w fun e w' => e = .returned (fr n d) ∧ Below w.heap.size w w' := by
  go_enter Tryd.func6, Tryd.ntmps6
  go_wp2
  refine ret_frac1 rfl rfl rfl (b := w.heap.size + 1) (x := .int .i64 n) (y := .int .i64 d) ⟨by go_simp, by go_simp, by go_simp, by go_simp⟩ ⟨rfl, ?_⟩
  (repeat (first | exact Below.refl _ _ | refine Below.setCell ?_ (by first | omega | (simp; omega) | (simp; done)) _ | refine Below.drew ?_ | refine Law.up ?_ _ | refine Below.alloc ?_ (by first | omega | (simp; omega) | (simp; done)) _ | refine Law.then_ ?_ (Hid.out (by assumption))))
theorem eqFrac_yes (n d : Int) (w : World) : Calls Tryd.prog 10 #[fr n d, fr n d] w fun e w' => e = .returned (.bool true) ∧ Below w.heap.size w w' := by
  go_enter Tryd.func10, Tryd.ntmps10
  go_wp2
  go_ret
  refine ⟨rfl, ?_⟩
  (repeat (first | exact Below.refl _ _ | refine Below.setCell ?_ (by first | omega | (simp; omega) | (simp; done)) _ | refine Below.drew ?_ | refine Law.up ?_ _ | refine Below.alloc ?_ (by first | omega | (simp; omega) | (simp; done)) _ | refine Law.then_ ?_ (Hid.out (by assumption))))
section
variable {w W w' : World} {n1 d1 n2 d2 N D : Int} {b5 : Nat}
theorem cell_call {B : Nat} {p : Addr} {v : Option Value} (h : W.cell? p = v) (hb : Below B W w') (hp : p.block < B) : w'.cell? p = v := (hb.cell hp).trans h
theorem held_call (h : W.cell? ⟨w.heap.size, 0, none⟩ = some (.int .i64 n1) ∧ W.cell? ⟨w.heap.size, 1, none⟩ = some (.int .i64 d1) ∧ W.cell? ⟨w.heap.size + 1, 0, none⟩ = some (.int .i64 n2) ∧ W.cell? ⟨w.heap.size + 1, 1, none⟩ = some (.int .i64 d2) ∧ Below w.heap.size w W ∧ w.heap.size + 2 ≤ W.heap.size) (hb : Below W.heap.size W w') : w'.cell? ⟨w.heap.size, 0, none⟩ = some (.int .i64 n1) ∧ w'.cell? ⟨w.heap.size, 1, none⟩ = some (.int .i64 d1) ∧ w'.cell? ⟨w.heap.size + 1, 0, none⟩ = some (.int .i64 n2) ∧ w'.cell? ⟨w.heap.size + 1, 1, none⟩ = some (.int .i64 d2) ∧ Below w.heap.size w w' ∧ w.heap.size + 2 ≤ w'.heap.size := by
  obtain ⟨h1, h2, h3, h4, h5, h6⟩ := h
  exact ⟨cell_call h1 hb (by show w.heap.size < _; omega), cell_call h2 hb (by show w.heap.size < _; omega), cell_call h3 hb (by show w.heap.size + 1 < _; omega), cell_call h4 hb (by show w.heap.size + 1 < _; omega), h5.trans (hb.mono (by omega)), Nat.le_trans h6 hb.size⟩
theorem held_alloc (h : W.cell? ⟨w.heap.size, 0, none⟩ = some (.int .i64 n1) ∧ W.cell? ⟨w.heap.size, 1, none⟩ = some (.int .i64 d1) ∧ W.cell? ⟨w.heap.size + 1, 0, none⟩ = some (.int .i64 n2) ∧ W.cell? ⟨w.heap.size + 1, 1, none⟩ = some (.int .i64 d2) ∧ Below w.heap.size w W ∧ w.heap.size + 2 ≤ W.heap.size) (o : Obj) : (W.alloc o).cell? ⟨w.heap.size, 0, none⟩ = some (.int .i64 n1) ∧ (W.alloc o).cell? ⟨w.heap.size, 1, none⟩ = some (.int .i64 d1) ∧ (W.alloc o).cell? ⟨w.heap.size + 1, 0, none⟩ = some (.int .i64 n2) ∧ (W.alloc o).cell? ⟨w.heap.size + 1, 1, none⟩ = some (.int .i64 d2) ∧ Below w.heap.size w (W.alloc o) ∧ w.heap.size + 2 ≤ (W.alloc o).heap.size :=
  held_call h ((Below.refl _ _).alloc (Nat.le_refl _) o)
theorem held_store (h : W.cell? ⟨w.heap.size, 0, none⟩ = some (.int .i64 n1) ∧ W.cell? ⟨w.heap.size, 1, none⟩ = some (.int .i64 d1) ∧ W.cell? ⟨w.heap.size + 1, 0, none⟩ = some (.int .i64 n2) ∧ W.cell? ⟨w.heap.size + 1, 1, none⟩ = some (.int .i64 d2) ∧ Below w.heap.size w W ∧ w.heap.size + 2 ≤ W.heap.size) {p : Addr} (hp : w.heap.size + 2 ≤ p.block) (v : Value) : (W.setCell p v).cell? ⟨w.heap.size, 0, none⟩ = some (.int .i64 n1) ∧ (W.setCell p v).cell? ⟨w.heap.size, 1, none⟩ = some (.int .i64 d1) ∧ (W.setCell p v).cell? ⟨w.heap.size + 1, 0, none⟩ = some (.int .i64 n2) ∧ (W.setCell p v).cell? ⟨w.heap.size + 1, 1, none⟩ = some (.int .i64 d2) ∧ Below w.heap.size w (W.setCell p v) ∧ w.heap.size + 2 ≤ (W.setCell p v).heap.size := by
  obtain ⟨h1, h2, h3, h4, h5, h6⟩ := h
  have hb : Below (w.heap.size + 2) W (W.setCell p v) := (Below.refl _ _).setCell hp v
  exact ⟨cell_call h1 hb (by show w.heap.size < _; omega), cell_call h2 hb (by show w.heap.size < _; omega), cell_call h3 hb (by show w.heap.size + 1 < _; omega), cell_call h4 hb (by show w.heap.size + 1 < _; omega), h5.trans (hb.mono (by omega)), Nat.le_trans h6 hb.size⟩
theorem held_realloc (o o' : Obj) (h : (W.alloc o).cell? ⟨w.heap.size, 0, none⟩ = some (.int .i64 n1) ∧ (W.alloc o).cell? ⟨w.heap.size, 1, none⟩ = some (.int .i64 d1) ∧ (W.alloc o).cell? ⟨w.heap.size + 1, 0, none⟩ = some (.int .i64 n2) ∧ (W.alloc o).cell? ⟨w.heap.size + 1, 1, none⟩ = some (.int .i64 d2) ∧ Below w.heap.size w (W.alloc o) ∧ w.heap.size + 2 ≤ (W.alloc o).heap.size) (hW : w.heap.size + 2 ≤ W.heap.size) : (W.alloc o').cell? ⟨w.heap.size, 0, none⟩ = some (.int .i64 n1) ∧ (W.alloc o').cell? ⟨w.heap.size, 1, none⟩ = some (.int .i64 d1) ∧ (W.alloc o').cell? ⟨w.heap.size + 1, 0, none⟩ = some (.int .i64 n2) ∧ (W.alloc o').cell? ⟨w.heap.size + 1, 1, none⟩ = some (.int .i64 d2) ∧ Below w.heap.size w (W.alloc o') ∧ w.heap.size + 2 ≤ (W.alloc o').heap.size := by
  obtain ⟨h1, h2, h3, h4, h5, h6⟩ := h
  have q : ∀ (b i : Nat) (v : Option Value), b < W.heap.size → (W.alloc o).cell? ⟨b, i, none⟩ = v → (W.alloc o').cell? ⟨b, i, none⟩ = v := fun b i v hb hv => by rw [World.cell?_alloc_past _ _ _ hb] at hv ⊢; exact hv
  refine ⟨q _ _ _ (by omega) h1, q _ _ _ (by omega) h2, q _ _ _ (by omega) h3, q _ _ _ (by omega) h4, ⟨h5.os, h5.tape, h5.output, ?_, fun k hk => ?_⟩, ?_⟩
  · simpa using h5.size
  · rw [Below.heap_alloc W o' k (by omega), ← Below.heap_alloc W o k (by omega)]; exact h5.block k hk
  · simpa using h6
theorem held_call5 (h : W.cell? ⟨w.heap.size, 0, none⟩ = some (.int .i64 n1) ∧ W.cell? ⟨w.heap.size, 1, none⟩ = some (.int .i64 d1) ∧ W.cell? ⟨w.heap.size + 1, 0, none⟩ = some (.int .i64 n2) ∧ W.cell? ⟨w.heap.size + 1, 1, none⟩ = some (.int .i64 d2) ∧ Below w.heap.size w W ∧ w.heap.size + 2 ≤ W.heap.size ∧ W.cell? ⟨b5, 0, none⟩ = some (.int .i64 N) ∧ W.cell? ⟨b5, 1, none⟩ = some (.int .i64 D) ∧ b5 + 1 ≤ W.heap.size) (hb : Below W.heap.size W w') : w'.cell? ⟨w.heap.size, 0, none⟩ = some (.int .i64 n1) ∧ w'.cell? ⟨w.heap.size, 1, none⟩ = some (.int .i64 d1) ∧ w'.cell? ⟨w.heap.size + 1, 0, none⟩ = some (.int .i64 n2) ∧ w'.cell? ⟨w.heap.size + 1, 1, none⟩ = some (.int .i64 d2) ∧ Below w.heap.size w w' ∧ w.heap.size + 2 ≤ w'.heap.size ∧ w'.cell? ⟨b5, 0, none⟩ = some (.int .i64 N) ∧ w'.cell? ⟨b5, 1, none⟩ = some (.int .i64 D) ∧ b5 + 1 ≤ w'.heap.size := by
  obtain ⟨h1, h2, h3, h4, h5, h6, h7, h8, h9⟩ := h
  obtain ⟨k1, k2, k3, k4, k5, k6⟩ := held_call ⟨h1, h2, h3, h4, h5, h6⟩ hb
  exact ⟨k1, k2, k3, k4, k5, k6, cell_call h7 hb (by show b5 < _; omega), cell_call h8 hb (by show b5 < _; omega), Nat.le_trans h9 hb.size⟩
theorem held_alloc5 (h : W.cell? ⟨w.heap.size, 0, none⟩ = some (.int .i64 n1) ∧ W.cell? ⟨w.heap.size, 1, none⟩ = some (.int .i64 d1) ∧ W.cell? ⟨w.heap.size + 1, 0, none⟩ = some (.int .i64 n2) ∧ W.cell? ⟨w.heap.size + 1, 1, none⟩ = some (.int .i64 d2) ∧ Below w.heap.size w W ∧ w.heap.size + 2 ≤ W.heap.size ∧ W.cell? ⟨b5, 0, none⟩ = some (.int .i64 N) ∧ W.cell? ⟨b5, 1, none⟩ = some (.int .i64 D) ∧ b5 + 1 ≤ W.heap.size) (o : Obj) : (W.alloc o).cell? ⟨w.heap.size, 0, none⟩ = some (.int .i64 n1) ∧ (W.alloc o).cell? ⟨w.heap.size, 1, none⟩ = some (.int .i64 d1) ∧ (W.alloc o).cell? ⟨w.heap.size + 1, 0, none⟩ = some (.int .i64 n2) ∧ (W.alloc o).cell? ⟨w.heap.size + 1, 1, none⟩ = some (.int .i64 d2) ∧ Below w.heap.size w (W.alloc o) ∧ w.heap.size + 2 ≤ (W.alloc o).heap.size ∧ (W.alloc o).cell? ⟨b5, 0, none⟩ = some (.int .i64 N) ∧ (W.alloc o).cell? ⟨b5, 1, none⟩ = some (.int .i64 D) ∧ b5 + 1 ≤ (W.alloc o).heap.size :=
  held_call5 h ((Below.refl _ _).alloc (Nat.le_refl _) o)
theorem held_realloc5 (o o' : Obj) (h : (W.alloc o).cell? ⟨w.heap.size, 0, none⟩ = some (.int .i64 n1) ∧ (W.alloc o).cell? ⟨w.heap.size, 1, none⟩ = some (.int .i64 d1) ∧ (W.alloc o).cell? ⟨w.heap.size + 1, 0, none⟩ = some (.int .i64 n2) ∧ (W.alloc o).cell? ⟨w.heap.size + 1, 1, none⟩ = some (.int .i64 d2) ∧ Below w.heap.size w (W.alloc o) ∧ w.heap.size + 2 ≤ (W.alloc o).heap.size ∧ (W.alloc o).cell? ⟨b5, 0, none⟩ = some (.int .i64 N) ∧ (W.alloc o).cell? ⟨b5, 1, none⟩ = some (.int .i64 D) ∧ b5 + 1 ≤ (W.alloc o).heap.size) (hW : w.heap.size + 2 ≤ W.heap.size) (hW5 : b5 + 1 ≤ W.heap.size) : (W.alloc o').cell? ⟨w.heap.size, 0, none⟩ = some (.int .i64 n1) ∧ (W.alloc o').cell? ⟨w.heap.size, 1, none⟩ = some (.int .i64 d1) ∧ (W.alloc o').cell? ⟨w.heap.size + 1, 0, none⟩ = some (.int .i64 n2) ∧ (W.alloc o').cell? ⟨w.heap.size + 1, 1, none⟩ = some (.int .i64 d2) ∧ Below w.heap.size w (W.alloc o') ∧ w.heap.size + 2 ≤ (W.alloc o').heap.size ∧ (W.alloc o').cell? ⟨b5, 0, none⟩ = some (.int .i64 N) ∧ (W.alloc o').cell? ⟨b5, 1, none⟩ = some (.int .i64 D) ∧ b5 + 1 ≤ (W.alloc o').heap.size := by
  obtain ⟨h1, h2, h3, h4, h5, h6, h7, h8, h9⟩ := h
  obtain ⟨k1, k2, k3, k4, k5, k6⟩ := held_realloc o o' ⟨h1, h2, h3, h4, h5, h6⟩ hW
  have q : ∀ (b i : Nat) (v : Option Value), b < W.heap.size → (W.alloc o).cell? ⟨b, i, none⟩ = v → (W.alloc o').cell? ⟨b, i, none⟩ = v := fun b i v hb hv => by rw [World.cell?_alloc_past _ _ _ hb] at hv ⊢; exact hv
  exact ⟨k1, k2, k3, k4, k5, k6, q _ _ _ (by omega) h7, q _ _ _ (by omega) h8, by simpa using h9⟩
theorem held_store5 (h : W.cell? ⟨w.heap.size, 0, none⟩ = some (.int .i64 n1) ∧ W.cell? ⟨w.heap.size, 1, none⟩ = some (.int .i64 d1) ∧ W.cell? ⟨w.heap.size + 1, 0, none⟩ = some (.int .i64 n2) ∧ W.cell? ⟨w.heap.size + 1, 1, none⟩ = some (.int .i64 d2) ∧ Below w.heap.size w W ∧ w.heap.size + 2 ≤ W.heap.size ∧ W.cell? ⟨b5, 0, none⟩ = some (.int .i64 N) ∧ W.cell? ⟨b5, 1, none⟩ = some (.int .i64 D) ∧ b5 + 1 ≤ W.heap.size) {p : Addr} (hp : w.heap.size + 2 ≤ p.block) (hp5 : b5 + 1 ≤ p.block) (v : Value) : (W.setCell p v).cell? ⟨w.heap.size, 0, none⟩ = some (.int .i64 n1) ∧ (W.setCell p v).cell? ⟨w.heap.size, 1, none⟩ = some (.int .i64 d1) ∧ (W.setCell p v).cell? ⟨w.heap.size + 1, 0, none⟩ = some (.int .i64 n2) ∧ (W.setCell p v).cell? ⟨w.heap.size + 1, 1, none⟩ = some (.int .i64 d2) ∧ Below w.heap.size w (W.setCell p v) ∧ w.heap.size + 2 ≤ (W.setCell p v).heap.size ∧ (W.setCell p v).cell? ⟨b5, 0, none⟩ = some (.int .i64 N) ∧ (W.setCell p v).cell? ⟨b5, 1, none⟩ = some (.int .i64 D) ∧ b5 + 1 ≤ (W.setCell p v).heap.size := by
  obtain ⟨h1, h2, h3, h4, h5, h6, h7, h8, h9⟩ := h
  obtain ⟨k1, k2, k3, k4, k5, k6⟩ := held_store ⟨h1, h2, h3, h4, h5, h6⟩ hp v
  have hb : Below (b5 + 1) W (W.setCell p v) := (Below.refl _ _).setCell hp5 v
  exact ⟨k1, k2, k3, k4, k5, k6, cell_call h7 hb (by show b5 < _; omega), cell_call h8 hb (by show b5 < _; omega), Nat.le_trans h9 hb.size⟩
end
/-- What a law's region 'x, ok := f(toFrac(a), toFrac(b))' leaves: the two arguments' blocks as they were, the fraction in a block of the call's own, the flag. -/
def Got (w : World) (n1 d1 n2 d2 N D : Int) (ok : Bool) (s t : Value) (W : World) : Prop :=
  (W.cell? ⟨w.heap.size, 0, none⟩ = some (.int .i64 n1) ∧ W.cell? ⟨w.heap.size, 1, none⟩ = some (.int .i64 d1) ∧ W.cell? ⟨w.heap.size + 1, 0, none⟩ = some (.int .i64 n2) ∧ W.cell? ⟨w.heap.size + 1, 1, none⟩ = some (.int .i64 d2) ∧ Below w.heap.size w W ∧ w.heap.size + 2 ≤ W.heap.size) ∧ (∃ b, s = .pointer (some ⟨b, 0, none⟩) ∧ Blk W b (.int .i64 N) (.int .i64 D) ∧ w.heap.size + 2 ≤ b ∧ b + 1 ≤ W.heap.size) ∧ t = .bool ok
/-- .. and the second one, the first's block kept. -/
def Got5 (w : World) (n1 d1 n2 d2 N D : Int) (b5 : Nat) (ok : Bool) (s t : Value) (W : World) : Prop :=
  (W.cell? ⟨w.heap.size, 0, none⟩ = some (.int .i64 n1) ∧ W.cell? ⟨w.heap.size, 1, none⟩ = some (.int .i64 d1) ∧ W.cell? ⟨w.heap.size + 1, 0, none⟩ = some (.int .i64 n2) ∧ W.cell? ⟨w.heap.size + 1, 1, none⟩ = some (.int .i64 d2) ∧ Below w.heap.size w W ∧ w.heap.size + 2 ≤ W.heap.size ∧ W.cell? ⟨b5, 0, none⟩ = some (.int .i64 N) ∧ W.cell? ⟨b5, 1, none⟩ = some (.int .i64 D) ∧ b5 + 1 ≤ W.heap.size) ∧ (∃ b, s = .pointer (some ⟨b, 0, none⟩) ∧ Blk W b (.int .i64 N) (.int .i64 D) ∧ w.heap.size + 2 ≤ b ∧ b + 1 ≤ W.heap.size) ∧ t = .bool ok
end Go.Proofs.YtppmepajcdldkabDoor
