/-
  Structs of two ints that came in: by value, and as the elements of a slice. Nothing of the program stands here.
-/
import Derived.Test.YtklpdfilhgjllaaLaw
import Derived.Lib.SmallJoins
import Derived.Deep.SlicePairs
namespace Go.Proofs.Ytklpdfilhgjllaa.Law
open Go.RowKit Go.ChangeShapes Go.WideShapes Go.Joins Go.Deep
set_option linter.unusedVariables false
/-- A pair of ints as a value. -/
abbrev pairV (z : Int × Int) : Value := .agg #[.int .i64 z.1, .int .i64 z.2]
/-- A slice's cells, two to an element: the row at A holds the pairs, and lies in the heap (nothing is said where there is none). -/
def Row2 (w : World) (A : Option Addr) (zs : List (Int × Int)) : Prop :=
  zs ≠ [] → ∃ b off, A = some ⟨b, off, none⟩ ∧ b < w.heap.size ∧ ∀ j z, zs[j]? = some z → w.cell? ⟨b, off + j * 2, none⟩ = some (.int .i64 z.1) ∧ w.cell? ⟨b, off + j * 2 + 1, none⟩ = some (.int .i64 z.2)
theorem Row2.stays {w w' : World} {A : Option Addr} {zs : List (Int × Int)} (h : Row2 w A zs) (hb : Below w.heap.size w w') : Row2 w' A zs := fun hx => by
  obtain ⟨b, off, e, hlt, hc⟩ := h hx
  exact ⟨b, off, e, Nat.lt_of_lt_of_le hlt hb.size, fun j z hz => ⟨(hb.cell (p := ⟨b, off + j * 2, none⟩) hlt).trans (hc j z hz).1, (hb.cell (p := ⟨b, off + j * 2 + 1, none⟩) hlt).trans (hc j z hz).2⟩⟩
theorem Row2.drewN {w : World} {A : Option Addr} {zs : List (Int × Int)} (h : Row2 w A zs) (k : Nat) : Row2 (w.drewN k) A zs := h
theorem Row2.at_ {w : World} {A : Option Addr} {zs : List (Int × Int)} (h : Row2 w A zs) {k : Nat} {z : Int × Int} (hk : zs[k]? = some z) :
    ∃ b off, A = some ⟨b, off, none⟩ ∧ b < w.heap.size ∧ w.cell? ⟨b, off + k * 2, none⟩ = some (.int .i64 z.1) ∧ w.cell? ⟨b, off + k * 2 + 1, none⟩ = some (.int .i64 z.2) := by
  obtain ⟨b, off, e, hlt, hc⟩ := h (fun e => by rw [e] at hk; simp at hk)
  exact ⟨b, off, e, hlt, hc k z hk⟩
section
variable {H : Type} {enc : TypeId × Value → H} {P : Program}
/-- A struct of two ints that came in by value. -/
theorem in_pair {t : TypeId} {f0 f1 : Field} {W : World} {base : Nat} {v : Value} {d : DataW H} {p : List MemPlace} (ht : P.underlying t = some (.struct #[f0, f1])) (h0 : P.underlying f0.type = some (.int .i64)) (h1 : P.underlying f1.type = some (.int .i64))
    (hone : oneCellFields P #[f0, f1] = true) (hC : P.cellsOf t = 2)
    (hval : Value.okWide P W .any base t v) (hd : DataW.Trod enc P W 0 (fun _ => true) true t v d p) :
    ∃ a b : Int, v = .agg #[.int .i64 a, .int .i64 b] ∧ (Lit.int .i64 a).wf = true ∧ (Lit.int .i64 b).wf = true := by
  obtain ⟨v0, v1, y0, y1, n, rfl, rfl, rfl, t0, t1⟩ := open_agg2 ht hone hC hval hd
  obtain ⟨a, e0, _, wa⟩ := DataW.trod_int h0 t0
  obtain ⟨b, e1, _, wb⟩ := DataW.trod_int h1 t1
  simp at e0 e1
  subst e0
  subst e1
  exact ⟨a, b, rfl, wa, wb⟩
/-- A slice of structs of two ints that came in. -/
theorem in_pairs {t e : TypeId} {f0 f1 : Field} {W : World} {base : Nat} {v : Value} {d : DataW H} {p : List MemPlace} (ht : P.underlying t = some (.slice e)) (he : P.underlying e = some (.struct #[f0, f1]))
    (h0 : P.underlying f0.type = some (.int .i64)) (h1 : P.underlying f1.type = some (.int .i64)) (ce : P.cellsOf e = 2) (o0 : f0.offset = 0) (o1 : f1.offset = 1) (c0 : P.cellsOf f0.type = 1) (c1 : P.cellsOf f1.type = 1)
    (hval : Value.okWide P W .any base t v) (hd : DataW.Trod enc P W 0 (fun _ => true) true t v d p) (_hlt : ∀ x ∈ p, x.block < W.heap.size) :
    ∃ (A : Option Addr) (n c : Nat) (zs : List (Int × Int)), v = .slice A n c ∧ (zs.length = n ∧ n ≤ c ∧ c ≤ maxLen ∧ (∀ z ∈ zs, (Lit.int .i64 z.1).wf = true ∧ (Lit.int .i64 z.2).wf = true) ∧ Row2 W A zs) := by
  obtain ⟨a0, len, cap, rfl⟩ := okWide_slice ht hval
  obtain ⟨fuel, hf⟩ := hd
  simp only [Value.cells] at hf
  rcases open_slice_pairs ht he ce o0 o1 c0 c1 hf with ⟨hcs, hx⟩ | ⟨a, len', cap', m, n, V0, V1, D0, D1, P0, P1, hcs, _, hl, hm, hz, hx, hi⟩
  · simp at hcs
    obtain ⟨rfl, rfl, rfl⟩ := hcs
    exact ⟨none, 0, 0, [], rfl, rfl, Nat.le_refl _, Nat.zero_le _, fun s hs => by simp at hs, fun h => absurd rfl h⟩
  · simp at hcs
    obtain ⟨rfl, rfl, rfl⟩ := hcs
    simp only [if_true] at hz
    have each : ∀ i, i < m → ∃ z : Int × Int, W.cell? (a.add (i * 2)) = some (.int .i64 z.1) ∧ W.cell? (a.add (i * 2 + 1)) = some (.int .i64 z.2) ∧ (Lit.int .i64 z.1).wf = true ∧ (Lit.int .i64 z.2).wf = true := fun i him => by
      obtain ⟨q0, q1, t0, t1⟩ := hi i him
      obtain ⟨x, e0, _, wx⟩ := DataW.trod_int h0 t0
      obtain ⟨y, e1, _, wy⟩ := DataW.trod_int h1 t1
      simp at e0 e1
      exact ⟨(x, y), by rw [q0, e0], by rw [q1, e1], wx, wy⟩
    have pick : ∃ f : Nat → Int × Int, ∀ i, i < m → W.cell? (a.add (i * 2)) = some (.int .i64 (f i).1) ∧ W.cell? (a.add (i * 2 + 1)) = some (.int .i64 (f i).2) ∧ (Lit.int .i64 (f i).1).wf = true ∧ (Lit.int .i64 (f i).2).wf = true :=
      ⟨fun i => if h : i < m then Classical.choose (each i h) else (0, 0), fun i h => by simp only [dif_pos h]; exact Classical.choose_spec (each i h)⟩
    obtain ⟨f, hfi⟩ := pick
    refine ⟨_, len, cap, (List.range len).map f, rfl, by simp, hl, hm, fun z hz' => ?_, fun hne => ?_⟩
    · obtain ⟨i, hi1, rfl⟩ := List.mem_map.1 hz'
      have := List.mem_range.1 hi1
      exact (hfi i (by omega)).2.2
    have hpos : 0 < len := by
      rcases Nat.eq_zero_or_pos len with h | h
      · subst h; simp at hne
      · exact h
    obtain ⟨b, off, spot⟩ := a
    have hspot : spot = none := by simpa [Addr.add] using World.cell?_spot (hfi 0 (by omega)).1
    subst hspot
    have hb : b < W.heap.size := by
      have h := cell_in (hfi 0 (by omega)).1
      rw [add_plain] at h
      exact h
    refine ⟨b, off, rfl, hb, fun j z hj => ?_⟩
    obtain ⟨hlt, hz'⟩ := List.getElem?_eq_some_iff.1 hj
    simp at hlt hz'
    subst hz'
    have h2 := hfi j (by omega)
    rw [add_plain, add_plain, ← Nat.add_assoc] at h2
    exact ⟨h2.1, h2.2.1⟩
end
end Go.Proofs.Ytklpdfilhgjllaa.Law
