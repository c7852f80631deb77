/-
  A struct of one slice of slices of ints that came in by value (a Metric). A struct of two slices of slices of ints that came in by value (a Problem). A struct of a slice of ints and a slice of slices of ints that came in by value (Chances).
-/
import Derived.Test.YtammlkaclooohaaLawC
import Derived.Test.YtammlkaclooohaaNestL
import Derived.OpenShut
/- A struct of one slice of slices of ints that came in by value (a Metric). -/
namespace Go.Proofs.Ytammlkaclooohaa.Law
open Go.RowKit Go.ChangeShapes Go.WideShapes Go.Joins Go.Deep
set_option linter.unusedVariables false
section
variable {H : Type} {enc : TypeId × Value → H} {P : Program}
theorem in_rows_of {t e q : TypeId} {W : World} {v : Value} {fuel : Nat} {x : DataW H × List MemPlace} (ht : P.underlying t = some (.slice e)) (he : P.underlying e = some (.slice q)) (hq : P.underlying q = some (.int .i64)) (ce : P.cellsOf e = 1) (cq : P.cellsOf q = 1)
    (hf : DataW.trod enc P W 0 (fun _ => true) true fuel t [v] = some x) :
    ∃ (A : Option Addr) (n c : Nat) (xs : List Value) (L : List (List Int)), v = .slice A n c ∧ (L.length = n ∧ n ≤ c ∧ c ≤ maxLen ∧ (∀ l ∈ L, l.length ≤ maxLen) ∧ NRow W A xs L) := by
  rcases open_slice ht hf with ⟨hcs, hx⟩ | ⟨a, len', cap', m, n, D, Pl, hcs, _, hl, hm, hz, hx, hi⟩
  · simp at hcs
    obtain rfl := hcs
    exact ⟨none, 0, 0, [], [], rfl, rfl, Nat.le_refl _, Nat.zero_le _, fun l hl => by simp at hl, fun h => absurd rfl h, rfl, fun j x l h => by simp at h⟩
  · simp at hcs
    obtain rfl := hcs
    simp only [if_true] at hz
    have each : ∀ i, i < m → ∃ y : Value × List Int, W.cell? (a.add i) = some y.1 ∧ ∃ B c, y.1 = .slice B y.2.length c ∧ y.2.length ≤ maxLen ∧ Row W B (ivs y.2) := fun i him => by
      obtain ⟨cs', h1, h2⟩ := hi i him
      rw [ce] at h1
      obtain ⟨_, hlen, hcell⟩ := World.cells?_some h1
      match cs', hlen with
      | [v0], _ =>
        have c0 := hcell 0 (by omega)
        rw [add_add] at c0
        obtain ⟨B, n2, cp, ps, e2, l2, m2, x2, _, r2⟩ := in_ints_of he hq cq h2
        exact ⟨(v0, ps), by simpa using c0, B, cp, by rw [l2]; exact e2, by show ps.length ≤ _; omega, r2⟩
    have pick : ∃ f : Nat → Value × List Int, ∀ i, i < m → W.cell? (a.add i) = some (f i).1 ∧ ∃ B c, (f i).1 = .slice B (f i).2.length c ∧ (f i).2.length ≤ maxLen ∧ Row W B (ivs (f i).2) :=
      ⟨fun i => if h : i < m then Classical.choose (each i h) else (undef, []), fun i h => by simp only [dif_pos h]; exact Classical.choose_spec (each i h)⟩
    obtain ⟨f, hfi⟩ := pick
    refine ⟨_, len', cap', (List.range len').map fun i => (f i).1, (List.range len').map fun i => (f i).2, rfl, by simp, hl, hm, fun l hlm => ?_, fun hne => ?_, by simp, fun j x l h1 h2 => ?_⟩
    · obtain ⟨i, hi1, rfl⟩ := List.mem_map.1 hlm
      have := List.mem_range.1 hi1
      obtain ⟨_, _, _, _, h, _⟩ := hfi i (by omega)
      exact h
    · have hpos : 0 < len' := by
        rcases Nat.eq_zero_or_pos len' with h | h
        · subst h; simp at hne
        · exact h
      obtain ⟨b, off, spot⟩ := a
      have hspot : spot = none := by simpa [Addr.add] using World.cell?_spot (hfi 0 (by omega)).1
      subst hspot
      have hb : b < W.heap.size := by
        have h := cell_in (hfi 0 (by omega)).1
        rw [add_plain] at h
        exact h
      refine ⟨b, off, rfl, hb, fun j z hj => ?_⟩
      obtain ⟨hlt, hz'⟩ := List.getElem?_eq_some_iff.1 hj
      simp at hlt hz'
      subst hz'
      have h2 := hfi j (by omega)
      rw [add_plain] at h2
      exact h2.1
    · obtain ⟨hlt, hz'⟩ := List.getElem?_eq_some_iff.1 h1
      obtain ⟨hlt2, hz2⟩ := List.getElem?_eq_some_iff.1 h2
      simp at hlt hz' hz2
      subst hz' hz2
      obtain ⟨_, B, c, h1, _, h2⟩ := hfi j (by omega)
      exact ⟨B, c, h1, h2⟩
theorem array1 {α : Type} {cs : Array α} (h : cs.size = 1) : ∃ c0, cs = #[c0] := by
  obtain ⟨l⟩ := cs
  match l, h with
  | [c0], _ => exact ⟨c0, rfl⟩
theorem in_metric {t : TypeId} {f0 : Field} {e q : TypeId} {W : World} {base : Nat} {v : Value} {d : DataW H} {p : List MemPlace} (ht : P.underlying t = some (.struct #[f0])) (h0 : P.underlying f0.type = some (.slice e))
    (he : P.underlying e = some (.slice q)) (hq : P.underlying q = some (.int .i64)) (ce : P.cellsOf e = 1) (cq : P.cellsOf q = 1)
    (hone : oneCellFields P #[f0] = true) (hC : P.cellsOf t = 1)
    (hval : Value.okWide P W .any base t v) (hd : DataW.Trod enc P W 0 (fun _ => true) true t v d p) :
    ∃ (A : Option Addr) (n c : Nat) (xs : List Value) (L : List (List Int)), v = .agg #[.slice A n c] ∧ (L.length = n ∧ n ≤ c ∧ c ≤ maxLen ∧ (∀ l ∈ L, l.length ≤ maxLen) ∧ NRow W A xs L) := by
  obtain ⟨cs, rfl, hsz⟩ := okWide_struct ht hval
  obtain ⟨c0, rfl⟩ := array1 (hsz.trans hC)
  obtain ⟨fuel, hf⟩ := hd
  obtain ⟨xs, n, _, _, hl, hlen, hg⟩ := DataW.trod_struct ht hf
  match xs, hlen with
  | [y0], _ =>
    obtain ⟨o0, k0⟩ := hone_of hone 0 f0 rfl
    have t0 : DataW.trod enc P W 0 (fun _ => true) true n f0.type [c0] = some y0 := by simpa [Value.cells, o0, k0] using hg 0 f0 rfl
    obtain ⟨A, n2, cp, xs, L, e2, h2⟩ := in_rows_of h0 he hq ce cq t0
    subst e2
    exact ⟨A, n2, cp, xs, L, rfl, h2⟩
end
end Go.Proofs.Ytammlkaclooohaa.Law

/- A struct of two slices of slices of ints that came in by value (a Problem). -/
namespace Go.Proofs.Ytammlkaclooohaa.Law
open Go.RowKit Go.ChangeShapes Go.WideShapes Go.Joins Go.Deep
set_option linter.unusedVariables false
section
variable {H : Type} {enc : TypeId × Value → H} {P : Program}
theorem array2 {α : Type} {cs : Array α} (h : cs.size = 2) : ∃ c0 c1, cs = #[c0, c1] := by
  obtain ⟨l⟩ := cs
  match l, h with
  | [c0, c1], _ => exact ⟨c0, c1, rfl⟩
theorem in_problem {t : TypeId} {f0 f1 : Field} {e q : TypeId} {W : World} {base : Nat} {v : Value} {d : DataW H} {p : List MemPlace} (ht : P.underlying t = some (.struct #[f0, f1])) (h0 : P.underlying f0.type = some (.slice e)) (h1 : P.underlying f1.type = some (.slice e))
    (he : P.underlying e = some (.slice q)) (hq : P.underlying q = some (.int .i64)) (ce : P.cellsOf e = 1) (cq : P.cellsOf q = 1)
    (hone : oneCellFields P #[f0, f1] = true) (hC : P.cellsOf t = 2)
    (hval : Value.okWide P W .any base t v) (hd : DataW.Trod enc P W 0 (fun _ => true) true t v d p) :
    ∃ (A : Option Addr) (n c : Nat) (xs : List Value) (L : List (List Int)) (B : Option Addr) (m d : Nat) (ys : List Value) (S : List (List Int)), v = .agg #[.slice A n c, .slice B m d] ∧
      (L.length = n ∧ n ≤ c ∧ c ≤ maxLen ∧ (∀ l ∈ L, l.length ≤ maxLen) ∧ NRow W A xs L) ∧ (S.length = m ∧ m ≤ d ∧ d ≤ maxLen ∧ (∀ l ∈ S, l.length ≤ maxLen) ∧ NRow W B ys S) := by
  obtain ⟨cs, rfl, hsz⟩ := okWide_struct ht hval
  obtain ⟨c0, c1, rfl⟩ := array2 (hsz.trans hC)
  obtain ⟨fuel, hf⟩ := hd
  obtain ⟨xs, n, _, _, hl, hlen, hg⟩ := DataW.trod_struct ht hf
  match xs, hlen with
  | [y0, y1], _ =>
    obtain ⟨o0, k0⟩ := hone_of hone 0 f0 rfl
    obtain ⟨o1, k1⟩ := hone_of hone 1 f1 rfl
    have t0 : DataW.trod enc P W 0 (fun _ => true) true n f0.type [c0] = some y0 := by simpa [Value.cells, o0, k0] using hg 0 f0 rfl
    have t1 : DataW.trod enc P W 0 (fun _ => true) true n f1.type [c1] = some y1 := by simpa [Value.cells, o1, k1] using hg 1 f1 rfl
    obtain ⟨A, n2, cp, xs, L, e2, h2⟩ := in_rows_of h0 he hq ce cq t0
    obtain ⟨B, n3, cq, ys, S, e3, h3⟩ := in_rows_of h1 he hq ce cq t1
    subst e2
    subst e3
    exact ⟨A, n2, cp, xs, L, B, n3, cq, ys, S, rfl, h2, h3⟩
end
end Go.Proofs.Ytammlkaclooohaa.Law

/- A struct of a slice of ints and a slice of slices of ints that came in by value (Chances). -/
namespace Go.Proofs.Ytammlkaclooohaa.Law
open Go.RowKit Go.ChangeShapes Go.WideShapes Go.Joins Go.Deep
set_option linter.unusedVariables false
section
variable {H : Type} {enc : TypeId × Value → H} {P : Program}
theorem in_chances {t : TypeId} {f0 f1 : Field} {e q : TypeId} {W : World} {base : Nat} {v : Value} {d : DataW H} {p : List MemPlace} (ht : P.underlying t = some (.struct #[f0, f1])) (h0 : P.underlying f0.type = some (.slice q)) (h1 : P.underlying f1.type = some (.slice e))
    (he : P.underlying e = some (.slice q)) (hq : P.underlying q = some (.int .i64)) (ce : P.cellsOf e = 1) (cq : P.cellsOf q = 1)
    (hone : oneCellFields P #[f0, f1] = true) (hC : P.cellsOf t = 2)
    (hval : Value.okWide P W .any base t v) (hd : DataW.Trod enc P W 0 (fun _ => true) true t v d p) :
    ∃ (A : Option Addr) (n c : Nat) (ws : List Int) (B : Option Addr) (m d : Nat) (ys : List Value) (S : List (List Int)), v = .agg #[.slice A n c, .slice B m d] ∧
      (ws.length = n ∧ n ≤ c ∧ c ≤ maxLen ∧ (∀ z ∈ ws, (Lit.int .i64 z).wf = true) ∧ Row W A (ws.map (Value.int .i64))) ∧ (S.length = m ∧ m ≤ d ∧ d ≤ maxLen ∧ (∀ l ∈ S, l.length ≤ maxLen) ∧ NRow W B ys S) := by
  obtain ⟨cs, rfl, hsz⟩ := okWide_struct ht hval
  obtain ⟨c0, c1, rfl⟩ := array2 (hsz.trans hC)
  obtain ⟨fuel, hf⟩ := hd
  obtain ⟨xs, n, _, _, hl, hlen, hg⟩ := DataW.trod_struct ht hf
  match xs, hlen with
  | [y0, y1], _ =>
    obtain ⟨o0, k0⟩ := hone_of hone 0 f0 rfl
    obtain ⟨o1, k1⟩ := hone_of hone 1 f1 rfl
    have t0 : DataW.trod enc P W 0 (fun _ => true) true n f0.type [c0] = some y0 := by simpa [Value.cells, o0, k0] using hg 0 f0 rfl
    have t1 : DataW.trod enc P W 0 (fun _ => true) true n f1.type [c1] = some y1 := by simpa [Value.cells, o1, k1] using hg 1 f1 rfl
    obtain ⟨A, n2, cp, ws, e2, h2⟩ := in_ints_of h0 hq cq t0
    obtain ⟨B, n3, cq, ys, S, e3, h3⟩ := in_rows_of h1 he hq ce cq t1
    subst e2
    subst e3
    exact ⟨A, n2, cp, ws, B, n3, cq, ys, S, rfl, h2, h3⟩
end
end Go.Proofs.Ytammlkaclooohaa.Law
