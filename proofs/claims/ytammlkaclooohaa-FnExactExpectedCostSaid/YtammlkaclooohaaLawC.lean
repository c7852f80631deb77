/-
  A struct of two ints, two slices of ints and an int that came in by value (a Cache). Nothing of the program stands here.
-/
import Derived.Test.YtammlkaclooohaaLaw
import Derived.Lib.SmallJoins
namespace Go.Proofs.Ytammlkaclooohaa.Law
open Go.RowKit Go.ChangeShapes Go.WideShapes Go.Joins Go.Deep
set_option linter.unusedVariables false
section
variable {H : Type} {enc : TypeId × Value → H} {P : Program}
/-- A cell that reads as a slice of ints. -/
theorem in_ints_of {t e : TypeId} {W : World} {v : Value} {fuel : Nat} {x : DataW H × List MemPlace} (ht : P.underlying t = some (.slice e)) (he : P.underlying e = some (.int .i64)) (hc : P.cellsOf e = 1)
    (hf : DataW.trod enc P W 0 (fun _ => true) true fuel t [v] = some x) :
    ∃ (A : Option Addr) (n c : Nat) (zs : List Int), v = .slice A n c ∧ (zs.length = n ∧ n ≤ c ∧ c ≤ maxLen ∧ (∀ z ∈ zs, (Lit.int .i64 z).wf = true) ∧ Row W A (zs.map (Value.int .i64))) := by
  rcases open_ints ht he hc hf with ⟨hcs, hx⟩ | ⟨a, len, cap, zs, hcs, _, hl, hm, hz, hx, hcell, hwf⟩
  · simp at hcs
    obtain rfl := hcs
    exact ⟨none, 0, 0, [], rfl, rfl, Nat.le_refl _, Nat.zero_le _, fun z hz => by simp at hz, fun h => absurd rfl h⟩
  · simp at hcs
    obtain rfl := hcs
    simp only [if_true] at hz
    refine ⟨_, len, cap, zs.take len, rfl, by simp; omega, hl, hm, fun z hz => hwf z (List.mem_of_mem_take hz), fun hne => ?_⟩
    have h0 : 0 < len := by
      rcases Nat.eq_zero_or_pos len with h | h
      · subst h; simp at hne
      · exact h
    obtain ⟨b, off, spot⟩ := a
    have hspot : spot = none := by simpa [Addr.add] using World.cell?_spot (hcell 0 (by omega))
    subst hspot
    refine ⟨b, off, rfl, cell_in (hcell 0 (by omega)), fun j u hu => ?_⟩
    rw [List.getElem?_map, Option.map_eq_some_iff] at hu
    obtain ⟨X, hX, rfl⟩ := hu
    have hj : j < len := by
      have := (List.getElem?_eq_some_iff.1 hX).1
      simp at this
      omega
    have hX' : zs.getD j 0 = X := by
      rw [List.getElem?_take_of_lt hj] at hX
      simp [List.getD, hX]
    have h1 := hcell j (by omega)
    rw [add_plain, hX'] at h1
    exact h1
theorem array5 {α : Type} {cs : Array α} (h : cs.size = 5) : ∃ c0 c1 c2 c3 c4, cs = #[c0, c1, c2, c3, c4] := by
  obtain ⟨l⟩ := cs
  match l, h with
  | [c0, c1, c2, c3, c4], _ => exact ⟨c0, c1, c2, c3, c4, rfl⟩
theorem in_cache {t : TypeId} {f0 f1 f2 f3 f4 : Field} {e2 e3 : TypeId} {W : World} {base : Nat} {v : Value} {d : DataW H} {p : List MemPlace} (ht : P.underlying t = some (.struct #[f0, f1, f2, f3, f4])) (h0 : P.underlying f0.type = some (.int .i64)) (h1 : P.underlying f1.type = some (.int .i64))
    (h2 : P.underlying f2.type = some (.slice e2)) (h2e : P.underlying e2 = some (.int .i64)) (h2c : P.cellsOf e2 = 1) (h3 : P.underlying f3.type = some (.slice e3)) (h3e : P.underlying e3 = some (.int .i64)) (h3c : P.cellsOf e3 = 1) (h4 : P.underlying f4.type = some (.int .i64))
    (hone : oneCellFields P #[f0, f1, f2, f3, f4] = true) (hC : P.cellsOf t = 5)
    (hval : Value.okWide P W .any base t v) (hd : DataW.Trod enc P W 0 (fun _ => true) true t v d p) :
    ∃ (a b : Int) (A : Option Addr) (n c : Nat) (ps : List Int) (B : Option Addr) (m d : Nat) (ms : List Int) (h : Int), v = .agg #[.int .i64 a, .int .i64 b, .slice A n c, .slice B m d, .int .i64 h] ∧
      (ps.length = n ∧ n ≤ c ∧ c ≤ maxLen ∧ Row W A (ps.map (Value.int .i64))) ∧ (ms.length = m ∧ m ≤ d ∧ d ≤ maxLen ∧ Row W B (ms.map (Value.int .i64))) ∧ ((Lit.int .i64 a).wf = true ∧ (Lit.int .i64 b).wf = true ∧ (Lit.int .i64 h).wf = true) := by
  obtain ⟨cs, rfl, hsz⟩ := okWide_struct ht hval
  obtain ⟨c0, c1, c2, c3, c4, rfl⟩ := array5 (hsz.trans hC)
  obtain ⟨fuel, hf⟩ := hd
  obtain ⟨xs, n, _, _, hl, hlen, hg⟩ := DataW.trod_struct ht hf
  match xs, hlen with
  | [y0, y1, y2, y3, y4], _ =>
    obtain ⟨o0, k0⟩ := hone_of hone 0 f0 rfl
    obtain ⟨o1, k1⟩ := hone_of hone 1 f1 rfl
    obtain ⟨o2, k2⟩ := hone_of hone 2 f2 rfl
    obtain ⟨o3, k3⟩ := hone_of hone 3 f3 rfl
    obtain ⟨o4, k4⟩ := hone_of hone 4 f4 rfl
    have t0 : DataW.trod enc P W 0 (fun _ => true) true n f0.type [c0] = some y0 := by simpa [Value.cells, o0, k0] using hg 0 f0 rfl
    have t1 : DataW.trod enc P W 0 (fun _ => true) true n f1.type [c1] = some y1 := by simpa [Value.cells, o1, k1] using hg 1 f1 rfl
    have t2 : DataW.trod enc P W 0 (fun _ => true) true n f2.type [c2] = some y2 := by simpa [Value.cells, o2, k2] using hg 2 f2 rfl
    have t3 : DataW.trod enc P W 0 (fun _ => true) true n f3.type [c3] = some y3 := by simpa [Value.cells, o3, k3] using hg 3 f3 rfl
    have t4 : DataW.trod enc P W 0 (fun _ => true) true n f4.type [c4] = some y4 := by simpa [Value.cells, o4, k4] using hg 4 f4 rfl
    obtain ⟨a, e0, _, wa⟩ := DataW.trod_int h0 t0
    obtain ⟨b, e1, _, wb⟩ := DataW.trod_int h1 t1
    obtain ⟨h, e4, _, wh⟩ := DataW.trod_int h4 t4
    obtain ⟨A, n2, cp, ps, e2, l2, m2, x2, _, r2⟩ := in_ints_of h2 h2e h2c t2
    obtain ⟨B, n3, cq, ms, e3, l3, m3, x3, _, r3⟩ := in_ints_of h3 h3e h3c t3
    simp at e0 e1 e4
    subst e0
    subst e1
    subst e2
    subst e3
    subst e4
    exact ⟨a, b, A, n2, cp, ps, B, n3, cq, ms, h, rfl, ⟨l2, m2, x2, r2⟩, ⟨l3, m3, x3, r3⟩, wa, wb, wh⟩
end
end Go.Proofs.Ytammlkaclooohaa.Law
