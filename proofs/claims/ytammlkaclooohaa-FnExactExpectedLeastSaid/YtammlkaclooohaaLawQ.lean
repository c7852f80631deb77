/-
  A struct of a slice of ints and a slice of slices of ints that came in by value (Chances).
-/
import Derived.Test.YtammlkaclooohaaLawP
namespace Go.Proofs.Ytammlkaclooohaa.Law
open Go.RowKit Go.ChangeShapes Go.WideShapes Go.Joins Go.Deep
set_option linter.unusedVariables false
section
variable {H : Type} {enc : TypeId × Value → H} {P : Program}
theorem in_chances {t : TypeId} {f0 f1 : Field} {e q : TypeId} {W : World} {base : Nat} {v : Value} {d : DataW H} {p : List MemPlace} (ht : P.underlying t = some (.struct #[f0, f1])) (h0 : P.underlying f0.type = some (.slice q)) (h1 : P.underlying f1.type = some (.slice e))
    (he : P.underlying e = some (.slice q)) (hq : P.underlying q = some (.int .i64)) (ce : P.cellsOf e = 1) (cq : P.cellsOf q = 1)
    (hone : oneCellFields P #[f0, f1] = true) (hC : P.cellsOf t = 2)
    (hval : Value.okWide P W .any base t v) (hd : DataW.Trod enc P W 0 (fun _ => true) true t v d p) :
    ∃ (A : Option Addr) (n c : Nat) (ws : List Int) (B : Option Addr) (m d : Nat) (ys : List Value) (S : List (List Int)), v = .agg #[.slice A n c, .slice B m d] ∧
      (ws.length = n ∧ n ≤ c ∧ c ≤ maxLen ∧ (∀ z ∈ ws, (Lit.int .i64 z).wf = true) ∧ Row W A (ws.map (Value.int .i64))) ∧ (S.length = m ∧ m ≤ d ∧ d ≤ maxLen ∧ (∀ l ∈ S, l.length ≤ maxLen) ∧ NRow W B ys S) := by
  obtain ⟨cs, rfl, hsz⟩ := okWide_struct ht hval
  obtain ⟨c0, c1, rfl⟩ := array2 (hsz.trans hC)
  obtain ⟨fuel, hf⟩ := hd
  obtain ⟨xs, n, _, _, hl, hlen, hg⟩ := DataW.trod_struct ht hf
  match xs, hlen with
  | [y0, y1], _ =>
    obtain ⟨o0, k0⟩ := hone_of hone 0 f0 rfl
    obtain ⟨o1, k1⟩ := hone_of hone 1 f1 rfl
    have t0 : DataW.trod enc P W 0 (fun _ => true) true n f0.type [c0] = some y0 := by simpa [Value.cells, o0, k0] using hg 0 f0 rfl
    have t1 : DataW.trod enc P W 0 (fun _ => true) true n f1.type [c1] = some y1 := by simpa [Value.cells, o1, k1] using hg 1 f1 rfl
    obtain ⟨A, n2, cp, ws, e2, h2⟩ := in_ints_of h0 hq cq t0
    obtain ⟨B, n3, cq, ys, S, e3, h3⟩ := in_rows_of h1 he hq ce cq t1
    subst e2
    subst e3
    exact ⟨A, n2, cp, ws, B, n3, cq, ys, S, rfl, h2, h3⟩
end
end Go.Proofs.Ytammlkaclooohaa.Law
