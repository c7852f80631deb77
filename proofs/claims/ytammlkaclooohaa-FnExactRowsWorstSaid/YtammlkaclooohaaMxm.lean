/-
  Matrices and sums of products: the mathematics.
-/
import Derived.Test.YtammlkaclooohaaWts
import Derived.Test.YtammlkaclooohaaPcl
import Derived.Test.YtammlkaclooohaaWm8
namespace Go.Proofs.Ytammlkaclooohaa
open Go.RowKit
set_option linter.unusedVariables false
namespace Q
/-- The sum of the first k products of weights and numbers. -/
def sfK (ws : List Int) (g : Nat → Int) : Nat → Int
  | 0 => 0
  | k + 1 => sfK ws g k + ws.getD k 0 * g k
theorem sfK_succ {ws : List Int} {g : Nat → Int} {k : Nat} {z : Int} (h : ws[k]? = some z) : sfK ws g (k + 1) = sfK ws g k + z * g k := by
  show sfK ws g k + ws.getD k 0 * g k = _
  rw [List.getD_eq_getElem?_getD, h]
  rfl
theorem prod_bd {z x H : Int} (h0 : 0 ≤ z) (h9 : z ≤ 9) (x0 : 0 ≤ x) (x9 : x ≤ H) : 0 ≤ z * x ∧ z * x ≤ 9 * H := by
  have a := Int.mul_nonneg h0 x0
  have b := Int.mul_le_mul h9 x9 x0 (by omega)
  omega
theorem sfK_bd {ws : List Int} {g : Nat → Int} {H : Int} (hw : within 0 9 ws = true) : ∀ k, k ≤ ws.length → (∀ j, j < k → 0 ≤ g j ∧ g j ≤ H) → 0 ≤ sfK ws g k ∧ sfK ws g k ≤ 9 * H * (k : Int)
  | 0, _, _ => by simp [sfK]
  | k + 1, hk, hg => by
    obtain ⟨i1, i2⟩ := sfK_bd hw k (by omega) fun j hj => hg j (by omega)
    obtain ⟨z, hz, z1, z2⟩ := within_at hw (show k < ws.length by omega)
    obtain ⟨g1, g2⟩ := hg k (by omega)
    have hp := prod_bd z1 z2 g1 g2
    rw [sfK_succ hz, show ((k + 1 : Nat) : Int) = (k : Int) + 1 by omega, Int.mul_add]
    omega
/-- A row of a matrix with rows of length m. -/
def mrQ (m : Nat) (l : List Int) : Bool := decide (l.length = m) && decide (1 ≤ l.length) && decide (l.length ≤ 3) && within 0 40 l
def mxQ (M : List (List Int)) : Bool := decide (1 ≤ M.length) && decide ((M.length : Int) ≤ 3) && M.all (mrQ (M.getD 0 []).length)
structure Mx (M : List (List Int)) (m : Nat) : Prop where
  n1 : 1 ≤ M.length
  n3 : M.length ≤ 3
  m1 : 1 ≤ m
  m3 : m ≤ 3
  row : ∀ l ∈ M, l.length = m ∧ within 0 40 l = true
theorem mr_iff {m : Nat} {l : List Int} : mrQ m l = true ↔ l.length = m ∧ 1 ≤ l.length ∧ l.length ≤ 3 ∧ within 0 40 l = true := by simp [mrQ, and_assoc]
theorem mx_iff {M : List (List Int)} : mxQ M = true ↔ Mx M (M.getD 0 []).length := by
  rw [mxQ, Bool.and_eq_true, Bool.and_eq_true, decide_eq_true_iff, decide_eq_true_iff, List.all_eq_true]
  constructor
  · rintro ⟨⟨h1, h2⟩, h3⟩
    have h0 := mr_iff.1 (h3 (M.getD 0 []) (by rw [List.getD_eq_getElem?_getD, List.getElem?_eq_getElem (by omega)]; exact List.getElem_mem _))
    exact ⟨h1, by omega, h0.2.1, h0.2.2.1, fun l hl => ⟨(mr_iff.1 (h3 l hl)).1, (mr_iff.1 (h3 l hl)).2.2.2⟩⟩
  · rintro ⟨h1, h2, h3, h4, h5⟩
    exact ⟨⟨h1, by omega⟩, fun l hl => mr_iff.2 ⟨(h5 l hl).1, by rw [(h5 l hl).1]; exact h3, by rw [(h5 l hl).1]; exact h4, (h5 l hl).2⟩⟩
theorem Mx.dst {M : List (List Int)} {m : Nat} (h : Mx M m) {i j : Nat} (hi : i < M.length) (hj : j < m) : 0 ≤ Q.dst M i j ∧ Q.dst M i j ≤ 40 := by
  obtain ⟨h1, h2⟩ := h.row _ (List.getElem_mem hi)
  obtain ⟨z, hz, z1, z2⟩ := within_at h2 (k := j) (by omega)
  have e : Q.dst M i j = z := by
    unfold Q.dst
    rw [List.getD_eq_getElem?_getD (l := M), List.getElem?_eq_getElem hi]
    simp only [Option.getD_some]
    rw [List.getD_eq_getElem?_getD, hz]
    rfl
  omega
/-- The sum of the products for a column. -/
def colF (M : List (List Int)) (ws : List Int) (j : Nat) : Int := sfK ws (fun i => dst M i j) M.length
def colS (M : List (List Int)) (ws : List Int) (m : Nat) : List Int := (List.range m).map (colF M ws)
theorem colS_len (M : List (List Int)) (ws : List Int) (m : Nat) : (colS M ws m).length = m := by simp [colS]
theorem colF_bd {M : List (List Int)} {m : Nat} (h : Mx M m) {ws : List Int} (hw : within 0 9 ws = true) (hl : ws.length = M.length) {j : Nat} (hj : j < m) {k : Nat} (hk : k ≤ M.length) : 0 ≤ sfK ws (fun i => dst M i j) k ∧ sfK ws (fun i => dst M i j) k ≤ 1080 := by
  obtain ⟨h1, h2⟩ := sfK_bd (g := fun i => dst M i j) (H := 40) hw k (by omega) fun i hi => h.dst (by omega) hj
  have := h.n3
  omega
theorem colS_vals {M : List (List Int)} {m : Nat} (h : Mx M m) {ws : List Int} (hw : within 0 9 ws = true) (hl : ws.length = M.length) : ∀ z ∈ colS M ws m, 0 ≤ z ∧ z ≤ 1080 := fun z hz => by
  obtain ⟨j, hj, rfl⟩ := List.mem_map.1 hz
  exact colF_bd h hw hl (List.mem_range.1 hj) (Nat.le_refl _)
end Q
end Go.Proofs.Ytammlkaclooohaa
