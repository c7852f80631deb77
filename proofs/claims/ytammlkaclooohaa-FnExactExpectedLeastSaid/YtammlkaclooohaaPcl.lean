/-
  Where the numbers of a problem lie.
-/
import Derived.Test.YtammlkaclooohaaPr2
namespace Go.Proofs.Ytammlkaclooohaa
open Go.RowKit
set_option linter.unusedVariables false
/-- The cells of a table: L's rows, all n long, behind ⟨b, off⟩. -/
def Tab (W : World) (b off n : Nat) (L : List (List Int)) : Prop :=
  ∀ x, x < L.length → ∃ b' o' d, W.cell? ⟨b, off + x, none⟩ = some (.slice (some ⟨b', o', none⟩) n d) ∧ ∀ y, y < n → W.cell? ⟨b', o' + y, none⟩ = some (.int .i64 (Q.dst L x y))
theorem NRow.tab {w : World} {b off n : Nat} {xs : List Value} {L : List (List Int)} (h : NRow w (some ⟨b, off, none⟩) xs L) (hs : ∀ l ∈ L, l.length = n) (hn : 1 ≤ n) : Tab w b off n L := fun x hx => by
  obtain ⟨b1, o1, b', o', d, e, _, hc, _, _⟩ := h.ent hs hx (y := 0) (by omega)
  cases e
  refine ⟨b', o', d, hc, fun y hy => ?_⟩
  obtain ⟨b2, o2, b3, o3, d3, e, _, hc3, _, hv⟩ := h.ent hs hx hy
  cases e
  rw [hc] at hc3
  cases hc3
  exact hv
theorem NRow.some_ {w : World} {A : Option Addr} {xs : List Value} {L : List (List Int)} (h : NRow w A xs L) (hL : 1 ≤ L.length) : ∃ b off, A = some ⟨b, off, none⟩ := by
  obtain ⟨b, off, B, d, e, _⟩ := h.row_at (List.getElem?_eq_getElem (show 0 < L.length by omega))
  exact ⟨b, off, e⟩
theorem Tab.drewN {W : World} {b off n : Nat} {L : List (List Int)} (h : Tab W b off n L) (m : Nat) : Tab (W.drewN m) b off n L := h
namespace Q
/-- How many of the first k states serve request r. -/
def cntK (S : List (List Int)) (r : Nat) : Nat → Nat
  | 0 => 0
  | k + 1 => cntK S r k + (if dst S r k = -1 then 0 else 1)
theorem cntK_le (S : List (List Int)) (r : Nat) : ∀ k, cntK S r k ≤ k
  | 0 => Nat.le_refl _
  | k + 1 => by
    have := cntK_le S r k
    show cntK S r k + _ ≤ k + 1
    split <;> omega
/-- The number of choices for the first r requests. -/
def algK (n : Nat) (S : List (List Int)) : Nat → Nat
  | 0 => 1
  | r + 1 => algK n S r * cntK S r n ^ n
theorem pow_bd {c j : Nat} (hc : c ≤ 4) (hj : j ≤ 4) : c ^ j ≤ 256 :=
  Nat.le_trans (Nat.pow_le_pow_left hc j) (Nat.le_trans (Nat.pow_le_pow_right (by omega) hj) (by decide))
theorem algK_le {n : Nat} {S : List (List Int)} (hn : n ≤ 4) : ∀ r, algK n S r ≤ 256 ^ r
  | 0 => Nat.le_refl _
  | r + 1 => by
    have h1 := algK_le (S := S) hn r
    have h2 : cntK S r n ^ n ≤ 256 := pow_bd (Nat.le_trans (cntK_le S r n) hn) hn
    show algK n S r * _ ≤ 256 ^ (r + 1)
    rw [Nat.pow_succ]
    exact Nat.mul_le_mul h1 h2
theorem alg_part {n : Nat} {S : List (List Int)} (hn : n ≤ 4) {r j : Nat} (hr : r ≤ 4) (hj : j ≤ 4) : algK n S r * cntK S r n ^ j ≤ 4294967296 * 256 := by
  refine Nat.mul_le_mul (Nat.le_trans (algK_le hn r) ?_) (pow_bd (Nat.le_trans (cntK_le S r n) hn) hj)
  exact Nat.le_trans (Nat.pow_le_pow_right (by omega) hr) (by decide)
noncomputable def cnt8 (L S : List (List Int)) : Int × Bool := if prQ L S then ((algK L.length S S.length : Nat), true) else (0, false)
theorem cnt8_no {L S : List (List Int)} (h : prQ L S = false) : cnt8 L S = (0, false) := if_neg (by simp [h])
theorem cnt8_yes {L S : List (List Int)} (h : prQ L S = true) : cnt8 L S = (((algK L.length S S.length : Nat) : Int), true) := if_pos h
end Q
end Go.Proofs.Ytammlkaclooohaa
