/-
  The operations of fractions as plain functions, and the bounds of their products.
-/
import Derived.Test.YtppmepajcdldkaaMake
namespace Go.Proofs.Ytppmepajcdldkaa
open Go.RowKit
set_option linter.unusedVariables false
namespace F
/-- What an operation gives where both fractions are valid; nothing elsewhere. -/
def gate (n1 d1 n2 d2 : Int) (r : Int × Int × Bool) : Int × Int × Bool := if good n1 d1 = true ∧ good n2 d2 = true then r else (0, 0, false)
theorem gate_yes {n1 d1 n2 d2 : Int} (r : Int × Int × Bool) (h1 : good n1 d1 = true) (h2 : good n2 d2 = true) : gate n1 d1 n2 d2 r = r := if_pos ⟨h1, h2⟩
theorem gate_no1 {n1 d1 n2 d2 : Int} (r : Int × Int × Bool) (h1 : good n1 d1 = false) : gate n1 d1 n2 d2 r = (0, 0, false) := if_neg fun h => by rw [h1] at h; exact Bool.noConfusion h.1
theorem gate_no2 {n1 d1 n2 d2 : Int} (r : Int × Int × Bool) (h2 : good n2 d2 = false) : gate n1 d1 n2 d2 r = (0, 0, false) := if_neg fun h => by rw [h2] at h; exact Bool.noConfusion h.2
theorem mul_in {A B x y : Int} (hx1 : -A ≤ x) (hx2 : x ≤ A) (hy1 : -B ≤ y) (hy2 : y ≤ B) : -(A * B) ≤ x * y ∧ x * y ≤ A * B := by
  have e : (x * y).natAbs = x.natAbs * y.natAbs := Int.natAbs_mul x y
  have h1 : x.natAbs * y.natAbs ≤ A.toNat * B.toNat := Nat.mul_le_mul (by omega) (by omega)
  have h2 : ((A.toNat * B.toNat : Nat) : Int) = A * B := by rw [Int.natCast_mul]; congr 1 <;> omega
  omega
/-- A valid fraction's numerator times another's denominator. -/
theorem cross {n1 d1 n2 d2 : Int} (h1 : good n1 d1 = true) (h2 : good n2 d2 = true) :
    (-10000000000000 ≤ n1 * d2 ∧ n1 * d2 ≤ 10000000000000) ∧ (-10000000000000 ≤ n2 * d1 ∧ n2 * d1 ≤ 10000000000000) ∧ (1 ≤ d1 * d2 ∧ d1 * d2 ≤ 10000000000) ∧ (-10000000000000000 ≤ n1 * n2 ∧ n1 * n2 ≤ 10000000000000000) := by
  have g1 := good_iff.1 h1
  have g2 := good_iff.1 h2
  have a1 := mul_in (A := 100000000) (B := 100000) (x := n1) (y := d2) (by omega) (by omega) (by omega) (by omega)
  have a2 := mul_in (A := 100000000) (B := 100000) (x := n2) (y := d1) (by omega) (by omega) (by omega) (by omega)
  have a3 := mul_in (A := 100000) (B := 100000) (x := d1) (y := d2) (by omega) (by omega) (by omega) (by omega)
  have a4 := mul_in (A := 100000000) (B := 100000000) (x := n1) (y := n2) (by omega) (by omega) (by omega) (by omega)
  have a5 : 1 * 1 ≤ d1 * d2 := Int.mul_le_mul (by omega) (by omega) (by omega) (by omega)
  omega
end F
end Go.Proofs.Ytppmepajcdldkaa
