/-
  Fractions: the plain mathematics.
-/
import Derived.Lib.Hide
namespace Go.Proofs.Ytammlkaclooohaa
set_option linter.unusedVariables false
namespace F
def good (n d : Int) : Bool := decide (1 ≤ d) && decide (d ≤ 100000) && decide (-100000000 ≤ n) && decide (n ≤ 100000000) && decide (Int.gcd n d = 1)
theorem good_iff {n d : Int} : good n d = true ↔ 1 ≤ d ∧ d ≤ 100000 ∧ -100000000 ≤ n ∧ n ≤ 100000000 ∧ Int.gcd n d = 1 := by
  unfold good
  simp only [Bool.and_eq_true, decide_eq_true_eq, and_assoc]
/-- A fraction made of a numerator and a positive denominator. -/
def mk (n d : Int) : Int × Int × Bool := if good (n / Int.gcd n d) (d / Int.gcd n d) = true then (n / Int.gcd n d, d / Int.gcd n d, true) else (0, 0, false)
theorem gcd_step (x y : Nat) : Nat.gcd y (x % y) = Nat.gcd x y := by rw [Nat.gcd_comm y, ← Nat.gcd_rec, Nat.gcd_comm]
theorem gcd_step' (x y : Nat) : Nat.gcd (y % x) x = Nat.gcd x y := (Nat.gcd_rec x y).symm
theorem gcd_pos {n d : Int} (hd : 1 ≤ d) : 1 ≤ (Int.gcd n d : Int) := by
  have : 0 < Int.gcd n d := Int.gcd_pos_of_ne_zero_right _ (by omega)
  omega
theorem div_facts {n d : Int} (hd : 1 ≤ d) :
    n.tdiv (Int.gcd n d) = n / Int.gcd n d ∧ d.tdiv (Int.gcd n d) = d / Int.gcd n d ∧ 1 ≤ d / Int.gcd n d ∧ d / Int.gcd n d ≤ d ∧ -(n.natAbs : Int) ≤ n / Int.gcd n d ∧ n / Int.gcd n d ≤ n.natAbs := by
  have hg := gcd_pos (n := n) hd
  have h1 := Int.gcd_dvd_left n d
  have h2 := Int.gcd_dvd_right n d
  obtain ⟨a, ha⟩ := h1
  obtain ⟨b, hb⟩ := h2
  refine ⟨Int.tdiv_eq_ediv_of_dvd (Int.gcd_dvd_left n d), Int.tdiv_eq_ediv_of_dvd (Int.gcd_dvd_right n d), ?_, ?_, ?_, ?_⟩
  all_goals
    obtain ⟨G, hG⟩ : ∃ G : Int, G = (Int.gcd n d : Int) := ⟨_, rfl⟩
    rw [← hG] at ha hb hg ⊢
    have ea : n / G = a := by rw [ha]; exact Int.mul_ediv_cancel_left _ (by omega)
    have eb : d / G = b := by rw [hb]; exact Int.mul_ediv_cancel_left _ (by omega)
  · rw [eb]
    rcases Int.lt_or_le b 1 with h | h
    · exfalso
      have : G * b ≤ 0 := Int.mul_nonpos_of_nonneg_of_nonpos (by omega) (by omega)
      omega
    · exact h
  · exact Int.ediv_le_self _ (by omega)
  · rw [ea]
    have := Int.natAbs_mul G a
    rw [← ha] at this
    have h3 : a.natAbs ≤ n.natAbs := by rw [this]; exact Nat.le_mul_of_pos_left _ (by omega)
    omega
  · rw [ea]
    have := Int.natAbs_mul G a
    rw [← ha] at this
    have h3 : a.natAbs ≤ n.natAbs := by rw [this]; exact Nat.le_mul_of_pos_left _ (by omega)
    omega
/-- What is made in lowest terms is a fraction exactly within the limits. -/
theorem good_low {n d : Int} (hd : 1 ≤ d) : good (n / Int.gcd n d) (d / Int.gcd n d) = true ↔ d / Int.gcd n d ≤ 100000 ∧ -100000000 ≤ n / Int.gcd n d ∧ n / Int.gcd n d ≤ 100000000 := by
  have hg := gcd_pos (n := n) hd
  have hd2 := (div_facts (n := n) hd).2.2.1
  have h1 : Int.gcd (n / Int.gcd n d) (d / Int.gcd n d) = 1 := Int.gcd_ediv_gcd_ediv_gcd (by omega)
  rw [good_iff, h1]
  omega
theorem gcd_zero (q : Int) : ((Int.gcd 0 q : Nat) : Int) = (q.natAbs : Int) := by simp [Int.gcd]
theorem gcd_tmod (p q : Int) : Int.gcd (q.tmod p) p = Int.gcd p q := by
  unfold Int.gcd
  rw [Int.natAbs_tmod, gcd_step' p.natAbs q.natAbs]
theorem tmod_small {p : Int} (q : Int) (hp : ¬ p = 0) : (q.tmod p).natAbs < p.natAbs := by
  rw [Int.natAbs_tmod]
  exact Nat.mod_lt _ (by omega)
end F
end Go.Proofs.Ytammlkaclooohaa
