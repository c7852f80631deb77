/-
  Division rounded down: the code's (floorOf) and the model's (l2Floor), each the quotient of the plain mathematics.
-/
import Derived.Test.YtppmepajcdldkabFrac
namespace Go.Proofs.Ytppmepajcdldkab
open Go.RowKit
set_option linter.unusedVariables false
namespace F
theorem floor_parts {n d : Int} (hd : 1 ≤ d) : (n.tmod d < 0 → n / d = n.tdiv d - 1) ∧ (¬ n.tmod d < 0 → n / d = n.tdiv d) := by
  have e := Int.tmod_add_mul_tdiv n d
  have hr : (n.tmod d).natAbs < d.natAbs := by rw [Int.natAbs_tmod]; exact Nat.mod_lt _ (by omega)
  generalize n.tdiv d = q at *
  generalize n.tmod d = r at *
  constructor
  · intro h
    refine ((Int.ediv_emod_unique (a := n) (b := d) (r := r + d) (q := q - 1) (by omega)).2 ⟨?_, by omega, by omega⟩).1
    rw [Int.mul_sub]
    omega
  · intro h
    exact ((Int.ediv_emod_unique (a := n) (b := d) (r := r) (q := q) (by omega)).2 ⟨by omega, by omega, by omega⟩).1
theorem floor_neg {n d : Int} (hd : 1 ≤ d) : n / d = -((-n + d - 1) / d) := by
  have h1 := Int.emod_nonneg n (show d ≠ 0 by omega)
  have h2 := Int.emod_lt_of_pos n (show 0 < d by omega)
  have h3 := Int.emod_add_mul_ediv n d
  generalize n / d = q at *
  generalize n % d = r at *
  have := ((Int.ediv_emod_unique (a := -n + d - 1) (b := d) (r := d - 1 - r) (q := -q) (by omega)).2 ⟨by rw [Int.mul_neg]; omega, by omega, by omega⟩).1
  omega
theorem tdiv_small {n d : Int} (hd : 1 ≤ d) : -(n.natAbs : Int) ≤ n.tdiv d ∧ n.tdiv d ≤ n.natAbs := by
  have : (n.tdiv d).natAbs ≤ n.natAbs := by rw [Int.natAbs_tdiv]; exact Nat.div_le_self _ _
  omega
end F
theorem floorOf_any (n d : Int) (w : World) (h1 : -4000000000000000000 ≤ n) (h2 : n ≤ 4000000000000000000) (hd : 1 ≤ d) :
    Calls Try.prog 35 #[.int .i64 n, .int .i64 d] w fun e w' => e = .returned (.int .i64 (n / d)) ∧ w' = w := by
  obtain ⟨p1, p2⟩ := F.floor_parts (n := n) hd
  obtain ⟨b1, b2⟩ := F.tdiv_small (n := n) hd
  obtain ⟨q, hq⟩ : ∃ q, n.tdiv d = q := ⟨_, rfl⟩
  obtain ⟨r, hr⟩ : ∃ r, n.tmod d = r := ⟨_, rfl⟩
  rw [hq] at p1 p2 b1 b2
  rw [hr] at p1 p2
  have hz : ¬ d = 0 := by omega
  by_cases h : r < 0
  · rw [p1 h]
    clear p1 p2
    go_enter Try.func35, Try.ntmps35
    go_wp2
    go_ret
    exact ⟨rfl, rfl⟩
  · rw [p2 h]
    clear p1 p2
    go_enter Try.func35, Try.ntmps35
    go_wp2
    go_ret
    exact ⟨rfl, rfl⟩
theorem l2Floor_any (n d : Int) (w : World) (h1 : -4000000000000000000 ≤ n) (h2 : n ≤ 4000000000000000000) (hd : 1 ≤ d) (hd2 : d ≤ 4000000000000000000) :
    Calls Try.prog 24 #[.int .i64 n, .int .i64 d] w fun e w' => e = .returned (.int .i64 (n / d)) ∧ w' = w := by
  have hz : ¬ d = 0 := by omega
  by_cases h : 0 ≤ n
  · obtain ⟨q, hq⟩ : ∃ q, n.tdiv d = q := ⟨_, rfl⟩
    obtain ⟨b1, b2⟩ := F.tdiv_small (n := n) hd
    rw [hq] at b1 b2
    rw [← Int.tdiv_eq_ediv_of_nonneg h, hq]
    go_enter Try.func24, Try.ntmps24
    go_wp2
    go_ret
    exact ⟨rfl, rfl⟩
  · obtain ⟨b1, b2⟩ := F.tdiv_small (n := -n + d - 1) hd
    rw [F.floor_neg hd, ← Int.tdiv_eq_ediv_of_nonneg (show 0 ≤ -n + d - 1 by omega)]
    obtain ⟨q, hq⟩ : ∃ q, (-n + d - 1).tdiv d = q := ⟨_, rfl⟩
    rw [hq] at b1 b2 ⊢
    go_enter Try.func24, Try.ntmps24
    go_wp2
    go_ret
    exact ⟨rfl, rfl⟩
end Go.Proofs.Ytppmepajcdldkab
