/-
  The contract of the model's decimal numeral 'spec.l1Num': 'Lib.itoa'; the world is as it was but for draws.
-/
import Derived.Test.YtgnfmbdomofgcaaRows
import Derived.Test.YtgnfmbdomofgcaaLaw
import Derived.Lib.ItoaNum
import Derived.Lib.Hide
import Derived.Deep.QuietTactic
import Derived.BigQuiet
import Derived.WalkKit
import Derived.ShutString
import Derived.WalkSpells
namespace Go.Proofs.Ytgnfmbdomofgcaa
open Go.RowKit
theorem ret_str {a b : ByteArray} (h : a = b) : Ending.returned (.string a) = .returned (.string b) := by rw [h]
/-- A number's text. -/
def numS (n : Int) : ByteArray := ⟨(Lib.itoa n).toArray⟩
def digS (d : Nat) : ByteArray := ⟨#[UInt8.ofNat (48 + d)]⟩
theorem dig_extract (d : Nat) (h : d < 10) : ({ data := #[48, 49, 50, 51, 52, 53, 54, 55, 56, 57] } : ByteArray).extract d (d + 1) = digS d := by
  have : ∀ d, d < 10 → ({ data := #[48, 49, 50, 51, 52, 53, 54, 55, 56, 57] } : ByteArray).extract d (d + 1) = digS d := by decide
  exact this d h
theorem numS_small (u : Nat) (h : u < 10) : numS (u : Int) = digS u := by
  unfold numS digS Lib.itoa
  rw [if_neg (by omega), Int.toNat_natCast, Lib.decDigits, dif_pos h]
theorem numS_big (u : Nat) (h : ¬ u < 10) : numS ((u / 10 : Nat) : Int) ++ digS (u % 10) = numS (u : Int) := by
  unfold numS digS Lib.itoa
  have e : Lib.decDigits u = Lib.decDigits (u / 10) ++ [UInt8.ofNat (48 + u % 10)] := by rw [Lib.decDigits, dif_neg h]
  rw [if_neg (by omega), if_neg (by omega), Int.toNat_natCast, Int.toNat_natCast, e]
  apply ByteArray.ext
  simp
theorem numS_neg (u : Nat) (h : 1 ≤ u) : ({ data := #[45] } : ByteArray) ++ numS (u : Int) = numS (-(u : Int)) := by
  unfold numS Lib.itoa
  rw [if_neg (by omega), if_pos (by omega), Int.toNat_natCast]
  apply ByteArray.ext
  simp
theorem nDigits_le : ∀ (k u : Nat), u < 10 ^ (k + 1) → Lib.nDigits u ≤ k + 1
  | 0, u, h => by rw [Lib.nDigits_small (by omega)]; omega
  | k + 1, u, h => by
    by_cases h10 : u < 10
    · rw [Lib.nDigits_small h10]; omega
    · rw [Lib.nDigits_big h10]
      have := nDigits_le k (u / 10) (by rw [Nat.pow_succ] at h; omega)
      omega
theorem numS_size (n : Int) (h1 : -1000000000000000000 ≤ n) (h2 : n ≤ 1000000000000000000) : (numS n).size ≤ 20 := by
  unfold numS Lib.itoa
  rw [size_of_list]
  split
  · have := nDigits_le 18 n.natAbs (by omega)
    rw [List.length_cons, Lib.decDigits_length]; omega
  · have := nDigits_le 18 n.toNat (by omega)
    rw [Lib.decDigits_length]; omega
theorem digS_size (d : Nat) : (digS d).size = 1 := rfl
set_option maxHeartbeats 400000 in
theorem l1Num_nat : ∀ (u : Nat), u ≤ 1000000000000000000 → ∀ w : World,
    Calls Try.prog 101 #[.int .i64 (u : Int)] w fun e w' => e = .returned (.string (numS (u : Int))) ∧ ∃ k, w' = w.drewN k := by
  intro u
  induction u using Nat.strongRecOn with
  | ind u ih =>
    intro hu w
    by_cases h10 : u < 10
    · have h10' : (u : Int) < 10 := by omega
      have hd := Lib.hid (dig_extract u h10)
      go_enter Try.func101, Try.ntmps101
      go_wp2_with fail
      go_ret
      exact ⟨ret_str (by rw [numS_small u h10, ← hd.out]), 0, rfl⟩
    · have h1 := ih (u / 10) (by omega) (by omega)
      have e10 : ((u / 10 : Nat) : Int) = (u : Int) / 10 := by omega
      rw [e10] at h1
      have IH := Lib.hid h1
      have hr1 : 0 ≤ (u : Int) % 10 := by omega
      have hr2 : (u : Int) % 10 + 1 ≤ 10 := by omega
      have h10' : ¬ (u : Int) < 10 := by omega
      clear h1
      have e10' := Lib.hid e10
      clear e10
      have hadd : ∀ W : World, (Op.stringOp .add (numS ((u : Int) / 10)) (({ data := #[48, 49, 50, 51, 52, 53, 54, 55, 56, 57] } : ByteArray).extract (u % 10) (u % 10 + 1))).run Try.prog W = .ok (.string (numS (u : Int))) W := fun W => by
        rw [dig_extract _ (by omega), ← e10'.out, run_string_add_sum _ _ _ (Nat.le_trans (Nat.add_le_add_right (numS_size ((u / 10 : Nat) : Int) (by omega) (by omega)) 1) (by decide)), numS_big u h10]
      go_enter Try.func101, Try.ntmps101
      go_wp2_with fail
      refine wp_region_quiet_lit (by kernel_rfl) (by kernel_rfl) ?_
      repeat (any_goals (first | go_big_quiet_step ((go_at_call 101; exact Calls.quiet_of (IH.out _))) | quiet_step ((go_at_call 101; exact Calls.quiet_of (IH.out _)))))
      refine wpQuiet_nil ?_
      intro _ hw'
      obtain ⟨nq, hw''⟩ := hw'
      subst hw''
      go_wp2_with fail
      go_ret
      exact ⟨rfl, nq, rfl⟩
theorem numS_int (n : Int) : numS n = if n < 0 then ({ data := #[45] } : ByteArray) ++ numS (-n) else numS n := by
  split
  · have e : n = -((n.natAbs : Nat) : Int) := by omega
    rw [show numS (-n) = numS ((n.natAbs : Nat) : Int) by congr 1; omega, numS_neg n.natAbs (by omega), ← e]
  · rfl
set_option maxHeartbeats 400000 in
theorem l1Num_any (n : Int) (w : World) (h1 : -1000000000000000000 ≤ n) (h2 : n ≤ 1000000000000000000) :
    Calls Try.prog 101 #[.int .i64 n] w fun e w' => e = .returned (.string (numS n)) ∧ ∃ k, w' = w.drewN k := by
  by_cases hn : n < 0
  · have IH : ∀ w, Calls Try.prog 101 #[.int .i64 (-n)] w fun e w' => e = .returned (.string (numS (-n))) ∧ ∃ k, w' = w.drewN k := fun w => by
      have := l1Num_nat n.natAbs (by omega) w
      rwa [show ((n.natAbs : Nat) : Int) = -n by omega] at this
    have hadd : ∀ W : World, (Op.stringOp .add ({ data := #[45] } : ByteArray) (numS (-n))).run Try.prog W = .ok (.string (numS n)) W := fun W => by
      rw [run_string_add_sum, numS_int n, if_pos hn]
      have := numS_size (-n) (by omega) (by omega)
      have e : ({ data := #[45] } : ByteArray).size = 1 := rfl
      omega
    have IH' := Lib.hid IH
    clear IH
    go_enter Try.func101, Try.ntmps101
    go_wp2_with (go_at_call 101; refine (IH'.out _).mono ?_; rintro e w' ⟨rfl, k, rfl⟩)
    go_ret
    exact ⟨rfl, k, rfl⟩
  · have := l1Num_nat n.toNat (by omega) w
    rwa [show ((n.toNat : Nat) : Int) = n by omega] at this
end Go.Proofs.Ytgnfmbdomofgcaa
