/-
  The names of the policies: the code's and the model's PolicyName.
-/
import Derived.Test.YtdjafooabpcbmabDoorTabN
import Derived.Lib.Hide
namespace Go.Proofs.YtdjafooabpcbmabDoor
open Go.RowKit
set_option linter.unusedVariables false
theorem isPolicy_any (n : Int) (w : World) : Calls Tryd.prog 11 #[.int .i64 n] w fun e w' => e = .returned (.bool (decide (1 ≤ n) && decide (n ≤ 7))) ∧ w' = w := by
  by_cases h1 : 1 ≤ n
  · go_enter Tryd.func11, Tryd.ntmps11
    go_wp2
    go_ret
    exact ⟨by simp [h1], rfl⟩
  · go_enter Tryd.func11, Tryd.ntmps11
    go_wp2
    go_ret
    exact ⟨by simp [show ¬ 1 ≤ n from by omega], rfl⟩
theorem l1In17_any (n : Int) (w : World) : Calls Tryd.prog 9 #[.int .i64 n, .int .i64 1, .int .i64 7] w fun e w' => e = .returned (.bool (decide (1 ≤ n) && decide (n ≤ 7))) ∧ w' = w := by
  by_cases h1 : 1 ≤ n
  · go_enter Tryd.func9, Tryd.ntmps9
    go_wp2
    go_ret
    exact ⟨by simp [h1], rfl⟩
  · go_enter Tryd.func9, Tryd.ntmps9
    go_wp2
    go_ret
    exact ⟨by simp [show ¬ 1 ≤ n from by omega], rfl⟩
abbrev nmRow : Array Value := (nms.map Value.string).toArray
theorem l4Names_at (k : Nat) (hk : k ≤ 7) (w : World) : Calls Tryd.prog 10 #[.int .i64 (k : Int)] w fun e w' => e = .returned (.slice (some ⟨w.heap.size, k, none⟩) (8 - k) (8 - k)) ∧ w' = w.alloc (.cells nmRow 9) := by
  have hkI : (k : Int) ≤ 7 := by omega
  go_enter Tryd.func10, Tryd.ntmps10
  go_wp2
  go_ret
  exact ⟨rfl, rfl⟩
def nm (k : Nat) : ByteArray := nms.getD k ⟨#[]⟩
theorem nm_at {k : Nat} (hk : k ≤ 7) : (nms.map Value.string)[k]? = some (.string (nm k)) := by
  rw [List.getElem?_map]
  unfold nm
  have h : k < nms.length := by simp [nms]; omega
  rw [List.getElem?_eq_getElem h]
  simp [List.getD, h]
theorem specPolicyName_no (n : Int) (w : World) (h : n < 1 ∨ 7 < n) : Calls Tryd.prog 5 #[.int .i64 n] w fun e w' => e = .returned (.tuple #[.string ⟨#[]⟩, .bool false]) ∧ w' = w := by
  have HP := Lib.hid fun W => l1In17_any n W
  have hb : (decide (1 ≤ n) && decide (n ≤ 7)) = false := by simp; omega
  rw [hb] at HP
  clear hb
  go_enter Tryd.func5, Tryd.ntmps5
  go_wp2_with (go_at_call 9; refine (HP.out _).mono ?_; rintro e w' ⟨rfl, hw'⟩; subst hw')
  go_ret2
  exact ⟨rfl, rfl⟩
theorem implPolicyName_no (n : Int) (w : World) (h : n < 1 ∨ 7 < n) : Calls Tryd.prog 6 #[.int .i64 n] w fun e w' => e = .returned (.tuple #[.string ⟨#[]⟩, .bool false]) ∧ w' = w := by
  have HP := Lib.hid fun W => isPolicy_any n W
  have hb : (decide (1 ≤ n) && decide (n ≤ 7)) = false := by simp; omega
  rw [hb] at HP
  clear hb
  go_enter Tryd.func6, Tryd.ntmps6
  go_wp2_with (go_at_call 11; refine (HP.out _).mono ?_; rintro e w' ⟨rfl, hw'⟩; subst hw')
  go_ret2
  exact ⟨rfl, rfl⟩
theorem implPolicyName_yes (k : Nat) (h1 : 1 ≤ k) (h7 : k ≤ 7) (w : World) (hN : Names w) : Calls Tryd.prog 6 #[.int .i64 (k : Int)] w fun e w' => e = .returned (.tuple #[.string (nm k), .bool true]) ∧ w' = w := by
  have HP := Lib.hid fun W => isPolicy_any (k : Int) W
  have hb : (decide (1 ≤ (k : Int)) && decide ((k : Int) ≤ 7)) = true := by simp; omega
  rw [hb] at HP
  clear hb
  have hc : w.cell? ⟨0, k, none⟩ = some (.string (nm k)) := (hN.cell k).trans (nm_at h7)
  have h7I : (k : Int) ≤ 7 := by omega
  clear hN
  generalize nm k = S at hc ⊢
  go_enter Tryd.func6, Tryd.ntmps6
  go_wp2_with (go_at_call 11; refine (HP.out _).mono ?_; rintro e w' ⟨rfl, hw'⟩; subst hw')
  go_ret2
  exact ⟨rfl, rfl⟩
theorem specPolicyName_yes (k : Nat) (h1 : 1 ≤ k) (h7 : k ≤ 7) (w : World) : Calls Tryd.prog 5 #[.int .i64 (k : Int)] w fun e w' => e = .returned (.tuple #[.string (nm k), .bool true]) ∧ Below w.heap.size w w' := by
  have HP := Lib.hid fun W => l1In17_any (k : Int) W
  have HL := Lib.hid fun W => l4Names_at k h7 W
  have hb : (decide (1 ≤ (k : Int)) && decide ((k : Int) ≤ 7)) = true := by simp; omega
  rw [hb] at HP
  clear hb
  have h7I : (k : Int) ≤ 7 := by omega
  have HC := Lib.hid (nm_at h7)
  generalize nm k = S at HC ⊢
  go_enter Tryd.func5, Tryd.ntmps5
  go_wp2_with fail
  go_at_call 9
  refine (HP.out _).mono ?_
  rintro e w1 ⟨rfl, hw1⟩
  obtain rfl := hw1.symm
  clear hw1
  go_wp2_with fail
  go_at_call 10
  refine (HL.out _).mono ?_
  rintro e w1 ⟨rfl, hw1⟩
  have hc : w1.cell? ⟨w.heap.size, k, none⟩ = some (.string S) := by
    rw [hw1]
    have e1 : (w.alloc (.cells nmRow 9)).cell? ⟨w.heap.size, k, none⟩ = nmRow[k]? := by go_simp
    rw [e1]
    simpa using HC.out
  have HB : Hid (Below w.heap.size w w1) := by show Below _ _ _; rw [hw1]; exact (Below.refl _ _).alloc (Nat.le_refl _) _
  clear hw1
  go_wp2
  go_ret2
  exact ⟨rfl, HB.out⟩
end Go.Proofs.YtdjafooabpcbmabDoor
