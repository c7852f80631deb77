/-
  The small tests of policies and sizes: the code's and the model's.
-/
import Derived.Test.YtdjafooabpcbmabImpQ
import Derived.Test.YtdjafooabpcbmabGood
namespace Go.Proofs.Ytdjafooabpcbmab
open Go.RowKit
set_option linter.unusedVariables false
namespace Q
def okP (p : Int) : Bool := decide (1 ≤ p) && decide (p ≤ 7)
def okS (s : Int) : Bool := decide (1 ≤ s) && decide (s ≤ 6)
theorem okP_iff {p : Int} : okP p = true ↔ 1 ≤ p ∧ p ≤ 7 := by simp [okP]
theorem okS_iff {s : Int} : okS s = true ↔ 1 ≤ s ∧ s ≤ 6 := by simp [okS]
end Q
theorem isPolicy_any (n : Int) (w : World) : Calls Try.prog 71 #[.int .i64 n] w fun e w' => e = .returned (.bool (Q.okP n)) ∧ w' = w := by
  have HE : Hid (Q.okP n = (decide (1 ≤ n) && decide (n ≤ 7))) := rfl
  by_cases h1 : 1 ≤ n
  · go_enter Try.func71, Try.ntmps71
    go_wp2
    go_ret
    exact ⟨by rw [HE.out]; simp [h1], rfl⟩
  · go_enter Try.func71, Try.ntmps71
    go_wp2
    go_ret
    exact ⟨by rw [HE.out]; simp [show ¬ 1 ≤ n from by omega], rfl⟩
theorem isSize_any (n : Int) (w : World) : Calls Try.prog 72 #[.int .i64 n] w fun e w' => e = .returned (.bool (Q.okS n)) ∧ w' = w := by
  have HE : Hid (Q.okS n = (decide (1 ≤ n) && decide (n ≤ 6))) := rfl
  by_cases h1 : 1 ≤ n
  · go_enter Try.func72, Try.ntmps72
    go_wp2
    go_ret
    exact ⟨by rw [HE.out]; simp [h1], rfl⟩
  · go_enter Try.func72, Try.ntmps72
    go_wp2
    go_ret
    exact ⟨by rw [HE.out]; simp [show ¬ 1 ≤ n from by omega], rfl⟩
theorem l4Sizes_any (p s : Int) (w : World) : Calls Try.prog 78 #[.int .i64 p, .int .i64 s] w fun e w' => e = .returned (.bool (Q.okP p && Q.okS s)) ∧ w' = w := by
  have HP : Hid (∀ W, Calls Try.prog 80 #[.int .i64 p, .int .i64 1, .int .i64 7] W fun e w' => e = .returned (.bool (Q.okP p)) ∧ w' = W) := fun W => l1In_any p 1 7 W
  have HS : Hid (∀ W, Calls Try.prog 80 #[.int .i64 s, .int .i64 1, .int .i64 6] W fun e w' => e = .returned (.bool (Q.okS s)) ∧ w' = W) := fun W => l1In_any s 1 6 W
  cases hp : Q.okP p
  · rw [hp] at HP
    clear hp HS
    go_enter Try.func78, Try.ntmps78
    go_wp2_with fail
    go_at_call 80
    refine (HP.out _).mono ?_
    rintro e w' ⟨rfl, hw'⟩
    obtain rfl := hw'.symm
    clear hw'
    go_wp2
    go_ret
    exact ⟨rfl, rfl⟩
  · rw [hp] at HP
    clear hp
    generalize Q.okS s = b at HS ⊢
    go_enter Try.func78, Try.ntmps78
    go_wp2_with fail
    go_at_call 80
    refine (HP.out _).mono ?_
    rintro e w' ⟨rfl, hw'⟩
    obtain rfl := hw'.symm
    clear hw'
    go_wp2_with fail
    go_at_call 80
    refine (HS.out _).mono ?_
    rintro e w' ⟨rfl, hw'⟩
    obtain rfl := hw'.symm
    clear hw'
    go_wp2
    go_ret
    exact ⟨by simp, rfl⟩
theorem l4Asked_any (n p s : Int) (A : Option Addr) (c : Nat) (zs : List Int) (w : World) (hl : zs.length ≤ 1048576) (hr : Law.Row w A (ivs zs)) :
    Calls Try.prog 89 #[.int .i64 n, .int .i64 p, .int .i64 s, .slice A zs.length c] w fun e w' => e = .returned (.bool ((Q.okP p && Q.okS s) && Q.good n zs)) ∧ w' = w := by
  have HS := Lib.hid (l4Sizes_any p s w)
  have HG := Lib.hid (l3Good_any n A c zs w hl hr)
  clear hr
  generalize (Q.okP p && Q.okS s) = a at HS ⊢
  generalize Q.good n zs = b at HG ⊢
  cases a
  · go_enter Try.func89, Try.ntmps89
    go_wp2_with fail
    go_at_call 78
    refine (HS.out).mono ?_
    rintro e w' ⟨rfl, hw'⟩
    obtain rfl := hw'.symm
    clear hw'
    go_wp2
    go_ret
    exact ⟨rfl, rfl⟩
  · go_enter Try.func89, Try.ntmps89
    go_wp2_with fail
    go_at_call 78
    refine (HS.out).mono ?_
    rintro e w' ⟨rfl, hw'⟩
    obtain rfl := hw'.symm
    clear hw'
    go_wp2_with fail
    go_at_call 84
    refine (HG.out).mono ?_
    rintro e w' ⟨rfl, hw'⟩
    obtain rfl := hw'.symm
    clear hw'
    go_wp2
    go_ret
    exact ⟨by simp, rfl⟩
end Go.Proofs.Ytdjafooabpcbmab
