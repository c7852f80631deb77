/-
  Fractions: the helpers of the model (l2Gcd, l1In, l1Most, l2Abs, l2Good) and of the code (commonDivisor, IsFrac): each ends as the mathematics says, and leaves all that lay in the heap as it was.
-/
import Derived.Test.YtammlkaclooohaaProg
import Derived.Test.YtammlkaclooohaaFracM
import Derived.Test.YtammlkaclooohaaLaw
import Derived.Test.YtammlkaclooohaaSeq
import Derived.WalkKit
import Derived.LoopTactic
import Derived.BigQuiet
import Derived.Deep.RegionWith
import Derived.Lib.Hide
namespace Go.Proofs.Ytammlkaclooohaa
open Go.RowKit
set_option linter.unusedVariables false
abbrev fr (a b : Int) : Value := .agg #[.int .i64 a, .int .i64 b]
set_option maxHeartbeats 800000 in
theorem commonDivisor_any (x y : Int) (w : World) (hx1 : -9223372036854775807 ≤ x) (hx : x ≤ 9223372036854775807) (hy1 : -9223372036854775807 ≤ y) (hy : y ≤ 9223372036854775807) :
    Calls Try.prog 147 #[.int .i64 x, .int .i64 y] w fun e w' => e = .returned (.int .i64 ((Int.gcd x y : Nat) : Int)) ∧ w' = w := by
  go_enter Try.func147, Try.ntmps147
  go_wp2
  go_loop [0, 1] (fun a b => ∃ p q : Int, -9223372036854775807 ≤ p ∧ p ≤ 9223372036854775807 ∧ -9223372036854775807 ≤ q ∧ q ≤ 9223372036854775807 ∧ a = .int .i64 p ∧ b = .int .i64 q ∧ Int.gcd p q = Int.gcd x y) (fun a _ => (intOf a).natAbs)
  case atStart => exact ⟨x, y, hx1, hx, hy1, hy, rfl, rfl, rfl⟩
  case round =>
    obtain ⟨p, q, hp1, hp, hq1, hq, rfl, rfl, hg⟩ := hrel
    have HG := Lib.hid hg
    clear hg
    by_cases h0 : p = 0
    · subst h0
      go_wp2
      all_goals (go_ret; refine ⟨?_, rfl⟩; rw [← HG.out, F.gcd_zero]; exact congrArg (fun z => Ending.returned (.int .i64 z)) (by omega))
    · have hs := F.tmod_small q h0
      have hs1 : -9223372036854775807 ≤ q.tmod p := by omega
      have hs2 : q.tmod p ≤ 9223372036854775807 := by omega
      have HT := Lib.hid hs
      clear hs
      have HS := Lib.hid (F.gcd_tmod p q)
      go_wp2
      go_round
      case rel => exact ⟨_, _, hs1, hs2, hp1, hp, rfl, rfl, HS.out.trans HG.out⟩
      case measure => exact HT.out
theorem good_parts (n d : Int) : F.good n d = (!(decide (n < -100000000) || decide (100000000 < n) || decide (d < 1) || decide (100000 < d)) && decide (((Int.gcd n d : Nat) : Int) = 1)) := by
  rw [Bool.eq_iff_iff, F.good_iff]
  simp
  omega
theorem isFrac_any (n d : Int) (w : World) (wn : (Lit.int .i64 n).wf = true) (wd : (Lit.int .i64 d).wf = true) :
    Calls Try.prog 148 #[fr n d] w fun e w' => e = .returned (.bool (F.good n d)) ∧ Below w.heap.size w w' := by
  have bn := Go.bounds_i64 wn
  have HP := Lib.hid (good_parts n d)
  by_cases h : ¬ n < -100000000 ∧ ¬ 100000000 < n ∧ ¬ d < 1 ∧ ¬ 100000 < d
  · obtain ⟨h1, h2, h3, h4⟩ := h
    rw [HP.out]
    simp only [h1, h2, h3, h4]
    clear HP
    go_enter Try.func148, Try.ntmps148
    go_wp2_with (go_at_call 147; refine (commonDivisor_any n d _ (by omega) (by omega) (by omega) (by omega)).mono ?_; rintro e w' ⟨rfl, rfl⟩)
    go_ret
    exact ⟨congrArg (fun b => Ending.returned (.bool b)) (by rw [Bool.eq_iff_iff]; simp), (Below.refl _ _).alloc (Nat.le_refl _) _⟩
  · have hg : F.good n d = false := by
      rw [Bool.eq_false_iff]
      intro hc
      have := F.good_iff.1 hc
      omega
    rw [hg]
    have H := Lib.hid h
    clear h hg HP
    by_cases h1 : n < -100000000
    · go_enter Try.func148, Try.ntmps148
      go_wp2
      go_ret
      exact ⟨rfl, (Below.refl _ _).alloc (Nat.le_refl _) _⟩
    · by_cases h2 : 100000000 < n
      · go_enter Try.func148, Try.ntmps148
        go_wp2
        go_ret
        exact ⟨rfl, (Below.refl _ _).alloc (Nat.le_refl _) _⟩
      · by_cases h3 : d < 1
        · go_enter Try.func148, Try.ntmps148
          go_wp2
          go_ret
          exact ⟨rfl, (Below.refl _ _).alloc (Nat.le_refl _) _⟩
        · have h4 : 100000 < d := by have := H.out; omega
          go_enter Try.func148, Try.ntmps148
          go_wp2
          go_ret
          exact ⟨rfl, (Below.refl _ _).alloc (Nat.le_refl _) _⟩
set_option maxHeartbeats 800000 in
theorem l2Gcd_any (x y : Nat) (w : World) (hx : x ≤ 9223372036854775807) (hy : y ≤ 9223372036854775807) :
    Calls Try.prog 137 #[.int .i64 (x : Int), .int .i64 (y : Int)] w fun e w' => e = .returned (.int .i64 ((Nat.gcd x y : Nat) : Int)) ∧ ∃ m, w' = w.drewN m := by
  go_enter Try.func137, Try.ntmps137
  go_wp2
  go_loopw [0, 1] (fun a b wr => ∃ p q m : Nat, p ≤ 9223372036854775807 ∧ q ≤ 9223372036854775807 ∧ a = .int .i64 (p : Int) ∧ b = .int .i64 (q : Int) ∧ Nat.gcd p q = Nat.gcd x y ∧ wr = w.drewN m) (fun _ b _ => (intOf b).toNat)
  case atStart => exact ⟨x, y, 0, hx, hy, rfl, rfl, rfl, rfl⟩
  case round =>
    obtain ⟨p, q, m, hp, hq, rfl, rfl, hg, rfl⟩ := hrel
    have HG := Lib.hid hg
    clear hg
    by_cases h0 : 0 < q
    · have hI : (0 : Int) < (q : Int) := by omega
      have hz : ¬ (q : Int) = 0 := by omega
      have hlt := Nat.mod_lt p h0
      have HL := Lib.hid hlt
      clear hlt
      go_wp2
      go_quiet (fail)
      go_wp2
      go_roundw
      case rel => exact ⟨q, p % q, m + nq, hq, by have := HL.out; omega, rfl, by simp, by rw [F.gcd_step]; exact HG.out, World.drewN_drewN _ _ _⟩
      case measure =>
        show ((p : Int) % (q : Int)).toNat < ((q : Int)).toNat
        have e : (p : Int) % (q : Int) = ((p % q : Nat) : Int) := by simp
        rw [e]
        exact HL.out
    · have hI : ¬ (0 : Int) < (q : Int) := by omega
      have hq0 : q = 0 := by omega
      subst hq0
      go_wp2
      go_ret
      exact ⟨by have := HG.out; rw [Nat.gcd_zero_right] at this; rw [← this]; rfl, _, rfl⟩
theorem l1Most_any (a b : Int) (w : World) : Calls Try.prog 165 #[.int .i64 a, .int .i64 b] w fun e w' => e = .returned (.int .i64 (max a b)) ∧ w' = w := by
  by_cases h : b < a
  · go_enter Try.func165, Try.ntmps165
    go_wp2
    all_goals go_ret
    all_goals exact ⟨congrArg (fun z => Ending.returned (.int .i64 z)) (by omega), rfl⟩
  · go_enter Try.func165, Try.ntmps165
    go_wp2
    all_goals go_ret
    all_goals exact ⟨congrArg (fun z => Ending.returned (.int .i64 z)) (by omega), rfl⟩
theorem l2Abs_any (a : Int) (w : World) (h1 : -9223372036854775807 ≤ a) (h2 : a ≤ 9223372036854775807) :
    Calls Try.prog 138 #[.int .i64 a] w fun e w' => e = .returned (.int .i64 (a.natAbs : Int)) ∧ w' = w := by
  go_enter Try.func138, Try.ntmps138
  go_wp2_with (go_at_call 165; refine (l1Most_any _ _ _).mono ?_; rintro e w' ⟨rfl, rfl⟩)
  go_ret
  exact ⟨congrArg (fun z => Ending.returned (.int .i64 z)) (by omega), rfl⟩
theorem model_parts (n d : Int) (h : decide ((1 : Int) ≤ d) && decide (d ≤ 100000) && (decide (-100000000 ≤ n) && decide (n ≤ 100000000)) = true) : F.good n d = decide (((Nat.gcd n.natAbs d.toNat : Nat) : Int) = 1) := by
  simp only [Bool.and_eq_true, decide_eq_true_eq] at h
  rw [Bool.eq_iff_iff, F.good_iff, decide_eq_true_eq]
  have e : Int.gcd n d = Nat.gcd n.natAbs d.toNat := by unfold Int.gcd; congr 1; omega
  rw [e]
  omega
set_option maxHeartbeats 800000 in
theorem l2Good_any (n d : Int) (w : World) :
    Calls Try.prog 139 #[fr n d] w fun e w' => e = .returned (.bool (F.good n d)) ∧ Below w.heap.size w w' := by
  by_cases h1 : (decide ((1 : Int) ≤ d) && decide (d ≤ 100000)) = true
  · by_cases h2 : (decide ((-100000000 : Int) ≤ n) && decide (n ≤ 100000000)) = true
    · have hp := model_parts n d (by rw [h1, h2]; rfl)
      have hb : 1 ≤ d ∧ d ≤ 100000 ∧ -100000000 ≤ n ∧ n ≤ 100000000 := by
        simp only [Bool.and_eq_true, decide_eq_true_eq] at h1 h2
        omega
      rw [hp]
      have H1 := Lib.hid h1
      have H2 := Lib.hid h2
      clear hp h1 h2
      obtain ⟨b1, b2, b3, b4⟩ := hb
      have HI1 := Lib.hid fun W => (l1In_any d 1 100000 W).mono (R' := fun e w' => e = .returned (.bool true) ∧ w' = W) fun e w' ⟨he, hw⟩ => ⟨by rw [he, H1.out], hw⟩
      have HI2 := Lib.hid fun W => (l1In_any n (-100000000) 100000000 W).mono (R' := fun e w' => e = .returned (.bool true) ∧ w' = W) fun e w' ⟨he, hw⟩ => ⟨by rw [he, H2.out], hw⟩
      have HI3 := Lib.hid fun W => l2Abs_any n W (by omega) (by omega)
      have HI4 : Hid (∀ W, Calls Try.prog 137 #[.int .i64 (n.natAbs : Int), .int .i64 d] W fun e w' => e = .returned (.int .i64 ((Nat.gcd n.natAbs d.toNat : Nat) : Int)) ∧ ∃ m, w' = W.drewN m) := Lib.hid fun W => by
        have := l2Gcd_any n.natAbs d.toNat W (by omega) (by omega)
        rwa [show ((d.toNat : Nat) : Int) = d from by omega] at this
      go_enter Try.func139, Try.ntmps139
      go_wp2
      go_quiet (first
        | (go_at_call_of 83 d; exact Calls.quiet_of_same (HI1.out _))
        | (go_at_call_of 83 n; exact Calls.quiet_of_same (HI2.out _))
        | (go_at_call 138; exact Calls.quiet_of_same (HI3.out _))
        | (go_at_call 137; exact Calls.quiet_of (HI4.out _)))
      go_wp2
      go_ret
      exact ⟨congrArg (fun b => Ending.returned (.bool b)) (by rw [Bool.eq_iff_iff]; simp), Law.then_ ((Below.refl _ _).alloc (Nat.le_refl _) _) (Law.draws _ _ _)⟩
    · have h2' := Bool.eq_false_iff.2 h2
      have hg : F.good n d = false := by
        rw [Bool.eq_false_iff]
        intro hc
        have hc := F.good_iff.1 hc
        exact h2 (by simp [hc.2.2.1, hc.2.2.2.1])
      rw [hg]
      have H1 := Lib.hid h1
      have H2 := Lib.hid h2'
      clear hg h1 h2 h2'
      have HI1 := Lib.hid fun W => (l1In_any d 1 100000 W).mono (R' := fun e w' => e = .returned (.bool true) ∧ w' = W) fun e w' ⟨he, hw⟩ => ⟨by rw [he, H1.out], hw⟩
      have HI2 := Lib.hid fun W => (l1In_any n (-100000000) 100000000 W).mono (R' := fun e w' => e = .returned (.bool false) ∧ w' = W) fun e w' ⟨he, hw⟩ => ⟨by rw [he, H2.out], hw⟩
      go_enter Try.func139, Try.ntmps139
      go_wp2
      go_quiet (first
        | (go_at_call_of 83 d; exact Calls.quiet_of_same (HI1.out _))
        | (go_at_call_of 83 n; exact Calls.quiet_of_same (HI2.out _)))
      go_wp2
      go_ret
      exact ⟨rfl, Law.then_ ((Below.refl _ _).alloc (Nat.le_refl _) _) (Law.draws _ _ _)⟩
  · have h1' := Bool.eq_false_iff.2 h1
    have hg : F.good n d = false := by
      rw [Bool.eq_false_iff]
      intro hc
      have hc := F.good_iff.1 hc
      exact h1 (by simp [hc.1, hc.2.1])
    rw [hg]
    have H1 := Lib.hid h1'
    clear hg h1 h1'
    have HI1 := Lib.hid fun W => (l1In_any d 1 100000 W).mono (R' := fun e w' => e = .returned (.bool false) ∧ w' = W) fun e w' ⟨he, hw⟩ => ⟨by rw [he, H1.out], hw⟩
    go_enter Try.func139, Try.ntmps139
    go_wp2
    go_quiet ((go_at_call_of 83 d; exact Calls.quiet_of_same (HI1.out _)))
    go_wp2
    go_ret
    exact ⟨rfl, Law.then_ ((Below.refl _ _).alloc (Nat.le_refl _) _) (Law.draws _ _ _)⟩
end Go.Proofs.Ytammlkaclooohaa
