/-
  Differences of fractions: the model's (l2Neg, l2Sub, SubFracs) and the code's (SubFracs): the sum with the second one negated.
-/
import Derived.Test.YtppmepajcdldkaaAdd
import Derived.Test.YtppmepajcdldkaaConv
import Derived.Deep.RegionHeld3
namespace Go.Proofs.Ytppmepajcdldkaa
open Go.RowKit
set_option linter.unusedVariables false
theorem F.good_neg (n d : Int) : F.good (-n) d = F.good n d := by
  rw [Bool.eq_iff_iff, F.good_iff, F.good_iff, Int.neg_gcd]
  omega
theorem F.gate_neg (n1 d1 n2 d2 : Int) (r : Int × Int × Bool) : F.gate n1 d1 (-n2) d2 r = F.gate n1 d1 n2 d2 r := by
  unfold F.gate
  rw [F.good_neg]
theorem l2Neg_any (n d : Int) (w : World) (h1 : -9223372036854775807 ≤ n) (h2 : n ≤ 9223372036854775807) : Calls Try.prog 56 #[fr n d] w fun e w' => e = .returned (fr (-n) d) ∧ Below w.heap.size w w' := by
  go_enter Try.func56, Try.ntmps56
  go_wp2
  refine ret_frac1 rfl rfl rfl (b := w.heap.size + 1) (x := .int .i64 (-n)) (y := .int .i64 d) ⟨by go_simp, by go_simp, by go_simp, by go_simp⟩ ⟨rfl, ?_⟩
  (repeat (first | exact Below.refl _ _ | refine Below.setCell ?_ (by first | omega | (simp; omega) | (simp; done)) _ | refine Below.drew ?_ | refine Law.up ?_ _ | refine Below.alloc ?_ (by first | omega | (simp; omega) | (simp; done)) _ | refine Law.then_ ?_ (Hid.out (by assumption))))
set_option maxHeartbeats 800000 in
theorem l2Sub_any (n1 d1 n2 d2 : Int) (w : World) (h1 : F.good n1 d1 = true) (h2 : F.good n2 d2 = true) :
    Calls Try.prog 45 #[fr n1 d1, fr n2 d2] w fun e w' => e = .returned (res (F.mk (n1 * d2 + (-n2) * d1) (d1 * d2))) ∧ Below w.heap.size w w' := by
  have HN := Lib.hid fun W => l2Neg_any n2 d2 W (by have := F.good_iff.1 h2; omega) (by have := F.good_iff.1 h2; omega)
  have HC := Lib.hid fun W => l2Add_any n1 d1 (-n2) d2 W h1 (by rw [F.good_neg]; exact h2)
  generalize F.mk (n1 * d2 + (-n2) * d1) (d1 * d2) = X at HC ⊢
  obtain ⟨N, D, ok⟩ := X
  replace HC : Hid (∀ W, Calls Try.prog 44 #[fr n1 d1, fr (-n2) d2] W fun e w' => e = .returned (.tuple #[.agg #[.int .i64 N, .int .i64 D], .bool ok]) ∧ Below W.heap.size W w') := HC
  clear h1 h2
  have hold0 : (((w.alloc (.cells #[.int .i64 n1, .int .i64 d1] 25)).alloc (.cells #[.int .i64 n2, .int .i64 d2] 25)).alloc (.cells #[.int .i64 0, .int .i64 0] 25)).drew.cell? ⟨w.heap.size, 0, none⟩ = some (.int .i64 n1) ∧ (((w.alloc (.cells #[.int .i64 n1, .int .i64 d1] 25)).alloc (.cells #[.int .i64 n2, .int .i64 d2] 25)).alloc (.cells #[.int .i64 0, .int .i64 0] 25)).drew.cell? ⟨w.heap.size, 1, none⟩ = some (.int .i64 d1) ∧ (((w.alloc (.cells #[.int .i64 n1, .int .i64 d1] 25)).alloc (.cells #[.int .i64 n2, .int .i64 d2] 25)).alloc (.cells #[.int .i64 0, .int .i64 0] 25)).drew.cell? ⟨w.heap.size + 1, 0, none⟩ = some (.int .i64 n2) ∧ (((w.alloc (.cells #[.int .i64 n1, .int .i64 d1] 25)).alloc (.cells #[.int .i64 n2, .int .i64 d2] 25)).alloc (.cells #[.int .i64 0, .int .i64 0] 25)).drew.cell? ⟨w.heap.size + 1, 1, none⟩ = some (.int .i64 d2) ∧ Below w.heap.size w (((w.alloc (.cells #[.int .i64 n1, .int .i64 d1] 25)).alloc (.cells #[.int .i64 n2, .int .i64 d2] 25)).alloc (.cells #[.int .i64 0, .int .i64 0] 25)).drew ∧ w.heap.size + 2 ≤ (((w.alloc (.cells #[.int .i64 n1, .int .i64 d1] 25)).alloc (.cells #[.int .i64 n2, .int .i64 d2] 25)).alloc (.cells #[.int .i64 0, .int .i64 0] 25)).drew.heap.size := ⟨by go_simp, by go_simp, by go_simp, by go_simp, ((((Below.refl _ _).alloc (Nat.le_refl _) _).alloc (by simp) _).alloc (by simp; omega) _).drew, by simp⟩
  go_enter Try.func45, Try.ntmps45
  go_wp2
  go_region_held3 (fun w' => w'.cell? ⟨w.heap.size, 0, none⟩ = some (.int .i64 n1) ∧ w'.cell? ⟨w.heap.size, 1, none⟩ = some (.int .i64 d1) ∧ w'.cell? ⟨w.heap.size + 1, 0, none⟩ = some (.int .i64 n2) ∧ w'.cell? ⟨w.heap.size + 1, 1, none⟩ = some (.int .i64 d2) ∧ Below w.heap.size w w' ∧ w.heap.size + 2 ≤ w'.heap.size) ((first | exact hold0 | exact held_call (by assumption) (by assumption) | exact held_store (held_store (by assumption) (by first | omega | (simp; omega) | (simp; done)) _) (by first | omega | (simp; omega) | (simp; done)) _)) (first
    | (go_at_call 56; refine (HN.out _).mono ?_; rintro e w1 ⟨rfl, hb1⟩; obtain ⟨c10, c11, f10, f11⟩ := Blk.below (b := w.heap.size + 2) (x := .int .i64 0) (y := .int .i64 0) ⟨by go_simp, by go_simp, by go_simp, by go_simp⟩ hb1 (by first | omega | (simp; omega) | (simp; done)); have sz1 := hb1.size; (try simp at sz1))
    | (go_at_call 44; refine (HC.out _).mono ?_; rintro e w2 ⟨rfl, hb2⟩; obtain ⟨c20, c21, f20, f21⟩ := Blk.below (b := w.heap.size + 2) (x := .int .i64 0) (y := .int .i64 0) ⟨by go_simp, by go_simp, by go_simp, by go_simp⟩ hb2 (by first | omega | (simp; omega) | (simp; done)); have sz2 := hb2.size; (try simp at sz2)))
  all_goals
    obtain ⟨_, _, _, _, hB, _⟩ := (by assumption : _ ∧ _ ∧ _ ∧ _ ∧ Below w.heap.size w _ ∧ _)
    go_wp2
    refine ret_frac rfl rfl rfl (Blk.set2 ⟨c20, c21, f20, f21⟩ _ _) rfl ⟨rfl, hB⟩
theorem specSub_any (n1 d1 n2 d2 : Int) (w : World) :
    Calls Try.prog 21 #[fr n1 d1, fr n2 d2] w fun e w' => e = .returned (res (F.gate n1 d1 n2 d2 (F.mk (n1 * d2 + (-n2) * d1) (d1 * d2)))) ∧ Below w.heap.size w w' := by
  have HT := Lib.hid fun W => l2Two_any n1 d1 n2 d2 W
  by_cases hg : F.good n1 d1 = true ∧ F.good n2 d2 = true
  · have HC := Lib.hid fun W => l2Sub_any n1 d1 n2 d2 W hg.1 hg.2
    rw [hg.1, hg.2] at HT
    rw [F.gate_yes _ hg.1 hg.2]
    generalize F.mk (n1 * d2 + (-n2) * d1) (d1 * d2) = X at HC ⊢
    obtain ⟨N, D, ok⟩ := X
    replace HC : Hid (∀ W, Calls Try.prog 45 #[fr n1 d1, fr n2 d2] W fun e w' => e = .returned (.tuple #[.agg #[.int .i64 N, .int .i64 D], .bool ok]) ∧ Below W.heap.size W w') := HC
    clear hg
    go_enter Try.func21, Try.ntmps21
    go_wp2_with fail
    go_at_call 43
    refine (HT.out _).mono ?_
    rintro e w1 ⟨rfl, hb1⟩
    have B1 : Hid (Below w.heap.size w w1) := Lib.hid (Law.then_ (by (repeat (first | exact Below.refl _ _ | refine Below.setCell ?_ (by first | omega | (simp; omega) | (simp; done)) _ | refine Below.drew ?_ | refine Law.up ?_ _ | refine Below.alloc ?_ (by first | omega | (simp; omega) | (simp; done)) _ | refine Law.then_ ?_ (Hid.out (by assumption))))) hb1)
    have sz1 := hb1.size; (try simp at sz1)
    obtain ⟨c10, c11, f10, f11⟩ := Blk.below (b := w.heap.size) (x := .int .i64 n1) (y := .int .i64 d1) ⟨by go_simp, by go_simp, by go_simp, by go_simp⟩ hb1 (by first | omega | (simp; omega) | (simp; done))
    obtain ⟨c20, c21, f20, f21⟩ := Blk.below (b := w.heap.size + 1) (x := .int .i64 n2) (y := .int .i64 d2) ⟨by go_simp, by go_simp, by go_simp, by go_simp⟩ hb1 (by first | omega | (simp; omega) | (simp; done))
    obtain ⟨c30, c31, f30, f31⟩ := Blk.below (b := w.heap.size + 2) (x := .int .i64 0) (y := .int .i64 0) ⟨by go_simp, by go_simp, by go_simp, by go_simp⟩ hb1 (by first | omega | (simp; omega) | (simp; done))
    clear hb1
    go_wp2_with fail
    go_at_call 45
    refine (HC.out _).mono ?_
    rintro e w2 ⟨rfl, hb2⟩
    have B2 : Hid (Below w.heap.size w w2) := Lib.hid (Law.then_ (by (repeat (first | exact Below.refl _ _ | refine Below.setCell ?_ (by first | omega | (simp; omega) | (simp; done)) _ | refine Below.drew ?_ | refine Law.up ?_ _ | refine Below.alloc ?_ (by first | omega | (simp; omega) | (simp; done)) _ | refine Law.then_ ?_ (Hid.out (by assumption))))) hb2)
    have sz2 := hb2.size; (try simp at sz2)
    obtain ⟨c40, c41, f40, f41⟩ := Blk.below (b := w.heap.size + 2) (x := .int .i64 0) (y := .int .i64 0) ⟨by go_simp, by go_simp, by go_simp, by go_simp⟩ hb2 (by first | omega | (simp; omega) | (simp; done))
    clear hb2
    go_wp2
    refine ret_frac rfl rfl rfl (Blk.set2 ⟨c40, c41, f40, f41⟩ _ _) rfl ⟨rfl, ?_⟩
    (repeat (first | exact Below.refl _ _ | refine Below.setCell ?_ (by first | omega | (simp; omega) | (simp; done)) _ | refine Below.drew ?_ | refine Law.up ?_ _ | refine Below.alloc ?_ (by first | omega | (simp; omega) | (simp; done)) _ | refine Law.then_ ?_ (Hid.out (by assumption))))
  · rw [show F.gate n1 d1 n2 d2 (F.mk (n1 * d2 + (-n2) * d1) (d1 * d2)) = (0, 0, false) from if_neg hg]
    rw [show (F.good n1 d1 && F.good n2 d2) = false from by rw [Bool.eq_false_iff, ne_eq, Bool.and_eq_true]; exact hg] at HT
    clear hg
    go_enter Try.func21, Try.ntmps21
    go_wp2_with fail
    go_at_call 43
    refine (HT.out _).mono ?_
    rintro e w1 ⟨rfl, hb1⟩
    have B1 : Hid (Below w.heap.size w w1) := Lib.hid (Law.then_ (by (repeat (first | exact Below.refl _ _ | refine Below.setCell ?_ (by first | omega | (simp; omega) | (simp; done)) _ | refine Below.drew ?_ | refine Law.up ?_ _ | refine Below.alloc ?_ (by first | omega | (simp; omega) | (simp; done)) _ | refine Law.then_ ?_ (Hid.out (by assumption))))) hb1)
    have sz1 := hb1.size; (try simp at sz1)
    obtain ⟨c30, c31, f30, f31⟩ := Blk.below (b := w.heap.size + 2) (x := .int .i64 0) (y := .int .i64 0) ⟨by go_simp, by go_simp, by go_simp, by go_simp⟩ hb1 (by first | omega | (simp; omega) | (simp; done))
    clear hb1
    go_wp2
    refine ret_frac rfl rfl rfl (Blk.set2 ⟨c30, c31, f30, f31⟩ _ _) rfl ⟨rfl, ?_⟩
    (repeat (first | exact Below.refl _ _ | refine Below.setCell ?_ (by first | omega | (simp; omega) | (simp; done)) _ | refine Below.drew ?_ | refine Law.up ?_ _ | refine Below.alloc ?_ (by first | omega | (simp; omega) | (simp; done)) _ | refine Law.then_ ?_ (Hid.out (by assumption))))
theorem implSub_any (n1 d1 n2 d2 : Int) (w : World) (wn1 : (Lit.int .i64 n1).wf = true) (wd1 : (Lit.int .i64 d1).wf = true) (wn2 : (Lit.int .i64 n2).wf = true) (wd2 : (Lit.int .i64 d2).wf = true) :
    Calls Try.prog 22 #[fr n1 d1, fr n2 d2] w fun e w' => e = .returned (res (F.gate n1 d1 n2 d2 (F.mk (n1 * d2 + (-n2) * d1) (d1 * d2)))) ∧ Below w.heap.size w w' := by
  have hn2 := Go.bounds_i64 wn2
  by_cases hm : n2 = -9223372036854775808
  · subst hm
    have hg : F.good (-9223372036854775808) d2 = false := by
      rw [Bool.eq_false_iff]
      intro h
      have := F.good_iff.1 h
      omega
    rw [F.gate_no2 _ hg]
    have HC : Hid (∀ W, Calls Try.prog 20 #[fr n1 d1, fr (wrap64 9223372036854775808) d2] W fun e w' => e = .returned (.tuple #[.agg #[.int .i64 0, .int .i64 0], .bool false]) ∧ Below W.heap.size W w') := Lib.hid fun W => by
      rw [show wrap64 9223372036854775808 = -9223372036854775808 from by unfold wrap64; omega]
      have := implAdd_any n1 d1 (-9223372036854775808) d2 W wn1 wd1 wn2 wd2
      rw [F.gate_no2 _ hg] at this
      exact this
    clear hg wn1 wd1 wn2 wd2 hn2
    go_enter Try.func22, Try.ntmps22
    go_wp2_with fail
    go_at_call 20
    refine (HC.out _).mono ?_
    rintro e w1 ⟨rfl, hb1⟩
    have B1 : Hid (Below w.heap.size w w1) := Lib.hid (Law.then_ (by (repeat (first | exact Below.refl _ _ | refine Below.setCell ?_ (by first | omega | (simp; omega) | (simp; done)) _ | refine Below.drew ?_ | refine Law.up ?_ _ | refine Below.alloc ?_ (by first | omega | (simp; omega) | (simp; done)) _ | refine Law.then_ ?_ (Hid.out (by assumption))))) hb1)
    have sz1 := hb1.size; (try simp at sz1)
    obtain ⟨c10, c11, f10, f11⟩ := Blk.below (b := w.heap.size + 2) (x := .int .i64 0) (y := .int .i64 0) ⟨by go_simp, by go_simp, by go_simp, by go_simp⟩ hb1 (by first | omega | (simp; omega) | (simp; done))
    clear hb1
    go_wp2
    refine ret_frac rfl rfl rfl (Blk.set2 ⟨c10, c11, f10, f11⟩ _ _) rfl ⟨rfl, ?_⟩
    (repeat (first | exact Below.refl _ _ | refine Below.setCell ?_ (by first | omega | (simp; omega) | (simp; done)) _ | refine Below.drew ?_ | refine Law.up ?_ _ | refine Below.alloc ?_ (by first | omega | (simp; omega) | (simp; done)) _ | refine Law.then_ ?_ (Hid.out (by assumption))))
  · have HC := Lib.hid fun W => implAdd_any n1 d1 (-n2) d2 W wn1 wd1 (wf_small (by omega) (by omega)) wd2
    rw [← F.gate_neg]
    generalize F.gate n1 d1 (-n2) d2 (F.mk (n1 * d2 + (-n2) * d1) (d1 * d2)) = X at HC ⊢
    obtain ⟨N, D, ok⟩ := X
    replace HC : Hid (∀ W, Calls Try.prog 20 #[fr n1 d1, fr (-n2) d2] W fun e w' => e = .returned (.tuple #[.agg #[.int .i64 N, .int .i64 D], .bool ok]) ∧ Below W.heap.size W w') := HC
    have s1 : -9223372036854775807 ≤ n2 := by omega
    have s2 := hn2.2
    clear wn1 wd1 wn2 wd2 hn2 hm
    go_enter Try.func22, Try.ntmps22
    go_wp2_with fail
    go_at_call 20
    refine (HC.out _).mono ?_
    rintro e w1 ⟨rfl, hb1⟩
    have B1 : Hid (Below w.heap.size w w1) := Lib.hid (Law.then_ (by (repeat (first | exact Below.refl _ _ | refine Below.setCell ?_ (by first | omega | (simp; omega) | (simp; done)) _ | refine Below.drew ?_ | refine Law.up ?_ _ | refine Below.alloc ?_ (by first | omega | (simp; omega) | (simp; done)) _ | refine Law.then_ ?_ (Hid.out (by assumption))))) hb1)
    have sz1 := hb1.size; (try simp at sz1)
    obtain ⟨c10, c11, f10, f11⟩ := Blk.below (b := w.heap.size + 2) (x := .int .i64 0) (y := .int .i64 0) ⟨by go_simp, by go_simp, by go_simp, by go_simp⟩ hb1 (by first | omega | (simp; omega) | (simp; done))
    clear hb1
    go_wp2
    refine ret_frac rfl rfl rfl (Blk.set2 ⟨c10, c11, f10, f11⟩ _ _) rfl ⟨rfl, ?_⟩
    (repeat (first | exact Below.refl _ _ | refine Below.setCell ?_ (by first | omega | (simp; omega) | (simp; done)) _ | refine Below.drew ?_ | refine Law.up ?_ _ | refine Below.alloc ?_ (by first | omega | (simp; omega) | (simp; done)) _ | refine Law.then_ ?_ (Hid.out (by assumption))))
end Go.Proofs.Ytppmepajcdldkaa
