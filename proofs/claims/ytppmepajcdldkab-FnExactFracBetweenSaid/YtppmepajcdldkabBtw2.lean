/-
  FracBetween, the code's and the model's: both hand back the simplest fraction between the two, or nothing.
-/
import Derived.Test.YtppmepajcdldkabBtw
namespace Go.Proofs.Ytppmepajcdldkab
open Go.RowKit
set_option linter.unusedVariables false
namespace F
def simpl (n1 d1 n2 d2 : Int) : Int × Int := simp_ (d1 + d2).toNat n1 d1 n2 d2
def btw (n1 d1 n2 d2 : Int) : Int × Int × Bool := if (good n1 d1 = true ∧ good n2 d2 = true) ∧ n1 * d2 < n2 * d1 then mk (simpl n1 d1 n2 d2).1 (simpl n1 d1 n2 d2).2 else (0, 0, false)
theorem low_of {n1 d1 n2 d2 : Int} (h1 : good n1 d1 = true) (h2 : good n2 d2 = true) (hl : n1 * d2 < n2 * d1) : Low (d1 + d2).toNat n1 d1 n2 d2 ∧ Small n1 d1 n2 d2 := by
  have g1 := good_iff.1 h1
  have g2 := good_iff.1 h2
  exact ⟨⟨g1.1, by omega, hl, by omega⟩, ⟨g1.2.2.1, g1.2.2.2.1, g1.2.1, g2.2.2.1, g2.2.2.2.1, g2.2.1⟩⟩
theorem simpl_bound {n1 d1 n2 d2 : Int} (h1 : good n1 d1 = true) (h2 : good n2 d2 = true) (hl : n1 * d2 < n2 * d1) :
    (1 ≤ (simpl n1 d1 n2 d2).2 ∧ (simpl n1 d1 n2 d2).2 ≤ 200000) ∧ (-100000000000000 ≤ (simpl n1 d1 n2 d2).1 ∧ (simpl n1 d1 n2 d2).1 ≤ 100000000000000) := by
  obtain ⟨hL, s⟩ := low_of h1 h2 hl
  have hb := (simplest _ _ _ _ _ hL).1
  have hsm := simplest_small hL
  have ha := above_floor hL.hld hb.1 hb.2.1
  obtain ⟨q1, q2⟩ := floor_small hL.hld s.a1 s.a2
  have b0 := hb.1
  unfold simpl
  generalize simp_ (d1 + d2).toNat n1 d1 n2 d2 = r at *
  obtain ⟨p, q⟩ := r
  dsimp only at *
  have e1 := hL.hld
  have e2 := hL.hhd
  obtain ⟨s1, s2, s3, s4, s5, s6⟩ := s
  have m3 := mul_in (A := 100000000) (B := 200000) (x := n1 / d1) (y := q) (by omega) (by omega) (by omega) (by omega)
  have m4 := mul_in (A := 100000000) (B := 200000) (x := n1 / d1) (y := d1 + d2) (by omega) (by omega) (by omega) (by omega)
  generalize n1 / d1 * q = A at *
  generalize n1 / d1 * (d1 + d2) = B at *
  omega
end F
set_option maxHeartbeats 800000 in
theorem implBtw_any (n1 d1 n2 d2 : Int) (w : World) (wn1 : (Lit.int .i64 n1).wf = true) (wd1 : (Lit.int .i64 d1).wf = true) (wn2 : (Lit.int .i64 n2).wf = true) (wd2 : (Lit.int .i64 d2).wf = true) :
    Calls Try.prog 15 #[fr n1 d1, fr n2 d2] w fun e w' => e = .returned (res (F.btw n1 d1 n2 d2)) ∧ Below w.heap.size w w' := by
  have HQ := Lib.hid fun W => implCmp_any n1 d1 n2 d2 W wn1 wd1 wn2 wd2
  clear wn1 wd1 wn2 wd2
  by_cases hg : F.good n1 d1 = true ∧ F.good n2 d2 = true
  · rw [show F.cmpG n1 d1 n2 d2 = F.cmp n1 d1 n2 d2 from if_pos hg, hg.1, hg.2] at HQ
    by_cases hl : n1 * d2 < n2 * d1
    · rw [show F.cmp n1 d1 n2 d2 = -1 from if_pos hl] at HQ
      rw [show F.btw n1 d1 n2 d2 = F.mk (F.simpl n1 d1 n2 d2).1 (F.simpl n1 d1 n2 d2).2 from if_pos ⟨hg, hl⟩]
      obtain ⟨hL, s⟩ := F.low_of hg.1 hg.2 hl
      obtain ⟨⟨b1, b2⟩, b3, b4⟩ := F.simpl_bound hg.1 hg.2 hl
      have HS : Hid (∀ W, Calls Try.prog 26 #[.int .i64 n1, .int .i64 d1, .int .i64 n2, .int .i64 d2] W fun e w' => e = .returned (.tuple #[.int .i64 (F.simpl n1 d1 n2 d2).1, .int .i64 (F.simpl n1 d1 n2 d2).2]) ∧ Below W.heap.size W w') := Lib.hid fun W => Law.of_same (simplestBetween_any _ n1 d1 n2 d2 W hL s)
      generalize F.simpl n1 d1 n2 d2 = r at *
      obtain ⟨p, q⟩ := r
      have HC := Lib.hid fun W => reduced_any p q W (by omega) (by omega) b1 (by omega)
      replace HS : Hid (∀ W, Calls Try.prog 26 #[.int .i64 n1, .int .i64 d1, .int .i64 n2, .int .i64 d2] W fun e w' => e = .returned (.tuple #[.int .i64 p, .int .i64 q]) ∧ Below W.heap.size W w') := HS
      dsimp only
      generalize F.mk p q = X at HC ⊢
      obtain ⟨N, D, ok⟩ := X
      replace HC : Hid (∀ W, Calls Try.prog 18 #[.int .i64 p, .int .i64 q] W fun e w' => e = .returned (.tuple #[.agg #[.int .i64 N, .int .i64 D], .bool ok]) ∧ Below W.heap.size W w') := HC
      clear hg hl hL s b1 b2 b3 b4
      go_enter Try.func15, Try.ntmps15
      go_wp2_with fail
      go_at_call 25
      refine (HQ.out _).mono ?_
      rintro e w1 ⟨rfl, hb1⟩
      have B1 : Hid (Below w.heap.size w w1) := Lib.hid (Law.then_ (by (repeat (first | exact Below.refl _ _ | refine Below.setCell ?_ (by first | omega | (simp; omega) | (simp; done)) _ | refine Below.drew ?_ | refine Law.up ?_ _ | refine Below.alloc ?_ (by first | omega | (simp; omega) | (simp; done)) _ | refine Law.then_ ?_ (Hid.out (by assumption))))) hb1)
      have sz1 := hb1.size; (try simp at sz1)
      obtain ⟨c10, c11, f10, f11⟩ := Blk.below (b := w.heap.size) (x := .int .i64 n1) (y := .int .i64 d1) ⟨by go_simp, by go_simp, by go_simp, by go_simp⟩ hb1 (by first | omega | (simp; omega) | (simp; done))
      obtain ⟨c20, c21, f20, f21⟩ := Blk.below (b := w.heap.size + 1) (x := .int .i64 n2) (y := .int .i64 d2) ⟨by go_simp, by go_simp, by go_simp, by go_simp⟩ hb1 (by first | omega | (simp; omega) | (simp; done))
      obtain ⟨c30, c31, f30, f31⟩ := Blk.below (b := w.heap.size + 2) (x := .int .i64 0) (y := .int .i64 0) ⟨by go_simp, by go_simp, by go_simp, by go_simp⟩ hb1 (by first | omega | (simp; omega) | (simp; done))
      clear hb1
      go_wp2_with fail
      go_at_call 26
      refine (HS.out _).mono ?_
      rintro e w2 ⟨rfl, hb2⟩
      have B2 : Hid (Below w.heap.size w w2) := Lib.hid (Law.then_ (by (repeat (first | exact Below.refl _ _ | refine Below.setCell ?_ (by first | omega | (simp; omega) | (simp; done)) _ | refine Below.drew ?_ | refine Law.up ?_ _ | refine Below.alloc ?_ (by first | omega | (simp; omega) | (simp; done)) _ | refine Law.then_ ?_ (Hid.out (by assumption))))) hb2)
      have sz2 := hb2.size; (try simp at sz2)
      obtain ⟨c60, c61, f60, f61⟩ := Blk.below (b := w.heap.size + 2) (x := .int .i64 0) (y := .int .i64 0) ⟨by go_simp, by go_simp, by go_simp, by go_simp⟩ hb2 (by first | omega | (simp; omega) | (simp; done))
      clear hb2 c10 c11 f10 f11 c20 c21 f20 f21 c30 c31 f30 f31
      go_wp2_with fail
      go_at_call 18
      refine (HC.out _).mono ?_
      rintro e w3 ⟨rfl, hb3⟩
      have B3 : Hid (Below w.heap.size w w3) := Lib.hid (Law.then_ (by (repeat (first | exact Below.refl _ _ | refine Below.setCell ?_ (by first | omega | (simp; omega) | (simp; done)) _ | refine Below.drew ?_ | refine Law.up ?_ _ | refine Below.alloc ?_ (by first | omega | (simp; omega) | (simp; done)) _ | refine Law.then_ ?_ (Hid.out (by assumption))))) hb3)
      have sz3 := hb3.size; (try simp at sz3)
      obtain ⟨c70, c71, f70, f71⟩ := Blk.below (b := w.heap.size + 2) (x := .int .i64 0) (y := .int .i64 0) ⟨by go_simp, by go_simp, by go_simp, by go_simp⟩ hb3 (by first | omega | (simp; omega) | (simp; done))
      clear hb3
      go_wp2
      refine ret_frac rfl rfl rfl (Blk.set2 ⟨c70, c71, f70, f71⟩ _ _) rfl ⟨rfl, ?_⟩
      (repeat (first | exact Below.refl _ _ | refine Below.setCell ?_ (by first | omega | (simp; omega) | (simp; done)) _ | refine Below.drew ?_ | refine Law.up ?_ _ | refine Below.alloc ?_ (by first | omega | (simp; omega) | (simp; done)) _ | refine Law.then_ ?_ (Hid.out (by assumption))))
    · rw [show F.btw n1 d1 n2 d2 = (0, 0, false) from if_neg fun h => hl h.2]
      have hc : 0 ≤ F.cmp n1 d1 n2 d2 := by
        unfold F.cmp F.cmpI
        rw [if_neg hl]
        split <;> omega
      generalize F.cmp n1 d1 n2 d2 = c at HQ hc
      clear hg hl
      go_enter Try.func15, Try.ntmps15
      go_wp2_with fail
      go_at_call 25
      refine (HQ.out _).mono ?_
      rintro e w1 ⟨rfl, hb1⟩
      have B1 : Hid (Below w.heap.size w w1) := Lib.hid (Law.then_ (by (repeat (first | exact Below.refl _ _ | refine Below.setCell ?_ (by first | omega | (simp; omega) | (simp; done)) _ | refine Below.drew ?_ | refine Law.up ?_ _ | refine Below.alloc ?_ (by first | omega | (simp; omega) | (simp; done)) _ | refine Law.then_ ?_ (Hid.out (by assumption))))) hb1)
      have sz1 := hb1.size; (try simp at sz1)
      obtain ⟨c30, c31, f30, f31⟩ := Blk.below (b := w.heap.size + 2) (x := .int .i64 0) (y := .int .i64 0) ⟨by go_simp, by go_simp, by go_simp, by go_simp⟩ hb1 (by first | omega | (simp; omega) | (simp; done))
      clear hb1
      go_wp2
      refine ret_frac rfl rfl rfl (Blk.set2 ⟨c30, c31, f30, f31⟩ _ _) rfl ⟨rfl, ?_⟩
      (repeat (first | exact Below.refl _ _ | refine Below.setCell ?_ (by first | omega | (simp; omega) | (simp; done)) _ | refine Below.drew ?_ | refine Law.up ?_ _ | refine Below.alloc ?_ (by first | omega | (simp; omega) | (simp; done)) _ | refine Law.then_ ?_ (Hid.out (by assumption))))
  · rw [show F.btw n1 d1 n2 d2 = (0, 0, false) from if_neg fun h => hg h.1]
    have hf : (F.good n1 d1 && F.good n2 d2) = false := by rw [Bool.eq_false_iff, ne_eq, Bool.and_eq_true]; exact hg
    rw [hf] at HQ
    generalize F.cmpG n1 d1 n2 d2 = c at HQ
    clear hg hf
    go_enter Try.func15, Try.ntmps15
    go_wp2_with fail
    go_at_call 25
    refine (HQ.out _).mono ?_
    rintro e w1 ⟨rfl, hb1⟩
    have B1 : Hid (Below w.heap.size w w1) := Lib.hid (Law.then_ (by (repeat (first | exact Below.refl _ _ | refine Below.setCell ?_ (by first | omega | (simp; omega) | (simp; done)) _ | refine Below.drew ?_ | refine Law.up ?_ _ | refine Below.alloc ?_ (by first | omega | (simp; omega) | (simp; done)) _ | refine Law.then_ ?_ (Hid.out (by assumption))))) hb1)
    have sz1 := hb1.size; (try simp at sz1)
    obtain ⟨c30, c31, f30, f31⟩ := Blk.below (b := w.heap.size + 2) (x := .int .i64 0) (y := .int .i64 0) ⟨by go_simp, by go_simp, by go_simp, by go_simp⟩ hb1 (by first | omega | (simp; omega) | (simp; done))
    clear hb1
    go_wp2
    refine ret_frac rfl rfl rfl (Blk.set2 ⟨c30, c31, f30, f31⟩ _ _) rfl ⟨rfl, ?_⟩
    (repeat (first | exact Below.refl _ _ | refine Below.setCell ?_ (by first | omega | (simp; omega) | (simp; done)) _ | refine Below.drew ?_ | refine Law.up ?_ _ | refine Below.alloc ?_ (by first | omega | (simp; omega) | (simp; done)) _ | refine Law.then_ ?_ (Hid.out (by assumption))))
theorem F.no_good {n1 d1 n2 d2 : Int} (h1 : F.good n1 d1 = true) (h2 : F.good n2 d2 = true) (hl : n1 * d2 < n2 * d1) (hq : 100000 < (F.simpl n1 d1 n2 d2).2) : F.mk (F.simpl n1 d1 n2 d2).1 (F.simpl n1 d1 n2 d2).2 = (0, 0, false) := by
  obtain ⟨hL, s⟩ := F.low_of h1 h2 hl
  have hg : Int.gcd (F.simpl n1 d1 n2 d2).1 (F.simpl n1 d1 n2 d2).2 = 1 := F.simplest_gcd hL
  unfold F.mk
  rw [hg]
  refine if_neg fun hc => ?_
  have := F.good_iff.1 hc
  have e : (F.simpl n1 d1 n2 d2).2 / ((1 : Nat) : Int) = (F.simpl n1 d1 n2 d2).2 := by simp
  rw [e] at this
  omega
set_option maxHeartbeats 800000 in
theorem specBtw_yes (n1 d1 n2 d2 : Int) (w : World) (h1 : F.good n1 d1 = true) (h2 : F.good n2 d2 = true) (hl : n1 * d2 < n2 * d1) :
    Calls Try.prog 13 #[fr n1 d1, fr n2 d2] w fun e w' => e = .returned (res (F.mk (F.simpl n1 d1 n2 d2).1 (F.simpl n1 d1 n2 d2).2)) ∧ Below w.heap.size w w' := by
  have HT := Lib.hid fun W => l2Two_any n1 d1 n2 d2 W
  have HQ := Lib.hid fun W => l2Cmp_any n1 d1 n2 d2 W h1 h2
  rw [h1, h2] at HT
  rw [show F.cmp n1 d1 n2 d2 = -1 from if_pos hl] at HQ
  obtain ⟨hL, s⟩ := F.low_of h1 h2 hl
  obtain ⟨⟨b1, b2⟩, b3, b4⟩ := F.simpl_bound h1 h2 hl
  have HNG := Lib.hid fun h => F.no_good h1 h2 hl h
  have HNO : Hid (∀ d : Int, 1 ≤ d → d < (F.simpl n1 d1 n2 d2).2 → ¬ (n1 * d / d1 + 1) * d2 < n2 * d) := Lib.hid fun d hd hlt => F.search_no hL hd hlt
  have HYES : Hid (∀ d : Int, d = (F.simpl n1 d1 n2 d2).2 → (n1 * d / d1 + 1) * d2 < n2 * d ∧ n1 * d / d1 + 1 = (F.simpl n1 d1 n2 d2).1) := Lib.hid fun d he => F.search_yes hL he
  obtain ⟨s1, s2, s3, s4, s5, s6⟩ := s
  have l1 := hL.hld
  have l2 : 1 ≤ d2 := (F.good_iff.1 h2).1
  generalize F.simpl n1 d1 n2 d2 = r at *
  obtain ⟨p, q⟩ := r
  dsimp only at b1 b2 b3 b4 ⊢
  replace HNG : Hid (100000 < q → F.mk p q = (0, 0, false)) := HNG
  replace HNO : Hid (∀ d : Int, 1 ≤ d → d < q → ¬ (n1 * d / d1 + 1) * d2 < n2 * d) := HNO
  replace HYES : Hid (∀ d : Int, d = q → (n1 * d / d1 + 1) * d2 < n2 * d ∧ n1 * d / d1 + 1 = p) := HYES
  have HC := Lib.hid fun W => l2Make_any p q W (by omega) (by omega) b1 (by omega)
  generalize F.mk p q = X at HC HNG ⊢
  obtain ⟨N, D, ok⟩ := X
  replace HC : Hid (∀ W, Calls Try.prog 17 #[.int .i64 p, .int .i64 q] W fun e w' => e = .returned (.tuple #[.agg #[.int .i64 N, .int .i64 D], .bool ok]) ∧ Below W.heap.size W w') := HC
  clear hL h1 h2 hl
  go_enter Try.func13, Try.ntmps13
  go_wp2_with fail
  go_at_call 22
  refine (HT.out _).mono ?_
  rintro e w1 ⟨rfl, hb1⟩
  have B1 : Hid (Below w.heap.size w w1) := Lib.hid (Law.then_ (by (repeat (first | exact Below.refl _ _ | refine Below.setCell ?_ (by first | omega | (simp; omega) | (simp; done)) _ | refine Below.drew ?_ | refine Law.up ?_ _ | refine Below.alloc ?_ (by first | omega | (simp; omega) | (simp; done)) _ | refine Law.then_ ?_ (Hid.out (by assumption))))) hb1)
  have sz1 := hb1.size; (try simp at sz1)
  obtain ⟨c10, c11, f10, f11⟩ := Blk.below (b := w.heap.size) (x := .int .i64 n1) (y := .int .i64 d1) ⟨by go_simp, by go_simp, by go_simp, by go_simp⟩ hb1 (by first | omega | (simp; omega) | (simp; done))
  obtain ⟨c20, c21, f20, f21⟩ := Blk.below (b := w.heap.size + 1) (x := .int .i64 n2) (y := .int .i64 d2) ⟨by go_simp, by go_simp, by go_simp, by go_simp⟩ hb1 (by first | omega | (simp; omega) | (simp; done))
  obtain ⟨c30, c31, f30, f31⟩ := Blk.below (b := w.heap.size + 2) (x := .int .i64 0) (y := .int .i64 0) ⟨by go_simp, by go_simp, by go_simp, by go_simp⟩ hb1 (by first | omega | (simp; omega) | (simp; done))
  clear hb1
  go_wp2_with fail
  go_at_call 23
  refine (HQ.out _).mono ?_
  rintro e w2 ⟨rfl, hb2⟩
  have B2 : Hid (Below w.heap.size w w2) := Lib.hid (Law.then_ (by (repeat (first | exact Below.refl _ _ | refine Below.setCell ?_ (by first | omega | (simp; omega) | (simp; done)) _ | refine Below.drew ?_ | refine Law.up ?_ _ | refine Below.alloc ?_ (by first | omega | (simp; omega) | (simp; done)) _ | refine Law.then_ ?_ (Hid.out (by assumption))))) hb2)
  have sz2 := hb2.size; (try simp at sz2)
  obtain ⟨c40, c41, f40, f41⟩ := Blk.below (b := w.heap.size) (x := .int .i64 n1) (y := .int .i64 d1) ⟨by go_simp, by go_simp, by go_simp, by go_simp⟩ hb2 (by first | omega | (simp; omega) | (simp; done))
  obtain ⟨c50, c51, f50, f51⟩ := Blk.below (b := w.heap.size + 1) (x := .int .i64 n2) (y := .int .i64 d2) ⟨by go_simp, by go_simp, by go_simp, by go_simp⟩ hb2 (by first | omega | (simp; omega) | (simp; done))
  obtain ⟨c60, c61, f60, f61⟩ := Blk.below (b := w.heap.size + 2) (x := .int .i64 0) (y := .int .i64 0) ⟨by go_simp, by go_simp, by go_simp, by go_simp⟩ hb2 (by first | omega | (simp; omega) | (simp; done))
  clear hb2 c10 c11 f10 f11 c20 c21 f20 f21 c30 c31 f30 f31
  go_wp2
  go_loop [6] (fun a => ∃ j : Int, a = .int .i64 j ∧ 1 ≤ j ∧ j ≤ 100001 ∧ j ≤ q) (fun a => (100001 - intOf a).toNat)
  case atStart => exact ⟨1, rfl, by omega, by omega, by omega⟩
  case round =>
    obtain ⟨j, rfl, j1, j2, j3⟩ := hrel
    by_cases hj : j ≤ 100000
    · have m1 := F.mul_in (A := 100000000) (B := 100000) (x := n1) (y := j) (by omega) (by omega) (by omega) (by omega)
      have m2 := F.mul_in (A := 100000000) (B := 100000) (x := n2) (y := j) (by omega) (by omega) (by omega) (by omega)
      obtain ⟨m11, m12⟩ := m1
      obtain ⟨m21, m22⟩ := m2
      have HF := Lib.hid fun W => l2Floor_any (n1 * j) d1 W (by omega) (by omega) l1 (by omega)
      have t1 : -10000000000000 ≤ n1 * j / d1 := (Int.le_ediv_iff_mul_le (by omega)).2 (by omega)
      have t2 : n1 * j / d1 ≤ 10000000000000 := Int.le_trans (Int.ediv_le_ediv (by omega) m12) (Int.ediv_le_self _ (by omega))
      have m3 := F.mul_in (A := 10000000000001) (B := 100000) (x := n1 * j / d1 + 1) (y := d2) (by omega) (by omega) (by omega) (by omega)
      obtain ⟨m31, m32⟩ := m3
      by_cases hq : j = q
      · have hy := HYES.out j hq
        subst hq
        obtain ⟨P, hP⟩ : ∃ M, n1 * j = M := ⟨_, rfl⟩
        obtain ⟨R, hR⟩ : ∃ M, n2 * j = M := ⟨_, rfl⟩
        rw [hP] at HF t1 t2 m31 m32 hy m11 m12
        rw [hR] at hy m21 m22
        generalize P / d1 = T at *
        obtain ⟨M, hM⟩ : ∃ M, (T + 1) * d2 = M := ⟨_, rfl⟩
        rw [hM] at hy m31 m32
        obtain ⟨hlt, hp⟩ := hy
        subst hp
        go_wp2_with (first | (go_at_call 24; refine (HF.out _).mono ?_; rintro e w' ⟨rfl, hw'⟩; subst hw') | (go_at_call 17; refine (HC.out _).mono ?_; rintro e w3 ⟨rfl, hb3⟩; have B3 : Hid (Below w.heap.size w w3) := Lib.hid (Law.then_ (by (repeat (first | exact Below.refl _ _ | refine Below.setCell ?_ (by first | omega | (simp; omega) | (simp; done)) _ | refine Below.drew ?_ | refine Law.up ?_ _ | refine Below.alloc ?_ (by first | omega | (simp; omega) | (simp; done)) _ | refine Law.then_ ?_ (Hid.out (by assumption))))) hb3); have sz3 := hb3.size; (try simp at sz3); obtain ⟨c70, c71, f70, f71⟩ := Blk.below (b := w.heap.size + 2) (x := .int .i64 0) (y := .int .i64 0) ⟨by go_simp, by go_simp, by go_simp, by go_simp⟩ hb3 (by first | omega | (simp; omega) | (simp; done)); clear hb3))
        refine ret_frac rfl rfl rfl (Blk.set2 ⟨c70, c71, f70, f71⟩ _ _) rfl ⟨rfl, ?_⟩
        (repeat (first | exact Below.refl _ _ | refine Below.setCell ?_ (by first | omega | (simp; omega) | (simp; done)) _ | refine Below.drew ?_ | refine Law.up ?_ _ | refine Below.alloc ?_ (by first | omega | (simp; omega) | (simp; done)) _ | refine Law.then_ ?_ (Hid.out (by assumption))))
      · have hno := HNO.out j j1 (by omega)
        obtain ⟨P, hP⟩ : ∃ M, n1 * j = M := ⟨_, rfl⟩
        obtain ⟨R, hR⟩ : ∃ M, n2 * j = M := ⟨_, rfl⟩
        rw [hP] at HF t1 t2 m31 m32 hno m11 m12
        rw [hR] at hno m21 m22
        generalize P / d1 = T at *
        obtain ⟨M, hM⟩ : ∃ M, (T + 1) * d2 = M := ⟨_, rfl⟩
        rw [hM] at hno m31 m32
        go_wp2_with (go_at_call 24; refine (HF.out _).mono ?_; rintro e w' ⟨rfl, rfl⟩)
        go_round
        case rel => exact ⟨j + 1, rfl, by omega, by omega, by omega⟩
        case measure => simp [intOf]; omega
    · have hx := HNG.out (by omega)
      obtain ⟨rfl, rfl, rfl⟩ : N = 0 ∧ D = 0 ∧ ok = false := by
        injection hx with e1 e2
        injection e2 with e2 e3
        exact ⟨e1, e2, e3⟩
      go_wp2
      refine ret_frac rfl rfl rfl (Blk.set2 ⟨c60, c61, f60, f61⟩ _ _) rfl ⟨rfl, ?_⟩
      (repeat (first | exact Below.refl _ _ | refine Below.setCell ?_ (by first | omega | (simp; omega) | (simp; done)) _ | refine Below.drew ?_ | refine Law.up ?_ _ | refine Below.alloc ?_ (by first | omega | (simp; omega) | (simp; done)) _ | refine Law.then_ ?_ (Hid.out (by assumption))))
end Go.Proofs.Ytppmepajcdldkab
