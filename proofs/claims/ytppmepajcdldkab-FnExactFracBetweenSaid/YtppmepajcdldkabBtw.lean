/-
  The simplest fraction between two: the code's descent (simplestBetween) goes as the mathematics says; both ways to FracBetween meet.
-/
import Derived.Test.YtppmepajcdldkabBtwM
import Derived.Test.YtppmepajcdldkabAdb
import Derived.Test.YtppmepajcdldkabCmb
import Derived.Test.YtppmepajcdldkabFloor
namespace Go.Proofs.Ytppmepajcdldkab
open Go.RowKit
set_option linter.unusedVariables false
namespace F
theorem simp_yes {k : Nat} {ln ld hn hd : Int} (h : (ln / ld + 1) * hd < hn) : simp_ (k + 1) ln ld hn hd = (ln / ld + 1, 1) := by
  unfold simp_
  rw [if_pos h]
theorem simp_no {k : Nat} {ln ld hn hd : Int} (h : ¬ (ln / ld + 1) * hd < hn) : simp_ (k + 1) ln ld hn hd = ((ln / ld) * (simp_ k hd (hn - (ln / ld) * hd) ld (ln - (ln / ld) * ld)).1 + (simp_ k hd (hn - (ln / ld) * hd) ld (ln - (ln / ld) * ld)).2, (simp_ k hd (hn - (ln / ld) * hd) ld (ln - (ln / ld) * ld)).1) := by
  rw [simp_, if_neg h]
/-- The numbers that the descent meets stay small. -/
structure Small (ln ld hn hd : Int) : Prop where
  a1 : -100000000 ≤ ln
  a2 : ln ≤ 100000000
  b2 : ld ≤ 100000
  c1 : -100000000 ≤ hn
  c2 : hn ≤ 100000000
  e2 : hd ≤ 100000
theorem floor_small {ln ld : Int} (h1 : 1 ≤ ld) (a1 : -100000000 ≤ ln) (a2 : ln ≤ 100000000) : -100000000 ≤ ln / ld ∧ ln / ld ≤ 100000000 :=
  ⟨(Int.le_ediv_iff_mul_le (by omega)).2 (by omega), Int.le_trans (Int.ediv_le_ediv (by omega) a2) (Int.ediv_le_self _ (by omega))⟩
theorem Small.next {k : Nat} {ln ld hn hd : Int} (h : Low (k + 1) ln ld hn hd) (s : Small ln ld hn hd) (hw : ¬ (ln / ld + 1) * hd < hn) : Small hd (hn - (ln / ld) * hd) ld (ln - (ln / ld) * ld) := by
  obtain ⟨hL, n1, n2, n3⟩ := h.next hw
  have l1 := hL.hld
  have l2 := hL.hhd
  have l3 := h.hld
  exact ⟨by omega, by have := s.e2; omega, by have := s.e2; omega, by omega, by have := s.b2; omega, by have := s.b2; omega⟩
end F
set_option maxHeartbeats 1600000 in
theorem simplestBetween_any : ∀ (k : Nat) (ln ld hn hd : Int) (w : World), F.Low k ln ld hn hd → F.Small ln ld hn hd →
    Calls Try.prog 26 #[.int .i64 ln, .int .i64 ld, .int .i64 hn, .int .i64 hd] w fun e w' => e = .returned (.tuple #[.int .i64 (F.simp_ k ln ld hn hd).1, .int .i64 (F.simp_ k ln ld hn hd).2]) ∧ w' = w
  | 0, ln, ld, hn, hd, w, h, s => by
    exfalso
    have := h.hld; have := h.hhd; have := h.hfuel
    omega
  | k + 1, ln, ld, hn, hd, w, h, s => by
    have HF := Lib.hid fun W => floorOf_any ln ld W (by have := s.a1; omega) (by have := s.a2; omega) h.hld
    obtain ⟨q1, q2⟩ := F.floor_small h.hld s.a1 s.a2
    have l1 := h.hld
    have l2 := h.hhd
    obtain ⟨s1, s2, s3, s4, s5, s6⟩ := s
    have m0 := F.mul_in (A := 100000001) (B := 100000) (x := ln / ld + 1) (y := hd) (by omega) (by omega) (by omega) (by omega)
    have m1 := F.mul_in (A := 100000000) (B := 100000) (x := ln / ld) (y := hd) (by omega) (by omega) (by omega) (by omega)
    have m2 := F.mul_in (A := 100000000) (B := 100000) (x := ln / ld) (y := ld) (by omega) (by omega) (by omega) (by omega)
    by_cases hw : (ln / ld + 1) * hd < hn
    · rw [F.simp_yes hw]
      generalize ln / ld = W at *
      obtain ⟨M0, hM0⟩ : ∃ M, (W + 1) * hd = M := ⟨_, rfl⟩
      rw [hM0] at m0 hw
      obtain ⟨m01, m02⟩ := m0
      clear m1 m2 h
      go_enter Try.func26, Try.ntmps26
      go_wp2_with (go_at_call 35; refine (HF.out _).mono ?_; rintro e w' ⟨rfl, rfl⟩)
      go_ret2
      exact ⟨rfl, rfl⟩
    · obtain ⟨hL, n1, n2, n3⟩ := h.next hw
      have IH := Lib.hid fun W => simplestBetween_any k _ _ _ _ W hL (F.Small.next h ⟨s1, s2, s3, s4, s5, s6⟩ hw)
      have hsm := F.simplest_small h
      have hb := (F.simplest _ _ _ _ _ h).1.1
      rw [F.simp_no hw] at hsm hb ⊢
      have hy := (F.simplest _ _ _ _ _ hL).1.1
      generalize F.simp_ k hd (hn - (ln / ld) * hd) ld (ln - (ln / ld) * ld) = r at IH hsm hb hy ⊢
      obtain ⟨x, y⟩ := r
      replace IH : Hid (∀ W, Calls Try.prog 26 #[.int .i64 hd, .int .i64 (hn - (ln / ld) * hd), .int .i64 ld, .int .i64 (ln - (ln / ld) * ld)] W fun e w' => e = .returned (.tuple #[.int .i64 x, .int .i64 y]) ∧ w' = W) := IH
      dsimp only at hsm hb hy ⊢
      have m3 := F.mul_in (A := 100000000) (B := 200000) (x := ln / ld) (y := x) (by omega) (by omega) (by omega) (by omega)
      have m4 := F.mul_in (A := 100000000) (B := 200000) (x := ln / ld) (y := ld + hd) (by omega) (by omega) (by omega) (by omega)
      have y1 : -100000000000000 ≤ y := by omega
      have y2 : y ≤ 100000000000000 := by omega
      clear hL n1 n2 n3 h hsm hb hy m4
      generalize ln / ld = W at *
      obtain ⟨M0, hM0⟩ : ∃ M, (W + 1) * hd = M := ⟨_, rfl⟩
      obtain ⟨M1, hM1⟩ : ∃ M, W * hd = M := ⟨_, rfl⟩
      obtain ⟨M2, hM2⟩ : ∃ M, W * ld = M := ⟨_, rfl⟩
      obtain ⟨M3, hM3⟩ : ∃ M, W * x = M := ⟨_, rfl⟩
      rw [hM0] at m0 hw
      rw [hM1] at m1 IH
      rw [hM2] at m2 IH
      rw [hM3] at m3 ⊢
      obtain ⟨m01, m02⟩ := m0
      obtain ⟨m11, m12⟩ := m1
      obtain ⟨m21, m22⟩ := m2
      obtain ⟨m31, m32⟩ := m3
      go_enter Try.func26, Try.ntmps26
      go_wp2_with (first | (go_at_call 35; refine (HF.out _).mono ?_; rintro e w' ⟨rfl, rfl⟩) | (go_at_call 26; refine (IH.out _).mono ?_; rintro e w' ⟨rfl, rfl⟩))
      go_ret2
      exact ⟨rfl, rfl⟩
end Go.Proofs.Ytppmepajcdldkab
