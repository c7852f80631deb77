/-
  The simplest fraction between two: the plain mathematics of the descent, and why no other fraction between them has a lesser denominator.
-/
import Derived.Test.YtppmepajcdldkabFracM
namespace Go.Proofs.Ytppmepajcdldkab
set_option linter.unusedVariables false
namespace F
/-- p / q lies between ln / ld and hn / hd (hd = 0: no bound above). -/
def Btw (ln ld hn hd p q : Int) : Prop := 0 < q ∧ ln * q < p * ld ∧ p * hd < hn * q
/-- The descent, k steps at most. -/
def simp_ : Nat → Int → Int → Int → Int → Int × Int
  | 0, _, _, _, _ => (0, 1)
  | k + 1, ln, ld, hn, hd =>
    if (ln / ld + 1) * hd < hn then (ln / ld + 1, 1)
    else
      let r := simp_ k hd (hn - (ln / ld) * hd) ld (ln - (ln / ld) * ld)
      ((ln / ld) * r.1 + r.2, r.1)
theorem floor_lo {a d : Int} (hd : 1 ≤ d) : a / d * d ≤ a := Int.ediv_mul_le a (by omega)
theorem floor_hi {a d : Int} (hd : 1 ≤ d) : a < (a / d + 1) * d := Int.lt_ediv_add_one_mul_self a (by omega)
theorem pos_of_mul {a d : Int} (hd : 1 ≤ d) (h : 0 < a * d) : 0 < a := by
  rcases Int.lt_or_le 0 a with h' | h'
  · exact h'
  · exfalso
    have := Int.mul_nonpos_of_nonpos_of_nonneg h' (show 0 ≤ d by omega)
    omega
/-- Whatever lies above a number lies above its floor. -/
theorem above_floor {ln ld p q : Int} (hd : 1 ≤ ld) (hq : 0 < q) (h : ln * q < p * ld) : 0 < p - ln / ld * q := by
  have h1 := Int.mul_le_mul_of_nonneg_right (floor_lo (a := ln) hd) (show 0 ≤ q by omega)
  refine pos_of_mul hd ?_
  rw [Int.sub_mul]
  have e : ln / ld * q * ld = ln / ld * ld * q := by ac_rfl
  omega
theorem mul_pos_one {x y : Int} (hx : 1 ≤ x) (hy : 1 ≤ y) : 1 ≤ x * y := by
  have := Int.mul_le_mul_of_nonneg_right hx (show 0 ≤ y by omega)
  omega
/-- What the descent needs of its bounds, kept from step to step. -/
structure Low (k : Nat) (ln ld hn hd : Int) : Prop where
  hld : 1 ≤ ld
  hhd : 0 ≤ hd
  hlt : ln * hd < hn * ld
  hfuel : ld + hd ≤ k
theorem Low.hn_pos {k : Nat} {ln ld hn : Int} (h : Low k ln ld hn 0) : 0 < hn := pos_of_mul h.hld (by have := h.hlt; omega)
theorem Low.next {k : Nat} {ln ld hn hd : Int} (h : Low (k + 1) ln ld hn hd) (hw : ¬ (ln / ld + 1) * hd < hn) :
    Low k hd (hn - (ln / ld) * hd) ld (ln - (ln / ld) * ld) ∧ hn - (ln / ld) * hd ≤ hd ∧ ln - (ln / ld) * ld < ld ∧ 1 ≤ hd := by
  have h0 := h.hld
  have h1 := floor_lo (a := ln) h.hld
  have h2 := floor_hi (a := ln) h.hld
  have h3 := h.hlt
  have h4 := h.hfuel
  rw [Int.add_mul, Int.one_mul] at hw h2
  have a1 : 1 ≤ hd := by
    rcases Int.lt_or_le 0 hd with h' | h'
    · omega
    · exfalso
      have e0 : hd = 0 := by have := h.hhd; omega
      subst e0
      have := h.hn_pos
      omega
  have a2 : 1 ≤ hn - (ln / ld) * hd := by
    have : 0 < (hn - (ln / ld) * hd) * ld := by
      rw [Int.sub_mul]
      have e : ln / ld * hd * ld = ln / ld * ld * hd := by ac_rfl
      have := Int.mul_le_mul_of_nonneg_right h1 h.hhd
      omega
    have := pos_of_mul h.hld this
    omega
  refine ⟨⟨a2, by omega, ?_, by omega⟩, by omega, by omega, a1⟩
  rw [Int.mul_sub, Int.mul_sub]
  have e : hd * (ln / ld * ld) = ld * (ln / ld * hd) := by ac_rfl
  have e1 : hd * ln = ln * hd := Int.mul_comm _ _
  have e2 : ld * hn = hn * ld := Int.mul_comm _ _
  omega
/-- THE DESCENT ENDS AT THE SIMPLEST. -/
theorem simplest : ∀ (k : Nat) (ln ld hn hd : Int), Low k ln ld hn hd →
    Btw ln ld hn hd (simp_ k ln ld hn hd).1 (simp_ k ln ld hn hd).2 ∧
    ∀ p q, Btw ln ld hn hd p q → (simp_ k ln ld hn hd).2 ≤ q ∧ (simp_ k ln ld hn hd).1 - ln / ld * (simp_ k ln ld hn hd).2 ≤ p - ln / ld * q
  | 0, ln, ld, hn, hd, h => by
    exfalso
    have := h.hld; have := h.hhd; have := h.hfuel
    omega
  | k + 1, ln, ld, hn, hd, h => by
    unfold simp_
    by_cases hw : (ln / ld + 1) * hd < hn
    · rw [if_pos hw]
      refine ⟨⟨by simp, by simp only [Int.mul_one]; exact floor_hi h.hld, by simp only [Int.mul_one]; exact hw⟩, fun p q hb => ?_⟩
      have hq := hb.1
      have := above_floor h.hld hq hb.2.1
      simp only [Int.mul_one]
      omega
    · rw [if_neg hw]
      obtain ⟨hL, _, _, hd1⟩ := h.next hw
      have IH := simplest k _ _ _ _ hL
      generalize hr : simp_ k hd (hn - ln / ld * hd) ld (ln - ln / ld * ld) = r at IH ⊢
      obtain ⟨x, y⟩ := r
      dsimp only at IH ⊢
      obtain ⟨⟨b1, b2, b3⟩, hmin⟩ := IH
      have hab : ∀ p q, Btw ln ld hn hd p q → 0 < p - ln / ld * q := fun p q hb => above_floor h.hld hb.1 hb.2.1
      have hW' : 0 ≤ hd / (hn - ln / ld * hd) := Int.ediv_nonneg (by omega) (by have := hL.hld; omega)
      generalize hd / (hn - ln / ld * hd) = W' at hmin hW'
      have hl1 := hL.hld
      clear hL h hw hr
      generalize ln / ld = W at *
      have x1 : 0 < x := by
        have : 1 ≤ hd * y := mul_pos_one hd1 (by omega)
        exact pos_of_mul hl1 (by omega)
      refine ⟨⟨x1, ?_, ?_⟩, fun p q hb => ?_⟩
      · rw [Int.mul_sub] at b3
        rw [Int.add_mul]
        have e1 : x * (W * ld) = W * x * ld := by ac_rfl
        have e2 : x * ln = ln * x := Int.mul_comm _ _
        have e3 : ld * y = y * ld := Int.mul_comm _ _
        omega
      · rw [Int.mul_sub] at b2
        rw [Int.add_mul]
        have e1 : x * (W * hd) = W * x * hd := by ac_rfl
        have e2 : x * hn = hn * x := Int.mul_comm _ _
        have e3 : hd * y = y * hd := Int.mul_comm _ _
        omega
      · have S' : Btw hd (hn - W * hd) ld (ln - W * ld) q (p - W * q) := by
          refine ⟨hab p q hb, ?_, ?_⟩
          · have := hb.2.2
            rw [Int.mul_sub, Int.mul_sub]
            have e1 : hd * (W * q) = q * (W * hd) := by ac_rfl
            have e2 : hd * p = p * hd := Int.mul_comm _ _
            have e3 : q * hn = hn * q := Int.mul_comm _ _
            omega
          · have := hb.2.1
            rw [Int.mul_sub, Int.mul_sub]
            have e1 : q * (W * ld) = ld * (W * q) := by ac_rfl
            have e2 : q * ln = ln * q := Int.mul_comm _ _
            have e3 : ld * p = p * ld := Int.mul_comm _ _
            omega
        obtain ⟨m1, m2⟩ := hmin q (p - W * q) S'
        have := Int.mul_le_mul_of_nonneg_left m1 hW'
        exact ⟨by omega, by omega⟩
/-- And its terms are no greater than those of the bounds together. -/
theorem simplest_small {k : Nat} {ln ld hn hd : Int} (h : Low k ln ld hn hd) :
    (simp_ k ln ld hn hd).2 ≤ ld + hd ∧ (simp_ k ln ld hn hd).1 - ln / ld * (simp_ k ln ld hn hd).2 ≤ (ln + hn) - ln / ld * (ld + hd) := by
  refine (simplest k _ _ _ _ h).2 (ln + hn) (ld + hd) ⟨by have := h.hld; have := h.hhd; omega, ?_, ?_⟩
  · rw [Int.mul_add, Int.add_mul]; have := h.hlt; omega
  · rw [Int.mul_add, Int.add_mul]; have := h.hlt; have := Int.mul_comm hn ld; have := Int.mul_comm hn hd; omega
theorem simplest_gcd {k : Nat} {ln ld hn hd : Int} (h : Low k ln ld hn hd) : Int.gcd (simp_ k ln ld hn hd).1 (simp_ k ln ld hn hd).2 = 1 := by
  obtain ⟨⟨b1, b2, b3⟩, hmin⟩ := simplest k _ _ _ _ h
  generalize simp_ k ln ld hn hd = r at *
  obtain ⟨x, y⟩ := r
  dsimp only at *
  have hg := gcd_pos (n := x) (d := y) (by omega)
  obtain ⟨a, ha⟩ := Int.gcd_dvd_left x y
  obtain ⟨b, hb⟩ := Int.gcd_dvd_right x y
  obtain ⟨G, hG⟩ : ∃ G : Int, G = (Int.gcd x y : Int) := ⟨_, rfl⟩
  rw [← hG] at ha hb hg
  have hb0 : 0 < b := pos_of_mul hg (by rw [Int.mul_comm]; omega)
  have s1 : ln * b < a * ld := by
    have : 0 < (a * ld - ln * b) * G := by
      rw [Int.sub_mul]
      rw [ha, hb] at b2
      have e1 : ln * (G * b) = ln * b * G := by ac_rfl
      have e2 : G * a * ld = a * ld * G := by ac_rfl
      omega
    have := pos_of_mul hg this
    omega
  have s2 : a * hd < hn * b := by
    have : 0 < (hn * b - a * hd) * G := by
      rw [Int.sub_mul]
      rw [ha, hb] at b3
      have e1 : hn * (G * b) = hn * b * G := by ac_rfl
      have e2 : G * a * hd = a * hd * G := by ac_rfl
      omega
    have := pos_of_mul hg this
    omega
  have hm := (hmin a b ⟨hb0, s1, s2⟩).1
  rw [hb] at hm
  have : G ≤ 1 := by
    rcases Int.lt_or_le 1 G with h' | h'
    · exfalso
      have := Int.mul_le_mul_of_nonneg_right (show 2 ≤ G by omega) (show 0 ≤ b by omega)
      omega
    · exact h'
  omega
/-- The least numerator above the lower bound, for a denominator. -/
theorem least_num {ln ld hn hd d : Int} (h1 : 1 ≤ ld) (h2 : 0 ≤ hd) (hd1 : 1 ≤ d) {p : Int} (hb : Btw ln ld hn hd p d) : ln * d / ld + 1 ≤ p ∧ (ln * d / ld + 1) * hd < hn * d := by
  have a1 := floor_lo (a := ln * d) h1
  have a2 := hb.2.1
  have a3 : ln * d / ld + 1 ≤ p := by
    rcases Int.lt_or_le (ln * d / ld) p with h' | h'
    · omega
    · exfalso
      have := Int.mul_le_mul_of_nonneg_right h' (show 0 ≤ ld by omega)
      omega
  have := Int.mul_le_mul_of_nonneg_right a3 h2
  exact ⟨a3, by have := hb.2.2; omega⟩
theorem btw_least {ln ld hn hd d : Int} (h1 : 1 ≤ ld) (hd1 : 1 ≤ d) (h : (ln * d / ld + 1) * hd < hn * d) : Btw ln ld hn hd (ln * d / ld + 1) d :=
  ⟨by omega, floor_hi h1, h⟩
/-- The search over the denominators finds nothing below the simplest one's .. -/
theorem search_no {k : Nat} {ln ld hn hd d : Int} (h : Low k ln ld hn hd) (hd1 : 1 ≤ d) (hlt : d < (simp_ k ln ld hn hd).2) : ¬ (ln * d / ld + 1) * hd < hn * d := fun hc => by
  have := ((simplest k _ _ _ _ h).2 _ _ (btw_least h.hld hd1 hc)).1
  omega
/-- .. and the simplest one there. -/
theorem search_yes {k : Nat} {ln ld hn hd d : Int} (h : Low k ln ld hn hd) (he : d = (simp_ k ln ld hn hd).2) : (ln * d / ld + 1) * hd < hn * d ∧ ln * d / ld + 1 = (simp_ k ln ld hn hd).1 := by
  obtain ⟨hb, hmin⟩ := simplest k _ _ _ _ h
  have hd1 : 1 ≤ d := by have := hb.1; omega
  rw [← he] at hb hmin
  obtain ⟨l1, l2⟩ := least_num h.hld h.hhd hd1 hb
  have := (hmin _ _ (btw_least h.hld hd1 l2)).2
  exact ⟨l2, by omega⟩
end F
end Go.Proofs.Ytppmepajcdldkab
