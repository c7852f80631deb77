/-
  Fractions: the plain mathematics. Fractions: the helpers of the model (l2Gcd, l1In, l1Most, l2Abs, l2Good) and of the code (commonDivisor, IsFrac): each ends as the mathematics says, and leaves all that lay in the heap as it was. A fraction made of a number and a positive one: the code's way (reduced) and the model's (l2Make).
-/
import Derived.Lib.Hide
import Derived.Test.YtammlkaclooohaaProg
import Derived.Test.YtammlkaclooohaaLaw
import Derived.Test.YtammlkaclooohaaSeq
import Derived.WalkKit
import Derived.LoopTactic
import Derived.BigQuiet
import Derived.Deep.RegionWith
import Derived.Lib.SmallJoins
import Derived.Laws.ResultCell
/- Fractions: the plain mathematics. -/
namespace Go.Proofs.Ytammlkaclooohaa
set_option linter.unusedVariables false
namespace F
def good (n d : Int) : Bool := decide (1 ≤ d) && decide (d ≤ 100000) && decide (-100000000 ≤ n) && decide (n ≤ 100000000) && decide (Int.gcd n d = 1)
theorem good_iff {n d : Int} : good n d = true ↔ 1 ≤ d ∧ d ≤ 100000 ∧ -100000000 ≤ n ∧ n ≤ 100000000 ∧ Int.gcd n d = 1 := by
  unfold good
  simp only [Bool.and_eq_true, decide_eq_true_eq, and_assoc]
/-- A fraction made of a numerator and a positive denominator. -/
def mk (n d : Int) : Int × Int × Bool := if good (n / Int.gcd n d) (d / Int.gcd n d) = true then (n / Int.gcd n d, d / Int.gcd n d, true) else (0, 0, false)
theorem gcd_step (x y : Nat) : Nat.gcd y (x % y) = Nat.gcd x y := by rw [Nat.gcd_comm y, ← Nat.gcd_rec, Nat.gcd_comm]
theorem gcd_step' (x y : Nat) : Nat.gcd (y % x) x = Nat.gcd x y := (Nat.gcd_rec x y).symm
theorem gcd_pos {n d : Int} (hd : 1 ≤ d) : 1 ≤ (Int.gcd n d : Int) := by
  have : 0 < Int.gcd n d := Int.gcd_pos_of_ne_zero_right _ (by omega)
  omega
theorem div_facts {n d : Int} (hd : 1 ≤ d) :
    n.tdiv (Int.gcd n d) = n / Int.gcd n d ∧ d.tdiv (Int.gcd n d) = d / Int.gcd n d ∧ 1 ≤ d / Int.gcd n d ∧ d / Int.gcd n d ≤ d ∧ -(n.natAbs : Int) ≤ n / Int.gcd n d ∧ n / Int.gcd n d ≤ n.natAbs := by
  have hg := gcd_pos (n := n) hd
  have h1 := Int.gcd_dvd_left n d
  have h2 := Int.gcd_dvd_right n d
  obtain ⟨a, ha⟩ := h1
  obtain ⟨b, hb⟩ := h2
  refine ⟨Int.tdiv_eq_ediv_of_dvd (Int.gcd_dvd_left n d), Int.tdiv_eq_ediv_of_dvd (Int.gcd_dvd_right n d), ?_, ?_, ?_, ?_⟩
  all_goals
    obtain ⟨G, hG⟩ : ∃ G : Int, G = (Int.gcd n d : Int) := ⟨_, rfl⟩
    rw [← hG] at ha hb hg ⊢
    have ea : n / G = a := by rw [ha]; exact Int.mul_ediv_cancel_left _ (by omega)
    have eb : d / G = b := by rw [hb]; exact Int.mul_ediv_cancel_left _ (by omega)
  · rw [eb]
    rcases Int.lt_or_le b 1 with h | h
    · exfalso
      have : G * b ≤ 0 := Int.mul_nonpos_of_nonneg_of_nonpos (by omega) (by omega)
      omega
    · exact h
  · exact Int.ediv_le_self _ (by omega)
  · rw [ea]
    have := Int.natAbs_mul G a
    rw [← ha] at this
    have h3 : a.natAbs ≤ n.natAbs := by rw [this]; exact Nat.le_mul_of_pos_left _ (by omega)
    omega
  · rw [ea]
    have := Int.natAbs_mul G a
    rw [← ha] at this
    have h3 : a.natAbs ≤ n.natAbs := by rw [this]; exact Nat.le_mul_of_pos_left _ (by omega)
    omega
/-- What is made in lowest terms is a fraction exactly within the limits. -/
theorem good_low {n d : Int} (hd : 1 ≤ d) : good (n / Int.gcd n d) (d / Int.gcd n d) = true ↔ d / Int.gcd n d ≤ 100000 ∧ -100000000 ≤ n / Int.gcd n d ∧ n / Int.gcd n d ≤ 100000000 := by
  have hg := gcd_pos (n := n) hd
  have hd2 := (div_facts (n := n) hd).2.2.1
  have h1 : Int.gcd (n / Int.gcd n d) (d / Int.gcd n d) = 1 := Int.gcd_ediv_gcd_ediv_gcd (by omega)
  rw [good_iff, h1]
  omega
theorem gcd_zero (q : Int) : ((Int.gcd 0 q : Nat) : Int) = (q.natAbs : Int) := by simp [Int.gcd]
theorem gcd_tmod (p q : Int) : Int.gcd (q.tmod p) p = Int.gcd p q := by
  unfold Int.gcd
  rw [Int.natAbs_tmod, gcd_step' p.natAbs q.natAbs]
theorem tmod_small {p : Int} (q : Int) (hp : ¬ p = 0) : (q.tmod p).natAbs < p.natAbs := by
  rw [Int.natAbs_tmod]
  exact Nat.mod_lt _ (by omega)
end F
end Go.Proofs.Ytammlkaclooohaa

/- Fractions: the helpers of the model (l2Gcd, l1In, l1Most, l2Abs, l2Good) and of the code (commonDivisor, IsFrac): each ends as the mathematics says, and leaves all that lay in the heap as it was. -/
namespace Go.Proofs.Ytammlkaclooohaa
open Go.RowKit
set_option linter.unusedVariables false
abbrev fr (a b : Int) : Value := .agg #[.int .i64 a, .int .i64 b]
set_option maxHeartbeats 800000 in
theorem commonDivisor_any (x y : Int) (w : World) (hx1 : -9223372036854775807 ≤ x) (hx : x ≤ 9223372036854775807) (hy1 : -9223372036854775807 ≤ y) (hy : y ≤ 9223372036854775807) :
    Calls Try.prog 147 #[.int .i64 x, .int .i64 y] w fun e w' => e = .returned (.int .i64 ((Int.gcd x y : Nat) : Int)) ∧ w' = w := by
  go_enter Try.func147, Try.ntmps147
  go_wp2
  go_loop [0, 1] (fun a b => ∃ p q : Int, -9223372036854775807 ≤ p ∧ p ≤ 9223372036854775807 ∧ -9223372036854775807 ≤ q ∧ q ≤ 9223372036854775807 ∧ a = .int .i64 p ∧ b = .int .i64 q ∧ Int.gcd p q = Int.gcd x y) (fun a _ => (intOf a).natAbs)
  case atStart => exact ⟨x, y, hx1, hx, hy1, hy, rfl, rfl, rfl⟩
  case round =>
    obtain ⟨p, q, hp1, hp, hq1, hq, rfl, rfl, hg⟩ := hrel
    have HG := Lib.hid hg
    clear hg
    by_cases h0 : p = 0
    · subst h0
      go_wp2
      all_goals (go_ret; refine ⟨?_, rfl⟩; rw [← HG.out, F.gcd_zero]; exact congrArg (fun z => Ending.returned (.int .i64 z)) (by omega))
    · have hs := F.tmod_small q h0
      have hs1 : -9223372036854775807 ≤ q.tmod p := by omega
      have hs2 : q.tmod p ≤ 9223372036854775807 := by omega
      have HT := Lib.hid hs
      clear hs
      have HS := Lib.hid (F.gcd_tmod p q)
      go_wp2
      go_round
      case rel => exact ⟨_, _, hs1, hs2, hp1, hp, rfl, rfl, HS.out.trans HG.out⟩
      case measure => exact HT.out
theorem good_parts (n d : Int) : F.good n d = (!(decide (n < -100000000) || decide (100000000 < n) || decide (d < 1) || decide (100000 < d)) && decide (((Int.gcd n d : Nat) : Int) = 1)) := by
  rw [Bool.eq_iff_iff, F.good_iff]
  simp
  omega
theorem isFrac_any (n d : Int) (w : World) (wn : (Lit.int .i64 n).wf = true) (wd : (Lit.int .i64 d).wf = true) :
    Calls Try.prog 148 #[fr n d] w fun e w' => e = .returned (.bool (F.good n d)) ∧ Below w.heap.size w w' := by
  have bn := Go.bounds_i64 wn
  have HP := Lib.hid (good_parts n d)
  by_cases h : ¬ n < -100000000 ∧ ¬ 100000000 < n ∧ ¬ d < 1 ∧ ¬ 100000 < d
  · obtain ⟨h1, h2, h3, h4⟩ := h
    rw [HP.out]
    simp only [h1, h2, h3, h4]
    clear HP
    go_enter Try.func148, Try.ntmps148
    go_wp2_with (go_at_call 147; refine (commonDivisor_any n d _ (by omega) (by omega) (by omega) (by omega)).mono ?_; rintro e w' ⟨rfl, rfl⟩)
    go_ret
    exact ⟨congrArg (fun b => Ending.returned (.bool b)) (by rw [Bool.eq_iff_iff]; simp), (Below.refl _ _).alloc (Nat.le_refl _) _⟩
  · have hg : F.good n d = false := by
      rw [Bool.eq_false_iff]
      intro hc
      have := F.good_iff.1 hc
      omega
    rw [hg]
    have H := Lib.hid h
    clear h hg HP
    by_cases h1 : n < -100000000
    · go_enter Try.func148, Try.ntmps148
      go_wp2
      go_ret
      exact ⟨rfl, (Below.refl _ _).alloc (Nat.le_refl _) _⟩
    · by_cases h2 : 100000000 < n
      · go_enter Try.func148, Try.ntmps148
        go_wp2
        go_ret
        exact ⟨rfl, (Below.refl _ _).alloc (Nat.le_refl _) _⟩
      · by_cases h3 : d < 1
        · go_enter Try.func148, Try.ntmps148
          go_wp2
          go_ret
          exact ⟨rfl, (Below.refl _ _).alloc (Nat.le_refl _) _⟩
        · have h4 : 100000 < d := by have := H.out; omega
          go_enter Try.func148, Try.ntmps148
          go_wp2
          go_ret
          exact ⟨rfl, (Below.refl _ _).alloc (Nat.le_refl _) _⟩
set_option maxHeartbeats 800000 in
theorem l2Gcd_any (x y : Nat) (w : World) (hx : x ≤ 9223372036854775807) (hy : y ≤ 9223372036854775807) :
    Calls Try.prog 137 #[.int .i64 (x : Int), .int .i64 (y : Int)] w fun e w' => e = .returned (.int .i64 ((Nat.gcd x y : Nat) : Int)) ∧ ∃ m, w' = w.drewN m := by
  go_enter Try.func137, Try.ntmps137
  go_wp2
  go_loopw [0, 1] (fun a b wr => ∃ p q m : Nat, p ≤ 9223372036854775807 ∧ q ≤ 9223372036854775807 ∧ a = .int .i64 (p : Int) ∧ b = .int .i64 (q : Int) ∧ Nat.gcd p q = Nat.gcd x y ∧ wr = w.drewN m) (fun _ b _ => (intOf b).toNat)
  case atStart => exact ⟨x, y, 0, hx, hy, rfl, rfl, rfl, rfl⟩
  case round =>
    obtain ⟨p, q, m, hp, hq, rfl, rfl, hg, rfl⟩ := hrel
    have HG := Lib.hid hg
    clear hg
    by_cases h0 : 0 < q
    · have hI : (0 : Int) < (q : Int) := by omega
      have hz : ¬ (q : Int) = 0 := by omega
      have hlt := Nat.mod_lt p h0
      have HL := Lib.hid hlt
      clear hlt
      go_wp2
      go_quiet (fail)
      go_wp2
      go_roundw
      case rel => exact ⟨q, p % q, m + nq, hq, by have := HL.out; omega, rfl, by simp, by rw [F.gcd_step]; exact HG.out, World.drewN_drewN _ _ _⟩
      case measure =>
        show ((p : Int) % (q : Int)).toNat < ((q : Int)).toNat
        have e : (p : Int) % (q : Int) = ((p % q : Nat) : Int) := by simp
        rw [e]
        exact HL.out
    · have hI : ¬ (0 : Int) < (q : Int) := by omega
      have hq0 : q = 0 := by omega
      subst hq0
      go_wp2
      go_ret
      exact ⟨by have := HG.out; rw [Nat.gcd_zero_right] at this; rw [← this]; rfl, _, rfl⟩
theorem l1Most_any (a b : Int) (w : World) : Calls Try.prog 165 #[.int .i64 a, .int .i64 b] w fun e w' => e = .returned (.int .i64 (max a b)) ∧ w' = w := by
  by_cases h : b < a
  · go_enter Try.func165, Try.ntmps165
    go_wp2
    all_goals go_ret
    all_goals exact ⟨congrArg (fun z => Ending.returned (.int .i64 z)) (by omega), rfl⟩
  · go_enter Try.func165, Try.ntmps165
    go_wp2
    all_goals go_ret
    all_goals exact ⟨congrArg (fun z => Ending.returned (.int .i64 z)) (by omega), rfl⟩
theorem l2Abs_any (a : Int) (w : World) (h1 : -9223372036854775807 ≤ a) (h2 : a ≤ 9223372036854775807) :
    Calls Try.prog 138 #[.int .i64 a] w fun e w' => e = .returned (.int .i64 (a.natAbs : Int)) ∧ w' = w := by
  go_enter Try.func138, Try.ntmps138
  go_wp2_with (go_at_call 165; refine (l1Most_any _ _ _).mono ?_; rintro e w' ⟨rfl, rfl⟩)
  go_ret
  exact ⟨congrArg (fun z => Ending.returned (.int .i64 z)) (by omega), rfl⟩
theorem model_parts (n d : Int) (h : decide ((1 : Int) ≤ d) && decide (d ≤ 100000) && (decide (-100000000 ≤ n) && decide (n ≤ 100000000)) = true) : F.good n d = decide (((Nat.gcd n.natAbs d.toNat : Nat) : Int) = 1) := by
  simp only [Bool.and_eq_true, decide_eq_true_eq] at h
  rw [Bool.eq_iff_iff, F.good_iff, decide_eq_true_eq]
  have e : Int.gcd n d = Nat.gcd n.natAbs d.toNat := by unfold Int.gcd; congr 1; omega
  rw [e]
  omega
set_option maxHeartbeats 800000 in
theorem l2Good_any (n d : Int) (w : World) :
    Calls Try.prog 139 #[fr n d] w fun e w' => e = .returned (.bool (F.good n d)) ∧ Below w.heap.size w w' := by
  by_cases h1 : (decide ((1 : Int) ≤ d) && decide (d ≤ 100000)) = true
  · by_cases h2 : (decide ((-100000000 : Int) ≤ n) && decide (n ≤ 100000000)) = true
    · have hp := model_parts n d (by rw [h1, h2]; rfl)
      have hb : 1 ≤ d ∧ d ≤ 100000 ∧ -100000000 ≤ n ∧ n ≤ 100000000 := by
        simp only [Bool.and_eq_true, decide_eq_true_eq] at h1 h2
        omega
      rw [hp]
      have H1 := Lib.hid h1
      have H2 := Lib.hid h2
      clear hp h1 h2
      obtain ⟨b1, b2, b3, b4⟩ := hb
      have HI1 := Lib.hid fun W => (l1In_any d 1 100000 W).mono (R' := fun e w' => e = .returned (.bool true) ∧ w' = W) fun e w' ⟨he, hw⟩ => ⟨by rw [he, H1.out], hw⟩
      have HI2 := Lib.hid fun W => (l1In_any n (-100000000) 100000000 W).mono (R' := fun e w' => e = .returned (.bool true) ∧ w' = W) fun e w' ⟨he, hw⟩ => ⟨by rw [he, H2.out], hw⟩
      have HI3 := Lib.hid fun W => l2Abs_any n W (by omega) (by omega)
      have HI4 : Hid (∀ W, Calls Try.prog 137 #[.int .i64 (n.natAbs : Int), .int .i64 d] W fun e w' => e = .returned (.int .i64 ((Nat.gcd n.natAbs d.toNat : Nat) : Int)) ∧ ∃ m, w' = W.drewN m) := Lib.hid fun W => by
        have := l2Gcd_any n.natAbs d.toNat W (by omega) (by omega)
        rwa [show ((d.toNat : Nat) : Int) = d from by omega] at this
      go_enter Try.func139, Try.ntmps139
      go_wp2
      go_quiet (first
        | (go_at_call_of 83 d; exact Calls.quiet_of_same (HI1.out _))
        | (go_at_call_of 83 n; exact Calls.quiet_of_same (HI2.out _))
        | (go_at_call 138; exact Calls.quiet_of_same (HI3.out _))
        | (go_at_call 137; exact Calls.quiet_of (HI4.out _)))
      go_wp2
      go_ret
      exact ⟨congrArg (fun b => Ending.returned (.bool b)) (by rw [Bool.eq_iff_iff]; simp), Law.then_ ((Below.refl _ _).alloc (Nat.le_refl _) _) (Law.draws _ _ _)⟩
    · have h2' := Bool.eq_false_iff.2 h2
      have hg : F.good n d = false := by
        rw [Bool.eq_false_iff]
        intro hc
        have hc := F.good_iff.1 hc
        exact h2 (by simp [hc.2.2.1, hc.2.2.2.1])
      rw [hg]
      have H1 := Lib.hid h1
      have H2 := Lib.hid h2'
      clear hg h1 h2 h2'
      have HI1 := Lib.hid fun W => (l1In_any d 1 100000 W).mono (R' := fun e w' => e = .returned (.bool true) ∧ w' = W) fun e w' ⟨he, hw⟩ => ⟨by rw [he, H1.out], hw⟩
      have HI2 := Lib.hid fun W => (l1In_any n (-100000000) 100000000 W).mono (R' := fun e w' => e = .returned (.bool false) ∧ w' = W) fun e w' ⟨he, hw⟩ => ⟨by rw [he, H2.out], hw⟩
      go_enter Try.func139, Try.ntmps139
      go_wp2
      go_quiet (first
        | (go_at_call_of 83 d; exact Calls.quiet_of_same (HI1.out _))
        | (go_at_call_of 83 n; exact Calls.quiet_of_same (HI2.out _)))
      go_wp2
      go_ret
      exact ⟨rfl, Law.then_ ((Below.refl _ _).alloc (Nat.le_refl _) _) (Law.draws _ _ _)⟩
  · have h1' := Bool.eq_false_iff.2 h1
    have hg : F.good n d = false := by
      rw [Bool.eq_false_iff]
      intro hc
      have hc := F.good_iff.1 hc
      exact h1 (by simp [hc.1, hc.2.1])
    rw [hg]
    have H1 := Lib.hid h1'
    clear hg h1 h1'
    have HI1 := Lib.hid fun W => (l1In_any d 1 100000 W).mono (R' := fun e w' => e = .returned (.bool false) ∧ w' = W) fun e w' ⟨he, hw⟩ => ⟨by rw [he, H1.out], hw⟩
    go_enter Try.func139, Try.ntmps139
    go_wp2
    go_quiet ((go_at_call_of 83 d; exact Calls.quiet_of_same (HI1.out _)))
    go_wp2
    go_ret
    exact ⟨rfl, Law.then_ ((Below.refl _ _).alloc (Nat.le_refl _) _) (Law.draws _ _ _)⟩
end Go.Proofs.Ytammlkaclooohaa

/- A fraction made of a number and a positive one: the code's way (reduced) and the model's (l2Make). -/
namespace Go.Proofs.Ytammlkaclooohaa
open Go.RowKit
set_option linter.unusedVariables false
/-- A fraction and a flag, as a call hands them back. -/
abbrev res (x : Int × Int × Bool) : Value := .tuple #[fr x.1 x.2.1, .bool x.2.2]
theorem mk_yes {n d N D : Int} (hN : n / Int.gcd n d = N) (hD : d / Int.gcd n d = D) (hg : F.good N D = true) : F.mk n d = (N, D, true) := by
  unfold F.mk
  rw [hN, hD, if_pos hg]
theorem mk_no {n d N D : Int} (hN : n / Int.gcd n d = N) (hD : d / Int.gcd n d = D) (hg : F.good N D = false) : F.mk n d = (0, 0, false) := by
  unfold F.mk
  rw [hN, hD, if_neg (by rw [hg]; exact Bool.false_ne_true)]
/-- A struct of two ints in a block of the call's own: its cells, and that none is frozen. -/
structure Blk (w : World) (b : Nat) (x y : Value) : Prop where
  c0 : w.cell? ⟨b, 0, none⟩ = some x
  c1 : w.cell? ⟨b, 1, none⟩ = some y
  f0 : w.frozen? ⟨b, 0, none⟩ = false
  f1 : w.frozen? ⟨b, 1, none⟩ = false
theorem Blk.below {B : Nat} {w w' : World} {b : Nat} {x y : Value} (h : Blk w b x y) (hb : Below B w w') (hlt : b < B) : Blk w' b x y :=
  ⟨(hb.cell (p := ⟨b, 0, none⟩) hlt).trans h.c0, (hb.cell (p := ⟨b, 1, none⟩) hlt).trans h.c1, (hb.frozen (p := ⟨b, 0, none⟩) hlt).trans h.f0, (hb.frozen (p := ⟨b, 1, none⟩) hlt).trans h.f1⟩
theorem Blk.carry {G : Prop} {B : Nat} {w w' : World} {b : Nat} {x y : Value} (hb : Below B w w') (h0 : w.cell? ⟨b, 0, none⟩ = some x) (h1 : w.cell? ⟨b, 1, none⟩ = some y) (h2 : w.frozen? ⟨b, 0, none⟩ = false) (h3 : w.frozen? ⟨b, 1, none⟩ = false) (hlt : b < B)
    (k : Blk w' b x y → G) : G := k (Blk.below ⟨h0, h1, h2, h3⟩ hb hlt)
theorem Blk.set2 {w : World} {b : Nat} {x y : Value} (h : Blk w b x y) (x' y' : Value) : Blk ((w.setCell ⟨b, 0, none⟩ x').setCell ⟨b, 1, none⟩ y') b x' y' := by
  have n1 : (⟨b, 1, none⟩ : Addr) ≠ ⟨b, 0, none⟩ := fun h => by injection h with _ h; exact absurd h (by decide)
  have e1 : (w.setCell ⟨b, 0, none⟩ x').cell? ⟨b, 1, none⟩ = some y := by rw [World.cell?_setCell_other (h := n1.symm)]; exact h.c1
  have e0 : (w.setCell ⟨b, 0, none⟩ x').cell? ⟨b, 0, none⟩ = some x' := by rw [World.cell?_setCell_same (h := h.c0)]
  refine ⟨?_, ?_, by simp [h.f0], by simp [h.f1]⟩
  · rw [World.cell?_setCell_other (h := n1)]; exact e0
  · rw [World.cell?_setCell_same (h := e1)]
/-- A return of a struct that lies in a block of the call's own, and a flag. -/
theorem ret_frac {fn : Func} {R : Ending → World → Prop} {a : Act} {w : World} {pt u : Tmp} {b : Nat} {x y f : Value}
    (h : fn.results = #[.cell pt 32, .tmp u]) (hd : a.defers = []) (hp : a.tmps.getD pt undef = .pointer (some ⟨b, 0, none⟩)) (hB : Blk w b x y) (hf : a.tmps.getD u undef = f)
    (hR : R (.returned (.tuple #[.agg #[x, y], f])) w) : bodyPost Try.prog fn R .ret a w := by
  refine bodyPost_ret_by (v := .tuple #[.agg #[x, y], f]) ?_ hd hR
  rw [results_cell_tmp h, hp, hf]
  obtain ⟨c0, c1, _, _⟩ := hB
  go_simp
theorem ret_frac1 {fn : Func} {R : Ending → World → Prop} {a : Act} {w : World} {pt : Tmp} {b : Nat} {x y : Value}
    (h : fn.results = #[.cell pt 32]) (hd : a.defers = []) (hp : a.tmps.getD pt undef = .pointer (some ⟨b, 0, none⟩)) (hB : Blk w b x y)
    (hR : R (.returned (.agg #[x, y])) w) : bodyPost Try.prog fn R .ret a w := by
  refine bodyPost_ret_by (v := .agg #[x, y]) ?_ hd hR
  obtain ⟨c0, c1, _, _⟩ := hB
  have key : (results fn a.tmps).run Try.prog w = ((asAddr (a.tmps.getD pt undef)).run Try.prog w).andThen fun q w1 => (loadVar 32 q).run Try.prog w1 := by
    simp only [results, h]
    simp [Sem.run_bind, Result.andThen]
  rw [key, hp]
  go_simp
theorem wf_small {x : Int} (h1 : -9223372036854775808 ≤ x) (h2 : x ≤ 9223372036854775807) : (Lit.int .i64 x).wf = true := by
  simp [Lit.wf, IntKind.min, IntKind.max, IntKind.signed, IntKind.bits]
  omega
set_option maxHeartbeats 800000 in
theorem reduced_any (n d : Int) (w : World) (h1 : -9223372036854775807 ≤ n) (h2 : n ≤ 9223372036854775807) (h3 : 1 ≤ d) (h4 : d ≤ 9223372036854775807) :
    Calls Try.prog 89 #[.int .i64 n, .int .i64 d] w fun e w' => e = .returned (res (F.mk n d)) ∧ Below w.heap.size w w' := by
  have HC := Lib.hid fun W => commonDivisor_any n d W h1 h2 (by omega) h4
  have hf := F.div_facts (n := n) h3
  have hgp := F.gcd_pos (n := n) h3
  obtain ⟨f1, f2, f3, f4, f5, f6⟩ := hf
  obtain ⟨N, hN⟩ : ∃ N, N = n / (Int.gcd n d : Int) := ⟨_, rfl⟩
  obtain ⟨D, hD⟩ : ∃ D, D = d / (Int.gcd n d : Int) := ⟨_, rfl⟩
  have hM := Lib.hid (fun h => mk_yes (n := n) (d := d) hN.symm hD.symm h)
  have hM' := Lib.hid (fun h => mk_no (n := n) (d := d) hN.symm hD.symm h)
  rw [← hN] at f1 f5 f6
  rw [← hD] at f2 f3 f4
  clear hN hD
  generalize F.mk n d = X at hM hM' ⊢
  generalize ((Int.gcd n d : Nat) : Int) = G at HC f1 f2 hgp
  have hz : ¬ G = 0 := by omega
  by_cases hg : F.good N D = true
  · have hx := hM.out hg
    subst hx
    go_enter Try.func89, Try.ntmps89
    go_wp2_with (go_at_call 147; refine (HC.out _).mono ?_; rintro e w' ⟨rfl, rfl⟩)
    go_region
    go_wp2_with (go_at_call 148; refine (isFrac_any N D _ (wf_small (by omega) (by omega)) (wf_small (by omega) (by omega))).mono ?_; rintro e w1 ⟨rfl, hb1⟩; have B1 := Lib.hid hb1; obtain ⟨c00, c01, f00, f01⟩ := Blk.below (b := w.heap.size) (x := .int .i64 0) (y := .int .i64 0) ⟨by go_simp, by go_simp, by go_simp, by go_simp⟩ hb1 (by first | omega | (simp; omega) | (simp; done)); obtain ⟨c10, c11, f10, f11⟩ := Blk.below (b := w.heap.size + 1) (x := .int .i64 N) (y := .int .i64 D) ⟨by go_simp, by go_simp, by go_simp, by go_simp⟩ hb1 (by first | omega | (simp; omega) | (simp; done)); clear hb1)
    refine ret_frac rfl rfl rfl (Blk.set2 ⟨c00, c01, f00, f01⟩ _ _) rfl ⟨rfl, ?_⟩
    (repeat (first | exact Below.refl _ _ | refine Below.setCell ?_ (by first | omega | (simp; omega) | (simp; done)) _ | refine Below.drew ?_ | refine Law.up ?_ _ | refine Below.alloc ?_ (by first | omega | (simp; omega) | (simp; done)) _ | refine Law.then_ ?_ (Hid.out (by assumption))))
  · have hg' := Bool.eq_false_iff.2 hg
    have hx := hM'.out hg'
    subst hx
    clear hg
    go_enter Try.func89, Try.ntmps89
    go_wp2_with (go_at_call 147; refine (HC.out _).mono ?_; rintro e w' ⟨rfl, rfl⟩)
    go_region
    go_wp2_with (go_at_call 148; refine (isFrac_any N D _ (wf_small (by omega) (by omega)) (wf_small (by omega) (by omega))).mono ?_; rintro e w1 ⟨rfl, hb1⟩; have B1 := Lib.hid hb1; obtain ⟨c00, c01, f00, f01⟩ := Blk.below (b := w.heap.size) (x := .int .i64 0) (y := .int .i64 0) ⟨by go_simp, by go_simp, by go_simp, by go_simp⟩ hb1 (by first | omega | (simp; omega) | (simp; done)); obtain ⟨c10, c11, f10, f11⟩ := Blk.below (b := w.heap.size + 1) (x := .int .i64 N) (y := .int .i64 D) ⟨by go_simp, by go_simp, by go_simp, by go_simp⟩ hb1 (by first | omega | (simp; omega) | (simp; done)); clear hb1)
    refine ret_frac rfl rfl rfl (Blk.set2 ⟨c00, c01, f00, f01⟩ _ _) rfl ⟨rfl, ?_⟩
    (repeat (first | exact Below.refl _ _ | refine Below.setCell ?_ (by first | omega | (simp; omega) | (simp; done)) _ | refine Below.drew ?_ | refine Law.up ?_ _ | refine Below.alloc ?_ (by first | omega | (simp; omega) | (simp; done)) _ | refine Law.then_ ?_ (Hid.out (by assumption))))
set_option maxHeartbeats 800000 in
theorem l2Make_any (n d : Int) (w : World) (h1 : -9223372036854775807 ≤ n) (h2 : n ≤ 9223372036854775807) (h3 : 1 ≤ d) (h4 : d ≤ 9223372036854775807) :
    Calls Try.prog 67 #[.int .i64 n, .int .i64 d] w fun e w' => e = .returned (res (F.mk n d)) ∧ Below w.heap.size w w' := by
  have HA := Lib.hid fun W => l2Abs_any n W (by omega) (by omega)
  have HC : Hid (∀ W, Calls Try.prog 137 #[.int .i64 (n.natAbs : Int), .int .i64 d] W fun e w' => e = .returned (.int .i64 ((Int.gcd n d : Nat) : Int)) ∧ ∃ m, w' = W.drewN m) := Lib.hid fun W => by
    have := l2Gcd_any n.natAbs d.toNat W (by omega) (by omega)
    rw [show ((d.toNat : Nat) : Int) = d from by omega] at this
    have e : Int.gcd n d = Nat.gcd n.natAbs d.toNat := by unfold Int.gcd; congr 1; omega
    rwa [← e] at this
  have hf := F.div_facts (n := n) h3
  have hgp := F.gcd_pos (n := n) h3
  obtain ⟨f1, f2, f3, f4, f5, f6⟩ := hf
  obtain ⟨N, hN⟩ : ∃ N, N = n / (Int.gcd n d : Int) := ⟨_, rfl⟩
  obtain ⟨D, hD⟩ : ∃ D, D = d / (Int.gcd n d : Int) := ⟨_, rfl⟩
  have hM := Lib.hid (fun h => mk_yes (n := n) (d := d) hN.symm hD.symm h)
  have hM' := Lib.hid (fun h => mk_no (n := n) (d := d) hN.symm hD.symm h)
  rw [← hN] at f1 f5 f6
  rw [← hD] at f2 f3 f4
  clear hN hD
  generalize F.mk n d = X at hM hM' ⊢
  generalize ((Int.gcd n d : Nat) : Int) = G at HC f1 f2 hgp
  have hz : ¬ G = 0 := by omega
  by_cases hg : F.good N D = true
  · have hx := hM.out hg
    subst hx
    go_enter Try.func67, Try.ntmps67
    go_wp2_with (first | (go_at_call 138; refine (HA.out _).mono ?_; rintro e w' ⟨rfl, rfl⟩) | (go_at_call 137; refine (HC.out _).mono ?_; rintro e w' ⟨rfl, m, rfl⟩))
    go_region
    go_wp2_with (go_at_call 139; refine (l2Good_any N D _).mono ?_; rintro e w1 ⟨rfl, hb1⟩; have B1 := Lib.hid hb1; obtain ⟨c00, c01, f00, f01⟩ := Blk.below (b := w.heap.size) (x := .int .i64 0) (y := .int .i64 0) ⟨by go_simp, by go_simp, by go_simp, by go_simp⟩ hb1 (by first | omega | (simp; omega) | (simp; done)); obtain ⟨c10, c11, f10, f11⟩ := Blk.below (b := w.heap.size + 1) (x := .int .i64 N) (y := .int .i64 D) ⟨by go_simp, by go_simp, by go_simp, by go_simp⟩ hb1 (by first | omega | (simp; omega) | (simp; done)); clear hb1)
    refine ret_frac rfl rfl rfl (Blk.set2 ⟨c00, c01, f00, f01⟩ _ _) rfl ⟨rfl, ?_⟩
    (repeat (first | exact Below.refl _ _ | refine Below.setCell ?_ (by first | omega | (simp; omega) | (simp; done)) _ | refine Below.drew ?_ | refine Law.up ?_ _ | refine Below.alloc ?_ (by first | omega | (simp; omega) | (simp; done)) _ | refine Law.then_ ?_ (Hid.out (by assumption))))
  · have hg' := Bool.eq_false_iff.2 hg
    have hx := hM'.out hg'
    subst hx
    clear hg
    go_enter Try.func67, Try.ntmps67
    go_wp2_with (first | (go_at_call 138; refine (HA.out _).mono ?_; rintro e w' ⟨rfl, rfl⟩) | (go_at_call 137; refine (HC.out _).mono ?_; rintro e w' ⟨rfl, m, rfl⟩))
    go_region
    go_wp2_with (go_at_call 139; refine (l2Good_any N D _).mono ?_; rintro e w1 ⟨rfl, hb1⟩; have B1 := Lib.hid hb1; obtain ⟨c00, c01, f00, f01⟩ := Blk.below (b := w.heap.size) (x := .int .i64 0) (y := .int .i64 0) ⟨by go_simp, by go_simp, by go_simp, by go_simp⟩ hb1 (by first | omega | (simp; omega) | (simp; done)); obtain ⟨c10, c11, f10, f11⟩ := Blk.below (b := w.heap.size + 1) (x := .int .i64 N) (y := .int .i64 D) ⟨by go_simp, by go_simp, by go_simp, by go_simp⟩ hb1 (by first | omega | (simp; omega) | (simp; done)); clear hb1)
    refine ret_frac rfl rfl rfl (Blk.set2 ⟨c00, c01, f00, f01⟩ _ _) rfl ⟨rfl, ?_⟩
    (repeat (first | exact Below.refl _ _ | refine Below.setCell ?_ (by first | omega | (simp; omega) | (simp; done)) _ | refine Below.drew ?_ | refine Law.up ?_ _ | refine Below.alloc ?_ (by first | omega | (simp; omega) | (simp; done)) _ | refine Law.then_ ?_ (Hid.out (by assumption))))
end Go.Proofs.Ytammlkaclooohaa
