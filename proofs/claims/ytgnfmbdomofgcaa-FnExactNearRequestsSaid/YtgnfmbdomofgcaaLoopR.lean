/-
  The model's LoopRequests: a row of the call's own.
-/
import Derived.Test.YtgnfmbdomofgcaaGood
import Derived.Test.YtgnfmbdomofgcaaRowS
namespace Go.Proofs.Ytgnfmbdomofgcaa
open Go.RowKit
set_option linter.unusedVariables false
namespace Q
/-- What LoopRequests gives. -/
def loopL (k m : Nat) : List Int := (List.range m).map fun i => ((i % k : Nat) : Int)
theorem loopL_succ (k m : Nat) : loopL k (m + 1) = loopL k m ++ [((m % k : Nat) : Int)] := by simp [loopL, List.range_succ]
theorem loopL_len (k m : Nat) : (loopL k m).length = m := by simp [loopL]
def loopOk (n k l : Int) : Bool := okN n && ((decide (1 ≤ k) && decide (k ≤ n)) && (decide (0 ≤ l) && decide (l ≤ 60)))
def loopQ (n k l : Int) : List Int × Bool := if loopOk n k l then (loopL k.toNat l.toNat, true) else ([], false)
end Q
set_option maxHeartbeats 1600000 in
theorem specLoop_good (n : Int) (k m : Nat) (w : World) (h1 : 1 ≤ n) (h2 : n ≤ 8) (h3 : 1 ≤ k) (h4 : (k : Int) ≤ n) (h5 : m ≤ 60) :
    Calls Try.prog 52 #[.int .i64 n, .int .i64 k, .int .i64 m] w (rowSays (Q.loopL k m, true) w) := by
  obtain ⟨i0, hi, hz0, hz1, hz2⟩ := info_parts infoInts
  have HI : Hid (∀ W, Calls Try.prog 73 #[.int .i64 n] W fun e w' => e = .returned (.bool true) ∧ w' = W) := fun W => by
    have h := l3Items_any n W
    rwa [Q.okN_iff.2 ⟨h1, h2⟩] at h
  have HJ : Hid (∀ W, Calls Try.prog 74 #[.int .i64 k, .int .i64 1, .int .i64 n] W fun e w' => e = .returned (.bool true) ∧ w' = W) := fun W => by
    have h := l1In_any k 1 n W
    rwa [show (decide ((1 : Int) ≤ k) && decide ((k : Int) ≤ n)) = true by simp; omega] at h
  have HK : Hid (∀ W, Calls Try.prog 91 #[.int .i64 m] W fun e w' => e = .returned (.bool true) ∧ w' = W) := fun W => by
    have h := l3Length_any m W
    rwa [show (decide ((0 : Int) ≤ m) && decide ((m : Int) ≤ 60)) = true by simp; omega] at h
  go_enter Try.func52, Try.ntmps52
  go_wp2_with (first | (go_at_call 73; refine (HI.out _).mono ?_; rintro e w' ⟨rfl, rfl⟩) | (go_at_call 74; refine (HJ.out _).mono ?_; rintro e w' ⟨rfl, rfl⟩) | (go_at_call 91; refine (HK.out _).mono ?_; rintro e w' ⟨rfl, rfl⟩))
  go_loopw [8, 9] (fun v i wr => ∃ j : Nat, j ≤ m ∧ i = .int .i64 j ∧ Hid (wr.ownsRow w.heap.size 3 1 v (Q.loopL k j).length (ivs (Q.loopL k j))) ∧ Hid (Below w.heap.size w wr)) (fun _ i _ => m - (intOf i).toNat)
  case atStart => exact ⟨0, Nat.zero_le _, rfl, ownsRow_nil _ _, (Below.refl _ _).alloc (Nat.le_refl _) _⟩
  case round =>
    obtain ⟨j, hj, rfl, how, hbw⟩ := hrel
    by_cases hlt : j < m
    · have hltI : (j : Int) < (m : Int) := by omega
      have hsz := hbw.out.size
      have hl := Q.loopL_len k j
      go_wp2_with (at_builtin; refine wpList_append_own _ rfl _ _ 24 rfl w.heap.size 3 i0 (.int .i64 0) 1 8 Try.underlying24 hi hz0 hz1 hz2 rfl (by decide) _ _ _ rfl (how.out.alloc _) ⟨wr.heap.size, 0, none⟩ 1 1 [.int .i64 ((j : Int) % (k : Int))] rfl rfl ?c1 ?c2 ?c3 ?c4 ?c5 ?_)
      case c1 =>
        intro j' u hj'
        match j', hj' with
        | 0, hj' => simp at hj'; subst hj'; simp [Addr.add]
      case c2 => intro u hu; simp at hu; subst hu; rfl
      case c3 => unfold maxLen; omega
      case c4 => omega
      case c5 => simp; omega
      intro v' w1 hown' hgrow _
      have HO := Lib.hid hown'
      have HB := Lib.hid ((hbw.out.alloc hsz (.cells #[.int .i64 ((j : Int) % (k : Int))] 3)).grown hgrow (by simp; omega) (fun j e => (how.out.lt j e).1))
      clear hown' hgrow how hbw
      go_wp2
      go_roundw
      case rel => exact ⟨j + 1, by omega, by go_num, (by show World.ownsRow _ _ _ _ _ _ _; rw [Q.loopL_succ, ivs_snoc, List.length_append, hl, Int.natCast_emod]; exact HO.out), HB.out⟩
      case measure => simp [intOf]; omega
    · have hje : j = m := by omega
      have hltI : ¬ (j : Int) < (m : Int) := by omega
      have HJ2 := Lib.hid hje
      clear hje
      go_wp2
      go_ret2
      refine ⟨_, rfl, ?_, hbw.out⟩
      have := how.out
      rw [HJ2.out] at this
      exact this
set_option maxHeartbeats 800000 in
theorem specLoop_any (n k l : Int) (w : World) : Calls Try.prog 52 #[.int .i64 n, .int .i64 k, .int .i64 l] w (rowSays (Q.loopQ n k l) w) := by
  by_cases h0 : Q.loopOk n k l = true
  · have h : ((1 ≤ n ∧ n ≤ 8) ∧ (1 ≤ k ∧ k ≤ n) ∧ 0 ≤ l ∧ l ≤ 60) := by simpa [Q.loopOk, Q.okN] using h0
    obtain ⟨k', rfl⟩ := Int.eq_ofNat_of_zero_le (show 0 ≤ k by omega)
    obtain ⟨m, rfl⟩ := Int.eq_ofNat_of_zero_le h.2.2.1
    have h' := specLoop_good n k' m w h.1.1 h.1.2 (by omega) h.2.1.2 (by omega)
    have e : Q.loopQ n k' m = (Q.loopL k' m, true) := by unfold Q.loopQ; rw [if_pos h0]; rfl
    rw [e]
    exact h'
  · have e : Q.loopQ n k l = ([], false) := by unfold Q.loopQ; rw [if_neg h0]
    rw [e]
    have HI := Lib.hid fun W => l3Items_any n W
    have HJ := Lib.hid fun W => l1In_any k 1 n W
    have HK := Lib.hid fun W => l3Length_any l W
    unfold Q.loopOk at h0
    cases h1 : Q.okN n <;> rw [h1] at HI h0 <;> cases h2 : (decide (1 ≤ k) && decide (k ≤ n)) <;> rw [h2] at HJ h0 <;> cases h3 : (decide (0 ≤ l) && decide (l ≤ 60)) <;> rw [h3] at HK h0
    case true.true.true => exact absurd rfl h0
    all_goals
      clear h0 h1 h2 h3
      go_enter Try.func52, Try.ntmps52
      go_wp2_with (first | (go_at_call 73; refine (HI.out _).mono ?_; rintro e w' ⟨rfl, rfl⟩) | (go_at_call 74; refine (HJ.out _).mono ?_; rintro e w' ⟨rfl, rfl⟩) | (go_at_call 91; refine (HK.out _).mono ?_; rintro e w' ⟨rfl, rfl⟩))
      go_ret2
      exact ⟨_, rfl, ownsRow_nil _ _, (Below.refl _ _).alloc (Nat.le_refl _) _⟩
end Go.Proofs.Ytgnfmbdomofgcaa
