/-
  The model's SeededRequests: a row of the call's own.
-/
import Derived.Test.YtgnfmbdomofgcaaLoopR
namespace Go.Proofs.Ytgnfmbdomofgcaa
open Go.RowKit
set_option linter.unusedVariables false
namespace Q
/-- The state behind another one. -/
def nxt (s : Nat) : Nat := (1021 * s + 12345) % 65536
/-- The state behind j steps. -/
def st (s : Nat) : Nat → Nat | 0 => s | j + 1 => nxt (st s j)
theorem nxt_lt (s : Nat) : nxt s < 65536 := Nat.mod_lt _ (by omega)
theorem st_lt {s : Nat} (h : s ≤ 9999) : ∀ j, st s j < 65536 | 0 => by show s < _; omega | j + 1 => nxt_lt _
def seedL (n s m : Nat) : List Int := (List.range m).map fun i => ((st s (i + 1) / 16 % n : Nat) : Int)
theorem seedL_succ (n s m : Nat) : seedL n s (m + 1) = seedL n s m ++ [((st s (m + 1) / 16 % n : Nat) : Int)] := by simp [seedL, List.range_succ]
theorem seedL_len (n s m : Nat) : (seedL n s m).length = m := by simp [seedL]
def seedOk (n l s : Int) : Bool := okN n && ((decide (0 ≤ l) && decide (l ≤ 60)) && (decide (0 ≤ s) && decide (s ≤ 9999)))
def seedQ (n l s : Int) : List Int × Bool := if seedOk n l s then (seedL n.toNat s.toNat l.toNat, true) else ([], false)
end Q
theorem l3Next_any (s : Nat) (w : World) (h : s < 65536) : Calls Try.prog 92 #[.int .i64 s] w fun e w' => e = .returned (.int .i64 (Q.nxt s : Nat)) ∧ w' = w := by
  have HE : Hid ((Q.nxt s : Nat) = (1021 * (s : Int) + 12345) % 65536) := by show _ = _; simp [Q.nxt]
  go_enter Try.func92, Try.ntmps92
  go_wp2
  go_ret
  exact ⟨by rw [HE.out]; rfl, rfl⟩
/-- The length in a slot. -/
def lenV : Value → Nat | .slice _ n _ => n | _ => 0
set_option maxHeartbeats 1600000 in
theorem specSeed_good (n m s : Nat) (w : World) (h1 : 1 ≤ n) (h2 : n ≤ 8) (h5 : m ≤ 60) (h6 : s ≤ 9999) :
    Calls Try.prog 54 #[.int .i64 n, .int .i64 m, .int .i64 s] w (rowSays (Q.seedL n s m, true) w) := by
  obtain ⟨i0, hi, hz0, hz1, hz2⟩ := info_parts infoInts
  have HI : Hid (∀ W, Calls Try.prog 73 #[.int .i64 n] W fun e w' => e = .returned (.bool true) ∧ w' = W) := fun W => by
    have h := l3Items_any n W
    rwa [Q.okN_iff.2 ⟨by omega, by omega⟩] at h
  have HJ : Hid (∀ W, Calls Try.prog 74 #[.int .i64 s, .int .i64 0, .int .i64 9999] W fun e w' => e = .returned (.bool true) ∧ w' = W) := fun W => by
    have h := l1In_any s 0 9999 W
    rwa [show (decide ((0 : Int) ≤ s) && decide ((s : Int) ≤ 9999)) = true by simp; omega] at h
  have HK : Hid (∀ W, Calls Try.prog 91 #[.int .i64 m] W fun e w' => e = .returned (.bool true) ∧ w' = W) := fun W => by
    have h := l3Length_any m W
    rwa [show (decide ((0 : Int) ≤ m) && decide ((m : Int) ≤ 60)) = true by simp; omega] at h
  go_enter Try.func54, Try.ntmps54
  go_wp2_with (first | (go_at_call 73; refine (HI.out _).mono ?_; rintro e w' ⟨rfl, rfl⟩) | (go_at_call 74; refine (HJ.out _).mono ?_; rintro e w' ⟨rfl, rfl⟩) | (go_at_call 91; refine (HK.out _).mono ?_; rintro e w' ⟨rfl, rfl⟩))
  go_loopw [8, 9] (fun v i wr => ∃ j : Nat, j ≤ m ∧ i = .int .i64 (Q.st s j : Nat) ∧ Hid (wr.ownsRow w.heap.size 3 1 v j (ivs (Q.seedL n s j))) ∧ Hid (Below w.heap.size w wr)) (fun v _ _ => m - lenV v)
  case atStart => exact ⟨0, Nat.zero_le _, rfl, ownsRow_nil _ _, (Below.refl _ _).alloc (Nat.le_refl _) _⟩
  case round =>
    obtain ⟨j, hj, rfl, how, hbw⟩ := hrel
    obtain ⟨A, c, rfl, hc1, hc2, _⟩ := Law.own_len how.out
    by_cases hlt : j < m
    · have hltI : (j : Int) < (m : Int) := by omega
      have hsz := hbw.out.size
      have HX := Lib.hid fun W => l3Next_any (Q.st s j) W (Q.st_lt h6 j)
      have hs := Q.st_lt h6 (j + 1)
      have HS : Hid (Q.nxt (Q.st s j) = Q.st s (j + 1)) := rfl
      rw [HS.out] at HX
      have HL := Lib.hid (Q.seedL_succ n s j)
      generalize Q.st s (j + 1) = z at HX hs HL HS
      go_wp2_with fail
      go_at_call 92
      refine (HX.out _).mono ?_
      rintro e w' ⟨rfl, hw'⟩
      obtain rfl := hw'.symm
      go_wp2_with (at_builtin; refine wpList_append_own _ rfl _ _ 24 rfl w.heap.size 3 i0 (.int .i64 0) 1 8 Try.underlying24 hi hz0 hz1 hz2 rfl (by decide) _ _ _ rfl (how.out.alloc _) ⟨wr.heap.size, 0, none⟩ 1 1 [.int .i64 ((z : Int) / 16 % (n : Int))] rfl rfl ?c1 ?c2 ?c3 ?c4 ?c5 ?_)
      case c1 =>
        intro j' u hj'
        match j', hj' with
        | 0, hj' => simp at hj'; subst hj'; simp [Addr.add]
      case c2 => intro u hu; simp at hu; subst hu; rfl
      case c3 => unfold maxLen; omega
      case c4 => omega
      case c5 => simp; omega
      intro v' w1 hown' hgrow _
      have HO := Lib.hid hown'
      have HB := Lib.hid ((hbw.out.alloc hsz (.cells #[.int .i64 ((z : Int) / 16 % (n : Int))] 3)).grown hgrow (by simp; omega) (fun j e => (how.out.lt j e).1))
      obtain ⟨A', c', rfl, _, _, _⟩ := Law.own_len hown'
      clear hown' hgrow how hbw
      go_wp2
      go_roundw
      case rel => exact ⟨j + 1, by omega, (by show Value.int .i64 (z : Int) = .int .i64 ((Q.nxt (Q.st s j) : Nat) : Int); rw [HS.out]), (by show World.ownsRow _ _ _ _ _ _ _; rw [HL.out, ivs_snoc]; simpa using HO.out), HB.out⟩
      case measure => simp [lenV]; omega
    · have hje : j = m := by omega
      have hltI : ¬ (j : Int) < (m : Int) := by omega
      have HJ2 := Lib.hid hje
      clear hje
      go_wp2
      go_ret2
      refine ⟨_, rfl, ?_, hbw.out⟩
      have := how.out
      rw [HJ2.out] at this ⊢
      simp only [Q.seedL_len]
      exact this
set_option maxHeartbeats 800000 in
theorem specSeed_any (n l s : Int) (w : World) : Calls Try.prog 54 #[.int .i64 n, .int .i64 l, .int .i64 s] w (rowSays (Q.seedQ n l s) w) := by
  by_cases h0 : Q.seedOk n l s = true
  · have h : ((1 ≤ n ∧ n ≤ 8) ∧ (0 ≤ l ∧ l ≤ 60) ∧ 0 ≤ s ∧ s ≤ 9999) := by simpa [Q.seedOk, Q.okN] using h0
    obtain ⟨k, rfl⟩ := Int.eq_ofNat_of_zero_le (show 0 ≤ n by omega)
    obtain ⟨m, rfl⟩ := Int.eq_ofNat_of_zero_le h.2.1.1
    obtain ⟨t, rfl⟩ := Int.eq_ofNat_of_zero_le h.2.2.1
    have h' := specSeed_good k m t w (by omega) (by omega) (by omega) (by omega)
    have e : Q.seedQ k m t = (Q.seedL k t m, true) := by unfold Q.seedQ; rw [if_pos h0]; rfl
    rw [e]
    exact h'
  · have e : Q.seedQ n l s = ([], false) := by unfold Q.seedQ; rw [if_neg h0]
    rw [e]
    have HI := Lib.hid fun W => l3Items_any n W
    have HJ := Lib.hid fun W => l1In_any s 0 9999 W
    have HK := Lib.hid fun W => l3Length_any l W
    unfold Q.seedOk at h0
    cases h1 : Q.okN n <;> rw [h1] at HI h0 <;> cases h2 : (decide (0 ≤ s) && decide (s ≤ 9999)) <;> rw [h2] at HJ h0 <;> cases h3 : (decide (0 ≤ l) && decide (l ≤ 60)) <;> rw [h3] at HK h0
    case true.true.true => exact absurd rfl h0
    all_goals
      clear h0 h1 h2 h3
      go_enter Try.func54, Try.ntmps54
      go_wp2_with (first | (go_at_call 73; refine (HI.out _).mono ?_; rintro e w' ⟨rfl, rfl⟩) | (go_at_call 74; refine (HJ.out _).mono ?_; rintro e w' ⟨rfl, rfl⟩) | (go_at_call 91; refine (HK.out _).mono ?_; rintro e w' ⟨rfl, rfl⟩))
      go_ret2
      exact ⟨_, rfl, ownsRow_nil _ _, (Below.refl _ _).alloc (Nat.le_refl _) _⟩
end Go.Proofs.Ytgnfmbdomofgcaa
