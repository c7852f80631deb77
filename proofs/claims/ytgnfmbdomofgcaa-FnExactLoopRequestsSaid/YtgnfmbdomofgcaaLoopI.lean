/-
  The code's LoopRequests.
-/
import Derived.Test.YtgnfmbdomofgcaaLoopR
import Derived.Test.YtgnfmbdomofgcaaOwn
import Derived.Test.YtgnfmbdomofgcaaPart
import Derived.Test.YtgnfmbdomofgcaaImpQ
namespace Go.Proofs.Ytgnfmbdomofgcaa
open Go.RowKit
set_option linter.unusedVariables false
namespace Q
theorem loopL_part (k m : Nat) : loopL k m = (List.range m).map (fun i => ((i % k : Nat) : Int)) := rfl
end Q
set_option maxHeartbeats 1600000 in
theorem impLoop_good (n : Int) (k m : Nat) (w : World) (h1 : 1 ≤ n) (h2 : n ≤ 8) (h3 : 1 ≤ k) (h4 : (k : Int) ≤ n) (h5 : m ≤ 60) :
    Calls Try.prog 53 #[.int .i64 n, .int .i64 k, .int .i64 m] w (rowSays (Q.loopL k m, true) w) := by
  obtain ⟨i0, hi, hz0, hz1, hz2⟩ := info_parts infoInts
  have HI := Lib.hid (isItemCount_any n w)
  rw [Q.okN_iff.2 ⟨h1, h2⟩] at HI
  have HK := Lib.hid (isLength_any m w)
  rw [show (decide ((0 : Int) ≤ m) && decide ((m : Int) ≤ 60)) = true by simp; omega] at HK
  go_enter Try.func53, Try.ntmps53
  go_wp2_with fail
  go_at_call 71
  refine (HI.out).mono ?_
  rintro e w' ⟨rfl, hw'⟩
  obtain rfl := hw'.symm
  clear hw'
  go_wp2_with fail
  go_at_call 80
  refine (HK.out).mono ?_
  rintro e w' ⟨rfl, hw'⟩
  obtain rfl := hw'.symm
  clear hw'
  go_wp2_with (at_make; refine wpList_make_full _ rfl _ _ 24 rfl w.heap.size 3 i0 (.int .i64 0) 1 Try.underlying24 hi hz0 hz1 .i64 .i64 _ _ m rfl rfl rfl rfl ?cm1a ?cm1b ?cm1c ?_)
  case cm1a => rw [hz2]; omega
  case cm1b => unfold maxLen; omega
  case cm1c => first | exact Nat.le_refl _ | omega | (simp; omega)
  intro w1 hm1 hg1
  replace hm1 := made_own (w := w1) hm1
  have HB : Hid (Below w.heap.size w w1) := Lib.hid ((Below.refl _ _).grown hg1 (Nat.le_refl _) (fun k e => by cases e))
  have HO := Lib.hid hm1
  clear hm1 hg1
  go_wp2_with fail
  go_loopw [32] (fun i wr => ∃ j : Nat, j ≤ m ∧ i = .int .i64 j ∧ Hid (wr.ownsRow w.heap.size 3 1 (.slice (some ⟨w.heap.size, 0, none⟩) m m) m (ivs (Q.part (fun i => ((i % k : Nat) : Int)) m j))) ∧ Hid (Below w.heap.size w wr)) (fun i _ => m - (intOf i).toNat)
  case atStart => exact ⟨0, Nat.zero_le _, rfl, by (show World.ownsRow _ _ _ _ _ _ _); rw [Q.part_zero]; exact HO.out, HB.out⟩
  case round =>
    obtain ⟨j, hj, rfl, ho, hb⟩ := hrel
    by_cases hlt : j < m
    · have hltI : (j : Int) < (m : Int) := by omega
      have hcU := own_cell ho.out (Q.part_at (fun i => ((i % k : Nat) : Int)) hlt)
      have hfU := ho.out.frozenAt j
      have HT := Lib.hid (Q.part_set (fun i => ((i % k : Nat) : Int)) hlt)
      simp only [Int.natCast_emod] at HT
      have HB' := Lib.hid (hb.out.setCell (p := ⟨w.heap.size, j, none⟩) (Nat.le_refl _) (.int .i64 ((j : Int) % (k : Int))))
      have HU := Lib.hid (own_put ho.out j ((j : Int) % (k : Int)))
      clear ho hb
      go_wp2
      go_roundw
      case rel => exact ⟨j + 1, by omega, by go_num, (by show World.ownsRow _ _ _ _ _ _ _; simp only [Int.natCast_emod] at HU ⊢; rw [← HT.out]; exact HU.out), HB'.out⟩
      case measure => simp [intOf]; omega
    · have hje : j = m := by omega
      have hltI : ¬ (j : Int) < (m : Int) := by omega
      have HF : Hid (Q.part (fun i => ((i % k : Nat) : Int)) m j = Q.loopL k m) := by show _ = _; rw [hje]; exact Q.part_all _ _
      clear hje
      go_wp2
      go_ret2
      have h := ho.out
      rw [HF.out] at h
      refine ⟨_, rfl, ?_, hb.out⟩
      simp only [Q.loopL_len]
      exact h
set_option maxHeartbeats 800000 in
theorem impLoop_any (n k l : Int) (w : World) : Calls Try.prog 53 #[.int .i64 n, .int .i64 k, .int .i64 l] w (rowSays (Q.loopQ n k l) w) := by
  by_cases h0 : Q.loopOk n k l = true
  · have h : ((1 ≤ n ∧ n ≤ 8) ∧ (1 ≤ k ∧ k ≤ n) ∧ 0 ≤ l ∧ l ≤ 60) := by simpa [Q.loopOk, Q.okN] using h0
    obtain ⟨k', rfl⟩ := Int.eq_ofNat_of_zero_le (show 0 ≤ k by omega)
    obtain ⟨m, rfl⟩ := Int.eq_ofNat_of_zero_le h.2.2.1
    have h' := impLoop_good n k' m w h.1.1 h.1.2 (by omega) h.2.1.2 (by omega)
    have e : Q.loopQ n k' m = (Q.loopL k' m, true) := by unfold Q.loopQ; rw [if_pos h0]; rfl
    rw [e]
    exact h'
  · have e : Q.loopQ n k l = ([], false) := by unfold Q.loopQ; rw [if_neg h0]
    rw [e]
    have HI := Lib.hid fun W => isItemCount_any n W
    have HK := Lib.hid fun W => isLength_any l W
    unfold Q.loopOk at h0
    have hk : (decide (1 ≤ k) && decide (k ≤ n)) = true ∨ k < 1 ∨ (¬ k < 1 ∧ n < k) := by
      by_cases a : k < 1
      · exact .inr (.inl a)
      · by_cases b : n < k
        · exact .inr (.inr ⟨a, b⟩)
        · exact .inl (by simp; omega)
    cases h1 : Q.okN n <;> rw [h1] at HI h0
    · clear h0 hk h1
      go_enter Try.func53, Try.ntmps53
      go_wp2_with fail
      go_at_call 71
      refine (HI.out _).mono ?_
      rintro e w' ⟨rfl, hw'⟩
      obtain rfl := hw'.symm
      clear hw'
      go_wp2
      go_ret2
      exact ⟨_, rfl, ownsRow_nil _ _, (Below.refl _ _).alloc (Nat.le_refl _) _⟩
    · rcases hk with hk | hk | ⟨hk, hk'⟩
      · cases h3 : (decide (0 ≤ l) && decide (l ≤ 60)) <;> rw [h3] at HK h0
        · have h : 1 ≤ k ∧ k ≤ n := by simpa using hk
          obtain ⟨ha, hb⟩ := h
          clear h0 h1 h3 hk
          go_enter Try.func53, Try.ntmps53
          go_wp2_with fail
          go_at_call 71
          refine (HI.out _).mono ?_
          rintro e w' ⟨rfl, hw'⟩
          obtain rfl := hw'.symm
          clear hw'
          go_wp2_with fail
          go_at_call 80
          refine (HK.out _).mono ?_
          rintro e w' ⟨rfl, hw'⟩
          obtain rfl := hw'.symm
          clear hw'
          go_wp2
          go_ret2
          exact ⟨_, rfl, ownsRow_nil _ _, (Below.refl _ _).alloc (Nat.le_refl _) _⟩
        · rw [hk] at h0
          exact absurd rfl h0
      all_goals
        clear h0 h1
        go_enter Try.func53, Try.ntmps53
        go_wp2_with fail
        go_at_call 71
        refine (HI.out _).mono ?_
        rintro e w' ⟨rfl, hw'⟩
        obtain rfl := hw'.symm
        clear hw'
        go_wp2
        go_ret2
        exact ⟨_, rfl, ownsRow_nil _ _, (Below.refl _ _).alloc (Nat.le_refl _) _⟩
namespace LLoopRequests
theorem lenX (n k l : Int) : (Q.loopQ n k l).1.length ≤ 1048576 := by
  unfold Q.loopQ
  split
  · rename_i h0
    have h : ((1 ≤ n ∧ n ≤ 8) ∧ (1 ≤ k ∧ k ≤ n) ∧ 0 ≤ l ∧ l ≤ 60) := by simpa [Q.loopOk, Q.okN] using h0
    rw [Q.loopL_len]; omega
  · simp
end LLoopRequests
end Go.Proofs.Ytgnfmbdomofgcaa
