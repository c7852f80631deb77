/-
  The code's SeededRequests.
-/
import Derived.Test.YtgnfmbdomofgcaaChoose
namespace Go.Proofs.Ytgnfmbdomofgcaa
open Go.RowKit
set_option linter.unusedVariables false
set_option maxHeartbeats 1600000 in
theorem impSeed_good (n m s : Nat) (w : World) (h1 : 1 ≤ n) (h2 : n ≤ 8) (h5 : m ≤ 60) (h6 : s ≤ 9999) :
    Calls Try.prog 55 #[.int .i64 n, .int .i64 m, .int .i64 s] w (rowSays (Q.seedL n s m, true) w) := by
  obtain ⟨i0, hi, hz0, hz1, hz2⟩ := info_parts infoInts
  have HI := Lib.hid (isItemCount_any n w)
  rw [Q.okN_iff.2 ⟨by omega, by omega⟩] at HI
  have HK := Lib.hid (isLength_any m w)
  rw [show (decide ((0 : Int) ≤ m) && decide ((m : Int) ≤ 60)) = true by simp; omega] at HK
  have HS := Lib.hid (isSeed_any s w)
  rw [show (decide ((0 : Int) ≤ s) && decide ((s : Int) ≤ 9999)) = true by simp; omega] at HS
  go_enter Try.func55, Try.ntmps55
  go_wp2_with fail
  go_at_call 71
  refine (HI.out).mono ?_
  rintro e w' ⟨rfl, hw'⟩
  obtain rfl := hw'.symm
  clear hw'
  go_wp2_with fail
  go_at_call 80
  refine (HK.out).mono ?_
  rintro e w' ⟨rfl, hw'⟩
  obtain rfl := hw'.symm
  clear hw'
  go_wp2_with fail
  go_at_call 93
  refine (HS.out).mono ?_
  rintro e w' ⟨rfl, hw'⟩
  obtain rfl := hw'.symm
  clear hw'
  go_wp2_with fail
  go_at_call 94
  refine (chooserOf_any s _).mono ?_
  rintro e w0 ⟨rfl, hw0⟩
  have hS0 : w0.heap.size = w.heap.size + 1 := by rw [hw0]; simp
  have hS : w.heap.size < w0.heap.size := by omega
  have HB0 : Hid (Below w.heap.size w w0) := by rw [hw0]; exact Lib.hid ((Below.refl _ _).alloc (Nat.le_refl _) _)
  have HC0 : Hid (w0.cell? ⟨w.heap.size, 0, none⟩ = some (.int .i64 (s : Int)) ∧ w0.frozen? ⟨w.heap.size, 0, none⟩ = false) := by rw [hw0]; exact Lib.hid ⟨by simp, by simp⟩
  clear hw0 hS0
  go_wp2_with (at_make; refine wpList_make_full _ rfl _ _ 24 rfl w.heap.size 3 i0 (.int .i64 0) 1 Try.underlying24 hi hz0 hz1 .i64 .i64 _ _ m rfl rfl rfl rfl ?cm1a ?cm1b ?cm1c ?_)
  case cm1a => rw [hz2]; omega
  case cm1b => unfold maxLen; omega
  case cm1c => first | exact Nat.le_refl _ | omega | (simp; omega)
  intro w1 hm1 hg1
  replace hm1 := made_own (w := w1) hm1
  have HB : Hid (Below w.heap.size w w1) := Lib.hid (HB0.out.grown hg1 (by omega) (fun k e => by cases e))
  have HC : Hid (w1.cell? ⟨w.heap.size, 0, none⟩ = some (.int .i64 ((Q.st s 0 : Nat) : Int)) ∧ w1.frozen? ⟨w.heap.size, 0, none⟩ = false) :=
    Lib.hid ⟨(World.cell?_of_block (a := ⟨w.heap.size, 0, none⟩) (hg1.block _ hS (by simp))).trans HC0.out.1, (World.frozen?_of_block (a := ⟨w.heap.size, 0, none⟩) (hg1.block _ hS (by simp))).trans HC0.out.2⟩
  have HO := Lib.hid hm1
  have hne : w0.heap.size ≠ w.heap.size := by omega
  clear hm1 hg1 HC0 HB0
  generalize w0.heap.size = g at *
  go_wp2_with fail
  go_loopw [31] (fun i wr => ∃ j : Nat, j ≤ m ∧ i = .int .i64 j ∧ Hid (wr.cell? ⟨w.heap.size, 0, none⟩ = some (.int .i64 ((Q.st s j : Nat) : Int)) ∧ wr.frozen? ⟨w.heap.size, 0, none⟩ = false) ∧ Hid (wr.ownsRow w.heap.size 3 1 (.slice (some ⟨g, 0, none⟩) m m) m (ivs (Q.part (fun i => ((Q.st s (i + 1) / 16 % n : Nat) : Int)) m j))) ∧ Hid (Below w.heap.size w wr)) (fun i _ => m - (intOf i).toNat)
  case atStart => exact ⟨0, Nat.zero_le _, rfl, HC.out, by (show World.ownsRow _ _ _ _ _ _ _); rw [Q.part_zero]; exact HO.out, HB.out⟩
  case round =>
    obtain ⟨j, hj, rfl, hc, ho, hb⟩ := hrel
    by_cases hlt : j < m
    · have hltI : (j : Int) < (m : Int) := by omega
      have hcU := own_cell ho.out (Q.part_at (fun i => ((Q.st s (i + 1) / 16 % n : Nat) : Int)) hlt)
      have hfU := ho.out.frozenAt j
      have HT := Lib.hid (Q.part_set (fun i => ((Q.st s (i + 1) / 16 % n : Nat) : Int)) hlt)
      obtain ⟨hc0, hf0⟩ := hc.out
      have HX := Lib.hid (choose_any (Q.st s j) n w.heap.size wr (Q.st_lt h6 j) h1 h2 hc0 hf0)
      have HS1 : Hid (Q.nxt (Q.st s j) = Q.st s (j + 1)) := rfl
      rw [HS1.out] at HX
      generalize Q.st s (j + 1) = z at HX HT HS1
      have HN : Hid (z = Q.st s (j + 1)) := HS1.out.symm
      generalize hq : ((z / 16 % n : Nat) : Int) = q at HX HT
      obtain ⟨W1, hW1⟩ : ∃ W1, W1 = wr.setCell ⟨w.heap.size, 0, none⟩ (.int .i64 (z : Int)) := ⟨_, rfl⟩
      rw [← hW1] at HX
      have HC1 : Hid (W1.cell? ⟨w.heap.size, 0, none⟩ = some (.int .i64 (z : Int)) ∧ W1.frozen? ⟨w.heap.size, 0, none⟩ = false) := by rw [hW1]; exact Lib.hid ⟨World.cell?_setCell_same _ _ _ hc0, by simpa using hf0⟩
      have ho1 := own_set ho.out ⟨w.heap.size, 0, none⟩ (by exact fun e => hne e.symm) (.int .i64 (z : Int))
      rw [← hW1] at ho1
      have hb1 := hb.out.setCell (p := ⟨w.heap.size, 0, none⟩) (Nat.le_refl _) (.int .i64 (z : Int))
      rw [← hW1] at hb1
      have hcU1 := own_cell ho1 (Q.part_at (fun i => ((Q.st s (i + 1) / 16 % n : Nat) : Int)) hlt)
      have hfU1 := ho1.frozenAt j
      have HU := Lib.hid (own_put ho1 j q)
      have HB' := Lib.hid (hb1.setCell (p := ⟨g, j, none⟩) (show w.heap.size ≤ g by omega) (.int .i64 q))
      have HC' : Hid ((W1.setCell ⟨g, j, none⟩ (.int .i64 q)).cell? ⟨w.heap.size, 0, none⟩ = some (.int .i64 (z : Int)) ∧ (W1.setCell ⟨g, j, none⟩ (.int .i64 q)).frozen? ⟨w.heap.size, 0, none⟩ = false) :=
        Lib.hid ⟨(World.cell?_setCell_other _ _ _ _ (fun e => hne (by injection e with e))).trans HC1.out.1, by simpa using HC1.out.2⟩
      clear ho ho1 hb hb1 hc0 hf0 hc hcU hfU hq hW1 HC1 HS1
      go_wp2_with fail
      go_at_call 102
      refine HX.out.mono ?_
      rintro e w' ⟨rfl, rfl⟩
      go_wp2
      go_roundw
      case rel => exact ⟨j + 1, by omega, by go_num, (by rw [HN.out] at HC'; exact HC'.out), (by show World.ownsRow _ _ _ _ _ _ _; rw [← HT.out]; exact HU.out), HB'.out⟩
      case measure => simp [intOf]; omega
    · have hje : j = m := by omega
      have hltI : ¬ (j : Int) < (m : Int) := by omega
      have HF : Hid (Q.part (fun i => ((Q.st s (i + 1) / 16 % n : Nat) : Int)) m j = Q.seedL n s m) := by show _ = _; rw [hje]; exact Q.part_all _ _
      clear hje
      go_wp2
      go_ret2
      have h := ho.out
      rw [HF.out] at h
      refine ⟨_, rfl, ?_, hb.out⟩
      simp only [Q.seedL_len]
      exact h
set_option maxHeartbeats 800000 in
theorem impSeed_any (n l s : Int) (w : World) : Calls Try.prog 55 #[.int .i64 n, .int .i64 l, .int .i64 s] w (rowSays (Q.seedQ n l s) w) := by
  by_cases h0 : Q.seedOk n l s = true
  · have h : ((1 ≤ n ∧ n ≤ 8) ∧ (0 ≤ l ∧ l ≤ 60) ∧ 0 ≤ s ∧ s ≤ 9999) := by simpa [Q.seedOk, Q.okN] using h0
    obtain ⟨k, rfl⟩ := Int.eq_ofNat_of_zero_le (show 0 ≤ n by omega)
    obtain ⟨m, rfl⟩ := Int.eq_ofNat_of_zero_le h.2.1.1
    obtain ⟨t, rfl⟩ := Int.eq_ofNat_of_zero_le h.2.2.1
    have h' := impSeed_good k m t w (by omega) (by omega) (by omega) (by omega)
    have e : Q.seedQ k m t = (Q.seedL k t m, true) := by unfold Q.seedQ; rw [if_pos h0]; rfl
    rw [e]
    exact h'
  · have e : Q.seedQ n l s = ([], false) := by unfold Q.seedQ; rw [if_neg h0]
    rw [e]
    have HI := Lib.hid fun W => isItemCount_any n W
    have HJ := Lib.hid fun W => isSeed_any s W
    have HK := Lib.hid fun W => isLength_any l W
    unfold Q.seedOk at h0
    cases h1 : Q.okN n <;> rw [h1] at HI h0
    · clear h0 h1
      go_enter Try.func55, Try.ntmps55
      go_wp2_with fail
      go_at_call 71
      refine (HI.out _).mono ?_
      rintro e w' ⟨rfl, hw'⟩
      obtain rfl := hw'.symm
      clear hw'
      go_wp2
      go_ret2
      exact ⟨_, rfl, ownsRow_nil _ _, (Below.refl _ _).alloc (Nat.le_refl _) _⟩
    · cases h3 : (decide (0 ≤ l) && decide (l ≤ 60)) <;> rw [h3] at HK h0
      · clear h0 h1 h3
        go_enter Try.func55, Try.ntmps55
        go_wp2_with fail
        go_at_call 71
        refine (HI.out _).mono ?_
        rintro e w' ⟨rfl, hw'⟩
        obtain rfl := hw'.symm
        clear hw'
        go_wp2_with fail
        go_at_call 80
        refine (HK.out _).mono ?_
        rintro e w' ⟨rfl, hw'⟩
        obtain rfl := hw'.symm
        clear hw'
        go_wp2
        go_ret2
        exact ⟨_, rfl, ownsRow_nil _ _, (Below.refl _ _).alloc (Nat.le_refl _) _⟩
      · cases h2 : (decide (0 ≤ s) && decide (s ≤ 9999)) <;> rw [h2] at HJ h0
        · clear h0 h1 h3 h2
          go_enter Try.func55, Try.ntmps55
          go_wp2_with fail
          go_at_call 71
          refine (HI.out _).mono ?_
          rintro e w' ⟨rfl, hw'⟩
          obtain rfl := hw'.symm
          clear hw'
          go_wp2_with fail
          go_at_call 80
          refine (HK.out _).mono ?_
          rintro e w' ⟨rfl, hw'⟩
          obtain rfl := hw'.symm
          clear hw'
          go_wp2_with fail
          go_at_call 93
          refine (HJ.out _).mono ?_
          rintro e w' ⟨rfl, hw'⟩
          obtain rfl := hw'.symm
          clear hw'
          go_wp2
          go_ret2
          exact ⟨_, rfl, ownsRow_nil _ _, (Below.refl _ _).alloc (Nat.le_refl _) _⟩
        · exact absurd rfl h0
namespace LSeededRequests
theorem lenX (n l s : Int) : (Q.seedQ n l s).1.length ≤ 1048576 := by
  unfold Q.seedQ
  split
  · rename_i h0
    have h : ((1 ≤ n ∧ n ≤ 8) ∧ (0 ≤ l ∧ l ≤ 60) ∧ 0 ≤ s ∧ s ≤ 9999) := by simpa [Q.seedOk, Q.okN] using h0
    rw [Q.seedL_len]; omega
  · simp
end LSeededRequests
end Go.Proofs.Ytgnfmbdomofgcaa
