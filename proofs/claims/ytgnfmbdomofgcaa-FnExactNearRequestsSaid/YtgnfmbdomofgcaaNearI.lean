/-
  The code's NearRequests.
-/
import Derived.Test.YtgnfmbdomofgcaaChoose
import Derived.Test.YtgnfmbdomofgcaaNearR
import Derived.Deep.RegionHeld3
import Derived.Deep.DeepCutAuto
import Derived.IntWalk
namespace Go.Proofs.Ytgnfmbdomofgcaa
open Go.RowKit
set_option linter.unusedVariables false
theorem cell_beside {W : World} {g i j : Nat} {x : Value} (h : W.cell? ⟨g, i, none⟩ = some x) (hij : i ≠ j) (v : Value) : (W.setCell ⟨g, j, none⟩ v).cell? ⟨g, i, none⟩ = some x :=
  (World.cell?_setCell_other _ _ _ _ (fun e => by injection e with _ e; omega)).trans h
set_option maxRecDepth 100000 in
set_option maxHeartbeats 3200000 in
theorem impNear_good (n m v s : Nat) (w : World) (h1 : 1 ≤ n) (h2 : n ≤ 8) (h3 : 1 ≤ v) (h4 : v ≤ n) (h5 : m ≤ 60) (h6 : s ≤ 9999) :
    Calls Try.prog 57 #[.int .i64 n, .int .i64 m, .int .i64 v, .int .i64 s] w (rowSays (Q.nearL n v s m, true) w) := by
  obtain ⟨i0, hi, hz0, hz1, hz2⟩ := info_parts infoInts
  have hv1 : (1 : Int) ≤ (v : Int) := by omega
  have hv2 : ¬ n < v := by omega
  have hv3 : decide (n < v) = false := by simp; omega
  have HI := Lib.hid (isItemCount_any n w)
  rw [Q.okN_iff.2 ⟨by omega, by omega⟩] at HI
  have HK := Lib.hid (isLength_any m w)
  rw [show (decide ((0 : Int) ≤ m) && decide ((m : Int) ≤ 60)) = true by simp; omega] at HK
  have HS := Lib.hid (isSeed_any s w)
  rw [show (decide ((0 : Int) ≤ s) && decide ((s : Int) ≤ 9999)) = true by simp; omega] at HS
  go_enter Try.func57, Try.ntmps57
  go_wp2_with fail
  go_at_call 71
  refine (HI.out).mono ?_
  rintro e w' ⟨rfl, hw'⟩
  obtain rfl := hw'.symm
  clear hw'
  go_wp2_with fail
  go_at_call 80
  refine (HK.out).mono ?_
  rintro e w' ⟨rfl, hw'⟩
  obtain rfl := hw'.symm
  clear hw'
  go_wp2_with fail
  go_at_call 93
  refine (HS.out).mono ?_
  rintro e w' ⟨rfl, hw'⟩
  obtain rfl := hw'.symm
  clear hw'
  go_wp2_with fail
  go_at_call 94
  refine (chooserOf_any s _).mono ?_
  rintro e w0 ⟨rfl, hw0⟩
  have hS0 : w0.heap.size = w.heap.size + 1 := by rw [hw0]; simp
  have hS : w.heap.size < w0.heap.size := by omega
  have HB0 : Hid (Below w.heap.size w w0) := by rw [hw0]; exact Lib.hid ((Below.refl _ _).alloc (Nat.le_refl _) _)
  have HC0 : Hid (w0.cell? ⟨w.heap.size, 0, none⟩ = some (.int .i64 (s : Int)) ∧ w0.frozen? ⟨w.heap.size, 0, none⟩ = false) := by rw [hw0]; exact Lib.hid ⟨by simp, by simp⟩
  clear hw0 hS0
  go_wp2_with (at_make; refine wpList_make_full _ rfl _ _ 24 rfl w.heap.size 3 i0 (.int .i64 0) 1 Try.underlying24 hi hz0 hz1 .i64 .i64 _ _ m rfl rfl rfl rfl ?cm1a ?cm1b ?cm1c ?_)
  case cm1a => rw [hz2]; omega
  case cm1b => unfold maxLen; omega
  case cm1c => first | exact Nat.le_refl _ | omega | (simp; omega)
  intro w1 hm1 hg1
  replace hm1 := made_own (w := w1) hm1
  have HB : Hid (Below w.heap.size w w1) := Lib.hid (HB0.out.grown hg1 (by omega) (fun k e => by cases e))
  have HC : Hid (w1.cell? ⟨w.heap.size, 0, none⟩ = some (.int .i64 ((Q.st s 0 : Nat) : Int)) ∧ w1.frozen? ⟨w.heap.size, 0, none⟩ = false) :=
    Lib.hid ⟨(World.cell?_of_block (a := ⟨w.heap.size, 0, none⟩) (hg1.block _ hS (by simp))).trans HC0.out.1, (World.frozen?_of_block (a := ⟨w.heap.size, 0, none⟩) (hg1.block _ hS (by simp))).trans HC0.out.2⟩
  have HO := Lib.hid hm1
  have hne : w0.heap.size ≠ w.heap.size := by omega
  clear hm1 hg1 HC0 HB0
  generalize w0.heap.size = g at *
  go_wp2_with fail
  go_loopw [42] (fun i wr => ∃ j : Nat, j ≤ m ∧ i = .int .i64 j ∧ Hid (wr.cell? ⟨w.heap.size, 0, none⟩ = some (.int .i64 ((Q.st s j : Nat) : Int)) ∧ wr.frozen? ⟨w.heap.size, 0, none⟩ = false) ∧ Hid (wr.ownsRow w.heap.size 3 1 (.slice (some ⟨g, 0, none⟩) m m) m (ivs (Q.part (fun i => ((Q.nearF n v s i : Nat) : Int)) m j))) ∧ Hid (Below w.heap.size w wr)) (fun i _ => m - (intOf i).toNat)
  case atStart => exact ⟨0, Nat.zero_le _, rfl, HC.out, by (show World.ownsRow _ _ _ _ _ _ _); rw [Q.part_zero]; exact HO.out, HB.out⟩
  case round =>
    obtain ⟨j, hj, rfl, hc, ho, hb⟩ := hrel
    by_cases hlt : j < m
    · have hltI : (j : Int) < (m : Int) := by omega
      have hcU := own_cell ho.out (Q.part_at (fun i => ((Q.nearF n v s i : Nat) : Int)) hlt)
      have hfU := ho.out.frozenAt j
      have HT := Lib.hid (Q.part_set (fun i => ((Q.nearF n v s i : Nat) : Int)) hlt)
      obtain ⟨hc0, hf0⟩ := hc.out
      have HS1 : Hid (Q.nxt (Q.st s j) = Q.st s (j + 1)) := rfl
      rcases Nat.eq_zero_or_pos j with hj0 | hj0
      · subst hj0
        have HX := Lib.hid (choose_any (Q.st s 0) n w.heap.size wr (Q.st_lt h6 0) h1 h2 hc0 hf0)
        have HN : Hid (((Q.nearF n v s 0 : Nat) : Int) = ((Q.nxt (Q.st s 0) / 16 % n : Nat) : Int)) := rfl
        rw [← HN.out] at HX
        rw [HS1.out] at HX
        obtain ⟨z, hz⟩ : ∃ z, z = Q.st s (0 + 1) := ⟨_, rfl⟩
        rw [← hz] at HX HS1
        have HZ := Lib.hid hz
        obtain ⟨q, hq⟩ : ∃ q, q = ((Q.nearF n v s 0 : Nat) : Int) := ⟨_, rfl⟩
        rw [← hq] at HX HT
        clear hz hq
        obtain ⟨W1, hW1⟩ : ∃ W1, W1 = wr.setCell ⟨w.heap.size, 0, none⟩ (.int .i64 (z : Int)) := ⟨_, rfl⟩
        rw [← hW1] at HX
        have HC1 : Hid (W1.cell? ⟨w.heap.size, 0, none⟩ = some (.int .i64 (z : Int)) ∧ W1.frozen? ⟨w.heap.size, 0, none⟩ = false) := by rw [hW1]; exact Lib.hid ⟨World.cell?_setCell_same _ _ _ hc0, by simpa using hf0⟩
        have ho1 := own_set (show World.ownsRow (wr) _ _ _ _ _ _ from ho.out) ⟨w.heap.size, 0, none⟩ (by exact fun e => hne e.symm) (.int .i64 (z : Int))
        rw [← hW1] at ho1
        have hb1 := (show Below w.heap.size w (wr) from hb.out).setCell (p := ⟨w.heap.size, 0, none⟩) (Nat.le_refl _) (.int .i64 (z : Int))
        rw [← hW1] at hb1
        have hcU1 := own_cell ho1 (Q.part_at (fun i => ((Q.nearF n v s i : Nat) : Int)) hlt)
        have hfU1 := ho1.frozenAt (0)
        have HU := Lib.hid (own_put ho1 (0) q)
        have HB' := Lib.hid (hb1.setCell (p := ⟨g, 0, none⟩) (show w.heap.size ≤ g by omega) (.int .i64 q))
        have HC' : Hid ((W1.setCell ⟨g, 0, none⟩ (.int .i64 q)).cell? ⟨w.heap.size, 0, none⟩ = some (.int .i64 (z : Int)) ∧ (W1.setCell ⟨g, 0, none⟩ (.int .i64 q)).frozen? ⟨w.heap.size, 0, none⟩ = false) :=
          Lib.hid ⟨(World.cell?_setCell_other _ _ _ _ (fun e => by injection e with e; first | exact hne e | exact hne e.symm)).trans HC1.out.1, by simpa using HC1.out.2⟩
        clear ho ho1 hb hb1 hc0 hf0 hc hcU hfU hW1 HC1 HS1
        go_wp2_with fail
        go_at_call 102
        refine HX.out.mono ?_
        rintro e w' ⟨rfl, rfl⟩
        go_wp2
        go_roundw
        case rel => exact ⟨0 + 1, by omega, by go_num, (by rw [HZ.out] at HC'; exact HC'.out), (by show World.ownsRow _ _ _ _ _ _ _; rw [← HT.out]; exact HU.out), HB'.out⟩
        case measure => simp [intOf]; omega
      · obtain ⟨i, rfl⟩ : ∃ i, j = i + 1 := ⟨j - 1, by omega⟩
        have hi0 : (((i + 1 : Nat) : Int) == 0) = false := by simp; omega
        have HX := Lib.hid (choose_any (Q.st s (i + 1)) v w.heap.size wr.drew (Q.st_lt h6 (i + 1)) h3 (by omega) hc0 hf0)
        have hp := Q.nearF_lt (v := v) (s := s) h1 i
        have hcP := own_cell ho.out (Q.part_old (fun i => ((Q.nearF n v s i : Nat) : Int)) hj (show i < i + 1 by omega))
        rw [HS1.out] at HX
        have HN : Hid (((Q.nearF n v s (i + 1) : Nat) : Int) = (((Q.nearF n v s i : Nat) : Int) + ((Q.st s (i + 1 + 1) / 16 % v : Nat) : Int)) % (n : Int)) := Lib.hid (by rw [Q.nearF_succ]; simp)
        have hu : Q.st s (i + 1 + 1) / 16 % v < v := Nat.mod_lt _ (by omega)
        obtain ⟨u, hu'⟩ : ∃ u, u = Q.st s (i + 1 + 1) / 16 % v := ⟨_, rfl⟩
        rw [← hu'] at HX HN hu
        obtain ⟨z, hz⟩ : ∃ z, z = Q.st s (i + 1 + 1) := ⟨_, rfl⟩
        rw [← hz] at HX HS1
        have HZ := Lib.hid hz
        obtain ⟨q, hq⟩ : ∃ q, q = ((Q.nearF n v s (i + 1) : Nat) : Int) := ⟨_, rfl⟩
        obtain ⟨p, hpq⟩ : ∃ p, p = Q.nearF n v s i := ⟨_, rfl⟩
        rw [← hq, ← hpq] at HN
        rw [← hq] at HT
        rw [← hpq] at hp hcP
        clear hz hq hpq hu'
        obtain ⟨W1, hW1⟩ : ∃ W1, W1 = wr.drew.setCell ⟨w.heap.size, 0, none⟩ (.int .i64 (z : Int)) := ⟨_, rfl⟩
        rw [← hW1] at HX
        have HC1 : Hid (W1.cell? ⟨w.heap.size, 0, none⟩ = some (.int .i64 (z : Int)) ∧ W1.frozen? ⟨w.heap.size, 0, none⟩ = false) := by rw [hW1]; exact Lib.hid ⟨World.cell?_setCell_same _ _ _ hc0, by simpa using hf0⟩
        have ho1 := own_set (show World.ownsRow (wr.drew) _ _ _ _ _ _ from ho.out) ⟨w.heap.size, 0, none⟩ (by exact fun e => hne e.symm) (.int .i64 (z : Int))
        rw [← hW1] at ho1
        have hb1 := (show Below w.heap.size w (wr.drew) from hb.out.drew).setCell (p := ⟨w.heap.size, 0, none⟩) (Nat.le_refl _) (.int .i64 (z : Int))
        rw [← hW1] at hb1
        have hcU1 := own_cell ho1 (Q.part_at (fun i => ((Q.nearF n v s i : Nat) : Int)) hlt)
        have hfU1 := ho1.frozenAt (i + 1)
        have HU := Lib.hid (own_put ho1 (i + 1) q)
        have HB' := Lib.hid (hb1.setCell (p := ⟨g, i + 1, none⟩) (show w.heap.size ≤ g by omega) (.int .i64 q))
        have HC' : Hid ((W1.setCell ⟨g, i + 1, none⟩ (.int .i64 q)).cell? ⟨w.heap.size, 0, none⟩ = some (.int .i64 (z : Int)) ∧ (W1.setCell ⟨g, i + 1, none⟩ (.int .i64 q)).frozen? ⟨w.heap.size, 0, none⟩ = false) :=
          Lib.hid ⟨(World.cell?_setCell_other _ _ _ _ (fun e => by injection e with e; first | exact hne e | exact hne e.symm)).trans HC1.out.1, by simpa using HC1.out.2⟩
        have hcP1 : W1.cell? ⟨g, i, none⟩ = some (.int .i64 (p : Int)) := by rw [hW1]; exact (World.cell?_setCell_other _ _ _ _ (fun e => by injection e with e; first | exact hne e | exact hne e.symm)).trans hcP
        have hcP0 : wr.drew.cell? ⟨g, i, none⟩ = some (.int .i64 (p : Int)) := hcP
        have hiI : (i : Int) < (m : Int) := by omega
        have hi1 : (i : Int) + 1 < (m : Int) := by omega
        have hi00 : (0 : Int) ≤ (i : Int) := by omega
        have hi11 : (0 : Int) ≤ (i : Int) + 1 := by omega
        have hi12 : ((i : Int) + 1).toNat = i + 1 := by omega
        have hw1 : IntKind.i64.wrap (i : Int) = (i : Int) := IntWalk.i64_in _ (by omega)
        have hwr : IntKind.i64.wrap ((p : Int) + (u : Int)) = (p : Int) + (u : Int) := IntWalk.i64_in _ (by omega)
        have hn0 : ¬ n = 0 := by omega
        have htn : ((p : Int) + (u : Int)).tmod (n : Int) = q := by rw [Int.tmod_eq_emod_of_nonneg (by omega)]; exact HN.out.symm
        clear ho ho1 hb hb1 hc0 hf0 hc hcU hfU hW1 HC1 HS1 hcP
        go_upto_region 10 with fail
        go_region_held3 (fun w' => w'.cell? ⟨g, i, none⟩ = some (.int .i64 (p : Int))) ((first | exact hcP0 | exact hcP1 | exact cell_beside hcP1 (by omega) _)) (first
          | (go_at_call 102; refine HX.out.mono ?_; rintro e w' ⟨rfl, rfl⟩))
        all_goals
          go_wp2
          go_roundw
          case rel => exact ⟨i + 1 + 1, by omega, by go_num, (by rw [HZ.out] at HC'; exact HC'.out), (by show World.ownsRow _ _ _ _ _ _ _; rw [← HT.out]; exact HU.out), HB'.out⟩
          case measure => simp [intOf]; omega
    · have hje : j = m := by omega
      have hltI : ¬ (j : Int) < (m : Int) := by omega
      have HF : Hid (Q.part (fun i => ((Q.nearF n v s i : Nat) : Int)) m j = Q.nearL n v s m) := by show _ = _; rw [hje]; exact Q.part_all _ _
      clear hje
      go_wp2
      go_ret2
      have h := ho.out
      rw [HF.out] at h
      refine ⟨_, rfl, ?_, hb.out⟩
      simp only [Q.nearL_len]
      exact h
set_option maxHeartbeats 800000 in
theorem impNear_any (n l v s : Int) (w : World) : Calls Try.prog 57 #[.int .i64 n, .int .i64 l, .int .i64 v, .int .i64 s] w (rowSays (Q.nearQ n l v s) w) := by
  by_cases h0 : Q.nearOk n l v s = true
  · have h : ((1 ≤ n ∧ n ≤ 8) ∧ (0 ≤ l ∧ l ≤ 60) ∧ (1 ≤ v ∧ v ≤ n) ∧ 0 ≤ s ∧ s ≤ 9999) := by simpa [Q.nearOk, Q.okN] using h0
    obtain ⟨k, rfl⟩ := Int.eq_ofNat_of_zero_le (show 0 ≤ n by omega)
    obtain ⟨m, rfl⟩ := Int.eq_ofNat_of_zero_le h.2.1.1
    obtain ⟨u, rfl⟩ := Int.eq_ofNat_of_zero_le (show 0 ≤ v by omega)
    obtain ⟨t, rfl⟩ := Int.eq_ofNat_of_zero_le h.2.2.2.1
    have h' := impNear_good k m u t w (by omega) (by omega) (by omega) (by omega) (by omega) (by omega)
    have e : Q.nearQ k m u t = (Q.nearL k u t m, true) := by unfold Q.nearQ; rw [if_pos h0]; rfl
    rw [e]
    exact h'
  · have e : Q.nearQ n l v s = ([], false) := by unfold Q.nearQ; rw [if_neg h0]
    rw [e]
    have HI := Lib.hid fun W => isItemCount_any n W
    have HJ := Lib.hid fun W => isSeed_any s W
    have HK := Lib.hid fun W => isLength_any l W
    unfold Q.nearOk at h0
    have hk : (decide (1 ≤ v) && decide (v ≤ n)) = true ∨ v < 1 ∨ (¬ v < 1 ∧ n < v) := by
      by_cases a : v < 1
      · exact .inr (.inl a)
      · by_cases b : n < v
        · exact .inr (.inr ⟨a, b⟩)
        · exact .inl (by simp; omega)
    cases h1 : Q.okN n <;> rw [h1] at HI h0
    · clear h0 h1 hk
      go_enter Try.func57, Try.ntmps57
      go_wp2_with fail
      go_at_call 71
      refine (HI.out _).mono ?_
      rintro e w' ⟨rfl, hw'⟩
      obtain rfl := hw'.symm
      clear hw'
      go_wp2
      go_ret2
      exact ⟨_, rfl, ownsRow_nil _ _, (Below.refl _ _).alloc (Nat.le_refl _) _⟩
    · cases h3 : (decide (0 ≤ l) && decide (l ≤ 60)) <;> rw [h3] at HK h0
      · clear h0 h1 h3 hk
        go_enter Try.func57, Try.ntmps57
        go_wp2_with fail
        go_at_call 71
        refine (HI.out _).mono ?_
        rintro e w' ⟨rfl, hw'⟩
        obtain rfl := hw'.symm
        clear hw'
        go_wp2_with fail
        go_at_call 80
        refine (HK.out _).mono ?_
        rintro e w' ⟨rfl, hw'⟩
        obtain rfl := hw'.symm
        clear hw'
        go_wp2
        go_ret2
        exact ⟨_, rfl, ownsRow_nil _ _, (Below.refl _ _).alloc (Nat.le_refl _) _⟩
      · rcases hk with hk | hk | ⟨hk, hk'⟩
        · cases h2 : (decide (0 ≤ s) && decide (s ≤ 9999)) <;> rw [h2] at HJ h0
          · have h : 1 ≤ v ∧ v ≤ n := by simpa using hk
            obtain ⟨ha, hb⟩ := h
            clear h0 h1 h3 h2 hk
            go_enter Try.func57, Try.ntmps57
            go_wp2_with fail
            go_at_call 71
            refine (HI.out _).mono ?_
            rintro e w' ⟨rfl, hw'⟩
            obtain rfl := hw'.symm
            clear hw'
            go_wp2_with fail
            go_at_call 80
            refine (HK.out _).mono ?_
            rintro e w' ⟨rfl, hw'⟩
            obtain rfl := hw'.symm
            clear hw'
            go_wp2_with fail
            go_at_call 93
            refine (HJ.out _).mono ?_
            rintro e w' ⟨rfl, hw'⟩
            obtain rfl := hw'.symm
            clear hw'
            go_wp2
            go_ret2
            exact ⟨_, rfl, ownsRow_nil _ _, (Below.refl _ _).alloc (Nat.le_refl _) _⟩
          · rw [hk] at h0
            exact absurd rfl h0
        all_goals
          clear h0 h1 h3
          go_enter Try.func57, Try.ntmps57
          go_wp2_with fail
          go_at_call 71
          refine (HI.out _).mono ?_
          rintro e w' ⟨rfl, hw'⟩
          obtain rfl := hw'.symm
          clear hw'
          go_wp2_with fail
          go_at_call 80
          refine (HK.out _).mono ?_
          rintro e w' ⟨rfl, hw'⟩
          obtain rfl := hw'.symm
          clear hw'
          go_wp2
          go_ret2
          exact ⟨_, rfl, ownsRow_nil _ _, (Below.refl _ _).alloc (Nat.le_refl _) _⟩
namespace LNearRequests
theorem lenX (n l v s : Int) : (Q.nearQ n l v s).1.length ≤ 1048576 := by
  unfold Q.nearQ
  split
  · rename_i h0
    have h : ((1 ≤ n ∧ n ≤ 8) ∧ (0 ≤ l ∧ l ≤ 60) ∧ (1 ≤ v ∧ v ≤ n) ∧ 0 ≤ s ∧ s ≤ 9999) := by simpa [Q.nearOk, Q.okN] using h0
    rw [Q.nearL_len]; omega
  · simp
end LNearRequests
end Go.Proofs.Ytgnfmbdomofgcaa
