/-
  The model's WindowSizes.
-/
import Derived.Test.YtgnfmbdomofgcabPutS
import Derived.Test.YtgnfmbdomofgcabWinI
import Derived.Test.YtgnfmbdomofgcabGood
namespace Go.Proofs.Ytgnfmbdomofgcab
open Go.RowKit
set_option linter.unusedVariables false
theorem l1Most_hi (a b : Int) (w : World) (h : a ≤ b) : Calls Try.prog 35 #[.int .i64 a, .int .i64 b] w fun e w' => e = .returned (.int .i64 b) ∧ w' = w := by
  have h' : ¬ b < a := by omega
  go_enter Try.func35, Try.ntmps35
  go_wp2
  go_ret
  exact ⟨rfl, rfl⟩
theorem l1Most_lo (a b : Int) (w : World) (h : b ≤ a) : Calls Try.prog 35 #[.int .i64 a, .int .i64 b] w fun e w' => e = .returned (.int .i64 a) ∧ w' = w := by
  rcases Int.lt_or_eq_of_le h with h' | h'
  · go_enter Try.func35, Try.ntmps35
    go_wp2
    go_ret
    exact ⟨rfl, rfl⟩
  · subst h'
    exact l1Most_hi b b w (Int.le_refl _)
namespace Q
theorem winL_succ (zs : List Int) (v k : Nat) : winL zs v (k + 1) = winL zs v k ++ [((winF zs v k : Nat) : Int)] := by simp [winL, List.range_succ]
end Q
set_option maxRecDepth 100000 in
set_option maxHeartbeats 3200000 in
theorem specWin_good (N v : Nat) (A : Option Addr) (c : Nat) (zs : List Int) (w : World) (hg : Q.good N zs = true) (h3 : zs.length ≤ 60) (hv1 : 1 ≤ v) (hv2 : v ≤ 60) (hcap : zs.length ≤ c) (hr : Law.Row w A (ivs zs)) :
    Calls Try.prog 18 #[.int .i64 N, .slice A zs.length c, .int .i64 v] w (rowSays (Q.winL zs v zs.length, true) w) := by
  obtain ⟨i0, hi, hz0, hz1, hz2⟩ := info_parts infoInts
  have HQ : Hid (∀ W, Law.Row W A (ivs zs) → Calls Try.prog 28 #[.int .i64 N, .slice A zs.length c] W fun e w' => e = .returned (.bool true) ∧ w' = W) := fun W h => by
    have h := l3Good_any N A c zs W (by omega) h
    rwa [hg] at h
  have HJ := Lib.hid fun W => l1In_any v 1 60 W
  rw [show (decide ((1 : Int) ≤ v) && decide ((v : Int) ≤ 60)) = true by simp; omega] at HJ
  have HR := Lib.hid hr
  have HC := Lib.hid hcap
  clear hr hg hcap
  go_enter Try.func18, Try.ntmps18
  go_wp2_with fail
  go_at_call 28
  refine (HQ.out _ (HR.out.stays ((Below.refl _ _).alloc (Nat.le_refl _) _))).mono ?_
  rintro e w' ⟨rfl, hw'⟩
  obtain rfl := hw'.symm
  clear hw'
  go_wp2_with fail
  go_at_call 33
  refine (HJ.out _).mono ?_
  rintro e w' ⟨rfl, hw'⟩
  obtain rfl := hw'.symm
  clear hw'
  go_wp2_with fail
  go_loopw [8, 9] (fun u i wr => ∃ k : Nat, k ≤ zs.length ∧ i = .int .i64 k ∧ Hid (wr.ownsRow w.heap.size 3 1 u k (ivs (Q.winL zs v k))) ∧ Hid (Below w.heap.size w wr)) (fun _ i _ => zs.length - (intOf i).toNat)
  case atStart => exact ⟨0, Nat.zero_le _, rfl, ownsRow_nil _ _, (Below.refl _ _).alloc (Nat.le_refl _) _⟩
  case round =>
    obtain ⟨k, hk, rfl, ho, hb⟩ := hrel
    by_cases hlt : k < zs.length
    · obtain ⟨b, off, rfl, hbl, hc⟩ := (HR.out.stays hb.out).at_ (ivs_at hlt)
      have hltI : (k : Int) < (zs.length : Int) := by omega
      have hcI : (zs.length : Int) ≤ (c : Int) := by have := HC.out; omega
      have hkcI : (k : Int) + 1 ≤ (c : Int) := by omega
      have HF := Lib.hid fun (W : World) (B : Option Addr) (d : Nat) (hrow : Law.Row W B (ivs (Q.win zs (k + 1 - v) (k + 1)))) => l3Dif_any B d (Q.win zs (k + 1 - v) (k + 1)) W (by rw [Q.win_len _ _ _ (by omega)]; omega) hrow
      rw [Q.win_len _ _ _ (by omega)] at HF
      have HW := Lib.hid (row_win (HR.out.stays hb.out) (k + 1 - v) (k + 1) (by omega) (by omega))
      have HT := Lib.hid (Q.winL_succ zs v k)
      have HL : Hid (((Q.diffs (Q.win zs (k + 1 - v) (k + 1))).length : Int) = ((Q.winF zs v k : Nat) : Int)) := by show _ = _; rw [(Q.diffs_ok _).2.2]; rfl
      have hds : (Q.diffs (Q.win zs (k + 1 - v) (k + 1))).length ≤ 60 := by rw [(Q.diffs_ok _).2.2]; exact Nat.le_trans (Q.dif_le _) (by rw [Q.win_len _ _ _ (by omega)]; omega)
      obtain ⟨ds, hdsE⟩ : ∃ ds, ds = Q.diffs (Q.win zs (k + 1 - v) (k + 1)) := ⟨_, rfl⟩
      rw [← hdsE] at HF HL hds
      clear hc hdsE
      by_cases hvk : v ≤ k
      · have hvkI : (v : Int) ≤ (k : Int) := by omega
        have HM := Lib.hid (l1Most_hi 0 ((k : Int) - (v : Int) + 1) wr (by omega))
        have HD1 : Hid (Calls Try.prog 34 #[.slice (some ⟨b, off + (k - v + 1), none⟩) (k - (k - v)) (c - (k - v + 1))] wr (listSays ds wr)) := by
          have h := HF.out wr (some ⟨b, off + (k + 1 - v), none⟩) (c - (k - v + 1)) HW.out
          rw [show k + 1 - (k + 1 - v) = k - (k - v) by omega, show k + 1 - v = k - v + 1 by omega] at h
          exact Lib.hid h
        go_wp2_with fail
        go_at_call 35
        refine (HM.out).mono ?_
        rintro e w' ⟨rfl, hw'⟩
        obtain rfl := hw'.symm
        clear hw'
        go_wp2_with fail
        go_at_call 34
        refine HD1.out.mono ?_
        rintro e w2 ⟨B2, d2, rfl, h1, h2, hr2, hb2⟩
        have HO2 := Lib.hid (own_past ho.out hb2)
        have HB2 := Lib.hid (Law.then_ hb.out hb2)
        clear ho hb hb2 hr2 h1 h2
        have hsz9 := (HB2.out).size
        go_wp2_with (at_builtin; refine wpList_append_own _ rfl _ _ 22 rfl w.heap.size 3 i0 (.int .i64 0) 1 8 Try.underlying22 hi hz0 hz1 hz2 rfl (by decide) _ _ _ rfl ((HO2.out).alloc _) ⟨(w2).heap.size, 0, none⟩ 1 1 [.int .i64 ((ds.length : Int))] rfl rfl ?ca9a ?ca9b ?ca9c ?ca9d ?ca9e ?_)
        case ca9a =>
          intro j' u hj'
          match j', hj' with
          | 0, hj' => simp at hj'; subst hj'; simp [Addr.add]
        case ca9b => intro u hu; simp at hu; subst hu; rfl
        case ca9c => unfold maxLen; omega
        case ca9d => omega
        case ca9e => simp; omega
        intro v9 w9 hm9 hg9 _
        have HB9 := Lib.hid (((HB2.out).alloc hsz9 (.cells #[.int .i64 ((ds.length : Int))] 3)).grown hg9 (by simp; omega) (fun j e => ((HO2.out).lt j e).1))
        clear hg9
        rw [HL.out, ← ivs_snoc, ← HT.out] at hm9
        have HO := Lib.hid hm9
        clear hm9 HO2 HB2
        go_wp2
        go_roundw
        case rel => exact ⟨k + 1, by omega, by go_num, HO.out, HB9.out⟩
        case measure => simp [intOf]; omega
      · have hvkI : ¬ (v : Int) ≤ (k : Int) := by omega
        have HM := Lib.hid (l1Most_lo 0 ((k : Int) - (v : Int) + 1) wr (by omega))
        have HD1 : Hid (Calls Try.prog 34 #[.slice (some ⟨b, off, none⟩) (k + 1) c] wr (listSays ds wr)) := by
          have hW := HW.out
          rw [show off + (k + 1 - v) = off by omega] at hW
          have h := HF.out wr (some ⟨b, off, none⟩) c hW
          rw [show k + 1 - (k + 1 - v) = k + 1 by omega] at h
          exact Lib.hid h
        go_wp2_with fail
        go_at_call 35
        refine (HM.out).mono ?_
        rintro e w' ⟨rfl, hw'⟩
        obtain rfl := hw'.symm
        clear hw'
        go_wp2_with fail
        go_at_call 34
        refine HD1.out.mono ?_
        rintro e w2 ⟨B2, d2, rfl, h1, h2, hr2, hb2⟩
        have HO2 := Lib.hid (own_past ho.out hb2)
        have HB2 := Lib.hid (Law.then_ hb.out hb2)
        clear ho hb hb2 hr2 h1 h2
        have hsz9 := (HB2.out).size
        go_wp2_with (at_builtin; refine wpList_append_own _ rfl _ _ 22 rfl w.heap.size 3 i0 (.int .i64 0) 1 8 Try.underlying22 hi hz0 hz1 hz2 rfl (by decide) _ _ _ rfl ((HO2.out).alloc _) ⟨(w2).heap.size, 0, none⟩ 1 1 [.int .i64 ((ds.length : Int))] rfl rfl ?ca9a ?ca9b ?ca9c ?ca9d ?ca9e ?_)
        case ca9a =>
          intro j' u hj'
          match j', hj' with
          | 0, hj' => simp at hj'; subst hj'; simp [Addr.add]
        case ca9b => intro u hu; simp at hu; subst hu; rfl
        case ca9c => unfold maxLen; omega
        case ca9d => omega
        case ca9e => simp; omega
        intro v9 w9 hm9 hg9 _
        have HB9 := Lib.hid (((HB2.out).alloc hsz9 (.cells #[.int .i64 ((ds.length : Int))] 3)).grown hg9 (by simp; omega) (fun j e => ((HO2.out).lt j e).1))
        clear hg9
        rw [HL.out, ← ivs_snoc, ← HT.out] at hm9
        have HO := Lib.hid hm9
        clear hm9 HO2 HB2
        go_wp2
        go_roundw
        case rel => exact ⟨k + 1, by omega, by go_num, HO.out, HB9.out⟩
        case measure => simp [intOf]; omega
    · have hke : k = zs.length := by omega
      have hltI : ¬ (k : Int) < (zs.length : Int) := by omega
      have HK := Lib.hid hke
      clear hke
      go_wp2
      go_ret2
      have h := ho.out
      rw [HK.out] at h
      refine ⟨_, rfl, ?_, hb.out⟩
      simp only [Q.winL_len]
      exact h
theorem specWin_any (n : Int) (zs : List Int) (v : Int) (A : Option Addr) (c : Nat) (hl : zs.length ≤ 1048576) (w : World) (hcap : zs.length ≤ c) (hr : Law.Row w A (ivs zs)) :
    Calls Try.prog 18 #[.int .i64 n, .slice A zs.length c, .int .i64 v] w (rowSays (Q.winQ n zs v) w) := by
  have HQ := Lib.hid (l3Good_any n A c zs (w.alloc (.cells #[] 3)) hl (hr.stays ((Below.refl _ _).alloc (Nat.le_refl _) _)))
  cases hg : Q.good n zs
  · rw [show Q.winQ n zs v = ([], false) from if_neg (by simp [Q.winOk, hg])]
    rw [hg] at HQ
    clear hr hg
    go_enter Try.func18, Try.ntmps18
    go_wp2_with fail
    go_at_call 28
    refine (HQ.out).mono ?_
    rintro e w' ⟨rfl, hw'⟩
    obtain rfl := hw'.symm
    clear hw'
    go_wp2
    go_ret2
    exact ⟨_, rfl, ownsRow_nil _ _, (Below.refl _ _).alloc (Nat.le_refl _) _⟩
  · by_cases hv : 1 ≤ v ∧ v ≤ 60
    · rw [show Q.winQ n zs v = (Q.winL zs v.toNat zs.length, true) from if_pos (by simp [Q.winOk, hg, hv])]
      obtain ⟨N, rfl, h1, h2, h3, hx⟩ := Q.good_nat hg
      obtain ⟨u, rfl⟩ := Int.eq_ofNat_of_zero_le (show 0 ≤ v by omega)
      exact specWin_good N u A c zs w hg h3 (by omega) (by omega) hcap hr
    · rw [show Q.winQ n zs v = ([], false) from if_neg (by simp [Q.winOk, hg]; omega)]
      have HJ := Lib.hid fun W => l1In_any v 1 60 W
      rw [show (decide ((1 : Int) ≤ v) && decide ((v : Int) ≤ 60)) = false by rw [Bool.eq_false_iff]; simp; omega] at HJ
      rw [hg] at HQ
      clear hr hg hv
      go_enter Try.func18, Try.ntmps18
      go_wp2_with fail
      go_at_call 28
      refine (HQ.out).mono ?_
      rintro e w' ⟨rfl, hw'⟩
      obtain rfl := hw'.symm
      clear hw'
      go_wp2_with fail
      go_at_call 33
      refine (HJ.out _).mono ?_
      rintro e w' ⟨rfl, hw'⟩
      obtain rfl := hw'.symm
      clear hw'
      go_wp2
      go_ret2
      exact ⟨_, rfl, ownsRow_nil _ _, (Below.refl _ _).alloc (Nat.le_refl _) _⟩
end Go.Proofs.Ytgnfmbdomofgcab
