/-
  The code's WindowSizes.
-/
import Derived.Test.YtgnfmbdomofgcabDifI
import Derived.Test.YtgnfmbdomofgcabApp
import Derived.Test.YtgnfmbdomofgcabImpQ
import Derived.Test.YtgnfmbdomofgcabPart
import Derived.IntWalk
namespace Go.Proofs.Ytgnfmbdomofgcab
open Go.RowKit
set_option linter.unusedVariables false
namespace Q
def winF (zs : List Int) (v i : Nat) : Nat := dif (win zs (i + 1 - v) (i + 1))
def winL (zs : List Int) (v k : Nat) : List Int := (List.range k).map fun i => ((winF zs v i : Nat) : Int)
theorem winL_len (zs : List Int) (v k : Nat) : (winL zs v k).length = k := by simp [winL]
theorem win_len (zs : List Int) (a b : Nat) (h : b ≤ zs.length) : (win zs a b).length = b - a := by simp [win]; omega
theorem win_at (zs : List Int) (a b k : Nat) (h : k < b - a) : (win zs a b)[k]? = zs[a + k]? := by
  unfold win
  rw [List.getElem?_take, if_pos h, List.getElem?_drop]
theorem winF_le (zs : List Int) (v i : Nat) (h : i < zs.length) : winF zs v i ≤ i + 1 := by
  have h1 := dif_le (win zs (i + 1 - v) (i + 1))
  rw [win_len _ _ _ (by omega)] at h1
  unfold winF
  omega
def winOk (n : Int) (zs : List Int) (v : Int) : Bool := good n zs && (decide (1 ≤ v) && decide (v ≤ 60))
def winQ (n : Int) (zs : List Int) (v : Int) : List Int × Bool := if winOk n zs v then (winL zs v.toNat zs.length, true) else ([], false)
end Q
/-- The row that a window sees. -/
theorem row_win {w : World} {b off : Nat} {zs : List Int} (h : Law.Row w (some ⟨b, off, none⟩) (ivs zs)) (lo hi : Nat) (hh : lo < hi) (hz : hi ≤ zs.length) : Law.Row w (some ⟨b, off + lo, none⟩) (ivs (Q.win zs lo hi)) := by
  have h1 := row_drop h lo (zs.length + 1 + lo) (by omega)
  rw [if_neg (by omega)] at h1
  have h2 := row_take h1 (hi - lo)
  simpa [Law.add_plain, Q.win] using h2
set_option maxRecDepth 100000 in
set_option maxHeartbeats 3200000 in
theorem impWin_good (N v : Nat) (A : Option Addr) (c : Nat) (zs : List Int) (w : World) (hg : Q.good N zs = true) (h1 : 1 ≤ N) (h2 : N ≤ 8) (h3 : zs.length ≤ 60) (hv1 : 1 ≤ v) (hv2 : v ≤ 60) (hcap : zs.length ≤ c) (hx : ∀ k, k < zs.length → ∃ x : Nat, zs[k]? = some (x : Int) ∧ x < N) (hr : Law.Row w A (ivs zs)) :
    Calls Try.prog 19 #[.int .i64 N, .slice A zs.length c, .int .i64 v] w (rowSays (Q.winL zs v zs.length, true) w) := by
  obtain ⟨i0, hi, hz0, hz1, hz2⟩ := info_parts infoInts
  have HQ := Lib.hid (impIsReq_any N A c zs w (by omega) hr)
  rw [hg] at HQ
  have HR := Lib.hid hr
  have HX := Lib.hid hx
  have HC := Lib.hid hcap
  clear hr hg hx hcap
  have hvI1 : (1 : Int) ≤ (v : Int) := by omega
  have hvI2 : (v : Int) ≤ 60 := by omega
  go_enter Try.func19, Try.ntmps19
  go_wp2_with fail
  go_at_call 30
  refine (HQ.out).mono ?_
  rintro e w' ⟨rfl, hw'⟩
  obtain rfl := hw'.symm
  clear hw'
  go_wp2_with (at_make; refine wpList_make_full _ rfl _ _ 22 rfl w.heap.size 3 i0 (.int .i64 0) 1 Try.underlying22 hi hz0 hz1 .i64 .i64 _ _ zs.length rfl rfl rfl rfl ?cm1a ?cm1b ?cm1c ?_)
  case cm1a => rw [hz2]; omega
  case cm1b => unfold maxLen; omega
  case cm1c => first | exact Nat.le_refl _ | omega | (simp; omega)
  intro w1 hm1 hg1
  replace hm1 := made_own (w := w1) hm1
  have HB : Hid (Below w.heap.size w w1) := Lib.hid ((Below.refl _ _).grown hg1 (Nat.le_refl _) (fun k e => by cases e))
  have HO := Lib.hid hm1
  clear hm1 hg1
  go_wp2_with fail
  go_loopw [28] (fun i wr => ∃ k : Nat, k ≤ zs.length ∧ i = .int .i64 k ∧ Hid (wr.ownsRow w.heap.size 3 1 (.slice (some ⟨w.heap.size, 0, none⟩) zs.length zs.length) zs.length (ivs (Q.part (fun i => ((Q.winF zs v i : Nat) : Int)) zs.length k))) ∧ Hid (Below w.heap.size w wr)) (fun i _ => zs.length - (intOf i).toNat)
  case atStart => exact ⟨0, Nat.zero_le _, rfl, by (show World.ownsRow _ _ _ _ _ _ _); rw [Q.part_zero]; exact HO.out, HB.out⟩
  case round =>
    obtain ⟨k, hk, rfl, ho, hb⟩ := hrel
    by_cases hlt : k < zs.length
    · obtain ⟨x, hx, hxN⟩ := HX.out k hlt
      obtain ⟨b, off, rfl, hbl, hc⟩ := (HR.out.stays hb.out).at_ (ivs_some hx)
      have hltI : (k : Int) < (zs.length : Int) := by omega
      have hcI : (zs.length : Int) ≤ (c : Int) := by have := HC.out; omega
      have hkcI : (k : Int) + 1 ≤ (c : Int) := by omega
      have HD := Lib.hid fun (W : World) (B : Option Addr) (d : Nat) (hrow : Law.Row W B (ivs (Q.win zs (k + 1 - v) (k + 1)))) => difItems_any B d (Q.win zs (k + 1 - v) (k + 1)) W (by rw [Q.win_len _ _ _ (by omega)]; omega) (fun j hj => by
        rw [Q.win_len _ _ _ (by omega)] at hj
        obtain ⟨y, hy, hyN⟩ := HX.out (k + 1 - v + j) (by omega)
        exact ⟨y, by rw [Q.win_at _ _ _ _ hj]; exact hy, by omega⟩) hrow
      rw [Q.win_len _ _ _ (by omega)] at HD
      have hR2 := HR.out.stays hb.out
      have HW := Lib.hid (row_win hR2 (k + 1 - v) (k + 1) (by omega) (by omega))
      have hcU := own_cell ho.out (Q.part_at (fun i => ((Q.winF zs v i : Nat) : Int)) hlt)
      have hfU := ho.out.frozenAt k
      have HT := Lib.hid (Q.part_set (fun i => ((Q.winF zs v i : Nat) : Int)) hlt)
      clear hc hcU hfU hR2 hx
      have hnv : ¬ (v : Int) < 1 := by omega
      have HF : Hid (∀ (W : World) (B : Option Addr) (d : Nat), Law.Row W B (ivs (Q.win zs (k + 1 - v) (k + 1))) → Calls Try.prog 36 #[.slice B (k + 1 - (k + 1 - v)) d] W fun e w' => e = .returned (.int .i64 (Q.winF zs v k : Nat)) ∧ Below W.heap.size W w') := HD
      clear HD
      obtain ⟨q, hq⟩ : ∃ q, q = Q.winF zs v k := ⟨_, rfl⟩
      rw [← hq] at HF HT
      clear hq
      by_cases hvk : v ≤ k
      · have hvkI : (v : Int) ≤ (k : Int) := by omega
        have HD1 : Hid (Calls Try.prog 36 #[.slice (some ⟨b, off + (k - v + 1), none⟩) (k - (k - v)) (c - (k - v + 1))] wr fun e w' => e = .returned (.int .i64 (q : Nat)) ∧ Below wr.heap.size wr w') := by
          have h := HF.out wr (some ⟨b, off + (k + 1 - v), none⟩) (c - (k - v + 1)) HW.out
          rw [show k + 1 - (k + 1 - v) = k - (k - v) by omega, show k + 1 - v = k - v + 1 by omega] at h
          exact Lib.hid h
        go_wp2_with fail
        go_at_call 36
        refine HD1.out.mono ?_
        rintro e w2 ⟨rfl, hb2⟩
        have ho2 := own_past ho.out hb2
        have hcU2 := own_cell ho2 (Q.part_at (fun i => ((Q.winF zs v i : Nat) : Int)) hlt)
        have hfU2 := ho2.frozenAt k
        have HU := Lib.hid (own_put ho2 k ((q : Nat) : Int))
        have HB' := Lib.hid ((Law.then_ hb.out hb2).setCell (p := ⟨w.heap.size, k, none⟩) (Nat.le_refl _) (.int .i64 ((q : Nat) : Int)))
        clear ho ho2 hb hb2
        go_wp2
        go_roundw
        case rel => exact ⟨k + 1, by omega, by go_num, (by show World.ownsRow _ _ _ _ _ _ _; rw [← HT.out]; exact HU.out), HB'.out⟩
        case measure => simp [intOf]; omega
      · have hvkI : ¬ (v : Int) ≤ (k : Int) := by omega
        have HD1 : Hid (Calls Try.prog 36 #[.slice (some ⟨b, off, none⟩) (k + 1) c] wr fun e w' => e = .returned (.int .i64 (q : Nat)) ∧ Below wr.heap.size wr w') := by
          have hW := HW.out
          rw [show off + (k + 1 - v) = off by omega] at hW
          have h := HF.out wr (some ⟨b, off, none⟩) c hW
          rw [show k + 1 - (k + 1 - v) = k + 1 by omega] at h
          exact Lib.hid h
        go_wp2_with fail
        go_at_call 36
        refine HD1.out.mono ?_
        rintro e w2 ⟨rfl, hb2⟩
        have ho2 := own_past ho.out hb2
        have hcU2 := own_cell ho2 (Q.part_at (fun i => ((Q.winF zs v i : Nat) : Int)) hlt)
        have hfU2 := ho2.frozenAt k
        have HU := Lib.hid (own_put ho2 k ((q : Nat) : Int))
        have HB' := Lib.hid ((Law.then_ hb.out hb2).setCell (p := ⟨w.heap.size, k, none⟩) (Nat.le_refl _) (.int .i64 ((q : Nat) : Int)))
        clear ho ho2 hb hb2
        go_wp2
        go_roundw
        case rel => exact ⟨k + 1, by omega, by go_num, (by show World.ownsRow _ _ _ _ _ _ _; rw [← HT.out]; exact HU.out), HB'.out⟩
        case measure => simp [intOf]; omega
    · have hke : k = zs.length := by omega
      have hltI : ¬ (k : Int) < (zs.length : Int) := by omega
      have HF : Hid (Q.part (fun i => ((Q.winF zs v i : Nat) : Int)) zs.length k = Q.winL zs v zs.length) := by show _ = _; rw [hke]; exact Q.part_all _ _
      clear hke
      go_wp2
      go_ret2
      have h := ho.out
      rw [HF.out] at h
      refine ⟨_, rfl, ?_, hb.out⟩
      simp only [Q.winL_len]
      exact h
theorem impWin_any (n : Int) (zs : List Int) (v : Int) (A : Option Addr) (c : Nat) (hl : zs.length ≤ 1048576) (w : World) (hcap : zs.length ≤ c) (hr : Law.Row w A (ivs zs)) :
    Calls Try.prog 19 #[.int .i64 n, .slice A zs.length c, .int .i64 v] w (rowSays (Q.winQ n zs v) w) := by
  have HQ := Lib.hid (impIsReq_any n A c zs w hl hr)
  cases hg : Q.good n zs
  · rw [show Q.winQ n zs v = ([], false) from if_neg (by simp [Q.winOk, hg])]
    rw [hg] at HQ
    clear hr hg
    go_enter Try.func19, Try.ntmps19
    go_wp2_with fail
    go_at_call 30
    refine (HQ.out).mono ?_
    rintro e w' ⟨rfl, hw'⟩
    obtain rfl := hw'.symm
    clear hw'
    go_wp2
    go_ret2
    exact ⟨_, rfl, ownsRow_nil _ _, (Below.refl _ _).alloc (Nat.le_refl _) _⟩
  · by_cases hv : 1 ≤ v ∧ v ≤ 60
    · rw [show Q.winQ n zs v = (Q.winL zs v.toNat zs.length, true) from if_pos (by simp [Q.winOk, hg, hv])]
      obtain ⟨N, rfl, h1, h2, h3, hx⟩ := Q.good_nat hg
      obtain ⟨u, rfl⟩ := Int.eq_ofNat_of_zero_le (show 0 ≤ v by omega)
      exact impWin_good N u A c zs w hg h1 h2 h3 (by omega) (by omega) hcap hx hr
    · rw [show Q.winQ n zs v = ([], false) from if_neg (by simp [Q.winOk, hg]; omega)]
      rw [hg] at HQ
      clear hr hg
      have hv' : v < 1 ∨ (¬ v < 1 ∧ 60 < v) := by omega
      rcases hv' with h | ⟨h, h'⟩
      all_goals
        clear hv
        go_enter Try.func19, Try.ntmps19
        go_wp2_with fail
        go_at_call 30
        refine (HQ.out).mono ?_
        rintro e w' ⟨rfl, hw'⟩
        obtain rfl := hw'.symm
        clear hw'
        go_wp2
        go_ret2
        exact ⟨_, rfl, ownsRow_nil _ _, (Below.refl _ _).alloc (Nat.le_refl _) _⟩
namespace LWindowSizes
theorem lenX (n : Int) (zs : List Int) (v : Int) : (Q.winQ n zs v).1.length ≤ 1048576 := by
  unfold Q.winQ
  split
  · rename_i h
    have h0 := (Q.good_iff.1 ((Bool.and_eq_true _ _).mp h).1).2.1
    rw [Q.winL_len]; omega
  · simp
end LWindowSizes
end Go.Proofs.Ytgnfmbdomofgcab
