/-
  The model's CountsOf.
-/
import Derived.Test.YtdjafooabpcbmabCnt
import Derived.StillTailTactics
namespace Go.Proofs.Ytdjafooabpcbmab
open Go.RowKit
set_option linter.unusedVariables false
set_option maxHeartbeats 1600000 in
theorem l3Counts_any (N : Nat) (A : Option Addr) (c : Nat) (zs : List Int) (w : World) (h2 : N ≤ 9) (h3 : zs.length ≤ 60) (hx : ∀ k, k < zs.length → ∃ x : Nat, zs[k]? = some (x : Int) ∧ x < N) (hr : Law.Row w A (ivs zs)) :
    Calls Try.prog 88 #[.int .i64 N, .slice A zs.length c] w (rowSays1 (Q.countL N zs) w) := by
  obtain ⟨i0, hi, hz0, hz1, hz2⟩ := info_parts infoInts
  have HR := Lib.hid hr
  have HX := Lib.hid hx
  clear hr hx
  go_enter Try.func88, Try.ntmps88
  go_wp2_with (at_make; refine wpList_make_full _ rfl _ _ 22 rfl w.heap.size 3 i0 (.int .i64 0) 1 Try.underlying22 hi hz0 hz1 .i64 .i64 _ _ N rfl rfl rfl rfl ?cm1a ?cm1b ?cm1c ?_)
  case cm1a => rw [hz2]; omega
  case cm1b => unfold maxLen; omega
  case cm1c => first | exact Nat.le_refl _ | omega | (simp; omega)
  intro w1 hm1 hg1
  replace hm1 := made_own (w := w1) hm1
  have HB : Hid (Below w.heap.size w w1) := Lib.hid ((Below.refl _ _).grown hg1 (Nat.le_refl _) (fun k e => by cases e))
  have HO := Lib.hid hm1
  clear hm1 hg1
  go_wp2_with fail
  go_loopw [6] (fun i wr => ∃ k : Nat, k ≤ zs.length ∧ i = .int .i64 k ∧ Hid (wr.ownsRow w.heap.size 3 1 (.slice (some ⟨w.heap.size, 0, none⟩) N N) N (ivs (Q.countL N (zs.take k)))) ∧ Hid (Below w.heap.size w wr)) (fun i _ => zs.length - (intOf i).toNat)
  case atStart => exact ⟨0, Nat.zero_le _, rfl, by (show World.ownsRow _ _ _ _ _ _ _); rw [List.take_zero, Q.count_nil]; exact HO.out, HB.out⟩
  case round =>
    obtain ⟨k, hk, rfl, ho, hb⟩ := hrel
    by_cases hlt : k < zs.length
    · obtain ⟨x, hx, hxN⟩ := HX.out k hlt
      obtain ⟨b, off, rfl, hbl, hc⟩ := (HR.out.stays hb.out).at_ (ivs_some hx)
      have hltI : (k : Int) < (zs.length : Int) := by omega
      have hxI : (x : Int) < (N : Int) := by omega
      have hcO := own_cell ho.out (Q.count_at (zs := zs.take k) hxN)
      have hfO := ho.out.frozenAt x
      have hcl : (zs.take k).count (x : Int) ≤ 60 := Nat.le_trans List.count_le_length (by rw [List.length_take]; omega)
      generalize hq : (zs.take k).count (x : Int) = q at hcO hcl
      have HS := Lib.hid (own_put ho.out x ((q : Int) + 1))
      have HT : Hid ((Q.countL N (zs.take k)).set x ((q : Int) + 1) = Q.countL N (zs.take (k + 1))) := by show _ = _; rw [Q.take_snoc hx, ← hq]; exact Q.count_snoc
      have HB' := Lib.hid (hb.out.setCell (p := ⟨w.heap.size, x, none⟩) (Nat.le_refl _) (.int .i64 ((q : Int) + 1)))
      have HH : Hid (wr.drew.cell? ⟨w.heap.size, x, none⟩ = some (.int .i64 q) ∧ wr.drew.frozen? ⟨w.heap.size, x, none⟩ = false) := ⟨hcO, hfO⟩
      clear ho hb hq hx
      go_wp2_with fail
      go_still_tail 14, (by kernel_rfl)
      change wpList _ _ _ _ _ wr.drew
      obtain ⟨hcO', hfO'⟩ := HH.out
      go_wp2
      go_roundw
      case rel => exact ⟨k + 1, by omega, by go_num, (by show World.ownsRow _ _ _ _ _ _ _; rw [← HT.out]; exact HS.out), HB'.out.drew⟩
      case measure => simp [intOf]; omega
    · have hke : k = zs.length := by omega
      have hltI : ¬ (k : Int) < (zs.length : Int) := by omega
      have HF : Hid (zs.take k = zs) := by show _ = _; rw [hke, List.take_length]
      clear hke
      go_wp2
      go_ret
      have h := ho.out
      rw [HF.out] at h
      refine ⟨_, rfl, ?_, hb.out⟩
      simp only [Q.countL, List.length_map, List.length_range] at h ⊢
      exact h
theorem specCount_any (n : Int) (zs : List Int) (A : Option Addr) (c : Nat) (hl : zs.length ≤ 1048576) (w : World) (hr : Law.Row w A (ivs zs)) :
    Calls Try.prog 47 #[.int .i64 n, .slice A zs.length c] w (rowSays (Q.cntQ n zs) w) := by
  have HQ := Lib.hid (l3Good_any n A c zs w hl hr)
  cases hg : Q.good n zs
  · rw [show Q.cntQ n zs = ([], false) from Q.ifGood_no hg]
    rw [hg] at HQ
    clear hr hg
    go_enter Try.func47, Try.ntmps47
    go_wp2_with fail
    go_at_call 84
    refine (HQ.out).mono ?_
    rintro e w' ⟨rfl, hw'⟩
    obtain rfl := hw'.symm
    clear hw'
    go_wp2
    go_ret2
    exact ⟨_, rfl, ownsRow_nil _ _, (Below.refl _ _).alloc (Nat.le_refl _) _⟩
  · rw [show Q.cntQ n zs = _ from Q.ifGood_yes hg]
    rw [hg] at HQ
    obtain ⟨N, rfl, h1, h2, h3, hx⟩ := Q.good_nat hg
    have HC := Lib.hid (l3Counts_any N A c zs w (by omega) h3 hx hr)
    rw [Int.toNat_natCast]
    generalize Q.countL N zs = X at HC ⊢
    clear hr hg hx
    go_enter Try.func47, Try.ntmps47
    go_wp2_with fail
    go_at_call 84
    refine (HQ.out).mono ?_
    rintro e w' ⟨rfl, hw'⟩
    obtain rfl := hw'.symm
    clear hw'
    go_wp2_with fail
    go_at_call 88
    refine HC.out.mono ?_
    rintro e w' ⟨v, rfl, ho, hb⟩
    go_wp2
    go_ret2
    exact ⟨_, rfl, ho, hb⟩
theorem cntX_len (n : Int) (zs : List Int) : (Q.cntQ n zs).1.length ≤ 1048576 := by
  unfold Q.cntQ Q.ifGood
  split
  · rename_i h
    have := (Q.good_iff.1 h).1
    simp [Q.countL]; omega
  · simp
namespace LCountsOf
theorem lenX (n : Int) (zs : List Int) : (Q.cntQ n zs).1.length ≤ 1048576 := cntX_len n zs
end LCountsOf
end Go.Proofs.Ytdjafooabpcbmab
