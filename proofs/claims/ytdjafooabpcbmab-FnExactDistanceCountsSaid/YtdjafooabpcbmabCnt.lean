/-
  CountsOf: the model's and the code's.
-/
import Derived.Test.YtdjafooabpcbmabOwn
import Derived.Test.YtdjafooabpcbmabGood
import Derived.Test.YtdjafooabpcbmabImpQ
namespace Go.Proofs.Ytdjafooabpcbmab
open Go.RowKit
set_option linter.unusedVariables false
namespace Q
def cntQ (n : Int) (zs : List Int) : List Int × Bool := ifGood n zs (countL n.toNat zs)
end Q
set_option maxHeartbeats 1600000 in
theorem impCount_good (N : Nat) (A : Option Addr) (c : Nat) (zs : List Int) (w : World) (hg : Q.good N zs = true) (h2 : N ≤ 8) (h3 : zs.length ≤ 60) (hx : ∀ k, k < zs.length → ∃ x : Nat, zs[k]? = some (x : Int) ∧ x < N) (hr : Law.Row w A (ivs zs)) :
    Calls Try.prog 46 #[.int .i64 N, .slice A zs.length c] w (rowSays (Q.countL N zs, true) w) := by
  obtain ⟨i0, hi, hz0, hz1, hz2⟩ := info_parts infoInts
  have HQ := Lib.hid (impIsReq_any N A c zs w (by omega) hr)
  rw [hg] at HQ
  have HR := Lib.hid hr
  have HX := Lib.hid hx
  clear hr hg hx
  go_enter Try.func46, Try.ntmps46
  go_wp2_with fail
  go_at_call 73
  refine (HQ.out).mono ?_
  rintro e w' ⟨rfl, hw'⟩
  obtain rfl := hw'.symm
  clear hw'
  go_wp2_with (at_make; refine wpList_make_full _ rfl _ _ 22 rfl w.heap.size 3 i0 (.int .i64 0) 1 Try.underlying22 hi hz0 hz1 .i64 .i64 _ _ N rfl rfl rfl rfl ?cm1a ?cm1b ?cm1c ?_)
  case cm1a => rw [hz2]; omega
  case cm1b => unfold maxLen; omega
  case cm1c => first | exact Nat.le_refl _ | omega | (simp; omega)
  intro w1 hm1 hg1
  replace hm1 := made_own (w := w1) hm1
  have HB : Hid (Below w.heap.size w w1) := Lib.hid ((Below.refl _ _).grown hg1 (Nat.le_refl _) (fun k e => by cases e))
  have HO := Lib.hid hm1
  clear hm1 hg1
  go_wp2_with fail
  go_loopw [18] (fun i wr => ∃ k : Nat, k ≤ zs.length ∧ i = .int .i64 k ∧ Hid (wr.ownsRow w.heap.size 3 1 (.slice (some ⟨w.heap.size, 0, none⟩) N N) N (ivs (Q.countL N (zs.take k)))) ∧ Hid (Below w.heap.size w wr)) (fun i _ => zs.length - (intOf i).toNat)
  case atStart => exact ⟨0, Nat.zero_le _, rfl, by (show World.ownsRow _ _ _ _ _ _ _); rw [List.take_zero, Q.count_nil]; exact HO.out, HB.out⟩
  case round =>
    obtain ⟨k, hk, rfl, ho, hb⟩ := hrel
    by_cases hlt : k < zs.length
    · obtain ⟨x, hx, hxN⟩ := HX.out k hlt
      obtain ⟨b, off, rfl, hbl, hc⟩ := (HR.out.stays hb.out).at_ (ivs_some hx)
      have hltI : (k : Int) < (zs.length : Int) := by omega
      have hxI : (x : Int) < (N : Int) := by omega
      have hcO := own_cell ho.out (Q.count_at (zs := zs.take k) hxN)
      have hfO := ho.out.frozenAt x
      have hcl : (zs.take k).count (x : Int) ≤ 60 := Nat.le_trans List.count_le_length (by rw [List.length_take]; omega)
      generalize hq : (zs.take k).count (x : Int) = q at hcO hcl
      have HS := Lib.hid (own_put ho.out x ((q : Int) + 1))
      have HT : Hid ((Q.countL N (zs.take k)).set x ((q : Int) + 1) = Q.countL N (zs.take (k + 1))) := by show _ = _; rw [Q.take_snoc hx, ← hq]; exact Q.count_snoc
      have HB' := Lib.hid (hb.out.setCell (p := ⟨w.heap.size, x, none⟩) (Nat.le_refl _) (.int .i64 ((q : Int) + 1)))
      clear ho hb hq hx
      go_wp2
      go_roundw
      case rel => exact ⟨k + 1, by omega, by go_num, (by show World.ownsRow _ _ _ _ _ _ _; rw [← HT.out]; exact HS.out), HB'.out⟩
      case measure => simp [intOf]; omega
    · have hke : k = zs.length := by omega
      have hltI : ¬ (k : Int) < (zs.length : Int) := by omega
      have HF : Hid (zs.take k = zs) := by show _ = _; rw [hke, List.take_length]
      clear hke
      go_wp2
      go_ret2
      have h := ho.out
      rw [HF.out] at h
      refine ⟨_, rfl, ?_, hb.out⟩
      simp only [Q.countL, List.length_map, List.length_range] at h ⊢
      exact h
theorem impCount_any (n : Int) (zs : List Int) (A : Option Addr) (c : Nat) (hl : zs.length ≤ 1048576) (w : World) (hr : Law.Row w A (ivs zs)) :
    Calls Try.prog 46 #[.int .i64 n, .slice A zs.length c] w (rowSays (Q.cntQ n zs) w) := by
  cases hg : Q.good n zs
  · rw [show Q.cntQ n zs = ([], false) from Q.ifGood_no hg]
    have HQ := Lib.hid (impIsReq_any n A c zs w hl hr)
    rw [hg] at HQ
    clear hr hg
    go_enter Try.func46, Try.ntmps46
    go_wp2_with (go_at_call 73; refine HQ.out.mono ?_; rintro e w' ⟨rfl, hw'⟩; obtain rfl := hw'.symm)
    go_ret2
    exact ⟨_, rfl, ownsRow_nil _ _, (Below.refl _ _).alloc (Nat.le_refl _) _⟩
  · rw [show Q.cntQ n zs = _ from Q.ifGood_yes hg]
    obtain ⟨N, rfl, h1, h2, h3, hx⟩ := Q.good_nat hg
    exact impCount_good N A c zs w hg h2 h3 hx hr
end Go.Proofs.Ytdjafooabpcbmab
