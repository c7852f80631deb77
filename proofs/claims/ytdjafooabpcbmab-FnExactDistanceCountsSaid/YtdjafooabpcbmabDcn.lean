/-
  DistanceCounts: the code's and the model's.
-/
import Derived.Test.YtdjafooabpcbmabDisS
import Derived.Test.YtdjafooabpcbmabCntS
namespace Go.Proofs.Ytdjafooabpcbmab
open Go.RowKit
set_option linter.unusedVariables false
namespace Q
def dcnQ (n : Int) (zs : List Int) : List Int × Bool := ifGood n zs (countL (n.toNat + 1) (disL zs zs.length))
theorem good_mem {N : Nat} {zs : List Int} (h : good N zs = true) : ∀ z ∈ zs, 0 ≤ z ∧ z < N := fun z hz => by have := (good_iff.1 h).2.2 z hz; omega
end Q
set_option maxHeartbeats 1600000 in
theorem impDcn_good (N M : Nat) (hM : (N : Int) + 1 = (M : Int)) (A : Option Addr) (c : Nat) (zs ds : List Int) (w : World) (hD : ∀ W, Law.Row W A (ivs zs) → Calls Try.prog 31 #[.int .i64 N, .slice A zs.length c] W (rowSays (ds, true) W))
    (h2 : N ≤ 8) (h3 : ds.length ≤ 60) (hx : ∀ k, k < ds.length → ∃ x : Nat, ds[k]? = some (x : Int) ∧ x < M) (hr : Law.Row w A (ivs zs)) :
    Calls Try.prog 33 #[.int .i64 N, .slice A zs.length c] w (rowSays (Q.countL M ds, true) w) := by
  obtain ⟨i0, hi, hz0, hz1, hz2⟩ := info_parts infoInts
  have HD := Lib.hid (hD w hr)
  have HX := Lib.hid hx
  clear hr hx hD
  go_enter Try.func33, Try.ntmps33
  go_wp2_with fail
  go_at_call 31
  refine HD.out.mono ?_
  rintro e w1 ⟨v1, rfl, ho1, hb1⟩
  simp only [] at ho1
  obtain ⟨A1, c1, rfl, hc1, _, _⟩ := Law.own_len ho1
  have HR1 := Lib.hid (Law.Row.own ho1)
  have HB1 := Lib.hid hb1
  have sz1 := hb1.size
  clear ho1 hb1
  go_wp2_with (at_make; refine wpList_make_full _ rfl _ _ 22 rfl w.heap.size 3 i0 (.int .i64 0) 1 Try.underlying22 hi hz0 hz1 .i64 .i64 _ _ M rfl rfl rfl rfl ?cm2a ?cm2b ?cm2c ?_)
  case cm2a => rw [hz2]; omega
  case cm2b => unfold maxLen; omega
  case cm2c => first | exact Nat.le_refl _ | omega | (simp; omega)
  intro w2 hm2 hg2
  replace hm2 := made_own (w := w2) hm2
  have HB : Hid (Below w1.heap.size w1 w2) := Lib.hid ((Below.refl _ _).grown hg2 (Nat.le_refl _) (fun k e => by cases e))
  have HO := Lib.hid hm2
  clear hm2 hg2
  go_wp2_with fail
  go_loopw [25] (fun i wr => ∃ k : Nat, k ≤ ds.length ∧ i = .int .i64 k ∧ Hid (wr.ownsRow w.heap.size 3 1 (.slice (some ⟨w1.heap.size, 0, none⟩) M M) M (ivs (Q.countL M (ds.take k)))) ∧ Hid (Below w1.heap.size w1 wr)) (fun i _ => ds.length - (intOf i).toNat)
  case atStart => exact ⟨0, Nat.zero_le _, rfl, by (show World.ownsRow _ _ _ _ _ _ _); rw [List.take_zero, Q.count_nil]; exact HO.out, HB.out⟩
  case round =>
    obtain ⟨k, hk, rfl, ho, hb⟩ := hrel
    by_cases hlt : k < ds.length
    · obtain ⟨x, hx, hxN⟩ := HX.out k hlt
      obtain ⟨b, off, rfl, hbl, hc⟩ := (HR1.out.stays hb.out).at_ (ivs_some hx)
      have hltI : (k : Int) < (ds.length : Int) := by omega
      have hxI : (x : Int) < (M : Int) := by omega
      have hcO := own_cell ho.out (Q.count_at (zs := ds.take k) hxN)
      have hfO := ho.out.frozenAt x
      have hcl : (ds.take k).count (x : Int) ≤ 60 := Nat.le_trans List.count_le_length (by rw [List.length_take]; omega)
      generalize hq : (ds.take k).count (x : Int) = q at hcO hcl
      have HS := Lib.hid (own_put ho.out x ((q : Int) + 1))
      have HT : Hid ((Q.countL M (ds.take k)).set x ((q : Int) + 1) = Q.countL M (ds.take (k + 1))) := by show _ = _; rw [Q.take_snoc hx, ← hq]; exact Q.count_snoc
      have HB' := Lib.hid (hb.out.setCell (p := ⟨w1.heap.size, x, none⟩) (Nat.le_refl _) (.int .i64 ((q : Int) + 1)))
      clear ho hb hq hx
      go_wp2
      go_roundw
      case rel => exact ⟨k + 1, by omega, by go_num, (by show World.ownsRow _ _ _ _ _ _ _; rw [← HT.out]; exact HS.out), HB'.out⟩
      case measure => simp [intOf]; omega
    · have hke : k = ds.length := by omega
      have hltI : ¬ (k : Int) < (ds.length : Int) := by omega
      have HF : Hid (ds.take k = ds) := by show _ = _; rw [hke, List.take_length]
      have HBw : Hid (Below w.heap.size w wr) := Law.then_ HB1.out hb.out
      clear hke
      go_wp2
      go_ret2
      have h := ho.out
      rw [HF.out] at h
      refine ⟨_, rfl, ?_, HBw.out⟩
      simp only [Q.countL, List.length_map, List.length_range] at h ⊢
      exact h
theorem impDcn_any (n : Int) (zs : List Int) (A : Option Addr) (c : Nat) (hl : zs.length ≤ 1048576) (w : World) (hcap : zs.length ≤ c) (hr : Law.Row w A (ivs zs)) :
    Calls Try.prog 33 #[.int .i64 n, .slice A zs.length c] w (rowSays (Q.dcnQ n zs) w) := by
  cases hg : Q.good n zs
  · rw [show Q.dcnQ n zs = ([], false) from Q.ifGood_no hg]
    have HQ := Lib.hid (impDis_any n zs A c hl w hcap hr)
    rw [show Q.disQ n zs = ([], false) from Q.ifGood_no hg] at HQ
    clear hr hg
    go_enter Try.func33, Try.ntmps33
    go_wp2_with fail
    go_at_call 31
    refine HQ.out.mono ?_
    rintro e w1 ⟨v1, rfl, ho1, hb1⟩
    have HB := Lib.hid hb1
    clear ho1 hb1
    go_wp2
    go_ret2
    exact ⟨_, rfl, own_down (ownsRow_nil _ _) HB.out.size, HB.out.alloc HB.out.size _⟩
  · rw [show Q.dcnQ n zs = _ from Q.ifGood_yes hg]
    obtain ⟨N, rfl, h1, h2, h3, hx⟩ := Q.good_nat hg
    rw [Int.toNat_natCast]
    exact impDcn_good N (N + 1) (by omega) A c zs (Q.disL zs zs.length) w (fun W h => by
      have h' := impDis_any N zs A c hl W hcap h
      rwa [show Q.disQ N zs = _ from Q.ifGood_yes hg] at h') h2 (by rw [Q.disL_len]; exact h3) (Q.disL_ok (Q.good_mem hg)) hr
set_option maxHeartbeats 1600000 in
theorem specDcn_good (N M : Nat) (hM : (N : Int) + 1 = (M : Int)) (A : Option Addr) (c : Nat) (zs ds : List Int) (w : World) (hG : ∀ W, Law.Row W A (ivs zs) → Calls Try.prog 84 #[.int .i64 N, .slice A zs.length c] W fun e w' => e = .returned (.bool true) ∧ w' = W)
    (hD : ∀ W, Law.Row W A (ivs zs) → Calls Try.prog 87 #[.slice A zs.length c] W (rowSays1 ds W))
    (h2 : N ≤ 8) (h3 : ds.length ≤ 60) (hx : ∀ k, k < ds.length → ∃ x : Nat, ds[k]? = some (x : Int) ∧ x < M) (hr : Law.Row w A (ivs zs)) :
    Calls Try.prog 32 #[.int .i64 N, .slice A zs.length c] w (rowSays (Q.countL M ds, true) w) := by
  have HG := Lib.hid (hG w hr)
  have HD := Lib.hid (hD w hr)
  have HX := Lib.hid hx
  obtain ⟨X, hX⟩ : ∃ X, X = Q.countL M ds := ⟨_, rfl⟩
  rw [← hX]
  have HXe := Lib.hid hX
  clear hr hx hD hG hX
  go_enter Try.func32, Try.ntmps32
  go_wp2_with fail
  go_at_call 84
  refine (HG.out).mono ?_
  rintro e w' ⟨rfl, hw'⟩
  obtain rfl := hw'.symm
  clear hw'
  go_wp2_with fail
  go_at_call 87
  refine HD.out.mono ?_
  rintro e w1 ⟨v1, rfl, ho1, hb1⟩
  obtain ⟨A1, c1, rfl, hc1, _, _⟩ := Law.own_len ho1
  have HC := Lib.hid (l3Counts_any M A1 c1 ds w1 (by omega) h3 HX.out (Law.Row.own ho1))
  have HB1 := Lib.hid hb1
  rw [← HXe.out] at HC
  clear ho1 hb1
  go_wp2_with fail
  go_at_call 88
  refine HC.out.mono ?_
  rintro e w2 ⟨v2, rfl, ho2, hb2⟩
  have HO2 := Lib.hid (own_down ho2 HB1.out.size)
  have HB2 : Hid (Below w.heap.size w w2) := Law.then_ HB1.out hb2
  clear ho2 hb2
  go_wp2
  go_ret2
  exact ⟨_, rfl, HO2.out, HB2.out⟩
theorem specDcn_any (n : Int) (zs : List Int) (A : Option Addr) (c : Nat) (hl : zs.length ≤ 1048576) (w : World) (hcap : zs.length ≤ c) (hr : Law.Row w A (ivs zs)) :
    Calls Try.prog 32 #[.int .i64 n, .slice A zs.length c] w (rowSays (Q.dcnQ n zs) w) := by
  cases hg : Q.good n zs
  · rw [show Q.dcnQ n zs = ([], false) from Q.ifGood_no hg]
    have HQ := Lib.hid (l3Good_any n A c zs w hl hr)
    rw [hg] at HQ
    clear hr hg
    go_enter Try.func32, Try.ntmps32
    go_wp2_with fail
    go_at_call 84
    refine (HQ.out).mono ?_
    rintro e w' ⟨rfl, hw'⟩
    obtain rfl := hw'.symm
    clear hw'
    go_wp2
    go_ret2
    exact ⟨_, rfl, ownsRow_nil _ _, (Below.refl _ _).alloc (Nat.le_refl _) _⟩
  · rw [show Q.dcnQ n zs = _ from Q.ifGood_yes hg]
    obtain ⟨N, rfl, h1, h2, h3, hx⟩ := Q.good_nat hg
    rw [Int.toNat_natCast]
    exact specDcn_good N (N + 1) (by omega) A c zs (Q.disL zs zs.length) w (fun W h => by
      have h' := l3Good_any N A c zs W hl h
      rwa [hg] at h') (fun W h => l4Dis_any A c zs W h3 hcap h) h2 (by rw [Q.disL_len]; exact h3) (Q.disL_ok (Q.good_mem hg)) hr
namespace LDistanceCounts
theorem lenX (n : Int) (zs : List Int) : (Q.dcnQ n zs).1.length ≤ 1048576 := by
  unfold Q.dcnQ Q.ifGood
  split
  · rename_i h
    have := (Q.good_iff.1 h).1
    simp [Q.countL]; omega
  · simp
end LDistanceCounts
end Go.Proofs.Ytdjafooabpcbmab
