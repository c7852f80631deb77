/-
  The code's StackDistances.
-/
import Derived.Test.YtdjafooabpcbmabDisM
import Derived.Test.YtdjafooabpcbmabDifI
import Derived.Test.YtdjafooabpcbmabUse
import Derived.Test.YtdjafooabpcbmabWinR
namespace Go.Proofs.Ytdjafooabpcbmab
open Go.RowKit
set_option linter.unusedVariables false
namespace Q
def disQ (n : Int) (zs : List Int) : List Int × Bool := ifGood n zs (disL zs zs.length)
end Q
set_option maxRecDepth 100000 in
set_option maxHeartbeats 3200000 in
theorem impDis_good (N : Nat) (A : Option Addr) (c : Nat) (zs : List Int) (w : World) (hg : Q.good N zs = true) (h1 : 1 ≤ N) (h2 : N ≤ 8) (h3 : zs.length ≤ 60) (hcap : zs.length ≤ c) (hx : ∀ k, k < zs.length → ∃ x : Nat, zs[k]? = some (x : Int) ∧ x < N) (hr : Law.Row w A (ivs zs)) :
    Calls Try.prog 31 #[.int .i64 N, .slice A zs.length c] w (rowSays (Q.disL zs zs.length, true) w) := by
  obtain ⟨i0, hi, hz0, hz1, hz2⟩ := info_parts infoInts
  have HL := Lib.hid (impLast_good N A c zs w hg h1 h2 h3 hx hr)
  have HR := Lib.hid hr
  have HX := Lib.hid hx
  have HC := Lib.hid hcap
  clear hr hg hx hcap
  go_enter Try.func31, Try.ntmps31
  go_wp2_with fail
  go_at_call 50
  refine HL.out.mono ?_
  rintro e w1 ⟨v1, rfl, ho1, hb1⟩
  simp only [Q.lastL, List.length_map, List.length_range] at ho1
  rw [show (List.range zs.length).map (Q.lastOf zs) = Q.lastL zs zs.length from rfl] at ho1
  obtain ⟨A1, c1, rfl, hc1, _, _⟩ := Law.own_len ho1
  have HR1 := Lib.hid (Law.Row.own ho1)
  have HB1 := Lib.hid hb1
  have sz1 := hb1.size
  clear ho1 hb1
  go_wp2_with (at_make; refine wpList_make_full _ rfl _ _ 22 rfl w.heap.size 3 i0 (.int .i64 0) 1 Try.underlying22 hi hz0 hz1 .i64 .i64 _ _ zs.length rfl rfl rfl rfl ?cm2a ?cm2b ?cm2c ?_)
  case cm2a => rw [hz2]; omega
  case cm2b => unfold maxLen; omega
  case cm2c => first | exact Nat.le_refl _ | omega | (simp; omega)
  intro w2 hm2 hg2
  replace hm2 := made_own (w := w2) hm2
  have HB : Hid (Below w1.heap.size w1 w2) := Lib.hid ((Below.refl _ _).grown hg2 (Nat.le_refl _) (fun k e => by cases e))
  have HO := Lib.hid hm2
  clear hm2 hg2
  go_wp2_with fail
  go_loopw [25] (fun i wr => ∃ k : Nat, k ≤ zs.length ∧ i = .int .i64 k ∧ Hid (wr.ownsRow w.heap.size 3 1 (.slice (some ⟨w1.heap.size, 0, none⟩) zs.length zs.length) zs.length (ivs (Q.part (Q.disF zs) zs.length k))) ∧ Hid (Below w1.heap.size w1 wr)) (fun i _ => zs.length - (intOf i).toNat)
  case atStart => exact ⟨0, Nat.zero_le _, rfl, by (show World.ownsRow _ _ _ _ _ _ _); rw [Q.part_zero]; exact HO.out, HB.out⟩
  case round =>
    obtain ⟨k, hk, rfl, ho, hb⟩ := hrel
    have HBw : Hid (Below w.heap.size w wr) := Law.then_ HB1.out hb.out
    by_cases hlt : k < zs.length
    · obtain ⟨x, hx, hxN⟩ := HX.out k hlt
      obtain ⟨b, off, rfl, hbl, hc⟩ := (HR.out.stays HBw.out).at_ (ivs_some hx)
      obtain ⟨b1, off1, rfl, hbl1, hc1⟩ := (HR1.out.stays hb.out).at_ (ivs_some (Q.lastL_at zs hlt))
      have hltI : (k : Int) < (zs.length : Int) := by omega
      have HT := Lib.hid (Q.part_set (Q.disF zs) hlt)
      have hlo := Q.lastOf_lt zs k
      by_cases hneg : Q.lastOf zs k < 0
      · have HE : Hid (Q.part (Q.disF zs) zs.length (k + 1) = Q.part (Q.disF zs) zs.length k) := Q.part_skip _ _ _ (by unfold Q.disF; rw [if_pos hneg])
        have hneg' : ¬ (0 ≤ Q.lastOf zs k) := by omega
        clear hc hneg hlo HT hx
        generalize Q.lastOf zs k = L at *
        go_wp2
        go_roundw
        case rel => exact ⟨k + 1, by omega, by go_num, (by show World.ownsRow _ _ _ _ _ _ _; rw [HE.out]; exact ho.out), hb.out⟩
        case measure => simp [intOf]; omega
      · obtain ⟨l, hL⟩ := Int.eq_ofNat_of_zero_le (show 0 ≤ Q.lastOf zs k by omega)
        have hlk : l < k := by omega
        have hF : Q.disF zs k = ((Q.dif (Q.win zs l k) : Nat) : Int) := by unfold Q.disF; rw [if_neg hneg, hL]; rfl
        have hcI : (zs.length : Int) ≤ (c : Int) := by have := HC.out; omega
        have hkcI : (k : Int) ≤ (c : Int) := by omega
        have hlkI : (l : Int) ≤ (k : Int) := by omega
        have HW := Lib.hid (row_win (HR.out.stays HBw.out) l k hlk (by omega))
        have HD1 := Lib.hid (difItems_any (some ⟨b, off + l, none⟩) (c - l) (Q.win zs l k) wr (by rw [Q.win_len _ _ _ (by omega)]; omega) (fun j hj => by
          rw [Q.win_len _ _ _ (by omega)] at hj
          obtain ⟨y, hy, hyN⟩ := HX.out (l + j) (by omega)
          exact ⟨y, by rw [Q.win_at _ _ _ _ hj]; exact hy, by omega⟩) HW.out)
        rw [Q.win_len _ _ _ (by omega)] at HD1
        rw [hF] at HT
        rw [hL] at hc1
        generalize Q.dif (Q.win zs l k) = q at HD1 HT
        have hcl : ¬ (c = l) := by omega
        clear hc hL hF hlo hneg HW hx
        go_wp2_with fail
        go_at_call 74
        refine HD1.out.mono ?_
        rintro e w3 ⟨rfl, hb3⟩
        have ho3 := own_past ho.out hb3
        have hcU := own_cell ho3 (Q.part_at (Q.disF zs) hlt)
        have hfU := ho3.frozenAt k
        have HU := Lib.hid (own_put ho3 k ((q : Nat) : Int))
        have hb4 := Law.then_ hb.out hb3
        have HB' := Lib.hid (hb4.setCell (p := ⟨w1.heap.size, k, none⟩) (Nat.le_refl _) (.int .i64 ((q : Nat) : Int)))
        clear ho ho3 hb hb3 hb4
        go_wp2
        go_roundw
        case rel => exact ⟨k + 1, by omega, by go_num, (by show World.ownsRow _ _ _ _ _ _ _; rw [← HT.out]; exact HU.out), HB'.out⟩
        case measure => simp [intOf]; omega
    · have hke : k = zs.length := by omega
      have hltI : ¬ (k : Int) < (zs.length : Int) := by omega
      have HF : Hid (Q.part (Q.disF zs) zs.length k = Q.disL zs zs.length) := by show _ = _; rw [hke]; exact Q.part_all _ _
      clear hke
      go_wp2
      go_ret2
      have h := ho.out
      rw [HF.out] at h
      refine ⟨_, rfl, ?_, HBw.out⟩
      simp only [Q.disL_len]
      exact h
theorem impDis_any (n : Int) (zs : List Int) (A : Option Addr) (c : Nat) (hl : zs.length ≤ 1048576) (w : World) (hcap : zs.length ≤ c) (hr : Law.Row w A (ivs zs)) :
    Calls Try.prog 31 #[.int .i64 n, .slice A zs.length c] w (rowSays (Q.disQ n zs) w) := by
  cases hg : Q.good n zs
  · rw [show Q.disQ n zs = ([], false) from Q.ifGood_no hg]
    have HQ := Lib.hid (impLast_any n zs A c hl w hr)
    rw [show Q.lastQ n zs = ([], false) from Q.ifGood_no hg] at HQ
    clear hr hg
    go_enter Try.func31, Try.ntmps31
    go_wp2_with fail
    go_at_call 50
    refine HQ.out.mono ?_
    rintro e w1 ⟨v1, rfl, ho1, hb1⟩
    have HB := Lib.hid hb1
    clear ho1 hb1
    go_wp2
    go_ret2
    exact ⟨_, rfl, own_down (ownsRow_nil _ _) HB.out.size, HB.out.alloc HB.out.size _⟩
  · rw [show Q.disQ n zs = _ from Q.ifGood_yes hg]
    obtain ⟨N, rfl, h1, h2, h3, hx⟩ := Q.good_nat hg
    exact impDis_good N A c zs w hg h1 h2 h3 hcap hx hr
theorem disX_len (n : Int) (zs : List Int) : (Q.disQ n zs).1.length ≤ 1048576 := by
  unfold Q.disQ Q.ifGood
  split
  · rename_i h
    have := (Q.good_iff.1 h).2.1
    rw [Q.disL_len]; omega
  · simp
end Go.Proofs.Ytdjafooabpcbmab
