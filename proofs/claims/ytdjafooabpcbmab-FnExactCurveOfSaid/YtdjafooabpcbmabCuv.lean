/-
  CurveOf: the code's and the model's.
-/
import Derived.Test.YtdjafooabpcbmabDisS
namespace Go.Proofs.Ytdjafooabpcbmab
open Go.RowKit
set_option linter.unusedVariables false
namespace Q
def cuvQ (n : Int) (zs : List Int) : List Int × Bool := ifGood n zs (cuvL (disL zs zs.length) 6)
end Q
set_option maxHeartbeats 3200000 in
theorem impCuv_good (N : Nat) (A : Option Addr) (c : Nat) (zs ds : List Int) (w : World) (hD : ∀ W, Law.Row W A (ivs zs) → Calls Try.prog 31 #[.int .i64 N, .slice A zs.length c] W (rowSays (ds, true) W))
    (h3 : ds.length ≤ 60) (hr : Law.Row w A (ivs zs)) :
    Calls Try.prog 35 #[.int .i64 N, .slice A zs.length c] w (rowSays (Q.cuvL ds 6, true) w) := by
  obtain ⟨i0, hi, hz0, hz1, hz2⟩ := info_parts infoInts
  have HD := Lib.hid (hD w hr)
  clear hr hD
  go_enter Try.func35, Try.ntmps35
  go_wp2_with fail
  go_at_call 31
  refine HD.out.mono ?_
  rintro e w1 ⟨v1, rfl, ho1, hb1⟩
  simp only [] at ho1
  obtain ⟨A1, c1, rfl, hc1, _, _⟩ := Law.own_len ho1
  have HR1 := Lib.hid (Law.Row.own ho1)
  have HB1 := Lib.hid hb1
  have sz1 := hb1.size
  clear ho1 hb1
  go_wp2_with (at_make; refine wpList_make_full _ rfl _ _ 22 rfl w.heap.size 3 i0 (.int .i64 0) 1 Try.underlying22 hi hz0 hz1 .i64 .i64 _ _ 6 rfl rfl rfl rfl ?cm2a ?cm2b ?cm2c ?_)
  case cm2a => rw [hz2]; omega
  case cm2b => unfold maxLen; omega
  case cm2c => first | exact Nat.le_refl _ | omega | (simp; omega)
  intro w2 hm2 hg2
  replace hm2 := made_own (w := w2) hm2
  have HB : Hid (Below w1.heap.size w1 w2) := Lib.hid ((Below.refl _ _).grown hg2 (Nat.le_refl _) (fun k e => by cases e))
  have HO := Lib.hid hm2
  clear hm2 hg2
  go_wp2_with fail
  go_loopw [24] (fun i wr => ∃ k : Nat, k ≤ ds.length ∧ i = .int .i64 k ∧ Hid (wr.ownsRow w.heap.size 3 1 (.slice (some ⟨w1.heap.size, 0, none⟩) 6 6) 6 (ivs (Q.cuvL (ds.take k) 6))) ∧ Hid (Below w1.heap.size w1 wr)) (fun i _ => ds.length - (intOf i).toNat)
  case atStart => exact ⟨0, Nat.zero_le _, rfl, by (show World.ownsRow _ _ _ _ _ _ _); rw [List.take_zero, Q.cuvL_nil]; exact HO.out, HB.out⟩
  case round =>
    obtain ⟨k, hk, rfl, ho, hb⟩ := hrel
    by_cases hlt : k < ds.length
    · obtain ⟨d, hd⟩ : ∃ d, ds[k]? = some d := ⟨_, List.getElem?_eq_getElem hlt⟩
      obtain ⟨b, off, rfl, hbl, hc⟩ := (HR1.out.stays hb.out).at_ (ivs_some hd)
      have hltI : (k : Int) < (ds.length : Int) := by omega
      have HT : Hid (ds.take (k + 1) = ds.take k ++ [d]) := Q.take_snoc hd
      have hcl : (ds.take k).length ≤ 60 := by rw [List.length_take]; omega
      obtain ⟨es, hes⟩ : ∃ es, es = ds.take k := ⟨_, rfl⟩
      rw [← hes] at ho HT hcl
      have HO0 : Hid (wr.ownsRow w.heap.size 3 1 (.slice (some ⟨w1.heap.size, 0, none⟩) 6 6) 6 (ivs (Q.cuvM es d 0))) := by rw [Q.cuvM_zero]; exact ho
      have HB0 := Lib.hid hb.out
      obtain ⟨wo, hwo⟩ : ∃ wo, wo = wr := ⟨_, rfl⟩
      rw [← hwo] at HO0 HB0 hc hbl
      rw [← hwo]
      clear hd ho hb hes hwo
      go_wp2_with fail
      go_loopw [30] (fun i wi => ∃ j : Nat, j ≤ 6 ∧ i = .int .i64 j ∧ Hid (wi.ownsRow w.heap.size 3 1 (.slice (some ⟨w1.heap.size, 0, none⟩) 6 6) 6 (ivs (Q.cuvM es d j))) ∧ Hid (Below w1.heap.size w1 wi)) (fun i _ => 6 - (intOf i).toNat)
      case atStart => exact ⟨0, Nat.zero_le _, rfl, HO0.out, HB0.out⟩
      case round =>
        obtain ⟨j, hj, rfl, ho, hb⟩ := hrel
        by_cases hj6 : j < 6
        · have hjI : (j : Int) < 6 := by omega
          have hq := Q.cuv_le es j
          by_cases hh : d = 0 ∨ (j : Int) + 1 < d
          · have hcO := own_cell ho.out (Q.cuvM_at es d hj6)
            have hfO := ho.out.frozenAt j
            have HT2 := Lib.hid (Q.cuvM_set es d hj6 hh)
            generalize Q.cuv es j = q at hcO HT2 hq
            have HS := Lib.hid (own_put ho.out j ((q : Int) + 1))
            have HB' := Lib.hid (hb.out.setCell (p := ⟨w1.heap.size, j, none⟩) (Nat.le_refl _) (.int .i64 ((q : Int) + 1)))
            clear ho hb
            have hh' : d = 0 ∨ (¬ d = 0 ∧ (j : Int) + 1 < d) := by omega
            clear hh
            rcases hh' with hd0 | ⟨hd0, hd1⟩
            · subst hd0
              go_wp2
              go_roundw
              case rel => exact ⟨j + 1, by omega, by go_num, (by show World.ownsRow _ _ _ _ _ _ _; rw [← HT2.out]; exact HS.out), HB'.out⟩
              case measure => simp [intOf]; omega
            · go_wp2
              go_roundw
              case rel => exact ⟨j + 1, by omega, by go_num, (by show World.ownsRow _ _ _ _ _ _ _; rw [← HT2.out]; exact HS.out), HB'.out⟩
              case measure => simp [intOf]; omega
          · have HE := Lib.hid (Q.cuvM_skip es d hh)
            have hd0 : ¬ d = 0 := by omega
            have hd1 : ¬ (j : Int) + 1 < d := by omega
            clear hh hq
            go_wp2
            go_roundw
            case rel => exact ⟨j + 1, by omega, by go_num, (by show World.ownsRow _ _ _ _ _ _ _; rw [HE.out]; exact ho.out), hb.out⟩
            case measure => simp [intOf]; omega
        · obtain rfl : j = 6 := by omega
          have HE : Hid (Q.cuvM es d 6 = Q.cuvL (ds.take (k + 1)) 6) := by show _ = _; rw [HT.out]; exact Q.cuvM_end _ _
          go_wp2
          go_roundw
          case rel => exact ⟨k + 1, by omega, by go_num, (by show World.ownsRow _ _ _ _ _ _ _; rw [← HE.out]; exact ho.out), hb.out⟩
          case measure => simp [intOf]; omega
    · have hke : k = ds.length := by omega
      have hltI : ¬ (k : Int) < (ds.length : Int) := by omega
      have HF : Hid (ds.take k = ds) := by show _ = _; rw [hke, List.take_length]
      have HBw : Hid (Below w.heap.size w wr) := Law.then_ HB1.out hb.out
      clear hke
      go_wp2
      go_ret2
      have h := ho.out
      rw [HF.out] at h
      refine ⟨_, rfl, ?_, HBw.out⟩
      simp only [Q.cuvL, List.length_map, List.length_range] at h ⊢
      exact h
theorem impCuv_any (n : Int) (zs : List Int) (A : Option Addr) (c : Nat) (hl : zs.length ≤ 1048576) (w : World) (hcap : zs.length ≤ c) (hr : Law.Row w A (ivs zs)) :
    Calls Try.prog 35 #[.int .i64 n, .slice A zs.length c] w (rowSays (Q.cuvQ n zs) w) := by
  cases hg : Q.good n zs
  · rw [show Q.cuvQ n zs = ([], false) from Q.ifGood_no hg]
    have HQ := Lib.hid (impDis_any n zs A c hl w hcap hr)
    rw [show Q.disQ n zs = ([], false) from Q.ifGood_no hg] at HQ
    clear hr hg
    go_enter Try.func35, Try.ntmps35
    go_wp2_with fail
    go_at_call 31
    refine HQ.out.mono ?_
    rintro e w1 ⟨v1, rfl, ho1, hb1⟩
    have HB := Lib.hid hb1
    clear ho1 hb1
    go_wp2
    go_ret2
    exact ⟨_, rfl, own_down (ownsRow_nil _ _) HB.out.size, HB.out.alloc HB.out.size _⟩
  · rw [show Q.cuvQ n zs = _ from Q.ifGood_yes hg]
    obtain ⟨N, rfl, h1, h2, h3, hx⟩ := Q.good_nat hg
    exact impCuv_good N A c zs (Q.disL zs zs.length) w (fun W h => by
      have h' := impDis_any N zs A c hl W hcap h
      rwa [show Q.disQ N zs = _ from Q.ifGood_yes hg] at h') (by rw [Q.disL_len]; exact h3) hr
end Go.Proofs.Ytdjafooabpcbmab
