/-
  CurveOf: the model's.
-/
import Derived.Test.YtdjafooabpcbmabCuv
namespace Go.Proofs.Ytdjafooabpcbmab
open Go.RowKit
set_option linter.unusedVariables false
set_option maxHeartbeats 3200000 in
theorem specCuv_good (N : Nat) (A : Option Addr) (c : Nat) (zs ds : List Int) (w : World) (hG : ∀ W, Law.Row W A (ivs zs) → Calls Try.prog 84 #[.int .i64 N, .slice A zs.length c] W fun e w' => e = .returned (.bool true) ∧ w' = W)
    (hD : ∀ W, Law.Row W A (ivs zs) → Calls Try.prog 87 #[.slice A zs.length c] W (rowSays1 ds W)) (h3 : ds.length ≤ 60) (hr : Law.Row w A (ivs zs)) :
    Calls Try.prog 34 #[.int .i64 N, .slice A zs.length c] w (rowSays (Q.cuvL ds 6, true) w) := by
  obtain ⟨i0, hi, hz0, hz1, hz2⟩ := info_parts infoInts
  have HR := Lib.hid hr
  have HG := Lib.hid hG
  have HD := Lib.hid hD
  clear hr hD hG
  go_enter Try.func34, Try.ntmps34
  go_wp2_with fail
  go_at_call 84
  refine (HG.out _ (HR.out.stays ((Below.refl _ _).alloc (Nat.le_refl _) _))).mono ?_
  rintro e w' ⟨rfl, hw'⟩
  obtain rfl := hw'.symm
  clear hw'
  go_wp2_with fail
  go_at_call 87
  refine (HD.out _ (HR.out.stays ((Below.refl _ _).alloc (Nat.le_refl _) _))).mono ?_
  rintro e w1 ⟨v1, rfl, ho1, hb1⟩
  obtain ⟨A1, c1, rfl, hc1, _, _⟩ := Law.own_len ho1
  have HR1 := Lib.hid (Law.Row.own ho1)
  have HO := Lib.hid (own_past (ownsRow_nil w 3) hb1)
  have HB1 : Hid (Below w.heap.size w w1) := Lib.hid (((Below.refl w.heap.size w).alloc (Nat.le_refl _) (.cells #[] 3)).trans (hb1.mono (by simp)))
  have sz1 : w.heap.size + 1 ≤ w1.heap.size := by have := hb1.size; simpa using this
  have I1 : Hid (∀ a, A1 = some a → w.heap.size + 1 ≤ a.block ∧ a.block < w1.heap.size) := Lib.hid fun a ha => by
    have h := ho1.lt a.block (by rw [ha]; rfl)
    simpa using h
  clear ho1 hb1 HD HG
  go_wp2_with fail
  go_loopw [6, 8] (fun v i wr => ∃ k : Nat, k ≤ 6 ∧ i = .int .i64 ((k : Int) + 1) ∧ Hid (wr.ownsRow w.heap.size 3 1 v k (ivs (Q.cuvL ds k))) ∧ Hid (AtOr w.heap.size w1.heap.size v) ∧ Hid (Law.Row wr A1 (ivs ds)) ∧ Hid (w1.heap.size ≤ wr.heap.size) ∧ Hid (Below w.heap.size w wr)) (fun _ i _ => 7 - (intOf i).toNat)
  case atStart => exact ⟨0, Nat.zero_le _, rfl, HO.out, Lib.hid (fun g hg => by injection hg with hg; exact .inl hg.symm), HR1.out, Nat.le_refl _, HB1.out⟩
  case round =>
    obtain ⟨k, hk, rfl, ho, hat, hrow, hsz, hb⟩ := hrel
    have hsz' := hsz.out
    by_cases hk6 : k < 6
    · have hkI : (k : Int) + 1 ≤ 6 := by omega
      obtain ⟨wo, hwo⟩ : ∃ wo, wo = wr := ⟨_, rfl⟩
      rw [← hwo] at ho hrow hsz hb hsz'
      rw [← hwo]
      clear hwo
      go_wp2_with fail
      go_loop [9, 10] (fun q i => ∃ j : Nat, j ≤ ds.length ∧ i = .int .i64 j ∧ q = .int .i64 (Q.cuv (ds.take j) k : Nat)) (fun _ i => ds.length - (intOf i).toNat)
      case atStart => exact ⟨0, Nat.zero_le _, rfl, rfl⟩
      case round =>
        obtain ⟨j, hj, rfl, rfl⟩ := hrel
        have hq := Q.cuv_le (ds.take j) k
        rw [List.length_take] at hq
        by_cases hlt : j < ds.length
        · obtain ⟨d, hd⟩ : ∃ d, ds[j]? = some d := ⟨_, List.getElem?_eq_getElem hlt⟩
          obtain ⟨b, off, rfl, hbl, hc⟩ := hrow.out.at_ (ivs_some hd)
          have hltI : (j : Int) < (ds.length : Int) := by omega
          have HT : Hid (Q.cuv (ds.take (j + 1)) k = Q.cuv (ds.take j) k + if d = 0 ∨ (k : Int) + 1 < d then 1 else 0) := by show _ = _; rw [Q.take_snoc hd]; exact Q.cuv_snoc _ _ _
          clear hd
          generalize Q.cuv (ds.take j) k = q at *
          by_cases hd0 : d = 0
          · rw [if_pos (.inl hd0)] at HT
            subst hd0
            go_wp2
            go_round
            case rel => exact ⟨j + 1, by omega, by go_num, by rw [HT.out]; go_num⟩
            case measure => simp [intOf]; omega
          · by_cases hd1 : (k : Int) + 1 < d
            · rw [if_pos (.inr hd1)] at HT
              go_wp2
              go_round
              case rel => exact ⟨j + 1, by omega, by go_num, by rw [HT.out]; go_num⟩
              case measure => simp [intOf]; omega
            · rw [if_neg (by omega)] at HT
              go_wp2
              go_round
              case rel => exact ⟨j + 1, by omega, by go_num, by rw [HT.out]; rfl⟩
              case measure => simp [intOf]; omega
        · have hje : j = ds.length := by omega
          have hltI : ¬ (j : Int) < (ds.length : Int) := by omega
          have HE : Hid (Q.cuvL ds (k + 1) = Q.cuvL ds k ++ [((Q.cuv (ds.take j) k : Nat) : Int)]) := by show _ = _; rw [Q.cuvL_succ, hje, List.take_length]
          generalize Q.cuv (ds.take j) k = q at *
          clear hje
          have hsz9 := (hb.out).size
          go_wp2_with (at_builtin; refine list_app1 rfl _ _ 22 rfl Try.underlying22 hi hz0 hz1 hz2 rfl ((ho.out).alloc _) rfl (new_cell (wo) (.int .i64 ((q : Int))) 3) ?ca9a ?ca9b ?_)
          case ca9a => omega
          case ca9b => (show w.heap.size ≤ _; first | omega | (simp; omega))
          intro v9 w9 hm9 hg9 ha9
          have HB9 := Lib.hid (((hb.out).alloc hsz9 (.cells #[.int .i64 ((q : Int))] 3)).grown hg9 (by simp; omega) (fun j e => Nat.le_trans (by omega) ((ho.out).lt j e).1))
          rw [← ivs_snoc, ← HE.out] at hm9
          have HO9 := Lib.hid hm9
          have HA9 := Lib.hid (hat.out.next ha9 (by simp; omega))
          have HR9 := Lib.hid ((hrow.out.stays ((Below.refl _ _).alloc (Nat.le_refl _) _)).apart I1.out hg9 hat.out (by omega))
          have HS9 : Hid (w1.heap.size ≤ w9.heap.size) := by have := hg9.size; simp at this; exact Lib.hid (show _ ≤ _ by omega)
          clear hm9 hg9 ha9 ho hb hat hrow
          go_wp2
          go_roundw
          case rel => exact ⟨k + 1, by omega, by go_num, HO9.out, HA9.out, HR9.out, HS9.out, HB9.out⟩
          case measure => simp [intOf]; omega
    · obtain rfl : k = 6 := by omega
      go_wp2
      go_ret2
      refine ⟨_, rfl, ?_, hb.out⟩
      have h := ho.out
      simp only [Q.cuvL, List.length_map, List.length_range] at h ⊢
      exact h
theorem specCuv_any (n : Int) (zs : List Int) (A : Option Addr) (c : Nat) (hl : zs.length ≤ 1048576) (w : World) (hcap : zs.length ≤ c) (hr : Law.Row w A (ivs zs)) :
    Calls Try.prog 34 #[.int .i64 n, .slice A zs.length c] w (rowSays (Q.cuvQ n zs) w) := by
  cases hg : Q.good n zs
  · rw [show Q.cuvQ n zs = ([], false) from Q.ifGood_no hg]
    have HQ := Lib.hid fun W (h : Law.Row W A (ivs zs)) => l3Good_any n A c zs W hl h
    rw [hg] at HQ
    have HR := Lib.hid hr
    clear hr hg
    go_enter Try.func34, Try.ntmps34
    go_wp2_with fail
    go_at_call 84
    refine (HQ.out _ (HR.out.stays ((Below.refl _ _).alloc (Nat.le_refl _) _))).mono ?_
    rintro e w' ⟨rfl, hw'⟩
    obtain rfl := hw'.symm
    clear hw'
    go_wp2
    go_ret2
    exact ⟨_, rfl, ownsRow_nil _ _, (Below.refl _ _).alloc (Nat.le_refl _) _⟩
  · rw [show Q.cuvQ n zs = _ from Q.ifGood_yes hg]
    obtain ⟨N, rfl, h1, h2, h3, hx⟩ := Q.good_nat hg
    exact specCuv_good N A c zs (Q.disL zs zs.length) w (fun W h => by
      have h' := l3Good_any N A c zs W hl h
      rwa [hg] at h') (fun W h => l4Dis_any A c zs W h3 hcap h) (by rw [Q.disL_len]; exact h3) hr
namespace LCurveOf
theorem lenX (n : Int) (zs : List Int) : (Q.cuvQ n zs).1.length ≤ 1048576 := by
  unfold Q.cuvQ Q.ifGood
  split
  · simp [Q.cuvL]
  · simp
end LCurveOf
end Go.Proofs.Ytdjafooabpcbmab
