/-
  The model's StackDistances.
-/
import Derived.Test.YtdjafooabpcbmabDisI
import Derived.Test.YtdjafooabpcbmabUseS
import Derived.Test.YtdjafooabpcbmabPutS
import Derived.Test.YtdjafooabpcbmabAppB
namespace Go.Proofs.Ytdjafooabpcbmab
open Go.RowKit
set_option linter.unusedVariables false
set_option maxRecDepth 100000 in
set_option maxHeartbeats 3200000 in
theorem l4Dis_any (A : Option Addr) (c : Nat) (zs : List Int) (w : World) (h3 : zs.length ≤ 60) (hcap : zs.length ≤ c) (hr : Law.Row w A (ivs zs)) :
    Calls Try.prog 87 #[.slice A zs.length c] w (rowSays1 (Q.disL zs zs.length) w) := by
  obtain ⟨i0, hi, hz0, hz1, hz2⟩ := info_parts infoInts
  have HL := Lib.hid fun (W : World) (h : Law.Row W A (ivs zs)) => l3Last_any A c zs W h3 h
  have HR := Lib.hid hr
  have HC := Lib.hid hcap
  clear hr hcap
  go_enter Try.func87, Try.ntmps87
  go_wp2_with fail
  go_at_call 100
  refine (HL.out _ (HR.out.stays ((Below.refl _ _).alloc (Nat.le_refl _) _))).mono ?_
  rintro e w1 ⟨v1, rfl, ho1, hb1⟩
  rw [Q.lastL_len] at ho1
  obtain ⟨A1, c1, rfl, hc1, _, _⟩ := Law.own_len ho1
  have HR1 := Lib.hid (Law.Row.own ho1)
  have HO := Lib.hid (own_past (ownsRow_nil w 3) hb1)
  have HB1 : Hid (Below w.heap.size w w1) := Lib.hid (((Below.refl w.heap.size w).alloc (Nat.le_refl _) (.cells #[] 3)).trans (hb1.mono (by simp)))
  have sz1 : w.heap.size + 1 ≤ w1.heap.size := by have := hb1.size; simpa using this
  have I1 : Hid (∀ a, A1 = some a → w.heap.size + 1 ≤ a.block ∧ a.block < w1.heap.size) := Lib.hid fun a ha => by
    have h := ho1.lt a.block (by rw [ha]; rfl)
    simpa using h
  clear ho1 hb1 HL
  go_wp2_with fail
  go_loopw [3, 5] (fun v i wr => ∃ k : Nat, k ≤ zs.length ∧ i = .int .i64 k ∧ Hid (wr.ownsRow w.heap.size 3 1 v k (ivs (Q.disL zs k))) ∧ Hid (AtOr w.heap.size w1.heap.size v) ∧ Hid (Law.Row wr A1 (ivs (Q.lastL zs zs.length))) ∧ Hid (w1.heap.size ≤ wr.heap.size) ∧ Hid (Below w.heap.size w wr)) (fun _ i _ => zs.length - (intOf i).toNat)
  case atStart => exact ⟨0, Nat.zero_le _, rfl, HO.out, Lib.hid (fun g hg => by injection hg with hg; exact .inl hg.symm), HR1.out, Nat.le_refl _, HB1.out⟩
  case round =>
    obtain ⟨k, hk, rfl, ho, hat, hrow, hsz, hb⟩ := hrel
    by_cases hlt : k < zs.length
    · obtain ⟨b, off, rfl, hbl, hc⟩ := (HR.out.stays hb.out).at_ (ivs_at hlt)
      obtain ⟨b1, off1, rfl, hbl1, hc1⟩ := hrow.out.at_ (ivs_some (Q.lastL_at zs hlt))
      have hltI : (k : Int) < (zs.length : Int) := by omega
      have hlo := Q.lastOf_lt zs k
      have hsz' := hsz.out
      by_cases hneg : Q.lastOf zs k < 0
      · have HE : Hid (Q.disL zs (k + 1) = Q.disL zs k ++ [0]) := by show _ = _; rw [Q.disL_succ, show Q.disF zs k = 0 from if_pos hneg]
        clear hc hlo
        generalize Q.lastOf zs k = L at *
        have hsz9 := (hb.out).size
        go_wp2_with (at_builtin; refine list_app1 rfl _ _ 22 rfl Try.underlying22 hi hz0 hz1 hz2 rfl ((ho.out).alloc _) rfl (new_cell (wr) (.int .i64 (0)) 3) ?ca9a ?ca9b ?_)
        case ca9a => omega
        case ca9b => (show w.heap.size ≤ _; simp; omega)
        intro v9 w9 hm9 hg9 ha9
        have HB9 := Lib.hid (((hb.out).alloc hsz9 (.cells #[.int .i64 (0)] 3)).grown hg9 (by simp; omega) (fun j e => Nat.le_trans (by omega) ((ho.out).lt j e).1))
        rw [← ivs_snoc, ← HE.out] at hm9
        have HO9 := Lib.hid hm9
        have HA9 := Lib.hid (hat.out.next ha9 (by simp; omega))
        have HR9 := Lib.hid ((hrow.out.stays ((Below.refl _ _).alloc (Nat.le_refl _) _)).apart I1.out hg9 hat.out (by omega))
        have HS9 : Hid (w1.heap.size ≤ w9.heap.size) := by have := hg9.size; simp at this; exact Lib.hid (show _ ≤ _ by omega)
        clear hm9 hg9 ha9 ho hb hat hrow
        go_wp2
        go_roundw
        case rel => exact ⟨k + 1, by omega, by go_num, HO9.out, HA9.out, HR9.out, HS9.out, HB9.out⟩
        case measure => simp [intOf]; omega
      · obtain ⟨l, hL⟩ := Int.eq_ofNat_of_zero_le (show 0 ≤ Q.lastOf zs k by omega)
        have hlk : l < k := by omega
        have HE : Hid (Q.disL zs (k + 1) = Q.disL zs k ++ [((Q.dif (Q.win zs l k) : Nat) : Int)]) := by show _ = _; rw [Q.disL_succ, show Q.disF zs k = ((Q.dif (Q.win zs l k) : Nat) : Int) by unfold Q.disF; rw [if_neg hneg, hL]; rfl]
        have hcI : (zs.length : Int) ≤ (c : Int) := by have := HC.out; omega
        have hkcI : (k : Int) ≤ (c : Int) := by omega
        have hlkI : (l : Int) ≤ (k : Int) := by omega
        have hl0 : ¬ ((l : Int) < 0) := by omega
        have HW := Lib.hid (row_win (HR.out.stays hb.out) l k hlk (by omega))
        have HD1 := Lib.hid (l3Dif_any (some ⟨b, off + l, none⟩) (c - l) (Q.win zs l k) wr (by rw [Q.win_len _ _ _ (by omega)]; omega) HW.out)
        rw [Q.win_len _ _ _ (by omega)] at HD1
        have HLe : Hid (((Q.diffs (Q.win zs l k)).length : Int) = ((Q.dif (Q.win zs l k) : Nat) : Int)) := by show _ = _; rw [(Q.diffs_ok _).2.2]
        have hds : (Q.diffs (Q.win zs l k)).length ≤ 60 := by rw [(Q.diffs_ok _).2.2]; exact Nat.le_trans (Q.dif_le _) (by rw [Q.win_len _ _ _ (by omega)]; omega)
        rw [hL] at hc1
        generalize Q.diffs (Q.win zs l k) = ds at *
        have hcl : ¬ (c = l) := by omega
        clear hc hL hlo hneg HW
        go_wp2_with fail
        go_at_call 109
        refine HD1.out.mono ?_
        rintro e w2 ⟨B2, d2, rfl, h1, h2, hr2, hb2⟩
        have HO2 := Lib.hid (own_past ho.out hb2)
        have HB2 : Hid (Below w.heap.size w w2) := Lib.hid (Law.then_ hb.out hb2)
        have HR2 := Lib.hid (hrow.out.stays hb2)
        have hsz2 : w1.heap.size ≤ w2.heap.size := Nat.le_trans hsz' hb2.size
        clear ho hb hb2 hr2 h1 h2 hrow
        have hsz9 := (HB2.out).size
        go_wp2_with (at_builtin; refine list_app1 rfl _ _ 22 rfl Try.underlying22 hi hz0 hz1 hz2 rfl ((HO2.out).alloc _) rfl (new_cell (w2) (.int .i64 ((ds.length : Int))) 3) ?ca9a ?ca9b ?_)
        case ca9a => omega
        case ca9b => (show w.heap.size ≤ _; simp; omega)
        intro v9 w9 hm9 hg9 ha9
        have HB9 := Lib.hid (((HB2.out).alloc hsz9 (.cells #[.int .i64 ((ds.length : Int))] 3)).grown hg9 (by simp; omega) (fun j e => Nat.le_trans (by omega) ((HO2.out).lt j e).1))
        rw [HLe.out, ← ivs_snoc, ← HE.out] at hm9
        have HO9 := Lib.hid hm9
        have HA9 := Lib.hid (hat.out.next ha9 (by simp; omega))
        have HR9 := Lib.hid ((HR2.out.stays ((Below.refl _ _).alloc (Nat.le_refl _) _)).apart I1.out hg9 hat.out (by omega))
        have HS9 : Hid (w1.heap.size ≤ w9.heap.size) := by have := hg9.size; simp at this; exact Lib.hid (show _ ≤ _ by omega)
        clear hm9 hg9 ha9 HO2 HB2 HR2 hat
        go_wp2
        go_roundw
        case rel => exact ⟨k + 1, by omega, by go_num, HO9.out, HA9.out, HR9.out, HS9.out, HB9.out⟩
        case measure => simp [intOf]; omega
    · have hke : k = zs.length := by omega
      have hltI : ¬ (k : Int) < (zs.length : Int) := by omega
      have HK := Lib.hid hke
      clear hke
      go_wp2
      go_ret
      have h := ho.out
      rw [HK.out] at h
      refine ⟨_, rfl, ?_, hb.out⟩
      rw [Q.disL_len]
      exact h
theorem specDis_any (n : Int) (zs : List Int) (A : Option Addr) (c : Nat) (hl : zs.length ≤ 1048576) (w : World) (hcap : zs.length ≤ c) (hr : Law.Row w A (ivs zs)) :
    Calls Try.prog 30 #[.int .i64 n, .slice A zs.length c] w (rowSays (Q.disQ n zs) w) := by
  have HQ := Lib.hid (l3Good_any n A c zs w hl hr)
  cases hg : Q.good n zs
  · rw [show Q.disQ n zs = ([], false) from Q.ifGood_no hg]
    rw [hg] at HQ
    clear hr hg
    go_enter Try.func30, Try.ntmps30
    go_wp2_with fail
    go_at_call 84
    refine (HQ.out).mono ?_
    rintro e w' ⟨rfl, hw'⟩
    obtain rfl := hw'.symm
    clear hw'
    go_wp2
    go_ret2
    exact ⟨_, rfl, ownsRow_nil _ _, (Below.refl _ _).alloc (Nat.le_refl _) _⟩
  · rw [show Q.disQ n zs = _ from Q.ifGood_yes hg]
    rw [hg] at HQ
    obtain ⟨N, rfl, h1, h2, h3, hx⟩ := Q.good_nat hg
    have HC := Lib.hid (l4Dis_any A c zs w h3 hcap hr)
    generalize Q.disL zs zs.length = X at HC ⊢
    clear hr hg hx
    go_enter Try.func30, Try.ntmps30
    go_wp2_with fail
    go_at_call 84
    refine (HQ.out).mono ?_
    rintro e w' ⟨rfl, hw'⟩
    obtain rfl := hw'.symm
    clear hw'
    go_wp2_with fail
    go_at_call 87
    refine HC.out.mono ?_
    rintro e w' ⟨v, rfl, ho, hb⟩
    go_wp2
    go_ret2
    exact ⟨_, rfl, ho, hb⟩
namespace LStackDistances
theorem lenX (n : Int) (zs : List Int) : (Q.disQ n zs).1.length ≤ 1048576 := disX_len n zs
end LStackDistances
end Go.Proofs.Ytdjafooabpcbmab
