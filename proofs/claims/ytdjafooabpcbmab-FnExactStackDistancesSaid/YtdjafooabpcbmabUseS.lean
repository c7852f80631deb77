/-
  LastUses and NextUses: the model's.
-/
import Derived.Test.YtdjafooabpcbmabOwn
import Derived.Test.YtdjafooabpcbmabGood
import Derived.Test.YtdjafooabpcbmabPart
namespace Go.Proofs.Ytdjafooabpcbmab
open Go.RowKit
set_option linter.unusedVariables false
namespace Q
def lastR (n : Int) (zs : List Int) : List Int × Bool := ifGood n zs (lastL zs zs.length)
def nextR (n : Int) (zs : List Int) : List Int × Bool := ifGood n zs (nextL zs zs.length)
theorem dn_hit {zs : List Int} {x : Int} {j : Nat} (h : zs[j]? = some x) : dn zs x (j + 1) = (j : Int) := by unfold dn; rw [if_pos h]
theorem dn_miss {zs : List Int} {x : Int} {j : Nat} (h : zs[j]? ≠ some x) : dn zs x (j + 1) = dn zs x j := by rw [dn, if_neg h]
theorem up_hit {zs : List Int} {x : Int} {j : Nat} (h : zs[j]? = some x) : up x (zs.drop j) j = (j : Int) := by rw [drop_at h]; unfold up; rw [if_pos rfl]
theorem up_miss {zs : List Int} {x y : Int} {j : Nat} (h : zs[j]? = some y) (hne : ¬ y = x) : up x (zs.drop j) j = up x (zs.drop (j + 1)) (j + 1) := by rw [drop_at h, up, if_neg hne]
theorem up_end {zs : List Int} {x : Int} {j : Nat} (h : zs.length ≤ j) : up x (zs.drop j) j = -1 := by rw [List.drop_of_length_le h]; rfl
theorem lastL_len (zs : List Int) (k : Nat) : (lastL zs k).length = k := by simp [lastL]
theorem nextL_len (zs : List Int) (k : Nat) : (nextL zs k).length = k := by simp [nextL]
end Q
set_option maxHeartbeats 3200000 in
theorem l3Last_any (A : Option Addr) (c : Nat) (zs : List Int) (w : World) (h3 : zs.length ≤ 60) (hr : Law.Row w A (ivs zs)) :
    Calls Try.prog 100 #[.slice A zs.length c] w (rowSays1 (Q.lastL zs zs.length) w) := by
  obtain ⟨i0, hi, hz0, hz1, hz2⟩ := info_parts infoInts
  have HR := Lib.hid hr
  clear hr
  go_enter Try.func100, Try.ntmps100
  go_wp2_with fail
  go_loopw [3, 4] (fun v i wr => ∃ k : Nat, k ≤ zs.length ∧ i = .int .i64 k ∧ Hid (wr.ownsRow w.heap.size 3 1 v k (ivs (Q.lastL zs k))) ∧ Hid (Below w.heap.size w wr)) (fun _ i _ => zs.length - (intOf i).toNat)
  case atStart => exact ⟨0, Nat.zero_le _, rfl, ownsRow_nil _ _, (Below.refl _ _).alloc (Nat.le_refl _) _⟩
  case round =>
    obtain ⟨i, hk, rfl, ho, hb⟩ := hrel
    by_cases hlt : i < zs.length
    · have hltI : (i : Int) < (zs.length : Int) := by omega
      obtain ⟨x, hx⟩ : ∃ x, zs[i]? = some x := ⟨_, List.getElem?_eq_getElem hlt⟩
      have HX := Lib.hid hx
      have HE0 : Hid (Q.lastOf zs i = Q.dn zs x i) := by show _ = _; unfold Q.lastOf; rw [List.getD_eq_getElem?_getD, hx]; rfl
      clear hx
      obtain ⟨wo, hwo⟩ : ∃ wo, wo = wr := ⟨_, rfl⟩
      rw [← hwo] at ho hb
      rw [← hwo]
      clear hwo
      go_wp2_with fail
      go_loopw [5] (fun k wi => ∃ j m : Nat, j ≤ i ∧ k = .int .i64 ((j : Int) - 1) ∧ wi = wo.drewN m ∧ Hid (Q.lastOf zs i = Q.dn zs x j)) (fun k _ => (intOf k + 1).toNat)
      case atStart => exact ⟨i, 0, Nat.le_refl _, rfl, rfl, HE0.out⟩
      case round =>
        obtain ⟨j, m, hj, rfl, rfl, HE⟩ := hrel
        by_cases hj0 : j = 0
        · subst hj0
          replace HE : Hid (Q.lastOf zs i = -1) := HE.out
          have hkk : (((0 : Nat) : Int) - 1) = -1 := rfl
          rw [hkk]
          clear hkk
          obtain ⟨b, off, rfl, hbl, hc⟩ := (HR.out.stays hb.out).at_ (ivs_some HX.out)
          go_wp2_with fail
          go_quiet (fail)
          have hsz9 : w.heap.size ≤ (wo).heap.size := (hb.out).size
          have HM9 := Lib.hid fun (M : Nat) => And.intro (show World.ownsRow ((wo).drewN M) _ _ _ _ _ _ from ho.out) (Law.up (hb.out) M)
          go_wp2_with (at_builtin; refine wpList_append_own _ rfl _ _ 22 rfl w.heap.size 3 i0 (.int .i64 0) 1 8 Try.underlying22 hi hz0 hz1 hz2 rfl (by decide) _ _ _ rfl ((HM9.out _).1.alloc _) ⟨(wo).heap.size, 0, none⟩ 1 1 [.int .i64 (-1)] rfl rfl ?ca9a ?ca9b ?ca9c ?ca9d ?ca9e ?_)
          case ca9a =>
            intro j' u hj'
            match j', hj' with
            | 0, hj' => simp at hj'; subst hj'; simp [Addr.add]; exact new_cell (World.drewN (wo) _) _ _
          case ca9b => intro u hu; simp at hu; subst hu; rfl
          case ca9c => unfold maxLen; omega
          case ca9d => omega
          case ca9e => simp; omega
          intro v9 w9 hm9 hg9 _
          have HB9 := Lib.hid (((HM9.out _).2.alloc hsz9 (.cells #[.int .i64 (-1)] 3)).grown hg9 (by simp; omega) (fun j e => ((ho.out).lt j e).1))
          clear hg9 HM9
          replace hm9 : w9.ownsRow w.heap.size 3 1 v9 (i + 1) (ivs (Q.lastL zs (i + 1))) := by
            have e : Q.lastL zs (i + 1) = Q.lastL zs i ++ [-1] := by rw [← HE.out]; exact Q.map_succ _ _
            rw [e, ivs_snoc]; exact hm9
          have HO9 := Lib.hid hm9
          clear hm9 ho hb HE
          go_wp2
          go_roundw
          case rel => exact ⟨i + 1, by omega, by go_num, HO9.out, HB9.out⟩
          case measure => simp [intOf]; omega
        · obtain ⟨j', rfl⟩ : ∃ j', j = j' + 1 := ⟨j - 1, by omega⟩
          have hkk : (((j' + 1 : Nat) : Int) - 1) = (j' : Int) := by omega
          rw [hkk]
          clear hkk hj0
          obtain ⟨b, off, rfl, hbl, hc⟩ := (HR.out.stays hb.out).at_ (ivs_some HX.out)
          obtain ⟨y, hy⟩ : ∃ y, zs[j']? = some y := ⟨_, List.getElem?_eq_getElem (by omega)⟩
          obtain ⟨b', off', hbb, hbl', hc'⟩ := (HR.out.stays hb.out).at_ (ivs_some hy)
          injection hbb with hbb
          injection hbb with hb1 hb2 _
          subst hb1 hb2
          have hjI : (j' : Int) < (zs.length : Int) := by omega
          by_cases hyx : y = x
          · subst hyx
            replace HE : Hid (Q.lastOf zs i = (j' : Int)) := by show _ = _; rw [HE.out]; exact Q.dn_hit hy
            clear hy
            go_wp2_with fail
            go_quiet (fail)
            have hsz9 : w.heap.size ≤ (wo).heap.size := (hb.out).size
            have HM9 := Lib.hid fun (M : Nat) => And.intro (show World.ownsRow ((wo).drewN M) _ _ _ _ _ _ from ho.out) (Law.up (hb.out) M)
            go_wp2_with (at_builtin; refine wpList_append_own _ rfl _ _ 22 rfl w.heap.size 3 i0 (.int .i64 0) 1 8 Try.underlying22 hi hz0 hz1 hz2 rfl (by decide) _ _ _ rfl ((HM9.out _).1.alloc _) ⟨(wo).heap.size, 0, none⟩ 1 1 [.int .i64 ((j' : Int))] rfl rfl ?ca9a ?ca9b ?ca9c ?ca9d ?ca9e ?_)
            case ca9a =>
              intro j' u hj'
              match j', hj' with
              | 0, hj' => simp at hj'; subst hj'; simp [Addr.add]; exact new_cell (World.drewN (wo) _) _ _
            case ca9b => intro u hu; simp at hu; subst hu; rfl
            case ca9c => unfold maxLen; omega
            case ca9d => omega
            case ca9e => simp; omega
            intro v9 w9 hm9 hg9 _
            have HB9 := Lib.hid (((HM9.out _).2.alloc hsz9 (.cells #[.int .i64 ((j' : Int))] 3)).grown hg9 (by simp; omega) (fun j e => ((ho.out).lt j e).1))
            clear hg9 HM9
            replace hm9 : w9.ownsRow w.heap.size 3 1 v9 (i + 1) (ivs (Q.lastL zs (i + 1))) := by
              have e : Q.lastL zs (i + 1) = Q.lastL zs i ++ [(j' : Int)] := by rw [← HE.out]; exact Q.map_succ _ _
              rw [e, ivs_snoc]; exact hm9
            have HO9 := Lib.hid hm9
            clear hm9 ho hb HE
            go_wp2
            go_roundw
            case rel => exact ⟨i + 1, by omega, by go_num, HO9.out, HB9.out⟩
            case measure => simp [intOf]; omega
          · have HE' : Hid (Q.lastOf zs i = Q.dn zs x j') := by show _ = _; rw [HE.out]; exact Q.dn_miss (by rw [hy]; simpa using hyx)
            have hyb : (y == x) = false := by simpa using hyx
            have hyc : (y != x) = true := by simpa using hyx
            clear hy HE
            go_wp2_with fail
            go_quiet (fail)
            go_wp2
            go_roundw
            case rel => exact ⟨j', _, by omega, by go_num, rfl, HE'.out⟩
            case measure => simp [intOf]
    · have hke : i = zs.length := by omega
      have hltI : ¬ (i : Int) < (zs.length : Int) := by omega
      have HK := Lib.hid hke
      clear hke
      go_wp2
      go_ret
      have h := ho.out
      rw [HK.out] at h
      refine ⟨_, rfl, ?_, hb.out⟩
      rw [Q.lastL_len]
      exact h
set_option maxHeartbeats 3200000 in
theorem l3Later_any (A : Option Addr) (c : Nat) (zs : List Int) (w : World) (h3 : zs.length ≤ 60) (hr : Law.Row w A (ivs zs)) :
    Calls Try.prog 101 #[.slice A zs.length c] w (rowSays1 (Q.nextL zs zs.length) w) := by
  obtain ⟨i0, hi, hz0, hz1, hz2⟩ := info_parts infoInts
  have HR := Lib.hid hr
  clear hr
  go_enter Try.func101, Try.ntmps101
  go_wp2_with fail
  go_loopw [3, 4] (fun v i wr => ∃ k : Nat, k ≤ zs.length ∧ i = .int .i64 k ∧ Hid (wr.ownsRow w.heap.size 3 1 v k (ivs (Q.nextL zs k))) ∧ Hid (Below w.heap.size w wr)) (fun _ i _ => zs.length - (intOf i).toNat)
  case atStart => exact ⟨0, Nat.zero_le _, rfl, ownsRow_nil _ _, (Below.refl _ _).alloc (Nat.le_refl _) _⟩
  case round =>
    obtain ⟨i, hk, rfl, ho, hb⟩ := hrel
    by_cases hlt : i < zs.length
    · have hltI : (i : Int) < (zs.length : Int) := by omega
      obtain ⟨x, hx⟩ : ∃ x, zs[i]? = some x := ⟨_, List.getElem?_eq_getElem hlt⟩
      have HX := Lib.hid hx
      have HE0 : Hid (Q.nextOf zs i = Q.up x (zs.drop (i + 1)) (i + 1)) := by show _ = _; unfold Q.nextOf; rw [List.getD_eq_getElem?_getD, hx]; rfl
      clear hx
      obtain ⟨wo, hwo⟩ : ∃ wo, wo = wr := ⟨_, rfl⟩
      rw [← hwo] at ho hb
      rw [← hwo]
      clear hwo
      go_wp2_with fail
      go_loopw [5] (fun k wi => ∃ j m : Nat, (i + 1 ≤ j ∧ j ≤ zs.length) ∧ k = .int .i64 ((j : Int)) ∧ wi = wo.drewN m ∧ Hid (Q.nextOf zs i = Q.up x (zs.drop j) j)) (fun k _ => zs.length - (intOf k).toNat)
      case atStart => exact ⟨i + 1, 0, ⟨Nat.le_refl _, by omega⟩, by go_num, rfl, HE0.out⟩
      case round =>
        obtain ⟨j, m, hj, rfl, rfl, HE⟩ := hrel
        by_cases hjl : j < zs.length
        · 
          obtain ⟨b, off, rfl, hbl, hc⟩ := (HR.out.stays hb.out).at_ (ivs_some HX.out)
          obtain ⟨y, hy⟩ : ∃ y, zs[j]? = some y := ⟨_, List.getElem?_eq_getElem (by omega)⟩
          obtain ⟨b', off', hbb, hbl', hc'⟩ := (HR.out.stays hb.out).at_ (ivs_some hy)
          injection hbb with hbb
          injection hbb with hb1 hb2 _
          subst hb1 hb2
          have hjI : (j : Int) < (zs.length : Int) := by omega
          have hjE : ((j : Int) == (zs.length : Int)) = false := by simp; omega
          by_cases hyx : y = x
          · subst hyx
            replace HE : Hid (Q.nextOf zs i = (j : Int)) := by show _ = _; rw [HE.out]; exact Q.up_hit hy
            clear hy
            go_wp2_with fail
            go_quiet (fail)
            have hsz9 : w.heap.size ≤ (wo).heap.size := (hb.out).size
            have HM9 := Lib.hid fun (M : Nat) => And.intro (show World.ownsRow ((wo).drewN M) _ _ _ _ _ _ from ho.out) (Law.up (hb.out) M)
            go_wp2_with (at_builtin; refine wpList_append_own _ rfl _ _ 22 rfl w.heap.size 3 i0 (.int .i64 0) 1 8 Try.underlying22 hi hz0 hz1 hz2 rfl (by decide) _ _ _ rfl ((HM9.out _).1.alloc _) ⟨(wo).heap.size, 0, none⟩ 1 1 [.int .i64 ((j : Int))] rfl rfl ?ca9a ?ca9b ?ca9c ?ca9d ?ca9e ?_)
            case ca9a =>
              intro j' u hj'
              match j', hj' with
              | 0, hj' => simp at hj'; subst hj'; simp [Addr.add]; exact new_cell (World.drewN (wo) _) _ _
            case ca9b => intro u hu; simp at hu; subst hu; rfl
            case ca9c => unfold maxLen; omega
            case ca9d => omega
            case ca9e => simp; omega
            intro v9 w9 hm9 hg9 _
            have HB9 := Lib.hid (((HM9.out _).2.alloc hsz9 (.cells #[.int .i64 ((j : Int))] 3)).grown hg9 (by simp; omega) (fun j e => ((ho.out).lt j e).1))
            clear hg9 HM9
            replace hm9 : w9.ownsRow w.heap.size 3 1 v9 (i + 1) (ivs (Q.nextL zs (i + 1))) := by
              have e : Q.nextL zs (i + 1) = Q.nextL zs i ++ [(j : Int)] := by rw [← HE.out]; exact Q.map_succ _ _
              rw [e, ivs_snoc]; exact hm9
            have HO9 := Lib.hid hm9
            clear hm9 ho hb HE
            go_wp2
            go_roundw
            case rel => exact ⟨i + 1, by omega, by go_num, HO9.out, HB9.out⟩
            case measure => simp [intOf]; omega
          · have HE' : Hid (Q.nextOf zs i = Q.up x (zs.drop (j + 1)) (j + 1)) := by show _ = _; rw [HE.out]; exact Q.up_miss hy hyx
            have hyb : (y == x) = false := by simpa using hyx
            have hyc : (y != x) = true := by simpa using hyx
            clear hy HE hjE
            go_wp2_with fail
            go_quiet (fail)
            go_wp2
            go_roundw
            case rel => exact ⟨j + 1, _, by omega, by go_num, rfl, HE'.out⟩
            case measure => simp [intOf]; omega
        · have hje : j = zs.length := by omega
          subst hje
          replace HE : Hid (Q.nextOf zs i = -1) := by show _ = _; rw [HE.out]; exact Q.up_end (Nat.le_refl _)
          obtain ⟨b, off, rfl, hbl, hc⟩ := (HR.out.stays hb.out).at_ (ivs_some HX.out)
          go_wp2_with fail
          go_quiet (fail)
          have hsz9 : w.heap.size ≤ (wo).heap.size := (hb.out).size
          have HM9 := Lib.hid fun (M : Nat) => And.intro (show World.ownsRow ((wo).drewN M) _ _ _ _ _ _ from ho.out) (Law.up (hb.out) M)
          go_wp2_with (at_builtin; refine wpList_append_own _ rfl _ _ 22 rfl w.heap.size 3 i0 (.int .i64 0) 1 8 Try.underlying22 hi hz0 hz1 hz2 rfl (by decide) _ _ _ rfl ((HM9.out _).1.alloc _) ⟨(wo).heap.size, 0, none⟩ 1 1 [.int .i64 (-1)] rfl rfl ?ca9a ?ca9b ?ca9c ?ca9d ?ca9e ?_)
          case ca9a =>
            intro j' u hj'
            match j', hj' with
            | 0, hj' => simp at hj'; subst hj'; simp [Addr.add]; exact new_cell (World.drewN (wo) _) _ _
          case ca9b => intro u hu; simp at hu; subst hu; rfl
          case ca9c => unfold maxLen; omega
          case ca9d => omega
          case ca9e => simp; omega
          intro v9 w9 hm9 hg9 _
          have HB9 := Lib.hid (((HM9.out _).2.alloc hsz9 (.cells #[.int .i64 (-1)] 3)).grown hg9 (by simp; omega) (fun j e => ((ho.out).lt j e).1))
          clear hg9 HM9
          replace hm9 : w9.ownsRow w.heap.size 3 1 v9 (i + 1) (ivs (Q.nextL zs (i + 1))) := by
            have e : Q.nextL zs (i + 1) = Q.nextL zs i ++ [-1] := by rw [← HE.out]; exact Q.map_succ _ _
            rw [e, ivs_snoc]; exact hm9
          have HO9 := Lib.hid hm9
          clear hm9 ho hb HE
          go_wp2
          go_roundw
          case rel => exact ⟨i + 1, by omega, by go_num, HO9.out, HB9.out⟩
          case measure => simp [intOf]; omega
    · have hke : i = zs.length := by omega
      have hltI : ¬ (i : Int) < (zs.length : Int) := by omega
      have HK := Lib.hid hke
      clear hke
      go_wp2
      go_ret
      have h := ho.out
      rw [HK.out] at h
      refine ⟨_, rfl, ?_, hb.out⟩
      rw [Q.nextL_len]
      exact h
theorem specLast_any (n : Int) (zs : List Int) (A : Option Addr) (c : Nat) (hl : zs.length ≤ 1048576) (w : World) (hr : Law.Row w A (ivs zs)) :
    Calls Try.prog 52 #[.int .i64 n, .slice A zs.length c] w (rowSays (Q.lastR n zs) w) := by
  have HQ := Lib.hid (l3Good_any n A c zs w hl hr)
  cases hg : Q.good n zs
  · rw [show Q.lastR n zs = ([], false) from Q.ifGood_no hg]
    rw [hg] at HQ
    clear hr hg
    go_enter Try.func52, Try.ntmps52
    go_wp2_with fail
    go_at_call 84
    refine (HQ.out).mono ?_
    rintro e w' ⟨rfl, hw'⟩
    obtain rfl := hw'.symm
    clear hw'
    go_wp2
    go_ret2
    exact ⟨_, rfl, ownsRow_nil _ _, (Below.refl _ _).alloc (Nat.le_refl _) _⟩
  · rw [show Q.lastR n zs = _ from Q.ifGood_yes hg]
    rw [hg] at HQ
    have HC := Lib.hid (l3Last_any A c zs w (Q.good_iff.1 hg).2.1 hr)
    generalize Q.lastL zs zs.length = X at HC ⊢
    clear hr hg
    go_enter Try.func52, Try.ntmps52
    go_wp2_with fail
    go_at_call 84
    refine (HQ.out).mono ?_
    rintro e w' ⟨rfl, hw'⟩
    obtain rfl := hw'.symm
    clear hw'
    go_wp2_with fail
    go_at_call 100
    refine HC.out.mono ?_
    rintro e w' ⟨v, rfl, ho, hb⟩
    go_wp2
    go_ret2
    exact ⟨_, rfl, ho, hb⟩
theorem Q.lastR_len (n : Int) (zs : List Int) : (Q.lastR n zs).1.length ≤ 1048576 := by
  unfold Q.lastR Q.ifGood
  split
  · rename_i h
    have := (Q.good_iff.1 h).2.1
    rw [Q.lastL_len]; omega
  · simp
namespace LLastUses
theorem lenX (n : Int) (zs : List Int) : (Q.lastR n zs).1.length ≤ 1048576 := Q.lastR_len n zs
end LLastUses
theorem specNext_any (n : Int) (zs : List Int) (A : Option Addr) (c : Nat) (hl : zs.length ≤ 1048576) (w : World) (hr : Law.Row w A (ivs zs)) :
    Calls Try.prog 53 #[.int .i64 n, .slice A zs.length c] w (rowSays (Q.nextR n zs) w) := by
  have HQ := Lib.hid (l3Good_any n A c zs w hl hr)
  cases hg : Q.good n zs
  · rw [show Q.nextR n zs = ([], false) from Q.ifGood_no hg]
    rw [hg] at HQ
    clear hr hg
    go_enter Try.func53, Try.ntmps53
    go_wp2_with fail
    go_at_call 84
    refine (HQ.out).mono ?_
    rintro e w' ⟨rfl, hw'⟩
    obtain rfl := hw'.symm
    clear hw'
    go_wp2
    go_ret2
    exact ⟨_, rfl, ownsRow_nil _ _, (Below.refl _ _).alloc (Nat.le_refl _) _⟩
  · rw [show Q.nextR n zs = _ from Q.ifGood_yes hg]
    rw [hg] at HQ
    have HC := Lib.hid (l3Later_any A c zs w (Q.good_iff.1 hg).2.1 hr)
    generalize Q.nextL zs zs.length = X at HC ⊢
    clear hr hg
    go_enter Try.func53, Try.ntmps53
    go_wp2_with fail
    go_at_call 84
    refine (HQ.out).mono ?_
    rintro e w' ⟨rfl, hw'⟩
    obtain rfl := hw'.symm
    clear hw'
    go_wp2_with fail
    go_at_call 101
    refine HC.out.mono ?_
    rintro e w' ⟨v, rfl, ho, hb⟩
    go_wp2
    go_ret2
    exact ⟨_, rfl, ho, hb⟩
theorem Q.nextR_len (n : Int) (zs : List Int) : (Q.nextR n zs).1.length ≤ 1048576 := by
  unfold Q.nextR Q.ifGood
  split
  · rename_i h
    have := (Q.good_iff.1 h).2.1
    rw [Q.nextL_len]; omega
  · simp
namespace LNextUses
theorem lenX (n : Int) (zs : List Int) : (Q.nextR n zs).1.length ≤ 1048576 := Q.nextR_len n zs
end LNextUses
end Go.Proofs.Ytdjafooabpcbmab
