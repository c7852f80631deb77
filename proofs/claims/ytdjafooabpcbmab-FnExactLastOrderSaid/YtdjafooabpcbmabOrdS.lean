/-
  The model's l4Order and LastOrder.
-/
import Derived.Test.YtdjafooabpcbmabOrdM
import Derived.Test.YtdjafooabpcbmabOwnS
import Derived.Test.YtdjafooabpcbmabGood
import Derived.Test.YtdjafooabpcbmabRowS
namespace Go.Proofs.Ytdjafooabpcbmab
open Go.RowKit
set_option linter.unusedVariables false
set_option maxHeartbeats 1600000 in
theorem l4Order_any (A : Option Addr) (c : Nat) (zs : List Int) (w : World) (h3 : zs.length ≤ 60) (hr : Law.Row w A (ivs zs)) :
    Calls Try.prog 85 #[.slice A zs.length c] w (rowSays1 (Q.ordD zs 0) w) := by
  obtain ⟨i0, hi, hz0, hz1, hz2⟩ := info_parts infoInts
  have HR := Lib.hid hr
  clear hr
  go_enter Try.func85, Try.ntmps85
  go_wp2_with fail
  go_loopw [3, 4] (fun u i wr => ∃ j : Nat, j ≤ zs.length ∧ i = .int .i64 ((j : Int) - 1) ∧ Hid (wr.ownsRow w.heap.size 3 1 u (Q.ordD zs j).length (ivs (Q.ordD zs j))) ∧ Hid (Below w.heap.size w wr)) (fun _ i _ => (intOf i + 1).toNat)
  case atStart => exact ⟨zs.length, Nat.le_refl _, by go_num, by rw [Q.ordD_all]; exact Lib.hid (ownsRow_nil _ _), (Below.refl _ _).alloc (Nat.le_refl _) _⟩
  case round =>
    obtain ⟨j, hj, rfl, ho, hb⟩ := hrel
    rcases Nat.eq_zero_or_pos j with hj0 | hj0
    · subst hj0
      rw [show ((0 : Nat) : Int) - 1 = -1 from rfl]
      go_wp2
      go_ret
      exact ⟨_, rfl, ho.out, hb.out⟩
    · obtain ⟨k, rfl⟩ : ∃ k, j = k + 1 := ⟨j - 1, by omega⟩
      rw [show ((k + 1 : Nat) : Int) - 1 = (k : Int) from by omega]
      have hlt : k < zs.length := by omega
      have hltI : (k : Int) < (zs.length : Int) := by omega
      obtain ⟨x, hx⟩ : ∃ x, zs[k]? = some x := ⟨_, List.getElem?_eq_getElem hlt⟩
      obtain ⟨b, off, rfl, hbl, hc⟩ := (HR.out.stays hb.out).at_ (ivs_some hx)
      have hpl : (Q.ordD zs (k + 1)).length ≤ 60 := Nat.le_trans (Q.ordD_len _ _) h3
      have HT := Lib.hid (Q.ordD_step hx)
      obtain ⟨ps, hps⟩ : ∃ ps, ps = Q.ordD zs (k + 1) := ⟨_, rfl⟩
      rw [← hps] at ho hpl HT
      obtain ⟨A', c', rfl, hc1, hc2, hl'⟩ := Law.own_len ho.out
      have HH := Lib.hid (l1Has_any A' c' ps x wr (by omega) (Law.Row.own ho.out))
      clear hx hps hl' hc1 hc2
      by_cases hm : x ∈ ps
      · have HT' : Hid (Q.ordD zs k = ps) := by show _ = _; rw [HT.out]; exact if_pos hm
        rw [decide_eq_true hm] at HH
        clear hm HT
        go_wp2_with fail
        go_at_call 81
        refine (HH.out).mono ?_
        rintro e w' ⟨rfl, hw'⟩
        obtain rfl := hw'.symm
        clear hw'
        go_wp2
        go_roundw
        case rel => exact ⟨k, by omega, by go_num, (by show World.ownsRow _ _ _ _ _ _ _; rw [HT'.out]; exact ho.out), hb.out⟩
        case measure => simp [intOf]
      · have HT' : Hid (Q.ordD zs k = ps ++ [x]) := by show _ = _; rw [HT.out]; exact if_neg hm
        rw [decide_eq_false hm] at HH
        clear hm HT
        go_wp2_with fail
        go_at_call 81
        refine (HH.out).mono ?_
        rintro e w' ⟨rfl, hw'⟩
        obtain rfl := hw'.symm
        clear hw'
        have hsz9 := (hb.out).size
        go_wp2_with (at_builtin; refine wpList_append_own _ rfl _ _ 22 rfl w.heap.size 3 i0 (.int .i64 0) 1 8 Try.underlying22 hi hz0 hz1 hz2 rfl (by decide) _ _ _ rfl ((ho.out).alloc _) ⟨(wr).heap.size, 0, none⟩ 1 1 [.int .i64 (x)] rfl rfl ?ca9a ?ca9b ?ca9c ?ca9d ?ca9e ?_)
        case ca9a =>
          intro j' u hj'
          match j', hj' with
          | 0, hj' => simp at hj'; subst hj'; simp [Addr.add]
        case ca9b => intro u hu; simp at hu; subst hu; rfl
        case ca9c => unfold maxLen; omega
        case ca9d => omega
        case ca9e => simp; omega
        intro v9 w9 hm9 hg9 _
        have HB9 := Lib.hid (((hb.out).alloc hsz9 (.cells #[.int .i64 (x)] 3)).grown hg9 (by simp; omega) (fun j e => ((ho.out).lt j e).1))
        clear hg9
        rw [← ivs_snoc] at hm9
        have HO : Hid (w9.ownsRow w.heap.size 3 1 v9 (Q.ordD zs k).length (ivs (Q.ordD zs k))) := by rw [HT'.out, List.length_append]; exact Lib.hid hm9
        clear hm9 ho hb
        go_wp2
        go_roundw
        case rel => exact ⟨k, by omega, by go_num, HO.out, HB9.out⟩
        case measure => simp [intOf]
set_option maxHeartbeats 800000 in
theorem specLast_any (n : Int) (zs : List Int) (A : Option Addr) (c : Nat) (hl : zs.length ≤ 1048576) (w : World) (hr : Law.Row w A (ivs zs)) :
    Calls Try.prog 24 #[.int .i64 n, .slice A zs.length c] w (rowSays (Q.ordQ n zs) w) := by
  have HQ := Lib.hid (l3Good_any n A c zs w hl hr)
  cases hg : Q.good n zs
  · rw [show Q.ordQ n zs = ([], false) from if_neg (by simp [hg])]
    rw [hg] at HQ
    clear hr hg
    go_enter Try.func24, Try.ntmps24
    go_wp2_with fail
    go_at_call 84
    refine (HQ.out).mono ?_
    rintro e w' ⟨rfl, hw'⟩
    obtain rfl := hw'.symm
    clear hw'
    go_wp2
    go_ret2
    exact ⟨_, rfl, ownsRow_nil _ _, (Below.refl _ _).alloc (Nat.le_refl _) _⟩
  · obtain ⟨N, rfl, h1, h2, h3, _⟩ := Q.good_nat hg
    rw [show Q.ordQ N zs = (Q.ordD zs 0, true) from if_pos hg]
    rw [hg] at HQ
    have HP := Lib.hid (l4Order_any A c zs w h3 hr)
    generalize Q.ordD zs 0 = X at HP ⊢
    clear hr hg
    go_enter Try.func24, Try.ntmps24
    go_wp2_with fail
    go_at_call 84
    refine (HQ.out).mono ?_
    rintro e w' ⟨rfl, hw'⟩
    obtain rfl := hw'.symm
    clear hw'
    go_wp2_with fail
    go_at_call 85
    refine HP.out.mono ?_
    rintro e w' ⟨v, rfl, ho, hb⟩
    go_wp2
    go_ret2
    exact ⟨_, rfl, ho, hb⟩
end Go.Proofs.Ytdjafooabpcbmab
