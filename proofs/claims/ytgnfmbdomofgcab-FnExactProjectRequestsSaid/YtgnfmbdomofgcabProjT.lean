/-
  ProjectRequests: the model's, whole; the code's.
-/
import Derived.Test.YtgnfmbdomofgcabProjS
import Derived.Test.YtgnfmbdomofgcabDifI
import Derived.Test.YtgnfmbdomofgcabImpQ
import Derived.IntWalk
namespace Go.Proofs.Ytgnfmbdomofgcab
open Go.RowKit
set_option linter.unusedVariables false
set_option maxHeartbeats 1600000 in
theorem l3Proj_any (A B : Option Addr) (c d : Nat) (zs its : List Int) (w : World) (h3 : zs.length ≤ 60) (hl : its.length ≤ 1048576) (hr : Law.Row w A (ivs zs)) (hs : Law.Row w B (ivs its)) :
    Calls Try.prog 40 #[.slice A zs.length c, .slice B its.length d] w (rowSays1 (Q.projL its zs) w) := by
  obtain ⟨i0, hi, hz0, hz1, hz2⟩ := info_parts infoInts
  have HR := Lib.hid hr
  have HS := Lib.hid hs
  clear hr hs
  go_enter Try.func40, Try.ntmps40
  go_wp2_with fail
  go_loopw [5, 6] (fun u i wr => ∃ k : Nat, k ≤ zs.length ∧ i = .int .i64 k ∧ Hid (wr.ownsRow w.heap.size 3 1 u (Q.projL its (zs.take k)).length (ivs (Q.projL its (zs.take k)))) ∧ Hid (Below w.heap.size w wr)) (fun _ i _ => zs.length - (intOf i).toNat)
  case atStart => exact ⟨0, Nat.zero_le _, rfl, ownsRow_nil _ _, (Below.refl _ _).alloc (Nat.le_refl _) _⟩
  case round =>
    obtain ⟨k, hk, rfl, ho, hb⟩ := hrel
    have hpl : (Q.projL its (zs.take k)).length ≤ 60 := Nat.le_trans (Q.proj_take_len _ _ _) h3
    by_cases hlt : k < zs.length
    · obtain ⟨x, hx⟩ : ∃ x, zs[k]? = some x := ⟨_, List.getElem?_eq_getElem hlt⟩
      obtain ⟨b, off, rfl, hbl, hc⟩ := (HR.out.stays hb.out).at_ (ivs_some hx)
      have hltI : (k : Int) < (zs.length : Int) := by omega
      have HH := Lib.hid (l1Has_any B d its x wr hl (HS.out.stays hb.out))
      have HT := Lib.hid (Q.proj_take its zs hx)
      clear hx
      by_cases hm : x ∈ its
      · have HT' : Hid (Q.projL its (zs.take (k + 1)) = Q.projL its (zs.take k) ++ [x]) := by show _ = _; rw [HT.out, if_pos hm]
        rw [decide_eq_true hm] at HH
        generalize Q.projL its (zs.take k) = ps at *
        clear hm
        go_wp2_with fail
        go_at_call 47
        refine (HH.out).mono ?_
        rintro e w' ⟨rfl, hw'⟩
        obtain rfl := hw'.symm
        clear hw'
        have hsz9 := (hb.out).size
        go_wp2_with (at_builtin; refine wpList_append_own _ rfl _ _ 22 rfl w.heap.size 3 i0 (.int .i64 0) 1 8 Try.underlying22 hi hz0 hz1 hz2 rfl (by decide) _ _ _ rfl ((ho.out).alloc _) ⟨(wr).heap.size, 0, none⟩ 1 1 [.int .i64 (x)] rfl rfl ?ca9a ?ca9b ?ca9c ?ca9d ?ca9e ?_)
        case ca9a =>
          intro j' u hj'
          match j', hj' with
          | 0, hj' => simp at hj'; subst hj'; simp [Addr.add]
        case ca9b => intro u hu; simp at hu; subst hu; rfl
        case ca9c => unfold maxLen; omega
        case ca9d => omega
        case ca9e => simp; omega
        intro v9 w9 hm9 hg9 _
        have HB9 := Lib.hid (((hb.out).alloc hsz9 (.cells #[.int .i64 (x)] 3)).grown hg9 (by simp; omega) (fun j e => ((ho.out).lt j e).1))
        clear hg9
        rw [← ivs_snoc] at hm9
        have HO : Hid (w9.ownsRow w.heap.size 3 1 v9 (Q.projL its (zs.take (k + 1))).length (ivs (Q.projL its (zs.take (k + 1))))) := by rw [HT'.out, List.length_append]; exact Lib.hid hm9
        clear hm9 ho hb
        go_wp2
        go_roundw
        case rel => exact ⟨k + 1, by omega, by go_num, HO.out, HB9.out⟩
        case measure => simp [intOf]; omega
      · have HT' : Hid (Q.projL its (zs.take (k + 1)) = Q.projL its (zs.take k)) := by show _ = _; rw [HT.out, if_neg hm, List.append_nil]
        rw [decide_eq_false hm] at HH
        clear hm
        go_wp2_with fail
        go_at_call 47
        refine (HH.out).mono ?_
        rintro e w' ⟨rfl, hw'⟩
        obtain rfl := hw'.symm
        clear hw'
        go_wp2
        go_roundw
        case rel => exact ⟨k + 1, by omega, by go_num, (by show World.ownsRow _ _ _ _ _ _ _; rw [HT'.out]; exact ho.out), hb.out⟩
        case measure => simp [intOf]; omega
    · have hke : k = zs.length := by omega
      have hltI : ¬ (k : Int) < (zs.length : Int) := by omega
      have HF : Hid (zs.take k = zs) := by show _ = _; rw [hke, List.take_length]
      clear hke
      go_wp2
      go_ret
      have h := ho.out
      rw [HF.out] at h
      exact ⟨_, rfl, h, hb.out⟩
set_option maxHeartbeats 800000 in
theorem specProj_any (n : Int) (zs its : List Int) (A : Option Addr) (c : Nat) (hl : zs.length ≤ 1048576) (B : Option Addr) (d : Nat) (hl' : its.length ≤ 1048576) (w : World) (hr : Law.Row w A (ivs zs)) (hs : Law.Row w B (ivs its)) :
    Calls Try.prog 22 #[.int .i64 n, .slice A zs.length c, .slice B its.length d] w (rowSays (Q.projQ n zs its) w) := by
  have HQ := Lib.hid (l3Good_any n A c zs w hl hr)
  cases hg : Q.good n zs
  · rw [show Q.projQ n zs its = ([], false) from if_neg (by simp [Q.projOk, hg])]
    rw [hg] at HQ
    clear hr hs hg
    go_enter Try.func22, Try.ntmps22
    go_wp2_with fail
    go_at_call 28
    refine (HQ.out).mono ?_
    rintro e w' ⟨rfl, hw'⟩
    obtain rfl := hw'.symm
    clear hw'
    go_wp2
    go_ret2
    exact ⟨_, rfl, ownsRow_nil _ _, (Below.refl _ _).alloc (Nat.le_refl _) _⟩
  · obtain ⟨N, rfl, h1, h2, h3, _⟩ := Q.good_nat hg
    have HK := Lib.hid (l1Rising_any N B d its w (by omega) (by omega) hl' hs)
    have h1I : (1 : Int) ≤ (N : Int) := by omega
    have h2I : (N : Int) ≤ 8 := by omega
    rw [hg] at HQ
    cases ho : Q.rises N its
    · rw [show Q.projQ N zs its = ([], false) from if_neg (by simp [Q.projOk, hg, ho])]
      rw [ho] at HK
      clear hr hs hg ho
      go_enter Try.func22, Try.ntmps22
      go_wp2_with fail
      go_at_call 28
      refine (HQ.out).mono ?_
      rintro e w' ⟨rfl, hw'⟩
      obtain rfl := hw'.symm
      clear hw'
      go_wp2_with fail
      go_at_call 39
      refine HK.out.mono ?_
      rintro e w1 ⟨rfl, m, rfl⟩
      go_wp2
      go_ret2
      exact ⟨_, rfl, ownsRow_nil (w.drewN m) _, (Law.draws _ _ _).alloc (by simp) _⟩
    · rw [show Q.projQ N zs its = (Q.projL its zs, true) from if_pos (by simp [Q.projOk, hg, ho])]
      rw [ho] at HK
      have HP := Lib.hid fun m => l3Proj_any A B c d zs its (w.drewN m) h3 hl' (hr.drewN m) (hs.drewN m)
      generalize Q.projL its zs = X at HP ⊢
      clear hr hs hg ho
      go_enter Try.func22, Try.ntmps22
      go_wp2_with fail
      go_at_call 28
      refine (HQ.out).mono ?_
      rintro e w' ⟨rfl, hw'⟩
      obtain rfl := hw'.symm
      clear hw'
      go_wp2_with fail
      go_at_call 39
      refine HK.out.mono ?_
      rintro e w1 ⟨rfl, m, rfl⟩
      go_wp2_with fail
      go_at_call 40
      refine (HP.out m).mono ?_
      rintro e w' ⟨v, rfl, ho, hb⟩
      go_wp2
      go_ret2
      exact ⟨_, rfl, ho, Law.undraw hb⟩
namespace LProjectRequests
theorem lenX (n : Int) (zs its : List Int) : (Q.projQ n zs its).1.length ≤ 1048576 := by
  unfold Q.projQ
  split
  · rename_i h
    have h0 := (Q.good_iff.1 ((Bool.and_eq_true _ _).mp h).1).2.1
    exact Nat.le_trans (Q.proj_len _ _) (by omega)
  · simp
end LProjectRequests
set_option maxRecDepth 100000 in
set_option maxHeartbeats 3200000 in
theorem impProj_any (n : Int) (zs its : List Int) (A : Option Addr) (c : Nat) (hl : zs.length ≤ 1048576) (B : Option Addr) (d : Nat) (hl' : its.length ≤ 1048576) (w : World) (hr : Law.Row w A (ivs zs)) (hs : Law.Row w B (ivs its)) :
    Calls Try.prog 23 #[.int .i64 n, .slice A zs.length c, .slice B its.length d] w (rowSays (Q.projQ n zs its) w) := by
  obtain ⟨i0, hi, hz0, hz1, hz2⟩ := info_parts infoInts
  have HQ := Lib.hid (impIsReq_any n A c zs w hl hr)
  cases hg : Q.good n zs
  · rw [show Q.projQ n zs its = ([], false) from if_neg (by simp [Q.projOk, hg])]
    rw [hg] at HQ
    clear hr hs hg
    go_enter Try.func23, Try.ntmps23
    go_wp2_with fail
    go_at_call 30
    refine (HQ.out).mono ?_
    rintro e w' ⟨rfl, hw'⟩
    obtain rfl := hw'.symm
    clear hw'
    go_wp2
    go_ret2
    exact ⟨_, rfl, ownsRow_nil _ _, (Below.refl _ _).alloc (Nat.le_refl _) _⟩
  · rw [hg] at HQ
    obtain ⟨N, rfl, h1, h2, h3, hx⟩ := Q.good_nat hg
    have HNo : Hid (Q.rises N its = false → Q.projQ N zs its = ([], false)) := fun h => if_neg (by simp [Q.projOk, h])
    have HYes : Hid (Q.rises N its = true → Q.projQ N zs its = (Q.projL its zs, true)) := fun h => if_pos (by simp [Q.projOk, hg, h])
    have HR := Lib.hid hr
    have HS := Lib.hid hs
    have HX := Lib.hid hx
    have HI := Lib.hid fun x W => isItem_any N x W
    obtain ⟨X, hX⟩ : ∃ X, X = Q.projQ N zs its := ⟨_, rfl⟩
    rw [← hX] at HNo HYes ⊢
    clear hr hs hg hx hX
    go_enter Try.func23, Try.ntmps23
    go_wp2_with fail
    go_at_call 30
    refine (HQ.out).mono ?_
    rintro e w' ⟨rfl, hw'⟩
    obtain rfl := hw'.symm
    clear hw'
    go_wp2
    go_loopw [21] (fun i wr => ∃ k : Nat, k ≤ its.length ∧ i = .int .i64 k ∧ Hid (∀ i, i < k → Q.okAt N its i = true) ∧ Hid (Seen8 wr w.heap.size (its.take k)) ∧ Hid (Below w.heap.size w wr) ∧ w.heap.size + 1 ≤ wr.heap.size) (fun i _ => its.length - (intOf i).toNat)
    case atStart =>
      refine ⟨0, Nat.zero_le _, rfl, fun i hi => by omega, fun x hx => ?_, (Below.refl _ _).alloc (Nat.le_refl _) _, by simp⟩
      match x, hx with
      | 0, _ => exact ⟨by simp, by simp⟩
      | 1, _ => exact ⟨by simp, by simp⟩
      | 2, _ => exact ⟨by simp, by simp⟩
      | 3, _ => exact ⟨by simp, by simp⟩
      | 4, _ => exact ⟨by simp, by simp⟩
      | 5, _ => exact ⟨by simp, by simp⟩
      | 6, _ => exact ⟨by simp, by simp⟩
      | 7, _ => exact ⟨by simp, by simp⟩
    case round =>
      obtain ⟨k, hk, rfl, hall, hse, hb, hsz⟩ := hrel
      by_cases hlt : k < its.length
      · obtain ⟨x, hx⟩ : ∃ x, its[k]? = some x := ⟨_, List.getElem?_eq_getElem hlt⟩
        obtain ⟨b, off, rfl, hbl, hc⟩ := (HS.out.stays hb.out).at_ (ivs_some hx)
        have hltI : (k : Int) < (its.length : Int) := by omega
        have HIx := Lib.hid (HI.out x wr)
        rw [Q.okItem_lt] at HIx
        cases hok : Q.okItem N x
        · have HN := Lib.hid (HNo.out (Q.rises_no hlt (Q.okAt_in hx hok)))
          rw [hok] at HIx
          clear hx hok hall hse
          go_wp2_with fail
          go_at_call 41
          refine (HIx.out).mono ?_
          rintro e w' ⟨rfl, hw'⟩
          obtain rfl := hw'.symm
          clear hw'
          go_wp2
          go_ret2
          rw [HN.out]
          exact ⟨_, rfl, own_down (ownsRow_nil _ _) hb.out.size, hb.out.alloc hb.out.size _⟩
        · rw [hok] at HIx
          have hxb : 0 ≤ x ∧ x ≤ N - 1 := by simpa [Q.okItem] using hok
          obtain ⟨x', rfl⟩ := Int.eq_ofNat_of_zero_le hxb.1
          have hx8 : x' < 8 := by omega
          have hx8I : (x' : Int) < 8 := by omega
          have HTk := Lib.hid (Q.take_snoc hx)
          obtain ⟨hcS, hfS⟩ := hse.out x' hx8
          have HSe : Hid (Seen8 (wr.setCell ⟨w.heap.size, x', none⟩ (.bool true)) w.heap.size (its.take (k + 1))) := by rw [HTk.out]; exact Lib.hid (hse.out.put hx8)
          have HB' := Lib.hid (hb.out.setCell (p := ⟨w.heap.size, x', none⟩) (Nat.le_refl _) (.bool true))
          have hsz' : w.heap.size + 1 ≤ (wr.setCell ⟨w.heap.size, x', none⟩ (.bool true)).heap.size := by simpa using hsz
          rcases Nat.eq_zero_or_pos k with hk0 | hk0
          · subst hk0
            rw [Nat.add_zero] at hc
            have HA : Hid (∀ i, i < 0 + 1 → Q.okAt N its i = true) := fun i hi => by
              obtain rfl : i = 0 := by omega
              rw [Q.okAt_zero hx]; exact hok
            have hsz0 := Lib.hid hsz'
            clear hx hok hall hse hxb hb hsz'
            go_wp2_with fail
            go_at_call 41
            refine (HIx.out).mono ?_
            rintro e w' ⟨rfl, hw'⟩
            obtain rfl := hw'.symm
            clear hw'
            go_wp2
            go_roundw
            case rel => exact ⟨0 + 1, by omega, by go_num, HA.out, HSe.out, HB'.out, hsz0.out⟩
            case measure => simp [intOf]; omega
          · obtain ⟨j, rfl⟩ : ∃ j, k = j + 1 := ⟨k - 1, by omega⟩
            obtain ⟨y, hy⟩ : ∃ y, its[j]? = some y := ⟨_, List.getElem?_eq_getElem (by omega)⟩
            obtain ⟨b', off', hbb, hbl', hc'⟩ := (HS.out.stays hb.out).at_ (ivs_some hy)
            injection hbb with hbb
            injection hbb with hb1 hb2 _
            subst hb1 hb2
            have hjI : (j : Int) < (its.length : Int) := by omega
            have hj0 : (0 : Int) ≤ (j : Int) := by omega
            by_cases hyx : y < x'
            · have HA : Hid (∀ i, i < j + 1 + 1 → Q.okAt N its i = true) := fun i hi => by
                rcases Nat.lt_or_ge i (j + 1) with h | h
                · exact hall.out i h
                · obtain rfl : i = j + 1 := by omega
                  rw [Q.okAt_succ hy hx, hok]; simpa using hyx
              have hyx' : ¬ (x' : Int) ≤ y := by omega
              have hsz0 := Lib.hid hsz'
              clear hx hy hok hall hse hxb hb hsz'
              go_wp2_with fail
              go_at_call 41
              refine (HIx.out).mono ?_
              rintro e w' ⟨rfl, hw'⟩
              obtain rfl := hw'.symm
              clear hw'
              go_wp2
              go_roundw
              case rel => exact ⟨j + 1 + 1, by omega, by go_num, HA.out, HSe.out, HB'.out, hsz0.out⟩
              case measure => simp [intOf]; omega
            · have HN := Lib.hid (HNo.out (Q.rises_no hlt (show Q.okAt N its (j + 1) = false by rw [Q.okAt_succ hy hx]; simp; intro _; omega)))
              have hyx' : (x' : Int) ≤ y := by omega
              clear hx hy hok hall hse hxb hsz' HSe HB'
              go_wp2_with fail
              go_at_call 41
              refine (HIx.out).mono ?_
              rintro e w' ⟨rfl, hw'⟩
              obtain rfl := hw'.symm
              clear hw'
              go_wp2
              go_ret2
              rw [HN.out]
              exact ⟨_, rfl, own_down (ownsRow_nil _ _) hb.out.size, hb.out.alloc hb.out.size _⟩
      · have hke : k = its.length := by omega
        have hltI : ¬ (k : Int) < (its.length : Int) := by omega
        have HY := Lib.hid (HYes.out (Q.rises_yes (by rw [← hke]; exact hall.out)))
        have HSe : Hid (Seen8 wr w.heap.size its) := by have := hse.out; rw [hke, List.take_length] at this; exact this
        have H1 := Lib.hid (own_down (ownsRow_nil wr 3) hsz)
        have HB1 := Lib.hid (hb.out.alloc hb.out.size (.cells #[] 3))
        have HSe1 : Hid (Seen8 (wr.alloc (.cells #[] 3)) w.heap.size its) := fun x hx => by
          obtain ⟨p, q⟩ := HSe.out x hx
          exact ⟨(World.cell?_alloc_lt wr _ _ (by show w.heap.size < _; omega)).trans p, by
            have := ((Below.refl _ _).alloc (Nat.le_refl _) (.cells #[] 3) : Below wr.heap.size wr (wr.alloc (.cells #[] 3))).frozen (p := ⟨w.heap.size, x, none⟩) (by show w.heap.size < _; omega)
            rw [this]; exact q⟩
        have hsz1 : w.heap.size + 1 ≤ (wr.alloc (.cells #[] 3)).heap.size := by simp; omega
        clear hke hall hse hb
        go_wp2
        go_loopw [11, 50] (fun u i wi => ∃ k : Nat, k ≤ zs.length ∧ i = .int .i64 k ∧ Hid (wi.ownsRow (w.heap.size + 1) 3 1 u (Q.projL its (zs.take k)).length (ivs (Q.projL its (zs.take k)))) ∧ Hid (Seen8 wi w.heap.size its) ∧ Hid (Below w.heap.size w wi) ∧ w.heap.size + 1 ≤ wi.heap.size) (fun _ i _ => zs.length - (intOf i).toNat)
        case atStart => exact ⟨0, Nat.zero_le _, rfl, H1.out, HSe1.out, HB1.out, hsz1⟩
        case round =>
          obtain ⟨k, hk, rfl, ho, hse, hb, hsz⟩ := hrel
          have hpl : (Q.projL its (zs.take k)).length ≤ 60 := Nat.le_trans (Q.proj_take_len _ _ _) h3
          by_cases hlt : k < zs.length
          · obtain ⟨x, hx, hxN⟩ := HX.out k hlt
            obtain ⟨b, off, rfl, hbl, hc⟩ := (HR.out.stays hb.out).at_ (ivs_some hx)
            have hltI : (k : Int) < (zs.length : Int) := by omega
            have hx8I : (x : Int) < 8 := by omega
            have HT := Lib.hid (Q.proj_take its zs hx)
            obtain ⟨hcS, hfS⟩ := hse.out x (by omega)
            clear hx
            by_cases hm : (x : Int) ∈ its
            · have HT' : Hid (Q.projL its (zs.take (k + 1)) = Q.projL its (zs.take k) ++ [(x : Int)]) := by show _ = _; rw [HT.out, if_pos hm]
              rw [decide_eq_true hm] at hcS
              obtain ⟨ps, hps⟩ : ∃ ps, ps = Q.projL its (zs.take k) := ⟨_, rfl⟩
              rw [← hps] at ho hpl HT'
              clear hm hps
              have hsz9 := (hb.out).size
              go_wp2_with (at_builtin; refine wpList_append_own _ rfl _ _ 22 rfl (w.heap.size + 1) 3 i0 (.int .i64 0) 1 8 Try.underlying22 hi hz0 hz1 hz2 rfl (by decide) _ _ _ rfl ((ho.out).alloc _) ⟨(wr).heap.size, 0, none⟩ 1 1 [.int .i64 ((x : Int))] rfl rfl ?ca9a ?ca9b ?ca9c ?ca9d ?ca9e ?_)
              case ca9a =>
                intro j' u hj'
                match j', hj' with
                | 0, hj' => simp at hj'; subst hj'; simp [Addr.add]
              case ca9b => intro u hu; simp at hu; subst hu; rfl
              case ca9c => unfold maxLen; omega
              case ca9d => omega
              case ca9e => simp; omega
              intro v9 w9 hm9 hg9 _
              have HB9 := Lib.hid (((hb.out).alloc hsz9 (.cells #[.int .i64 ((x : Int))] 3)).grown hg9 (by simp; omega) (fun j e => Nat.le_trans (by omega) ((ho.out).lt j e).1))
              rw [← ivs_snoc] at hm9
              have HO : Hid (w9.ownsRow (w.heap.size + 1) 3 1 v9 (Q.projL its (zs.take (k + 1))).length (ivs (Q.projL its (zs.take (k + 1))))) := by rw [HT'.out, List.length_append]; exact Lib.hid hm9
              have hne : some w.heap.size ≠ u11.ownBlock := fun e => by have := (ho.out.lt _ e.symm).1; omega
              have hszA : w.heap.size < (wr.alloc (.cells #[.int .i64 (x : Int)] 3)).heap.size := by simp; omega
              have HSe9 : Hid (Seen8 w9 w.heap.size its) := fun z hz => by
                obtain ⟨p, q⟩ := hse.out z hz
                refine ⟨(World.cell?_of_block (a := ⟨w.heap.size, z, none⟩) (hg9.block _ hszA hne)).trans ((World.cell?_alloc_lt wr _ _ (by show w.heap.size < _; omega)).trans p), ?_⟩
                rw [World.frozen?_of_block (a := ⟨w.heap.size, z, none⟩) (hg9.block _ hszA hne)]
                have := ((Below.refl _ _).alloc (Nat.le_refl _) (.cells #[.int .i64 (x : Int)] 3) : Below wr.heap.size wr (wr.alloc (.cells #[.int .i64 (x : Int)] 3))).frozen (p := ⟨w.heap.size, z, none⟩) (by show w.heap.size < _; omega)
                rw [this]; exact q
              have hsz9 : w.heap.size + 1 ≤ w9.heap.size := Nat.le_trans hszA hg9.size
              clear hm9 ho hb hg9 hse hne hszA
              go_wp2
              go_roundw
              case rel => exact ⟨k + 1, by omega, by go_num, HO.out, HSe9.out, HB9.out, hsz9⟩
              case measure => simp [intOf]; omega
            · have HT' : Hid (Q.projL its (zs.take (k + 1)) = Q.projL its (zs.take k)) := by show _ = _; rw [HT.out, if_neg hm, List.append_nil]
              rw [decide_eq_false hm] at hcS
              clear hm
              go_wp2
              go_roundw
              case rel => exact ⟨k + 1, by omega, by go_num, (by show World.ownsRow _ _ _ _ _ _ _; rw [HT'.out]; exact ho.out), hse.out, hb.out, hsz⟩
              case measure => simp [intOf]; omega
          · have hke : k = zs.length := by omega
            have hltI : ¬ (k : Int) < (zs.length : Int) := by omega
            have HF : Hid (zs.take k = zs) := by show _ = _; rw [hke, List.take_length]
            clear hke
            go_wp2
            go_ret2
            have h := ho.out
            rw [HF.out] at h
            rw [HY.out]
            exact ⟨_, rfl, own_down h (Nat.le_succ _), hb.out⟩
end Go.Proofs.Ytgnfmbdomofgcab
