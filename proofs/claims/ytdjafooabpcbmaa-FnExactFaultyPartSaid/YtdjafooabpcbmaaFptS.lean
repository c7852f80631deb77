/-
  FaultyPart: the model's.
-/
import Derived.Test.YtdjafooabpcbmaaFptI
import Derived.Test.YtdjafooabpcbmaaBa
import Derived.Test.YtdjafooabpcbmaaFplS
namespace Go.Proofs.Ytdjafooabpcbmaa
open Go.RowKit
set_option linter.unusedVariables false
theorem Q.btw_snoc (l : List Int) (x a t : Int) : Q.btw (l ++ [x]) a t = Q.btw l a t + if (decide (a ≤ x) && decide (x ≤ t)) = true then 1 else 0 := by
  unfold Q.btw
  rw [List.countP_append, List.countP_singleton]
set_option maxHeartbeats 800000 in
theorem l4Btw_any (A : Option Addr) (c : Nat) (fs : List Int) (a t : Int) (w : World) (h3 : fs.length ≤ 60) (hr : Law.Row w A (ivs fs)) :
    Calls Try.prog 90 #[.slice A fs.length c, .int .i64 a, .int .i64 t] w fun e w' => e = .returned (.int .i64 (Q.btw fs a t : Nat)) ∧ Below w.heap.size w w' := by
  have HR := Lib.hid hr
  have HI := Lib.hid fun x W => l1In_any x a t W
  clear hr
  go_enter Try.func90, Try.ntmps90
  go_wp2_with fail
  go_loopw [7, 8] (fun v i wr => ∃ k : Nat, k ≤ fs.length ∧ i = .int .i64 (k : Int) ∧ v = .int .i64 (Q.btw (fs.take k) a t : Nat) ∧ wr = w) (fun _ i _ => fs.length - (intOf i).toNat)
  case atStart => exact ⟨0, Nat.zero_le _, rfl, rfl, rfl⟩
  case round =>
    obtain ⟨k, hk, rfl, rfl, rfl⟩ := hrel
    by_cases hlt : k < fs.length
    · obtain ⟨x, hx⟩ : ∃ x, fs[k]? = some x := ⟨_, List.getElem?_eq_getElem hlt⟩
      obtain ⟨b, off, rfl, hbl, hc⟩ := HR.out.at_ (ivs_some hx)
      have hltI : (k : Int) < (fs.length : Int) := by omega
      have hq : Q.btw (fs.take k) a t ≤ 60 := Nat.le_trans List.countP_le_length (by rw [List.length_take]; omega)
      have HT := Lib.hid (Q.btw_snoc (fs.take k) x a t)
      rw [← Q.take_snoc hx] at HT
      have HI1 := Lib.hid fun W => HI.out x W
      cases hz : (decide (a ≤ x) && decide (x ≤ t))
      · have HE : Hid (Q.btw (fs.take (k + 1)) a t = Q.btw (fs.take k) a t) := by show _ = _; rw [HT.out, hz]; rfl
        rw [hz] at HI1
        clear hz HT hx
        generalize Q.btw (fs.take k) a t = B at HE hq ⊢
        go_wp2_with (go_at_call 60; refine (HI1.out _).mono ?_; rintro e w' ⟨rfl, hw'⟩; subst hw')
        go_roundw
        case rel => exact ⟨k + 1, by omega, by go_num, by rw [HE.out], trivial⟩
        case measure => simp [intOf]; omega
      · have HE : Hid (Q.btw (fs.take (k + 1)) a t = Q.btw (fs.take k) a t + 1) := by show _ = _; rw [HT.out, hz]; rfl
        rw [hz] at HI1
        clear hz HT hx
        generalize Q.btw (fs.take k) a t = B at HE hq ⊢
        go_wp2_with (go_at_call 60; refine (HI1.out _).mono ?_; rintro e w' ⟨rfl, hw'⟩; subst hw')
        go_roundw
        case rel => exact ⟨k + 1, by omega, by go_num, by rw [HE.out]; go_num, trivial⟩
        case measure => simp [intOf]; omega
    · have hke : k = fs.length := by omega
      have hltI : ¬ (k : Int) < (fs.length : Int) := by omega
      have HF : Hid (fs.take k = fs) := by show _ = _; rw [hke, List.take_length]
      clear hke
      go_wp2
      go_ret
      exact ⟨by rw [HF.out]; rfl, Below.refl _ _⟩
theorem difs_any (A : Option Addr) (c : Nat) (zs : List Int) (w : World) (n : Nat) (hn : zs.length = n) (h3 : n ≤ 60) (hr : Law.Row w A (ivs zs)) :
    Calls Try.prog 89 #[.slice A n c] w fun e w' => ∃ B d, e = .returned (.slice B (Q.dif zs) d) ∧ Below w.heap.size w w' := by
  subst hn
  refine (l3Dif_any A c zs w h3 hr).mono ?_
  rintro e w' ⟨B, d, rfl, h1, h2, hr2, hb2⟩
  exact ⟨B, d, by rw [(Q.diffs_ok zs).2.2], hb2⟩
set_option maxHeartbeats 1600000 in
theorem specFpt_any (n p s : Int) (zs : List Int) (R : Option Addr) (q : Nat) (hcap : zs.length ≤ q) (hl : zs.length ≤ 1048576) (w : World) (hr : Law.Row w R (ivs zs)) :
    Calls Try.prog 48 #[.int .i64 n, .int .i64 p, .int .i64 s, .slice R zs.length q] w (fptSays (Q.fptQ n p s zs) w) := by
  have hQ := fun X (hb : Below w.heap.size w X) => l4Asked_any n p s R q zs X hl (hr.stays hb)
  rw [Q.asked_iff] at hQ
  unfold fptSays
  cases hg : (Q.good n zs && Q.sizes p s)
  · rw [show Q.fptQ n p s zs = ((0, 0), false) from if_neg (by simp [hg])]
    rw [hg] at hQ
    have HQ := Lib.hid hQ
    clear hr hQ hg
    go_enter Try.func48, Try.ntmps48
    go_wp2_with fail
    go_at_call 73
    refine (HQ.out _ ((Below.refl _ _).alloc (Nat.le_refl _) _)).mono ?_
    rintro e w' ⟨rfl, hw'⟩
    obtain rfl := hw'.symm
    clear hw'
    go_wp2
    refine ret_a2 rfl rfl rfl (b := w.heap.size) (x := .int .i64 0) (y := .int .i64 0) ⟨by go_simp, by go_simp, by go_simp, by go_simp⟩ rfl ⟨rfl, ?_⟩
    (repeat (first | exact Below.refl _ _ | refine Below.setCell ?_ (by first | omega | (simp; omega) | (simp; done)) _ | refine Below.drew ?_ | refine Law.up ?_ _ | refine Below.alloc ?_ (by first | omega | (simp; omega) | (simp; done)) _ | refine Law.then_ ?_ (Hid.out (by assumption))))
  · rw [hg] at hQ
    have HQ := Lib.hid hQ
    have hg2 := (Bool.and_eq_true _ _).mp hg
    have hgi := Q.good_iff.1 hg2.1
    have hsi : (1 ≤ p ∧ p ≤ 7) ∧ 1 ≤ s ∧ s ≤ 6 := by simpa [Q.sizes] using hg2.2
    have hz60 := hgi.2.1
    rw [show Q.fptQ n p s zs = Q.fptX zs (Q.flt (Q.newC p s) zs) s.toNat from if_pos hg]
    have HN := Lib.hid fun X => l4New_any p s X
    have HPl := Lib.hid fun X A d B e (hX : CaIn X A d B e (Q.newC p s)) (hb : Below w.heap.size w X) => l4Places_any (q := q) hX (Q.new_ok hgi.1 hsi.1 hsi.2) zs hgi.2.2 hgi.2.1 (hr.stays hb)
    have hfl := Q.fltK_len (Q.newC p s) zs zs.length
    rw [show Q.fltK (Q.newC p s) zs zs.length = Q.flt (Q.newC p s) zs from rfl] at hfl
    generalize Q.flt (Q.newC p s) zs = fs at HPl hfl ⊢
    obtain ⟨S, hS⟩ : ∃ S : Nat, s = (S : Int) := ⟨s.toNat, by omega⟩
    rw [show s.toNat = S by omega]
    have hS1 : 1 ≤ S := by omega
    have hS6 : S ≤ 6 := by omega
    have HR := Lib.hid hr
    have HC := Lib.hid hcap
    unfold caV at HPl
    unfold newSays caV at HN
    clear hg hg2 hgi hsi hr hQ hcap
    subst hS
    go_enter Try.func48, Try.ntmps48
    go_wp2_with fail
    go_at_call 73
    refine (HQ.out _ ((Below.refl _ _).alloc (Nat.le_refl _) _)).mono ?_
    rintro e w' ⟨rfl, hw'⟩
    obtain rfl := hw'.symm
    clear hw'
    go_wp2_with fail
    go_at_call 74
    refine (HN.out _).mono ?_
    rintro e w1 ⟨A, d, B, e', rfl, hI, hb1⟩
    have B1 : Hid (Below w.heap.size w w1) := Lib.hid (((Below.refl w.heap.size w).alloc (Nat.le_refl _) _).trans (hb1.mono (by simp)))
    obtain ⟨c10, c11, f10, f11⟩ := Blk.below (b := w.heap.size) (x := .int .i64 0) (y := .int .i64 0) ⟨by go_simp, by go_simp, by go_simp, by go_simp⟩ hb1 (by first | omega | (simp; omega) | (simp; done))
    have hs1 := hb1.size
    simp at hs1
    have K1 : Hid (Blk w1 w.heap.size (.int .i64 0) (.int .i64 0)) := Lib.hid ⟨c10, c11, f10, f11⟩
    have HP1 := Lib.hid (HPl.out w1 A d B e' hI B1.out)
    clear hI hb1 c10 c11 f10 f11 HN HPl HQ
    go_wp2_with fail
    go_at_call 65
    refine HP1.out.mono ?_
    rintro e w2 ⟨v2, rfl, ho, hb2⟩
    obtain ⟨A2, n2, rfl, _, _, _⟩ := Law.own_len ho
    have B2 : Hid (Below w.heap.size w w2) := Lib.hid (Law.then_ B1.out hb2)
    have K2 := Lib.hid (K1.out.below hb2 hs1)
    have hs2 : w.heap.size < w2.heap.size := Nat.lt_of_lt_of_le hs1 hb2.size
    have HO := Lib.hid (Law.Row.own ho)
    clear ho hb2 HP1
    go_wp2_with fail
    go_loopw [11] (fun i wr => ∃ k : Nat, k ≤ zs.length ∧ i = .int .i64 (k : Int) ∧ Hid (Q.NoT zs fs S k) ∧ Hid (Below w2.heap.size w2 wr)) (fun i _ => zs.length - (intOf i).toNat)
    case atStart => exact ⟨0, Nat.zero_le _, rfl, Q.NoT.zero, Below.refl _ _⟩
    case round =>
      obtain ⟨k, hk, rfl, hn, hb⟩ := hrel
      by_cases hlt : k < zs.length
      · have hltI : (k : Int) < (zs.length : Int) := by omega
        have HN0 := Lib.hid hn.out
        have HB0 := Lib.hid hb.out
        obtain ⟨wo, hwo⟩ : ∃ wo, wo = wr := ⟨_, rfl⟩
        rw [← hwo] at HB0
        rw [← hwo]
        clear hn hb hwo
        go_wp2_with fail
        go_loopw [12] (fun i wi => ∃ j : Nat, j ≤ k + 1 ∧ i = .int .i64 ((j : Int) - 1) ∧ Hid (Q.NoA zs fs S k j) ∧ Hid (Below w2.heap.size w2 wi)) (fun i _ => (intOf i + 1).toNat)
        case atStart => exact ⟨k + 1, Nat.le_refl _, by rw [show ((k + 1 : Nat) : Int) - 1 = (k : Int) by omega], Q.NoA.start, HB0.out⟩
        case round =>
          obtain ⟨j, hj, rfl, ha, hb⟩ := hrel
          obtain ⟨wi, hwi⟩ : ∃ wi, wi = wr := ⟨_, rfl⟩
          rw [← hwi] at hb
          rw [← hwi]
          clear hwi
          rcases Nat.eq_zero_or_pos j with hj0 | hj0
          · subst hj0
            rw [show ((0 : Nat) : Int) - 1 = -1 from rfl]
            go_wp2
            go_roundw
            case rel => exact ⟨k + 1, by omega, by go_num, HN0.out.done ha.out, hb.out⟩
            case measure => simp [intOf]; omega
          · obtain ⟨m, rfl⟩ : ∃ m, j = m + 1 := ⟨j - 1, by omega⟩
            rw [show ((m + 1 : Nat) : Int) - 1 = (m : Int) by omega]
            have hmk : m ≤ k := by omega
            obtain ⟨z, hz⟩ : ∃ z, zs[m]? = some z := ⟨_, List.getElem?_eq_getElem (by omega)⟩
            have hR2 := HR.out.stays (Law.then_ B2.out hb.out)
            obtain ⟨b, off, rfl, hbl, _⟩ := hR2.at_ (ivs_some hz)
            have HW := row_win hR2 m (k + 1) (by omega) (by omega)
            have HD := Lib.hid (difs_any (some ⟨b, off + m, none⟩) (q - m) (Q.win zs m (k + 1)) wi (k + 1 - m) (Q.win_len _ _ _ (by omega)) (by omega) HW)
            have HBt := Lib.hid fun X (h : Below w2.heap.size w2 X) => l4Btw_any A2 n2 fs (m : Int) (k : Int) X (by omega) (HO.out.stays h)
            have hm0 : (0 : Int) ≤ (m : Int) := by omega
            have hmkJ : (m : Int) ≤ (k : Int) + 1 := by omega
            have hkq : (k : Int) + 1 ≤ (q : Int) := by have := HC.out; omega
            have hw2 : IntKind.i64.wrap ((k : Int) + 1) = (k : Int) + 1 := by rw [IntKind.wrap_i64]; omega
            have hktn : ((k : Int) + 1).toNat = k + 1 := by omega
            have hk0 : (0 : Int) ≤ (k : Int) + 1 := by omega
            have hqm : ¬ (q = m) := by have := HC.out; omega
            clear hz hR2 HW
            by_cases hD : Q.dif (Q.win zs m (k + 1)) ≤ S
            · have hDI : ((Q.dif (Q.win zs m (k + 1)) : Nat) : Int) ≤ (S : Int) := by omega
              have HD' := Lib.hid hD
              obtain ⟨D, hDe⟩ : ∃ D, D = Q.dif (Q.win zs m (k + 1)) := ⟨_, rfl⟩
              rw [← hDe] at HD hDI
              clear hDe hD
              go_wp2_with fail
              go_at_call 89
              refine HD.out.mono ?_
              rintro e w3 ⟨B3, d3, rfl, hb3⟩
              have L3 : Hid (Below w2.heap.size w2 w3) := Lib.hid (Law.then_ hb.out hb3)
              clear hb3 hb
              go_wp2_with fail
              go_at_call 90
              refine (HBt.out _ L3.out).mono ?_
              rintro e w4 ⟨rfl, hb4⟩
              have L4 : Hid (Below w2.heap.size w2 w4) := Lib.hid (Law.then_ L3.out hb4)
              clear hb4
              by_cases hB : S < Q.btw fs m k
              · have HE : Hid (Q.fptX zs fs S = (((m : Int), (k : Int)), true)) := Lib.hid (Q.model_yes HN0.out ha.out hmk hlt HD'.out hB)
                have hBI : (S : Int) < ((Q.btw fs m k : Nat) : Int) := by omega
                generalize Q.btw fs m k = N at hBI ⊢
                obtain ⟨c40, c41, f40, f41⟩ := K2.out.below L4.out hs2
                have B4 : Hid (Below w.heap.size w w4) := Lib.hid (Law.then_ B2.out L4.out)
                clear hB ha
                go_wp2
                refine ret_a2 rfl rfl rfl (Blk.set2 ⟨c40, c41, f40, f41⟩ _ _) rfl ⟨by (rw [HE.out]; first | done | rfl), ?_⟩
                exact (B4.out.setCell (p := ⟨w.heap.size, 0, none⟩) (Nat.le_refl _) _).setCell (p := ⟨w.heap.size, 1, none⟩) (Nat.le_refl _) _
              · have HE := Lib.hid (ha.out.next hB)
                have hBI : ¬ (S : Int) < ((Q.btw fs m k : Nat) : Int) := by omega
                generalize Q.btw fs m k = N at hBI ⊢
                have hw3 : IntKind.i64.wrap ((m : Int) - 1) = (m : Int) - 1 := by rw [IntKind.wrap_i64]; omega
                clear hB ha
                go_wp2
                go_roundw
                case rel => exact ⟨m, by omega, rfl, HE.out, L4.out⟩
                case measure => simp [intOf]
            · have hDI : ¬ ((Q.dif (Q.win zs m (k + 1)) : Nat) : Int) ≤ (S : Int) := by omega
              have HE := Lib.hid (HN0.out.over ha.out hmk hD)
              obtain ⟨D, hDe⟩ : ∃ D, D = Q.dif (Q.win zs m (k + 1)) := ⟨_, rfl⟩
              rw [← hDe] at HD hDI
              clear hDe hD ha
              go_wp2_with fail
              go_at_call 89
              refine HD.out.mono ?_
              rintro e w3 ⟨B3, d3, rfl, hb3⟩
              have L3 : Hid (Below w2.heap.size w2 w3) := Lib.hid (Law.then_ hb.out hb3)
              clear hb3 hb
              go_wp2
              go_roundw
              case rel => exact ⟨k + 1, by omega, by go_num, HE.out, L3.out⟩
              case measure => simp [intOf]; omega
      · have hltI : ¬ (k : Int) < (zs.length : Int) := by omega
        have HE : Hid (Q.fptX zs fs S = ((0, 0), false)) := Lib.hid (Q.model_no hn.out (by omega))
        obtain ⟨c40, c41, f40, f41⟩ := K2.out.below hb.out hs2
        have B4 : Hid (Below w.heap.size w wr) := Lib.hid (Law.then_ B2.out hb.out)
        clear hn hb
        go_wp2
        refine ret_a2 rfl rfl rfl (Blk.set2 ⟨c40, c41, f40, f41⟩ _ _) rfl ⟨by (rw [HE.out]; first | done | rfl), ?_⟩
        exact (B4.out.setCell (p := ⟨w.heap.size, 0, none⟩) (Nat.le_refl _) _).setCell (p := ⟨w.heap.size, 1, none⟩) (Nat.le_refl _) _
end Go.Proofs.Ytdjafooabpcbmaa
