/-
  The model's bound of marks.
-/
import Derived.Test.YtklpdfilhgjllaaBnd
import Derived.Test.YtklpdfilhgjllaaPutS
namespace Go.Proofs.Ytklpdfilhgjllaa
open Go.RowKit
set_option linter.unusedVariables false
theorem l1Most_hi (a b : Int) (w : World) (h : a ≤ b) : Calls Try.prog 105 #[.int .i64 a, .int .i64 b] w fun e w' => e = .returned (.int .i64 b) ∧ w' = w := by
  have h' : ¬ b < a := by omega
  go_enter Try.func105, Try.ntmps105
  go_wp2
  go_ret
  exact ⟨rfl, rfl⟩
theorem l1Most_lo (a b : Int) (w : World) (h : b < a) : Calls Try.prog 105 #[.int .i64 a, .int .i64 b] w fun e w' => e = .returned (.int .i64 a) ∧ w' = w := by
  go_enter Try.func105, Try.ntmps105
  go_wp2
  go_ret
  exact ⟨rfl, rfl⟩
namespace Q
/-- The mark at place j. -/
theorem mark_at {N : Nat} {ms : List Int} (h : rises N ms = true) {j : Nat} (hj : j < ms.length) : ∃ m : Nat, ms[j]? = some (m : Int) ∧ m < N := by
  have hx := List.getElem?_eq_getElem hj
  have h1 := rises_item h hx
  simp [okItem] at h1
  obtain ⟨m, hm⟩ := Int.eq_ofNat_of_zero_le h1.1
  exact ⟨m, by rw [hx, hm], by omega⟩
theorem bm_succ (k : Int) (zs : List Int) {ms : List Int} {j m : Nat} (h : ms[j]? = some (m : Int)) : bm k zs ms (j + 1) = bm k zs ms j + (((dif (zs.take (m + 1)) : Nat) : Int) - k) := by
  rw [bm, List.getD_eq_getElem?_getD, h]
  rfl
end Q
set_option maxRecDepth 100000 in
set_option maxHeartbeats 3200000 in
theorem l5Bound_any (k : Int) (A : Option Addr) (c : Nat) (zs : List Int) (B : Option Addr) (d : Nat) (ms : List Int) (w : World) (h1 : 1 ≤ k) (h2 : k ≤ 6) (h3 : zs.length ≤ 60) (hcap : zs.length ≤ c) (hms : Q.rises zs.length ms = true) (hr : Law.Row w A (ivs zs)) (hm : Law.Row w B (ivs ms)) :
    Calls Try.prog 75 #[.int .i64 k, .slice A zs.length c, .slice B ms.length d] w fun e w' => e = .returned (.int .i64 (Q.bnd k zs ms)) ∧ Below w.heap.size w w' := by
  have HR := Lib.hid hr
  have HM := Lib.hid hm
  have HD := Lib.hid (l3Dif_any A c zs w h3 hr)
  have hl := Q.rises_len hms
  have HMS := Lib.hid hms
  have hdl := (Q.diffs_ok zs).2.2
  rw [show Q.bnd k zs ms = Q.bi k zs ms zs.length from rfl]
  clear hr hm hms
  go_enter Try.func75, Try.ntmps75
  go_wp2_with fail
  go_at_call 103
  refine HD.out.mono ?_
  rintro e w1 ⟨A1, c1, rfl, _, _, _, hb1⟩
  have HB1 := Lib.hid hb1
  have HDL := Lib.hid hdl
  clear hb1 hdl HD
  go_wp2_with fail
  go_loopw [7, 8] (fun q i wr => ∃ j : Nat, j ≤ ms.length ∧ i = .int .i64 j ∧ q = .int .i64 (Q.bm k zs ms j) ∧ Hid (Below w.heap.size w wr)) (fun _ i _ => ms.length - (intOf i).toNat)
  case atStart => exact ⟨0, Nat.zero_le _, rfl, by rw [HDL.out]; rfl, HB1.out⟩
  case round =>
    obtain ⟨j, hj, rfl, rfl, hb⟩ := hrel
    have hbd := Q.bm_bd (k := k) (zs := zs) ms h1 h2 h3 j
    by_cases hlt : j < ms.length
    · obtain ⟨m, hmj, hmN⟩ := Q.mark_at HMS.out hlt
      obtain ⟨b', off', rfl, hbl', hc'⟩ := (HM.out.stays hb.out).at_ (ivs_some hmj)
      have HS := Lib.hid (Q.bm_succ k zs hmj)
      obtain ⟨b, off, rfl, hbl, _⟩ := HR.out.at_ (ivs_at hmN)
      have HDC := Lib.hid (l3Dif_any (some ⟨b, off, none⟩) c (zs.take (m + 1)) wr (by rw [List.length_take]; omega) (row_take (HR.out.stays hb.out) (m + 1)))
      have htl : (zs.take (m + 1)).length = m + 1 := by rw [List.length_take]; omega
      rw [htl] at HDC
      have hdl2 := (Q.diffs_ok (zs.take (m + 1))).2.2
      have hdle := Q.dif_le (zs.take (m + 1))
      rw [htl] at hdle
      generalize Q.dif (zs.take (m + 1)) = D at HS hdl2 hdle
      generalize Q.diffs (zs.take (m + 1)) = ds at HDC hdl2
      generalize Q.bm k zs ms j = BM at hbd HS ⊢
      have hltI : (j : Int) < (ms.length : Int) := by omega
      have hmI : (m : Int) < (zs.length : Int) := by omega
      have hmc : (m : Int) + 1 ≤ (c : Int) := by omega
      have hm0 : (0 : Int) ≤ (m : Int) + 1 := by omega
      have HDL2 := Lib.hid hdl2
      have HB := Lib.hid hb.out
      clear hmj hdl2 htl hb
      go_wp2_with fail
      go_at_call 103
      refine HDC.out.mono ?_
      rintro e w2 ⟨A2, c2, rfl, _, _, _, hb2⟩
      have HB2 := Lib.hid (Law.then_ HB.out hb2)
      clear hb2 HDC HB
      have hdsI : (ds.length : Int) = (D : Int) := by rw [HDL2.out]
      have hw1 : IntKind.i64.wrap (BM + (ds.length : Int)) = BM + (ds.length : Int) := IntWalk.i64_in _ (by omega)
      have hw2 : IntKind.i64.wrap (BM + (ds.length : Int) - k) = BM + (ds.length : Int) - k := IntWalk.i64_in _ (by omega)
      have HDI := Lib.hid hdsI
      clear hdsI
      go_wp2
      go_roundw
      case rel => exact ⟨j + 1, by omega, by go_num, by rw [HS.out, ← HDI.out]; congr 1; omega, HB2.out⟩
      case measure => simp [intOf]; omega
    · have hje : j = ms.length := by omega
      have hltI : ¬ (j : Int) < (ms.length : Int) := by omega
      have HBI : Hid (Q.bm k zs ms j = Q.bi k zs ms 0) := by show _ = _; rw [hje]; rfl
      have HI := Lib.hid (l5Intervals_any A c zs wr h3 (HR.out.stays hb.out))
      have HB := Lib.hid hb.out
      clear hje hb
      generalize Q.bm k zs ms j = BM at HBI hbd ⊢
      go_wp2_with fail
      go_at_call 71
      refine HI.out.mono ?_
      rintro e w3 ⟨v3, rfl, ho, hb3⟩
      rw [Q.ivl_len] at ho
      obtain ⟨A3, c3, hv3, _, _, _⟩ : ∃ A c, v3 = .slice A zs.length c ∧ zs.length ≤ c ∧ c ≤ maxLen ∧ (pvs (Q.ivl zs zs.length)).length = zs.length * 2 := by
        rcases ho.2 with ⟨rfl, h0⟩ | ⟨g, cap, cur, rfl, _, _, h1, h2, _, _⟩
        · exact ⟨none, 0, by rw [h0], by omega, Nat.zero_le _, ho.1⟩
        · exact ⟨_, cap, rfl, h1, h2, ho.1⟩
      subst hv3
      have HR3 : Hid (Law.Row2 w3 A3 (Q.ivl zs zs.length)) := row2_own (by exact ho)
      have HB3 := Lib.hid (Law.then_ HB.out hb3)
      clear ho hb3 HB HI
      go_wp2_with fail
      go_loopw [7, 10] (fun q i wr => ∃ j : Nat, j ≤ zs.length ∧ i = .int .i64 j ∧ q = .int .i64 (Q.bi k zs ms j) ∧ Hid (Below w3.heap.size w3 wr)) (fun _ i _ => zs.length - (intOf i).toNat)
      case atStart => exact ⟨0, Nat.zero_le _, rfl, by rw [HBI.out], Below.refl _ _⟩
      case round =>
        obtain ⟨i, hi, rfl, rfl, hbw⟩ := hrel
        have hbd2 := Q.bi_bd (zs := zs) h1 h2 h3 (show ms.length ≤ 60 by omega) i
        by_cases hlt2 : i < zs.length
        · have HS : Hid (Q.bi k zs ms (i + 1) = Q.bi k zs ms i - Q.cost i (Q.nextOf zs i) ms) := rfl
          obtain ⟨b, off, rfl, hbl, hc0, hc1⟩ := (HR3.out.stays hbw.out).at_ (Q.ivl_at hlt2)
          simp only [] at hc0 hc1
          have hltI2 : (i : Int) < (zs.length : Int) := by omega
          have HH := Lib.hid (l5Has_any i (Q.nextOf zs i) B d ms wr (by omega) (HM.out.stays (Law.then_ HB3.out hbw.out)))
          have hcb := Q.cost_bd i (Q.nextOf zs i) ms
          have hcl := Q.cnt_le i (Q.nextOf zs i) ms
          have HCost : Hid (Q.cost i (Q.nextOf zs i) ms = if Q.nextOf zs i < 0 then (Q.cnt i (Q.nextOf zs i) ms : Int) else max 0 ((Q.cnt i (Q.nextOf zs i) ms : Int) - 1)) := rfl
          generalize Q.cost i (Q.nextOf zs i) ms = C at HS hcb HCost
          generalize Q.cnt i (Q.nextOf zs i) ms = q at HH hcl HCost
          generalize Q.nextOf zs i = F at hc0 hc1 HH HCost
          generalize Q.bi k zs ms i = BI at hbd2 HS ⊢
          go_wp2_with fail
          go_at_call 104
          refine HH.out.mono ?_
          rintro e w4 ⟨rfl, hb4⟩
          have hc1' : w4.cell? ⟨b, off + i * 2 + 1, none⟩ = some (.int .i64 F) := (hb4.cell (p := ⟨b, off + i * 2 + 1, none⟩) hbl).trans hc1
          have HB4 := Lib.hid (Law.then_ hbw.out hb4)
          clear hc0 hc1 hb4 hbw HH
          by_cases hF : F < 0
          · have HCE : Hid (C = q) := Lib.hid (HCost.out.trans (if_pos hF))
            have hF' : ¬ 0 ≤ F := by omega
            clear HCost
            go_wp2
            go_roundw
            case rel => exact ⟨i + 1, by omega, by go_num, by rw [HS.out, HCE.out], HB4.out⟩
            case measure => simp [intOf]; omega
          · have HCE0 := HCost.out.trans (if_neg hF)
            have hF' : 0 ≤ F := by omega
            clear HCost
            by_cases hq : q ≤ 1
            · have HCE : Hid (C = 0) := by show _ = _; omega
              have HM1 := Lib.hid (l1Most_hi ((q : Int) - 1) 0 w4 (by omega))
              clear HCE0
              go_wp2_with fail
              go_at_call 105
              refine (HM1.out).mono ?_
              rintro e w' ⟨rfl, hw'⟩
              obtain rfl := hw'.symm
              clear hw'
              go_wp2
              go_roundw
              case rel => exact ⟨i + 1, by omega, by go_num, by rw [HS.out, HCE.out]; first | rfl | simp, HB4.out⟩
              case measure => simp [intOf]; omega
            · have HCE : Hid (C = (q : Int) - 1) := by show _ = _; omega
              have HM1 := Lib.hid (l1Most_lo ((q : Int) - 1) 0 w4 (by omega))
              clear HCE0
              go_wp2_with fail
              go_at_call 105
              refine (HM1.out).mono ?_
              rintro e w' ⟨rfl, hw'⟩
              obtain rfl := hw'.symm
              clear hw'
              go_wp2
              go_roundw
              case rel => exact ⟨i + 1, by omega, by go_num, by rw [HS.out, HCE.out], HB4.out⟩
              case measure => simp [intOf]; omega
        · have hie : i = zs.length := by omega
          have hltI2 : ¬ (i : Int) < (zs.length : Int) := by omega
          have HE := Lib.hid hie
          clear hie
          go_wp2
          go_ret
          exact ⟨by rw [← HE.out]; rfl, Law.then_ HB3.out hbw.out⟩
theorem specBnd_any (k n : Int) (zs ms : List Int) (A B : Option Addr) (c d : Nat) (hl : zs.length ≤ 1048576) (hl' : ms.length ≤ 1048576) (w : World) (hcap : zs.length ≤ c) (hr : Law.Row w A (ivs zs)) (hm : Law.Row w B (ivs ms)) :
    Calls Try.prog 41 #[.int .i64 k, .int .i64 n, .slice A zs.length c, .slice B ms.length d] w fun e w' => e = .returned (.tuple #[.int .i64 (Q.bndQ k n zs ms).1, .bool (Q.bndQ k n zs ms).2]) ∧ Below w.heap.size w w' := by
  have HT := Lib.hid (l5Takes_any k n A c zs w hl hr)
  cases ht : (Q.okS k && Q.good n zs)
  · rw [show Q.bndQ k n zs ms = (0, false) by simp only [Q.bndQ, Q.bndOk, ht]; rfl]
    rw [ht] at HT
    clear hr hm ht
    go_enter Try.func41, Try.ntmps41
    go_wp2_with fail
    go_at_call 49
    refine (HT.out).mono ?_
    rintro e w' ⟨rfl, hw'⟩
    obtain rfl := hw'.symm
    clear hw'
    go_wp2
    go_ret2
    exact ⟨rfl, Below.refl _ _⟩
  · obtain ⟨hk, hg⟩ : Q.okS k = true ∧ Q.good n zs = true := by simpa using ht
    obtain ⟨N, rfl, h1, h2, h3, hx⟩ := Q.good_nat hg
    have hk' := Q.okS_iff.1 hk
    have HMk := Lib.hid (l5Marks_any zs.length A c B d ms w h3 hl' hm)
    rw [ht] at HT
    cases hms : Q.rises zs.length ms
    · rw [show Q.bndQ k N zs ms = (0, false) by simp only [Q.bndQ, Q.bndOk, ht, hms]; rfl]
      rw [hms] at HMk
      clear hr hm ht hk hg hms hx
      go_enter Try.func41, Try.ntmps41
      go_wp2_with fail
      go_at_call 49
      refine (HT.out).mono ?_
      rintro e w' ⟨rfl, hw'⟩
      obtain rfl := hw'.symm
      clear hw'
      go_wp2_with fail
      go_at_call 74
      refine HMk.out.mono ?_
      rintro e w1 ⟨rfl, hb⟩
      have HB := Lib.hid hb
      clear hb
      go_wp2
      go_ret2
      exact ⟨rfl, HB.out⟩
    · rw [show Q.bndQ k N zs ms = (Q.bnd k zs ms, true) by simp only [Q.bndQ, Q.bndOk, ht, hms]; rfl]
      have HBd := Lib.hid fun (W : World) (h : Below w.heap.size w W) => l5Bound_any k A c zs B d ms W hk'.1 hk'.2 h3 hcap hms (hr.stays h) (hm.stays h)
      rw [hms] at HMk
      clear hr hm ht hk hg hms hx
      generalize Q.bnd k zs ms = V at HBd ⊢
      go_enter Try.func41, Try.ntmps41
      go_wp2_with fail
      go_at_call 49
      refine (HT.out).mono ?_
      rintro e w' ⟨rfl, hw'⟩
      obtain rfl := hw'.symm
      clear hw'
      go_wp2_with fail
      go_at_call 74
      refine HMk.out.mono ?_
      rintro e w1 ⟨rfl, hb⟩
      have HB := Lib.hid hb
      clear hb
      go_wp2_with fail
      go_at_call 75
      refine (HBd.out _ HB.out).mono ?_
      rintro e w2 ⟨rfl, hb⟩
      have HB2 := Lib.hid (Law.then_ HB.out hb)
      clear hb
      go_wp2
      go_ret2
      exact ⟨rfl, HB2.out⟩
end Go.Proofs.Ytklpdfilhgjllaa
