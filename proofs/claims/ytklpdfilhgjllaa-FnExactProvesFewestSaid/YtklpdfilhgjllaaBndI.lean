/-
  The code's bound of marks.
-/
import Derived.Test.YtklpdfilhgjllaaBndS
import Derived.Test.YtklpdfilhgjllaaDifI
namespace Go.Proofs.Ytklpdfilhgjllaa
open Go.RowKit
set_option linter.unusedVariables false
set_option maxRecDepth 100000 in
set_option maxHeartbeats 3200000 in
theorem impBnd_good (k : Int) (N : Nat) (A : Option Addr) (c : Nat) (zs : List Int) (B : Option Addr) (d : Nat) (ms : List Int) (w : World) (hk : Q.okS k = true) (hg : Q.good N zs = true) (h8 : N ≤ 8) (h3 : zs.length ≤ 60) (hx : ∀ k, k < zs.length → ∃ x : Nat, zs[k]? = some (x : Int) ∧ x < N) (hcap : zs.length ≤ c) (hms : Q.rises zs.length ms = true) (hr : Law.Row w A (ivs zs)) (hm : Law.Row w B (ivs ms)) :
    Calls Try.prog 42 #[.int .i64 k, .int .i64 N, .slice A zs.length c, .slice B ms.length d] w fun e w' => e = .returned (.tuple #[.int .i64 (Q.bnd k zs ms), .bool true]) ∧ Below w.heap.size w w' := by
  obtain ⟨h1, h2⟩ := Q.okS_iff.1 hk
  have hl := Q.rises_len hms
  have HR := Lib.hid hr
  have HM := Lib.hid hm
  have HX : Hid (∀ k, k < zs.length → ∃ x : Nat, zs[k]? = some (x : Int) ∧ x < 8) := fun k h => by obtain ⟨x, h1, h2⟩ := hx k h; exact ⟨x, h1, by omega⟩
  have HD := Lib.hid (difItems_any A c zs w h3 HX.out hr)
  have HP := Lib.hid (isPaging_any k N A c zs w (by omega) hr)
  have HMk := Lib.hid (isMarkList_any zs.length A c B d ms w h3 (by omega) hm)
  have HIv := Lib.hid fun (W : World) (h : Below w.heap.size w W) => impIvl_any N zs A c (by omega) W (hr.stays h)
  rw [show Q.ivlQ N zs = (Q.ivl zs zs.length, true) by simp [Q.ivlQ, hg]] at HIv
  rw [hk, hg] at HP
  rw [hms] at HMk
  have HMS := Lib.hid hms
  rw [show Q.bnd k zs ms = Q.bi k zs ms zs.length from rfl]
  clear hr hm hms hk hg hx
  go_enter Try.func42, Try.ntmps42
  go_wp2_with fail
  go_at_call 56
  refine (HP.out).mono ?_
  rintro e w' ⟨rfl, hw'⟩
  obtain rfl := hw'.symm
  clear hw'
  go_wp2_with fail
  go_at_call 76
  refine (HMk.out).mono ?_
  rintro e w' ⟨rfl, hw'⟩
  obtain rfl := hw'.symm
  clear hw'
  go_wp2_with fail
  go_at_call 77
  refine HD.out.mono ?_
  rintro e w1 ⟨rfl, hb1⟩
  have HB1 := Lib.hid hb1
  clear hb1 HD
  go_wp2_with fail
  go_loopw [10, 33] (fun q i wr => ∃ j : Nat, j ≤ ms.length ∧ i = .int .i64 j ∧ q = .int .i64 (Q.bm k zs ms j) ∧ Hid (Below w.heap.size w wr)) (fun _ i _ => ms.length - (intOf i).toNat)
  case atStart => exact ⟨0, Nat.zero_le _, rfl, rfl, HB1.out⟩
  case round =>
    obtain ⟨j, hj, rfl, rfl, hb⟩ := hrel
    have hbd := Q.bm_bd (k := k) (zs := zs) ms h1 h2 h3 j
    by_cases hlt : j < ms.length
    · obtain ⟨m, hmj, hmN⟩ := Q.mark_at HMS.out hlt
      obtain ⟨b', off', rfl, hbl', hc'⟩ := (HM.out.stays hb.out).at_ (ivs_some hmj)
      have HS := Lib.hid (Q.bm_succ k zs hmj)
      obtain ⟨b, off, rfl, hbl, _⟩ := HR.out.at_ (ivs_at hmN)
      have htl : (zs.take (m + 1)).length = m + 1 := by rw [List.length_take]; omega
      have HDC := Lib.hid (difItems_any (some ⟨b, off, none⟩) c (zs.take (m + 1)) wr (by omega) (fun j hj => by
        obtain ⟨x, hx1, hx2⟩ := HX.out j (by omega)
        exact ⟨x, by rw [List.getElem?_take_of_lt (by omega)]; exact hx1, hx2⟩) (row_take (HR.out.stays hb.out) (m + 1)))
      rw [htl] at HDC
      have hdle := Q.dif_le (zs.take (m + 1))
      rw [htl] at hdle
      generalize Q.dif (zs.take (m + 1)) = D at HS hdle HDC
      generalize Q.bm k zs ms j = BM at hbd HS ⊢
      have hltI : (j : Int) < (ms.length : Int) := by omega
      have hmI : (m : Int) < (zs.length : Int) := by omega
      have hmc : (m : Int) + 1 ≤ (c : Int) := by omega
      have hm0 : (0 : Int) ≤ (m : Int) + 1 := by omega
      have HB := Lib.hid hb.out
      clear hmj htl hb
      go_wp2_with fail
      go_at_call 77
      refine HDC.out.mono ?_
      rintro e w2 ⟨rfl, hb2⟩
      have HB2 := Lib.hid (Law.then_ HB.out hb2)
      clear hb2 HDC HB
      have hw1 : IntKind.i64.wrap ((D : Int) - k) = (D : Int) - k := IntWalk.i64_in _ (by omega)
      have hw2 : IntKind.i64.wrap (BM + ((D : Int) - k)) = BM + ((D : Int) - k) := IntWalk.i64_in _ (by omega)
      go_wp2
      go_roundw
      case rel => exact ⟨j + 1, by omega, by go_num, by rw [HS.out], HB2.out⟩
      case measure => simp [intOf]; omega
    · have hje : j = ms.length := by omega
      have hltI : ¬ (j : Int) < (ms.length : Int) := by omega
      have HBI : Hid (Q.bm k zs ms j = Q.bi k zs ms 0) := by show _ = _; rw [hje]; rfl
      have HI := Lib.hid (HIv.out wr hb.out)
      have HB := Lib.hid hb.out
      clear hje hb HIv
      generalize Q.bm k zs ms j = BM at HBI hbd ⊢
      go_wp2_with fail
      go_at_call 37
      refine HI.out.mono ?_
      rintro e w3 ⟨v3, rfl, ho, hb3⟩
      simp only [Q.ivl_len] at ho
      obtain ⟨A3, c3, hv3, _, _, _⟩ : ∃ A c, v3 = .slice A zs.length c ∧ zs.length ≤ c ∧ c ≤ maxLen ∧ (pvs (Q.ivl zs zs.length)).length = zs.length * 2 := by
        rcases ho.2 with ⟨rfl, h0⟩ | ⟨g, cap, cur, rfl, _, _, h1, h2, _, _⟩
        · exact ⟨none, 0, by rw [h0], by omega, Nat.zero_le _, ho.1⟩
        · exact ⟨_, cap, rfl, h1, h2, ho.1⟩
      subst hv3
      have HR3 : Hid (Law.Row2 w3 A3 (Q.ivl zs zs.length)) := row2_own (by exact ho)
      have HB3 := Lib.hid (Law.then_ HB.out hb3)
      clear ho hb3 HB HI
      go_wp2_with fail
      go_loopw [10, 55] (fun q i wr => ∃ j : Nat, j ≤ zs.length ∧ i = .int .i64 j ∧ q = .int .i64 (Q.bi k zs ms j) ∧ Hid (Below w3.heap.size w3 wr)) (fun _ i _ => zs.length - (intOf i).toNat)
      case atStart => exact ⟨0, Nat.zero_le _, rfl, by rw [HBI.out], Below.refl _ _⟩
      case round =>
        obtain ⟨i, hi, rfl, rfl, hbw⟩ := hrel
        have hbd2 := Q.bi_bd (zs := zs) h1 h2 h3 (show ms.length ≤ 60 by omega) i
        by_cases hlt2 : i < zs.length
        · have HS : Hid (Q.bi k zs ms (i + 1) = Q.bi k zs ms i - Q.cost i (Q.nextOf zs i) ms) := rfl
          obtain ⟨b, off, rfl, hbl, hc0, hc1⟩ := (HR3.out.stays hbw.out).at_ (Q.ivl_at hlt2)
          simp only [] at hc0 hc1
          have hltI2 : (i : Int) < (zs.length : Int) := by omega
          have HH := Lib.hid fun (W : World) (h : Below w3.heap.size w3 W) => marksIn_any i (Q.nextOf zs i) B d ms W (by omega) (HM.out.stays (Law.then_ HB3.out h))
          have HO := Lib.hid fun (W : World) => isOpen_any i (Q.nextOf zs i) W
          have hcb := Q.cost_bd i (Q.nextOf zs i) ms
          have hcl := Q.cnt_le i (Q.nextOf zs i) ms
          have HCost : Hid (Q.cost i (Q.nextOf zs i) ms = if Q.nextOf zs i < 0 then (Q.cnt i (Q.nextOf zs i) ms : Int) else max 0 ((Q.cnt i (Q.nextOf zs i) ms : Int) - 1)) := rfl
          generalize Q.cost i (Q.nextOf zs i) ms = C at HS hcb HCost
          generalize Q.cnt i (Q.nextOf zs i) ms = q at HH hcl HCost
          generalize Q.nextOf zs i = F at hc0 hc1 HH HCost HO
          generalize Q.bi k zs ms i = BI at hbd2 HS ⊢
          have hsz := hbw.out.size
          have HBa : Hid (Below w3.heap.size w3 (wr.alloc (.cells #[.int .i64 i, .int .i64 F] 76))) := Lib.hid (hbw.out.alloc hsz _)
          have HKa : Hid (Blk (wr.alloc (.cells #[.int .i64 i, .int .i64 F] 76)) wr.heap.size (.int .i64 i) (.int .i64 F)) := ⟨by go_simp, by go_simp, by go_simp, by go_simp⟩
          have HHa := Lib.hid (HH.out _ HBa.out)
          have hlta : wr.heap.size < (wr.alloc (.cells #[.int .i64 i, .int .i64 F] 76)).heap.size := by simp
          clear hbw HH
          go_wp2_with fail
          go_at_call 78
          generalize wr.alloc (.cells #[.int .i64 i, .int .i64 F] 76) = wa at HBa HKa HHa hlta ⊢
          refine HHa.out.mono ?_
          rintro e w4 ⟨rfl, hb4⟩
          have HB4 := Lib.hid (Law.then_ HBa.out hb4)
          obtain ⟨k0, k1, _, _⟩ := HKa.out.below hb4 hlta
          clear hb4
          have HO4 := Lib.hid (HO.out w4)
          by_cases hF : F < 0
          · have HCE : Hid (C = q) := Lib.hid (HCost.out.trans (if_pos hF))
            rw [show decide (F < 0) = true from decide_eq_true hF] at HO4
            clear HCost HO
            go_wp2_with fail
            go_at_call 79
            refine HO4.out.mono ?_
            rintro e w5 ⟨rfl, hb5⟩
            have HB5 := Lib.hid (Law.then_ HB4.out hb5)
            clear hb5 k0 k1
            go_wp2
            go_roundw
            case rel => exact ⟨i + 1, by omega, by go_num, by rw [HS.out, HCE.out], HB5.out⟩
            case measure => simp [intOf]; omega
          · have HCE0 := HCost.out.trans (if_neg hF)
            rw [show decide (F < 0) = false from decide_eq_false hF] at HO4
            have HCE : Hid (C = if (1 : Int) < (q : Int) then (q : Int) - 1 else 0) := by show _ = _; rw [HCE0]; split <;> omega
            clear HCost HO HCE0
            go_wp2_with fail
            go_at_call 79
            refine HO4.out.mono ?_
            rintro e w5 ⟨rfl, hb5⟩
            have HB5 := Lib.hid (Law.then_ HB4.out hb5)
            clear hb5 k0 k1
            go_wp2
            go_roundw
            case rel => exact ⟨i + 1, by omega, by go_num, by rw [HS.out, HCE.out], HB5.out⟩
            case measure => simp [intOf]; omega
        · have hie : i = zs.length := by omega
          have hltI2 : ¬ (i : Int) < (zs.length : Int) := by omega
          have HE := Lib.hid hie
          clear hie
          go_wp2
          go_ret2
          exact ⟨by rw [← HE.out]; rfl, Law.then_ HB3.out hbw.out⟩
theorem impBnd_any (k n : Int) (zs ms : List Int) (A B : Option Addr) (c d : Nat) (hl : zs.length ≤ 1048576) (hl' : ms.length ≤ 1048576) (w : World) (hcap : zs.length ≤ c) (hr : Law.Row w A (ivs zs)) (hm : Law.Row w B (ivs ms)) :
    Calls Try.prog 42 #[.int .i64 k, .int .i64 n, .slice A zs.length c, .slice B ms.length d] w fun e w' => e = .returned (.tuple #[.int .i64 (Q.bndQ k n zs ms).1, .bool (Q.bndQ k n zs ms).2]) ∧ Below w.heap.size w w' := by
  have HT := Lib.hid (isPaging_any k n A c zs w hl hr)
  cases ht : (Q.okS k && Q.good n zs)
  · rw [show Q.bndQ k n zs ms = (0, false) by simp only [Q.bndQ, Q.bndOk, ht]; rfl]
    rw [ht] at HT
    clear hr hm ht
    go_enter Try.func42, Try.ntmps42
    go_wp2_with fail
    go_at_call 56
    refine (HT.out).mono ?_
    rintro e w' ⟨rfl, hw'⟩
    obtain rfl := hw'.symm
    clear hw'
    go_wp2
    go_ret2
    exact ⟨rfl, Below.refl _ _⟩
  · obtain ⟨hk, hg⟩ : Q.okS k = true ∧ Q.good n zs = true := by simpa using ht
    obtain ⟨N, rfl, h1, h2, h3, hx⟩ := Q.good_nat hg
    cases hms : Q.rises zs.length ms
    · have HMk := Lib.hid (isMarkList_any zs.length A c B d ms w h3 hl' hm)
      rw [ht] at HT
      rw [show Q.bndQ k N zs ms = (0, false) by simp only [Q.bndQ, Q.bndOk, ht, hms]; rfl]
      rw [hms] at HMk
      clear hr hm ht hk hg hms hx
      go_enter Try.func42, Try.ntmps42
      go_wp2_with fail
      go_at_call 56
      refine (HT.out).mono ?_
      rintro e w' ⟨rfl, hw'⟩
      obtain rfl := hw'.symm
      clear hw'
      go_wp2_with fail
      go_at_call 76
      refine (HMk.out).mono ?_
      rintro e w' ⟨rfl, hw'⟩
      obtain rfl := hw'.symm
      clear hw'
      go_wp2
      go_ret2
      exact ⟨rfl, Below.refl _ _⟩
    · rw [show Q.bndQ k N zs ms = (Q.bnd k zs ms, true) by simp only [Q.bndQ, Q.bndOk, ht, hms]; rfl]
      exact impBnd_good k N A c zs B d ms w hk hg h2 h3 hx hcap hms hr hm
end Go.Proofs.Ytklpdfilhgjllaa
