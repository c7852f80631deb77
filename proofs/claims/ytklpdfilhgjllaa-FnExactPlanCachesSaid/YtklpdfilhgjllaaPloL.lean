/-
  The code's planOf over the function literal of LazyPlan$1.
-/
import Derived.Test.YtklpdfilhgjllaaPlo
import Derived.Test.YtklpdfilhgjllaaUse
namespace Go.Proofs.Ytklpdfilhgjllaa
open Go.RowKit
set_option linter.unusedVariables false
namespace PZ
set_option maxRecDepth 100000 in
set_option maxHeartbeats 1600000 in
theorem planOf_any (bx : Nat) (ch : Nat → Nat → Int) (k : Int) (A : Option Addr) (c : Nat) (zs : List Int) (w : World) (h3 : zs.length ≤ 60) (hx : ∀ k, k < zs.length → ∃ x : Nat, zs[k]? = some (x : Int) ∧ x < 8) (hok : Q.ChOk k zs ch) (hr : Law.Row w A (ivs zs))
    (hch : ∀ (i S p : Nat) (W : World), zs[i]? = some (p : Int) → S < 256 → S.testBit p = false → (Q.popB S : Int) = k → Below w.heap.size w W → Calls Try.prog 84 #[.int .i64 i, .int .u64 S, .pointer (some ⟨bx, 0, none⟩)] W fun e w' => e = .returned (.int .i64 (ch i S)) ∧ Below W.heap.size W w') :
    Calls Try.prog 57 #[.int .i64 k, .slice A zs.length c, .func (.func 84) #[] #[.pointer (some ⟨bx, 0, none⟩)]] w (rowSays1 (Q.planC k zs ch) w) := by
  obtain ⟨i0, hi, hz0, hz1, hz2⟩ := info_parts infoInts
  have HR := Lib.hid hr
  have HX := Lib.hid hx
  have HC := Lib.hid hch
  have HOK := Lib.hid hok
  have HPL : Hid (∀ i, i ≤ zs.length → Q.pst k zs ch i < 256) := Lib.hid (Q.pst_lt hok hx)
  clear hr hx hch hok
  go_enter Try.func57, Try.ntmps57
  go_wp2_with (at_make; refine wpList_make_full _ rfl _ _ 22 rfl w.heap.size 3 i0 (.int .i64 0) 1 Try.underlying22 hi hz0 hz1 .i64 .i64 _ _ zs.length rfl rfl rfl rfl ?cm1a ?cm1b ?cm1c ?_)
  case cm1a => rw [hz2]; omega
  case cm1b => unfold maxLen; omega
  case cm1c => first | exact Nat.le_refl _ | omega | (simp; omega)
  intro w1 hm1 hg1
  replace hm1 := made_own (w := w1) hm1
  have HB : Hid (Below w.heap.size w w1) := Lib.hid ((Below.refl _ _).grown hg1 (Nat.le_refl _) (fun k e => by cases e))
  have HO := Lib.hid hm1
  clear hm1 hg1
  go_wp2_with fail
  go_loopw [8, 16] (fun s i wr => ∃ j : Nat, j ≤ zs.length ∧ i = .int .i64 j ∧ s = .int .u64 (Q.pst k zs ch j : Nat) ∧ Hid (wr.ownsRow w.heap.size 3 1 (.slice (some ⟨w.heap.size, 0, none⟩) zs.length zs.length) zs.length (ivs (Q.part (Q.lvAt k zs ch) zs.length j))) ∧ Hid (Below w.heap.size w wr)) (fun _ i _ => zs.length - (intOf i).toNat)
  case atStart => exact ⟨0, Nat.zero_le _, rfl, rfl, by (show World.ownsRow _ _ _ _ _ _ _); rw [Q.part_zero]; exact HO.out, HB.out⟩
  case round =>
    obtain ⟨j, hj, rfl, rfl, ho, hb⟩ := hrel
    by_cases hlt : j < zs.length
    · obtain ⟨p, hpz, hp8⟩ := HX.out j hlt
      obtain ⟨b, off, rfl, hbl, hc⟩ := (HR.out.stays hb.out).at_ (ivs_some hpz)
      have hltI : (j : Int) < (zs.length : Int) := by omega
      have hS := HPL.out j hj
      have hlv := Q.lv_bd HOK.out hpz hS
      have HPS := Lib.hid (Q.pst_succ (k := k) (ch := ch) hpz)
      have HLA := Lib.hid (Q.lvAt_at (k := k) (ch := ch) hpz)
      have hcU := own_cell ho.out (Q.part_at (Q.lvAt k zs ch) hlt)
      have hfU := ho.out.frozenAt j
      have HT := Lib.hid (Q.part_set (Q.lvAt k zs ch) hlt)
      have HP1 := own_put ho.out j (-1)
      have hb1 := hb.out.setCell (p := ⟨w.heap.size, j, none⟩) (Nat.le_refl _) (.int .i64 (-1))
      have hszB := hb.out.size
      have hO1 := Lib.hid HP1
      have HB1 := Lib.hid hb1
      obtain ⟨S, hSe⟩ : ∃ S, S = Q.pst k zs ch j := ⟨_, rfl⟩
      rw [← hSe] at hS hlv HPS HLA ⊢
      have HE := Lib.hid fun (l : Int) (hl : l = Q.lvOf k ch j S p) W => exch_any S p l W hS hp8 (by omega) (by omega)
      have HH := Lib.hid fun W => has_any S p W hS hp8
      have HCn := Lib.hid fun W => count_any S W hS
      have HLV : Hid (Q.lvOf k ch j S p = if S.testBit p = false ∧ (Q.popB S : Int) = k then ch j S else -1) := rfl
      have HCj := Lib.hid fun (W : World) (hbt : S.testBit p = false) (h : (Q.popB S : Int) = k) (hW : Below w.heap.size w W) => HC.out j S p W hpz hS hbt h hW
      clear hpz ho hb HP1 hb1 hSe
      cases hbp : S.testBit p
      · rw [hbp] at HH
        by_cases hP : (Q.popB S : Int) = k
        · have hl : Q.lvOf k ch j S p = ch j S := HLV.out.trans (if_pos ⟨hbp, hP⟩)
          rw [hl] at HPS HLA hlv
          have HE1 := Lib.hid fun W => HE.out (ch j S) hl.symm W
          have HC1 := Lib.hid fun W => HCj.out W hbp hP
          clear HE HCj HLV hl hbp
          generalize ch j S = l at HPS HLA hlv HE1 HC1
          go_wp2_with fail
          go_at_call 91
          refine (HH.out _).mono ?_
          rintro e w' ⟨rfl, hw'⟩
          obtain rfl := hw'.symm
          clear hw'
          go_wp2_with fail
          go_at_call 93
          refine (HCn.out _).mono ?_
          rintro e w' ⟨rfl, hw'⟩
          obtain rfl := hw'.symm
          clear hw'
          go_wp2_with fail
          go_at_call 84
          refine (HC1.out _ HB1.out).mono ?_
          rintro e w2 ⟨rfl, hb2⟩
          have hO2 := own_past hO1.out hb2
          have hcO2 := own_cell hO2 (show ((Q.part (Q.lvAt k zs ch) zs.length j).set j (-1))[j]? = some (-1) by rw [List.getElem?_set_self (by rw [Q.part_len]; exact hlt)])
          have hfO2 := hO2.frozenAt j
          have hP2 := own_put hO2 j l
          rw [List.set_set] at hP2
          have HP2 := Lib.hid hP2
          have HB2 := Lib.hid ((Law.then_ HB1.out hb2).setCell (p := ⟨w.heap.size, j, none⟩) (Nat.le_refl _) (.int .i64 l))
          clear hO2 hP2 hb2 HC1
          go_wp2_with fail
          go_at_call 92
          refine (HE1.out _).mono ?_
          rintro e w' ⟨rfl, hw'⟩
          obtain rfl := hw'.symm
          clear hw'
          go_wp2
          go_roundw
          case rel => exact ⟨j + 1, by omega, by go_num, by rw [HPS.out], (by show World.ownsRow _ _ _ _ _ _ _; rw [← HT.out, HLA.out]; exact HP2.out), HB2.out⟩
          case measure => simp [intOf]; omega
        · skip
          have hl : Q.lvOf k ch j S p = -1 := HLV.out.trans (if_neg (by simp [hbp, hP]))
          rw [hl] at HPS HLA
          have HE1 := Lib.hid fun W => HE.out (-1) hl.symm W
          clear HE HCj HLV hl hbp
          go_wp2_with fail
          go_at_call 91
          refine (HH.out _).mono ?_
          rintro e w' ⟨rfl, hw'⟩
          obtain rfl := hw'.symm
          clear hw'
          go_wp2_with fail
          go_at_call 93
          refine (HCn.out _).mono ?_
          rintro e w' ⟨rfl, hw'⟩
          obtain rfl := hw'.symm
          clear hw'
          go_wp2_with fail
          go_at_call 92
          refine (HE1.out _).mono ?_
          rintro e w' ⟨rfl, hw'⟩
          obtain rfl := hw'.symm
          clear hw'
          go_wp2
          go_roundw
          case rel => exact ⟨j + 1, by omega, by go_num, by rw [HPS.out], (by show World.ownsRow _ _ _ _ _ _ _; rw [← HT.out, HLA.out]; exact hO1.out), HB1.out⟩
          case measure => simp [intOf]; omega
      · rw [hbp] at HH
        have hl : Q.lvOf k ch j S p = -1 := HLV.out.trans (if_neg (by simp [hbp]))
        rw [hl] at HPS HLA
        have HE1 := Lib.hid fun W => HE.out (-1) hl.symm W
        clear HE HCj HLV hl hbp
        go_wp2_with fail
        go_at_call 91
        refine (HH.out _).mono ?_
        rintro e w' ⟨rfl, hw'⟩
        obtain rfl := hw'.symm
        clear hw'
        go_wp2_with fail
        go_at_call 92
        refine (HE1.out _).mono ?_
        rintro e w' ⟨rfl, hw'⟩
        obtain rfl := hw'.symm
        clear hw'
        go_wp2
        go_roundw
        case rel => exact ⟨j + 1, by omega, by go_num, by rw [HPS.out], (by show World.ownsRow _ _ _ _ _ _ _; rw [← HT.out, HLA.out]; exact hO1.out), HB1.out⟩
        case measure => simp [intOf]; omega
    · have hje : j = zs.length := by omega
      have hltI : ¬ (j : Int) < (zs.length : Int) := by omega
      have HF : Hid (Q.part (Q.lvAt k zs ch) zs.length j = Q.planC k zs ch) := by show _ = _; rw [hje]; exact Q.part_all _ _
      clear hje
      go_wp2
      go_ret
      have h := ho.out
      rw [HF.out] at h
      exact ⟨_, rfl, by rw [Q.planC_len]; exact h, hb.out⟩
end PZ
end Go.Proofs.Ytklpdfilhgjllaa
