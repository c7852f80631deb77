/-
  PhasesOf: the model's.
-/
import Derived.Test.YtdjafooabpcbmabPhaI
import Derived.Test.YtdjafooabpcbmabPutS
namespace Go.Proofs.Ytdjafooabpcbmab
open Go.RowKit
set_option linter.unusedVariables false
set_option maxRecDepth 100000 in
set_option maxHeartbeats 3200000 in
theorem l4Phases_any (m : Int) (A : Option Addr) (c : Nat) (zs : List Int) (w : World) (h3 : zs.length ≤ 60) (hr : Law.Row w A (ivs zs)) :
    Calls Try.prog 90 #[.int .i64 m, .slice A zs.length c] w (rowSays1 (Q.phase m zs zs.length).2 w) := by
  obtain ⟨i0, hi, hz0, hz1, hz2⟩ := info_parts infoInts
  have HR := Lib.hid hr
  clear hr
  go_enter Try.func90, Try.ntmps90
  go_wp2_with fail
  go_loopw [5, 6, 7] (fun v u i wr => ∃ k : Nat, k ≤ zs.length ∧ i = .int .i64 k ∧ Hid (∃ B d, u = .slice B (Q.diffs (Q.win zs (Q.phase m zs k).1 k)).length d ∧ (Q.diffs (Q.win zs (Q.phase m zs k).1 k)).length ≤ d ∧ d ≤ maxLen ∧ Law.Row wr B (ivs (Q.diffs (Q.win zs (Q.phase m zs k).1 k)))) ∧ Hid (wr.ownsRow w.heap.size 3 1 v (Q.phase m zs k).2.length (ivs (Q.phase m zs k).2)) ∧ Hid (Below w.heap.size w wr)) (fun _ _ i _ => zs.length - (intOf i).toNat)
  case atStart => exact ⟨0, Nat.zero_le _, rfl, ⟨_, _, rfl, Nat.le_refl _, Nat.zero_le _, fun h => absurd rfl h⟩, (ownsRow_nil _ _).alloc _, ((Below.refl _ _).alloc (Nat.le_refl _) _).alloc (by simp) _⟩
  case round =>
    obtain ⟨k, hk, rfl, hv, ho, hb⟩ := hrel
    obtain ⟨B, d, rfl, hd1, hd2, hB⟩ := hv.out
    clear hv
    by_cases hlt : k < zs.length
    · have hltI : (k : Int) < (zs.length : Int) := by omega
      obtain ⟨x, hx⟩ : ∃ x, zs[k]? = some x := ⟨_, List.getElem?_eq_getElem hlt⟩
      obtain ⟨b, off, rfl, hbl, hc⟩ := (HR.out.stays hb.out).at_ (ivs_some hx)
      obtain ⟨hp1, hp2⟩ := Q.phase_le m zs k
      have HN := fun h => Q.phase_new (m := m) (zs := zs) (k := k) h
      have HO' := fun h => Q.phase_old (m := m) (zs := zs) (k := k) h
      generalize hP : Q.phase m zs k = P at *
      obtain ⟨P1, P2⟩ := P
      simp only [] at *
      have hwl : (Q.win zs P1 k).length ≤ 60 := by simp [Q.win]; omega
      have hdl : (Q.diffs (Q.win zs P1 k)).length ≤ 60 := by rw [(Q.diffs_ok _).2.2]; exact Nat.le_trans (Q.dif_le _) hwl
      have hput : Q.put x (Q.diffs (Q.win zs P1 k)) = Q.diffs (Q.win zs P1 (k + 1)) := by rw [Q.win_snoc hx hp1, Q.diffs_snoc]
      have HPut := Lib.hid (l1Put_any B d (Q.diffs (Q.win zs P1 k)) x wr hdl hd1 hd2 hB)
      rw [hput] at HPut
      have HWo := Lib.hid (Q.win_one hx)
      have HQl : Hid (((Q.diffs (Q.win zs P1 (k + 1))).length : Int) = ((Q.dif (Q.win zs P1 (k + 1)) : Nat) : Int)) := by show _ = _; rw [(Q.diffs_ok _).2.2]
      generalize Q.dif (Q.win zs P1 (k + 1)) = q at *
      generalize hN : Q.diffs (Q.win zs P1 (k + 1)) = nx at *
      generalize Q.diffs (Q.win zs P1 k) = ds at *
      clear hB hP hput hwl
      have hor : (k = 0 ∨ m < (q : Int)) ∨ ¬ (k = 0 ∨ m < (q : Int)) := Classical.em _
      rcases hor with hnew | hold
      · have HT : Hid (Q.phase m zs (k + 1) = (k, P2 ++ [(k : Int)])) := HN hnew
        have HD1 : Hid (Q.diffs (Q.win zs k (k + 1)) = [x]) := by show _ = _; rw [HWo.out]; rfl
        have hq : ((k : Int) = 0) ∨ (((k : Int) == 0) = false ∧ m < (nx.length : Int)) := by
          rcases Nat.eq_zero_or_pos k with h | h
          · exact .inl (by omega)
          · exact .inr ⟨by simp; omega, by rw [HQl.out]; rcases hnew with h' | h'; omega; exact h'⟩
        have HX := Lib.hid hx
        clear hnew HN HO' HQl hx hN HWo
        rcases hq with hk0 | ⟨hk0, hm⟩
        · obtain rfl : k = 0 := by omega
          rw [Nat.add_zero] at hc
          clear hk0
          go_wp2_with fail
          go_at_call 116
          refine HPut.out.mono ?_
          rintro e w3 ⟨B3, d3, rfl, _, _, _, hb3⟩
          have hc3 := (hb3.cell (p := ⟨b, off, none⟩) hbl).trans hc
          have HO3 := Lib.hid (own_past ho.out hb3)
          have HB3 : Hid (Below w.heap.size w w3) := Lib.hid (Law.then_ hb.out hb3)
          have hbl3 : b < w3.heap.size := Nat.lt_of_lt_of_le hbl hb3.size
          clear ho hb hb3 hc
          have hsz9 := (HB3.out).size
          go_wp2_with (at_builtin; refine list_app1 rfl _ _ 22 rfl Try.underlying22 hi hz0 hz1 hz2 rfl ((HO3.out).alloc _) rfl (new_cell (w3) (.int .i64 (((0 : Nat) : Int))) 3) ?ca9a ?ca9b ?_)
          case ca9a => omega
          case ca9b => (show w.heap.size ≤ _; first | omega | (simp; omega))
          intro v9 w9 hm9 hg9 ha9
          have HB9 := Lib.hid (((HB3.out).alloc hsz9 (.cells #[.int .i64 (((0 : Nat) : Int))] 3)).grown hg9 (by simp; omega) (fun j e => Nat.le_trans (by omega) ((HO3.out).lt j e).1))
          rw [← ivs_snoc] at hm9
          have HO9 := Lib.hid hm9
          obtain ⟨b', off', e', _, hc9⟩ := (HR.out.stays HB9.out).at_ (ivs_some HX.out)
          rw [Nat.add_zero] at hc9
          injection e' with e'
          injection e' with e1 e2 _
          subst e1 e2
          clear hm9 hg9 ha9 HO3 HB3 hc3
          go_wp2
          go_roundw
          case rel => exact ⟨1, by omega, rfl, ⟨_, _, by rw [HT.out, HD1.out]; rfl, by rw [HT.out, HD1.out]; exact Nat.le_refl _, by unfold maxLen; omega, by rw [HT.out, HD1.out]; exact row_one_new _ _ _⟩, (by show World.ownsRow _ _ _ _ _ _ _; rw [HT.out]; simp only [List.length_append, List.length_singleton]; exact HO9.out.alloc _), HB9.out.alloc HB9.out.size _⟩
          case measure => simp [intOf]; omega
        · skip
          go_wp2_with fail
          go_at_call 116
          refine HPut.out.mono ?_
          rintro e w3 ⟨B3, d3, rfl, _, _, _, hb3⟩
          have hc3 := (hb3.cell (p := ⟨b, off + k, none⟩) hbl).trans hc
          have HO3 := Lib.hid (own_past ho.out hb3)
          have HB3 : Hid (Below w.heap.size w w3) := Lib.hid (Law.then_ hb.out hb3)
          have hbl3 : b < w3.heap.size := Nat.lt_of_lt_of_le hbl hb3.size
          clear ho hb hb3 hc
          have hsz9 := (HB3.out).size
          go_wp2_with (at_builtin; refine list_app1 rfl _ _ 22 rfl Try.underlying22 hi hz0 hz1 hz2 rfl ((HO3.out).alloc _) rfl (new_cell (w3) (.int .i64 ((k : Int))) 3) ?ca9a ?ca9b ?_)
          case ca9a => omega
          case ca9b => (show w.heap.size ≤ _; first | omega | (simp; omega))
          intro v9 w9 hm9 hg9 ha9
          have HB9 := Lib.hid (((HB3.out).alloc hsz9 (.cells #[.int .i64 ((k : Int))] 3)).grown hg9 (by simp; omega) (fun j e => Nat.le_trans (by omega) ((HO3.out).lt j e).1))
          rw [← ivs_snoc] at hm9
          have HO9 := Lib.hid hm9
          obtain ⟨b', off', e', _, hc9⟩ := (HR.out.stays HB9.out).at_ (ivs_some HX.out)
          injection e' with e'
          injection e' with e1 e2 _
          subst e1 e2
          clear hm9 hg9 ha9 HO3 HB3 hc3
          go_wp2
          go_roundw
          case rel => exact ⟨k + 1, by omega, by go_num, ⟨_, _, by rw [HT.out, HD1.out]; rfl, by rw [HT.out, HD1.out]; exact Nat.le_refl _, by unfold maxLen; omega, by rw [HT.out, HD1.out]; exact row_one_new _ _ _⟩, (by show World.ownsRow _ _ _ _ _ _ _; rw [HT.out]; simp only [List.length_append, List.length_singleton]; exact HO9.out.alloc _), HB9.out.alloc HB9.out.size _⟩
          case measure => simp [intOf]; omega
      · have HT : Hid (Q.phase m zs (k + 1) = (P1, P2)) := HO' hold
        have hk0 : ((k : Int) == 0) = false := by simp; omega
        have hm : ¬ m < (nx.length : Int) := by rw [HQl.out]; exact fun h => hold (.inr h)
        clear hold HN HO' HQl hx HWo
        go_wp2_with fail
        go_at_call 116
        refine HPut.out.mono ?_
        rintro e w3 ⟨B3, d3, rfl, h31, h32, hr3, hb3⟩
        have HO3 := Lib.hid (own_past ho.out hb3)
        have HB3 : Hid (Below w.heap.size w w3) := Lib.hid (Law.then_ hb.out hb3)
        have H31 := Lib.hid h31
        have H32 := Lib.hid h32
        have HR3 := Lib.hid hr3
        have HNn := Lib.hid hN
        clear ho hb hb3 h31 h32 hr3 hN
        go_wp2
        go_roundw
        case rel => exact ⟨k + 1, by omega, by go_num, ⟨_, _, by rw [HT.out, HNn.out], by rw [HT.out, HNn.out]; exact H31.out, H32.out, by rw [HT.out, HNn.out]; exact HR3.out⟩, (by show World.ownsRow _ _ _ _ _ _ _; rw [HT.out]; exact HO3.out), HB3.out⟩
        case measure => simp [intOf]; omega
    · have hke : k = zs.length := by omega
      have hltI : ¬ (k : Int) < (zs.length : Int) := by omega
      have HK := Lib.hid hke
      clear hke hB hd1 hd2
      go_wp2
      go_ret
      have h := ho.out
      rw [HK.out] at h
      exact ⟨_, rfl, h, hb.out⟩
theorem specPha_any (n m : Int) (zs : List Int) (A : Option Addr) (c : Nat) (hl : zs.length ≤ 1048576) (w : World) (hcap : zs.length ≤ c) (hr : Law.Row w A (ivs zs)) :
    Calls Try.prog 36 #[.int .i64 n, .int .i64 m, .slice A zs.length c] w (rowSays (Q.phaQ n m zs) w) := by
  have HQ := Lib.hid (l4Asked_any n 1 m A c zs w hl hr)
  rw [show ((Q.okP 1 && Q.okS m) && Q.good n zs) = (Q.good n zs && Q.okS m) by rw [show Q.okP 1 = true from rfl]; simp [Bool.and_comm]] at HQ
  cases hg : (Q.good n zs && Q.okS m)
  · rw [show Q.phaQ n m zs = ([], false) from if_neg (by simp [hg])]
    rw [hg] at HQ
    clear hr hg
    go_enter Try.func36, Try.ntmps36
    go_wp2_with fail
    go_at_call 89
    refine (HQ.out).mono ?_
    rintro e w' ⟨rfl, hw'⟩
    obtain rfl := hw'.symm
    clear hw'
    go_wp2
    go_ret2
    exact ⟨_, rfl, ownsRow_nil _ _, (Below.refl _ _).alloc (Nat.le_refl _) _⟩
  · rw [show Q.phaQ n m zs = ((Q.phase m zs zs.length).2, true) from if_pos hg]
    rw [hg] at HQ
    have h3 := (Q.good_iff.1 ((Bool.and_eq_true _ _).mp hg).1).2.1
    have HC := Lib.hid (l4Phases_any m A c zs w h3 hr)
    generalize (Q.phase m zs zs.length).2 = X at HC ⊢
    clear hr hg
    go_enter Try.func36, Try.ntmps36
    go_wp2_with fail
    go_at_call 89
    refine (HQ.out).mono ?_
    rintro e w' ⟨rfl, hw'⟩
    obtain rfl := hw'.symm
    clear hw'
    go_wp2_with fail
    go_at_call 90
    refine HC.out.mono ?_
    rintro e w' ⟨v, rfl, ho, hb⟩
    go_wp2
    go_ret2
    exact ⟨_, rfl, ho, hb⟩
namespace LPhasesOf
theorem lenX (n m : Int) (zs : List Int) : (Q.phaQ n m zs).1.length ≤ 1048576 := by
  unfold Q.phaQ
  split
  · rename_i h
    have h3 := (Q.good_iff.1 ((Bool.and_eq_true _ _).mp h).1).2.1
    have := (Q.phase_le m zs zs.length).2
    simp only []
    omega
  · simp
end LPhasesOf
end Go.Proofs.Ytdjafooabpcbmab
