/-
  The code's PlanCaches.
-/
import Derived.Test.YtklpdfilhgjllaaPlnS
import Derived.Test.YtklpdfilhgjllaaLst
namespace Go.Proofs.Ytklpdfilhgjllaa
open Go.RowKit
set_option linter.unusedVariables false
theorem made_nils (n : Nat) : (madeCells #[Value.slice none 0 0] n).toList = List.replicate n (.slice none 0 0) := by
  apply List.ext_getElem (by simp [size_madeCells])
  intro k h1 h2
  simp [madeCells, Nat.mod_one]
set_option maxHeartbeats 1600000 in
theorem impCaches_any (k n : Int) (zs ps : List Int) (A B : Option Addr) (c d : Nat) (hl : zs.length ≤ 1048576) (hl' : ps.length ≤ 1048576) (w : World) (hr : Law.Row w A (ivs zs)) (hp : Law.Row w B (ivs ps)) :
    Calls Try.prog 22 #[.int .i64 k, .int .i64 n, .slice A zs.length c, .slice B ps.length d] w (nestSays (Q.cachesQ k n zs ps) w) := by
  have HRun := Lib.hid (runPlan_any k n zs ps A B c d hl hl' w hr hp)
  cases hR : Q.runX k n zs ps
  · rw [show Q.cachesQ k n zs ps = ([], false) by simp [Q.cachesQ, hR]]
    rw [hR] at HRun
    clear hr hp hR
    go_enter Try.func22, Try.ntmps22
    go_wp2_with fail
    go_at_call 53
    refine HRun.out.mono ?_
    rintro e w1 ⟨rfl, hb⟩
    have HB := Lib.hid hb
    clear hb
    go_wp2
    go_ret2
    exact ⟨_, [], rfl, own_down (ownsRow_nil _ _) HB.out.size, NOwn.nil _ _, HB.out.alloc HB.out.size _⟩
  · rename_i X
    obtain ⟨i0, hi, hz0, hz1, hz2⟩ := info_parts infoII
    rw [show Q.cachesQ k n zs ps = (X.1.map Q.pl, true) by simp [Q.cachesQ, hR]]
    rw [hR] at HRun
    obtain ⟨us, f⟩ := X
    have HUS : Hid (us.length ≤ 60 ∧ ∀ (i u : Nat), us[i]? = some u → u < 256) := by
      have h := hR
      unfold Q.runX at h
      split at h
      · rename_i hok
        simp only [Q.planOk, Q.planL, Bool.and_eq_true, decide_eq_true_eq] at hok
        obtain ⟨⟨hk, hg⟩, hln, hall⟩ := hok
        obtain ⟨N, rfl, h1, h2, h3, hx⟩ := Q.good_nat hg
        cases he : Q.stB k zs ps zs.length
        · rw [he] at h; cases h
        · rw [he] at h
          injection h with h
          injection h with h4 h5
          subst h4
          refine Lib.hid ⟨by rw [Q.sets_len]; exact h3, fun i u hu => ?_⟩
          have hil := (List.getElem?_eq_some_iff.1 hu).1
          rw [Q.sets_len] at hil
          have hbd := Q.stB_bd (k := k) (zs := zs) (ps := ps) (fun z hz => by
            obtain ⟨j, hj, rfl⟩ := List.mem_iff_getElem.1 hz
            obtain ⟨q, hq1, hq2⟩ := hx j hj
            rw [List.getElem?_eq_getElem hj] at hq1
            injection hq1 with hq1
            omega) (fun l hl => by
            have := (Q.okL_iff (n := (N : Int)) (by omega)).1 (List.all_eq_true.1 hall l hl)
            omega)
          cases he2 : Q.stB k zs ps (i + 1)
          · simp [Q.sets, hil, Q.setAt, he2] at hu
            omega
          · rename_i y
            rw [Q.sets_at (S := y.1) (f := y.2) hil he2] at hu
            injection hu with hu
            have := (hbd (i + 1) y he2).1
            omega
      · cases h
    clear hr hp hR
    go_enter Try.func22, Try.ntmps22
    go_wp2_with fail
    go_at_call 53
    refine HRun.out.mono ?_
    rintro e w1 ⟨v1, rfl, ho, hb⟩
    simp only [] at ho
    obtain ⟨A1, c1, rfl, _, _, _⟩ := Law.own_len ho
    have HU := Lib.hid (Law.Row.own ho)
    have HB1 := Lib.hid hb
    have h60 := HUS.out.1
    clear ho hb
    go_wp2_with (at_make; refine wpList_make_full _ rfl _ _ 30 rfl w1.heap.size 22 i0 (.slice none 0 0) 1 Try.underlying30 hi hz0 hz1 .i64 .i64 _ _ us.length rfl rfl rfl rfl ?c1 ?c2 ?c3 ?_)
    case c1 => rw [hz2]; omega
    case c2 => unfold maxLen; omega
    case c3 => exact Nat.le_refl _
    intro w2 hown hg
    rw [made_nils] at hown
    have HB2 : Hid (Below w1.heap.size w1 w2) := Lib.hid ((Below.refl _ _).grown hg (Nat.le_refl _) (fun k e => by cases e))
    have HO := Lib.hid hown
    clear hown hg
    go_wp2_with fail
    go_loopw [33] (fun i wr => ∃ j : Nat, j ≤ us.length ∧ i = .int .i64 j ∧ Hid (∃ xs, wr.ownsRow w1.heap.size 22 1 (.slice (some ⟨w1.heap.size, 0, none⟩) us.length us.length) us.length (xs ++ List.replicate (us.length - j) (.slice none 0 0)) ∧ NOwn wr w1.heap.size xs ((us.take j).map Q.pl)) ∧ Hid (Below w1.heap.size w1 wr)) (fun i _ => us.length - (intOf i).toNat)
    case atStart => exact ⟨0, Nat.zero_le _, rfl, ⟨[], HO.out, NOwn.nil _ _⟩, HB2.out⟩
    case round =>
      obtain ⟨j, hj, rfl, ho, hb⟩ := hrel
      by_cases hlt : j < us.length
      · have hltI : (j : Int) < (us.length : Int) := by omega
        obtain ⟨u, hu⟩ : ∃ u, us[j]? = some u := ⟨_, List.getElem?_eq_getElem hlt⟩
        have hu8 := HUS.out.2 j u hu
        obtain ⟨b, off, rfl, hbl, hc⟩ := (HU.out.stays hb.out).at_ (uvs_at hu)
        have HL := Lib.hid (list_any u wr hu8)
        have HT : Hid ((us.take (j + 1)).map Q.pl = (us.take j).map Q.pl ++ [Q.pl u]) := by
          obtain ⟨hl, e⟩ := List.getElem?_eq_some_iff.1 hu
          show _ = _
          rw [List.take_succ_eq_append_getElem hl, e]
          simp
        clear hu
        go_wp2_with fail
        go_at_call 54
        refine HL.out.mono ?_
        rintro e w3 ⟨v3, rfl, hx, hb3⟩
        obtain ⟨xs, ho1, hn1⟩ := ho.out
        have ho2 := own_past ho1 hb3
        have hn3 := NOwn.snoc hn1 (hn1.past hb3) hx hb.out.size
        have hxl : xs.length = j := by
          have := hn1.len
          rw [List.length_map, List.length_take] at this
          omega
        have hcO : w3.cell? ⟨w1.heap.size, j, none⟩ = some (.slice none 0 0) := (ho2.cellAt j (by omega)).trans (by
          rw [List.getElem?_append_right (by omega), hxl, Nat.sub_self]
          rw [List.getElem?_replicate]
          rw [if_pos (by omega)])
        have hfO := ho2.frozenAt j
        obtain ⟨A3, c3, rfl, _, _, _⟩ := Law.own_len hx
        have hst := ho2.stored j (.slice A3 (Q.pl u).length c3)
        have he : (xs ++ List.replicate (us.length - j) (Value.slice none 0 0)).set j (.slice A3 (Q.pl u).length c3) = (xs ++ [.slice A3 (Q.pl u).length c3]) ++ List.replicate (us.length - (j + 1)) (.slice none 0 0) := by
          rw [List.set_append, if_neg (by omega), hxl, Nat.sub_self, show us.length - j = (us.length - (j + 1)) + 1 by omega, List.replicate_succ]
          simp
        have ho4 := hst.1
        rw [he] at ho4
        have hn4 := hn3.outer (by decide : (3 : TypeId) ≠ 22) ho2 hst.2
        rw [← HT.out] at hn4
        have HO4 := Lib.hid ho4
        have HN4 := Lib.hid hn4
        have HB4 := Lib.hid ((Law.then_ hb.out hb3).setCell (p := ⟨w1.heap.size, j, none⟩) (Nat.le_refl _) (.slice A3 (Q.pl u).length c3))
        clear ho ho1 hn1 ho2 hn3 hx hst he ho4 hn4 hb3 hb HL hc
        generalize (Q.pl u).length = ln at HO4 HN4 HB4 ⊢
        go_wp2
        go_roundw
        case rel => exact ⟨j + 1, by omega, by go_num, ⟨_, HO4.out, HN4.out⟩, HB4.out⟩
        case measure => simp [intOf]; omega
      · have hje : j = us.length := by omega
        have hltI : ¬ (j : Int) < (us.length : Int) := by omega
        have HJ := Lib.hid hje
        clear hje
        go_wp2
        go_ret2
        obtain ⟨xs, ho1, hn1⟩ := ho.out
        rw [HJ.out, Nat.sub_self, List.replicate_zero, List.append_nil] at ho1
        rw [HJ.out, List.take_length] at hn1
        exact ⟨_, xs, rfl, (by show World.ownsRow _ _ _ _ _ (us.map Q.pl).length _; rw [List.length_map]; exact own_down ho1 HB1.out.size), hn1.down HB1.out.size, Law.then_ HB1.out hb.out⟩
end Go.Proofs.Ytklpdfilhgjllaa
