/-
  WeaveRequests: the code's.
-/
import Derived.Test.YtgnfmbdomofgcabWeave
namespace Go.Proofs.Ytgnfmbdomofgcab
open Go.RowKit
set_option linter.unusedVariables false
theorem row_two_new (W : World) (x y : Int) (t : TypeId) : Law.Row ((W.alloc (.cells #[.int .i64 x, .int .i64 y] t)).drew) (some ⟨W.heap.size, 0, none⟩) (ivs [x, y]) := fun _ =>
  ⟨W.heap.size, 0, rfl, by simp, fun j u hu => by
    match j, hu with
    | 0, hu => simp at hu; subst hu; simp
    | 1, hu => simp at hu; subst hu; simp⟩
set_option maxRecDepth 100000 in
set_option maxHeartbeats 3200000 in
theorem impWeave_good (n : Int) (a b : List Int) (A B : Option Addr) (c d : Nat) (w : World) (hg : Q.good n a = true) (hg' : Q.good n b = true) (hs6 : a.length + b.length ≤ 60) (hca : a.length ≤ c) (hcb : b.length ≤ d) (hr : Law.Row w A (ivs a)) (hs : Law.Row w B (ivs b)) :
    Calls Try.prog 27 #[.int .i64 n, .slice A a.length c, .slice B b.length d] w (rowSays (Q.weave a b, true) w) := by
  obtain ⟨i0, hi, hz0, hz1, hz2⟩ := info_parts infoInts
  have HQ := Lib.hid (impIsReq_any n A c a w (by omega) hr)
  have HQ2 := Lib.hid (impIsReq_any n B d b w (by omega) hs)
  have HL := Lib.hid (isLength_any ((a.length : Int) + (b.length : Int)) w)
  rw [show (decide ((0 : Int) ≤ (a.length : Int) + (b.length : Int)) && decide ((a.length : Int) + (b.length : Int) ≤ 60)) = true by simp; omega] at HL
  rw [hg] at HQ
  rw [hg'] at HQ2
  have hsI : (a.length : Int) + (b.length : Int) ≤ 60 := by omega
  have HR := Lib.hid hr
  have HS := Lib.hid hs
  have HM := Lib.hid (Q.weave_min a b)
  have HLL := Lib.hid (Q.weave_len a b)
  have hcaI : (a.length : Int) ≤ (c : Int) := by omega
  have hcbI : (b.length : Int) ≤ (d : Int) := by omega
  have HCA := Lib.hid hca
  have HCB := Lib.hid hcb
  clear hr hs hg hg' hca hcb
  by_cases hab : a.length ≤ b.length
  · have hmin : min a.length b.length = a.length := by omega
    rw [hmin] at HM
    clear hmin
    have habI : (a.length : Int) ≤ (b.length : Int) := by omega
    have hsa : a.length ≤ a.length := by omega
    have hsb : a.length ≤ b.length := by omega
    have hsaI : (a.length : Int) ≤ (a.length : Int) := by omega
    have hsbI : (a.length : Int) ≤ (b.length : Int) := by omega
    have hscI : (a.length : Int) ≤ (c : Int) := by omega
    have hsdI : (a.length : Int) ≤ (d : Int) := by omega
    go_enter Try.func27, Try.ntmps27
    go_wp2_with fail
    go_at_call 30
    refine (HQ.out).mono ?_
    rintro e w' ⟨rfl, hw'⟩
    obtain rfl := hw'.symm
    clear hw'
    go_wp2_with fail
    go_at_call 30
    refine (HQ2.out).mono ?_
    rintro e w' ⟨rfl, hw'⟩
    obtain rfl := hw'.symm
    clear hw'
    go_wp2_with fail
    go_at_call 38
    refine (HL.out).mono ?_
    rintro e w' ⟨rfl, hw'⟩
    obtain rfl := hw'.symm
    clear hw'
    go_wp2_with (at_make; refine wpList_make_own _ rfl _ _ 22 rfl w.heap.size 3 i0 (.int .i64 0) 1 Try.underlying22 hi hz0 hz1 .i64 .i64 _ (a.length + b.length) rfl rfl rfl ?m1 ?m2 ?m3 ?_)
    case m1 => rw [hz2]; omega
    case m2 => unfold maxLen; omega
    case m3 => exact Nat.le_refl _
    intro w1 hm1 hg1
    have HB := Lib.hid ((Below.refl _ _).grown hg1 (Nat.le_refl _) (fun k e => by cases e) : Below w.heap.size w w1)
    have HO := Lib.hid hm1
    clear hm1 hg1
    go_wp2_with fail
    go_loopw [8, 43] (fun u i wr => ∃ k : Nat, k ≤ a.length ∧ i = .int .i64 k ∧ Hid (wr.ownsRow w.heap.size 3 1 u (k + k) (ivs (Q.weaveK a b k))) ∧ Hid (Below w.heap.size w wr)) (fun _ i _ => a.length - (intOf i).toNat)
    case atStart => exact ⟨0, Nat.zero_le _, rfl, HO.out, HB.out⟩
    case round =>
      obtain ⟨k, hk, rfl, ho, hb⟩ := hrel
      by_cases hlt : k < a.length
      · have hltI : (k : Int) < (a.length : Int) := by omega
        have hlaI : (k : Int) < (a.length : Int) := by omega
        have hlbI : (k : Int) < (b.length : Int) := by omega
        have hk0 : (0 : Int) ≤ (k : Int) := by omega
        obtain ⟨x, hx⟩ : ∃ x, a[k]? = some x := ⟨_, List.getElem?_eq_getElem (by omega)⟩
        obtain ⟨b1, off1, rfl, hbl1, HC1⟩ := row_ever HR.out hx
        obtain ⟨y, hy⟩ : ∃ y, b[k]? = some y := ⟨_, List.getElem?_eq_getElem (by omega)⟩
        obtain ⟨b2, off2, rfl, hbl2, HC2⟩ := row_ever HS.out hy
        have HT := Lib.hid (Q.weaveK_both hx hy)
        clear hx hy
        have hcell1 := HC1.out _ hb.out
        have hcell2 := HC2.out _ hb.out
        have hszw := hb.out.size
        obtain ⟨ws, hws⟩ : ∃ ws, ws = Q.weaveK a b k := ⟨_, rfl⟩
        rw [← hws] at ho HT
        clear hws
        have hown := ho.out
        go_wp2_with fail
        go_region_law ((refine step_app (by rfl) (.tmp 46) (.tmp 55) 22 (by rfl) Try.underlying22 hi hz0 hz1 hz2 (by rfl) (v := u8) (n := k + k) (zs := ws) (by exact (hown.alloc _).drew) (A := some ⟨wr.heap.size, 0, none⟩) (m := 2) (c := 2) (ns := [x, y]) (by rfl) rfl (row_two_new wr x y _) (by simp; omega) (by omega) ?_; intro v9 w9 hm9 hgrow))
        all_goals
          have HB9 : Hid (Below w.heap.size w w9) := Lib.hid (((hb.out.alloc hszw _).drew).grown hgrow (by simp; omega) (fun j e => (ho.out.lt j e).1))
          have HO9 : Hid (w9.ownsRow w.heap.size 3 1 v9 (k + 1 + (k + 1)) (ivs (Q.weaveK a b (k + 1)))) := by
            rw [HT.out, show k + 1 + (k + 1) = k + k + 2 by omega, List.append_assoc]
            exact Lib.hid hm9
          clear hgrow hm9 ho hb hown hcell1 hcell2
          go_simp
          go_wp2
          go_roundw
          case rel => exact ⟨k + 1, by omega, by go_num, HO9.out, HB9.out⟩
          case measure => simp [intOf]; omega
      · have hke : k = a.length := by omega
        subst hke
        have hltI : ¬ (a.length : Int) < (a.length : Int) := by omega
        have hszw := hb.out.size
        obtain ⟨ws, hws⟩ : ∃ ws, ws = Q.weaveK a b a.length := ⟨_, rfl⟩
        rw [← hws] at ho HM
        clear hws
        obtain ⟨da, hda⟩ : ∃ da, da = a.drop a.length := ⟨_, rfl⟩
        have hdal : da.length = 0 := by rw [hda, List.length_drop]; first | done | omega
        obtain ⟨db, hdb⟩ : ∃ db, db = b.drop a.length := ⟨_, rfl⟩
        have hdbl : db.length = (b.length - a.length) := by rw [hdb, List.length_drop]; first | done | omega
        rw [← hda] at HM
        rw [← hdb] at HM
        have HDA : Hid (∀ W, Below w.heap.size w W → Law.Row W (if c = a.length then A else A.map (·.add a.length)) (ivs da)) := fun W h => by rw [hda]; exact row_drop (HR.out.stays h) a.length c HCA.out
        have HDB : Hid (∀ W, Below w.heap.size w W → Law.Row W (if d = a.length then B else B.map (·.add a.length)) (ivs db)) := fun W h => by rw [hdb]; exact row_drop (HS.out.stays h) a.length d HCB.out
        have HNA : Hid (da.length = 0 → ∀ W A', Law.Row W A' (ivs da)) := fun h W A' => by rw [List.eq_nil_of_length_eq_zero h]; exact fun hh => absurd rfl hh
        have HNB : Hid (db.length = 0 → ∀ W A', Law.Row W A' (ivs db)) := fun h W A' => by rw [List.eq_nil_of_length_eq_zero h]; exact fun hh => absurd rfl hh
        have HAL := Lib.hid hdal
        have HBL := Lib.hid hdbl
        clear hda hdb hdal hdbl
        by_cases hcs : c = a.length
        · subst hcs
          by_cases hds : d = a.length
          · subst hds
            have HRA : Hid (∀ W A', Law.Row W A' (ivs da)) := HNA.out HAL.out
            have HRB : Hid (∀ W, Below w.heap.size w W → Law.Row W B (ivs db)) := fun W h => by have h := HDB.out W h; rwa [if_pos rfl] at h
            clear HDA HDB HNA HNB
            go_wp2_with (at_builtin; refine list_app rfl (.tmp 58) (.tmp 61) 22 rfl Try.underlying22 hi hz0 hz1 hz2 rfl ho.out (A := _) (m := 0) (c := _) (ns := da) rfl HAL.out (by exact HRA.out _ _) (by omega) (by omega) ?_)
            all_goals
              intro v2 w2 hm2 hg2
              have HB2 := Lib.hid (hb.out.grown hg2 hszw (fun k e => (ho.out.lt k e).1))
              have hszw2 := HB2.out.size
              obtain ⟨X2, hX2⟩ : ∃ X2, X2 = ws ++ da := ⟨_, rfl⟩
              have H2 : Hid (w2.ownsRow w.heap.size 3 1 v2 (a.length + a.length + 0) (ivs X2)) := by
                rw [hX2]
                exact Lib.hid (by simpa [ivs] using hm2)
              have HX2 := Lib.hid hX2
              clear hm2 hg2 hX2
              go_wp2_with (at_builtin; refine list_app rfl (.tmp 63) (.tmp 66) 22 rfl Try.underlying22 hi hz0 hz1 hz2 rfl H2.out (A := _) (m := (b.length - a.length)) (c := _) (ns := db) rfl HBL.out (by exact HRB.out _ HB2.out) (by omega) (by omega) ?_)
              all_goals
                intro v3 w3 hm3 hg3
                have HB3 := Lib.hid (HB2.out.grown hg3 hszw2 (fun k e => (H2.out.lt k e).1))
                have H3 : Hid (w3.ownsRow w.heap.size 3 1 v3 (a.length + b.length) (ivs (Q.weave a b))) := by
                  rw [HM.out, ← HX2.out, show a.length + b.length = a.length + a.length + 0 + (b.length - a.length) by omega]
                  exact Lib.hid (by simpa [ivs] using hm3)
                clear hm3 hg3
                go_wp2
                all_goals
                  go_ret2
                  refine ⟨v3, rfl, ?_, HB3.out⟩
                  simp only [HLL.out]
                  exact H3.out
          · skip
            have HRA : Hid (∀ W A', Law.Row W A' (ivs da)) := HNA.out HAL.out
            have HRB : Hid (∀ W, Below w.heap.size w W → Law.Row W (Option.map (fun x => x.add a.length) B) (ivs db)) := fun W h => by have h := HDB.out W h; rwa [if_neg hds] at h
            clear HDA HDB HNA HNB
            go_wp2_with (at_builtin; refine list_app rfl (.tmp 58) (.tmp 61) 22 rfl Try.underlying22 hi hz0 hz1 hz2 rfl ho.out (A := _) (m := 0) (c := _) (ns := da) rfl HAL.out (by exact HRA.out _ _) (by omega) (by omega) ?_)
            all_goals
              intro v2 w2 hm2 hg2
              have HB2 := Lib.hid (hb.out.grown hg2 hszw (fun k e => (ho.out.lt k e).1))
              have hszw2 := HB2.out.size
              obtain ⟨X2, hX2⟩ : ∃ X2, X2 = ws ++ da := ⟨_, rfl⟩
              have H2 : Hid (w2.ownsRow w.heap.size 3 1 v2 (a.length + a.length + 0) (ivs X2)) := by
                rw [hX2]
                exact Lib.hid (by simpa [ivs] using hm2)
              have HX2 := Lib.hid hX2
              clear hm2 hg2 hX2
              go_wp2_with (at_builtin; refine list_app rfl (.tmp 63) (.tmp 66) 22 rfl Try.underlying22 hi hz0 hz1 hz2 rfl H2.out (A := _) (m := (b.length - a.length)) (c := _) (ns := db) rfl HBL.out (by exact HRB.out _ HB2.out) (by omega) (by omega) ?_)
              all_goals
                intro v3 w3 hm3 hg3
                have HB3 := Lib.hid (HB2.out.grown hg3 hszw2 (fun k e => (H2.out.lt k e).1))
                have H3 : Hid (w3.ownsRow w.heap.size 3 1 v3 (a.length + b.length) (ivs (Q.weave a b))) := by
                  rw [HM.out, ← HX2.out, show a.length + b.length = a.length + a.length + 0 + (b.length - a.length) by omega]
                  exact Lib.hid (by simpa [ivs] using hm3)
                clear hm3 hg3
                go_wp2
                all_goals
                  go_ret2
                  refine ⟨v3, rfl, ?_, HB3.out⟩
                  simp only [HLL.out]
                  exact H3.out
        · skip
          by_cases hds : d = a.length
          · subst hds
            have HRA : Hid (∀ W A', Law.Row W A' (ivs da)) := HNA.out HAL.out
            have HRB : Hid (∀ W, Below w.heap.size w W → Law.Row W B (ivs db)) := fun W h => by have h := HDB.out W h; rwa [if_pos rfl] at h
            clear HDA HDB HNA HNB
            go_wp2_with (at_builtin; refine list_app rfl (.tmp 58) (.tmp 61) 22 rfl Try.underlying22 hi hz0 hz1 hz2 rfl ho.out (A := _) (m := 0) (c := _) (ns := da) rfl HAL.out (by exact HRA.out _ _) (by omega) (by omega) ?_)
            all_goals
              intro v2 w2 hm2 hg2
              have HB2 := Lib.hid (hb.out.grown hg2 hszw (fun k e => (ho.out.lt k e).1))
              have hszw2 := HB2.out.size
              obtain ⟨X2, hX2⟩ : ∃ X2, X2 = ws ++ da := ⟨_, rfl⟩
              have H2 : Hid (w2.ownsRow w.heap.size 3 1 v2 (a.length + a.length + 0) (ivs X2)) := by
                rw [hX2]
                exact Lib.hid (by simpa [ivs] using hm2)
              have HX2 := Lib.hid hX2
              clear hm2 hg2 hX2
              go_wp2_with (at_builtin; refine list_app rfl (.tmp 63) (.tmp 66) 22 rfl Try.underlying22 hi hz0 hz1 hz2 rfl H2.out (A := _) (m := (b.length - a.length)) (c := _) (ns := db) rfl HBL.out (by exact HRB.out _ HB2.out) (by omega) (by omega) ?_)
              all_goals
                intro v3 w3 hm3 hg3
                have HB3 := Lib.hid (HB2.out.grown hg3 hszw2 (fun k e => (H2.out.lt k e).1))
                have H3 : Hid (w3.ownsRow w.heap.size 3 1 v3 (a.length + b.length) (ivs (Q.weave a b))) := by
                  rw [HM.out, ← HX2.out, show a.length + b.length = a.length + a.length + 0 + (b.length - a.length) by omega]
                  exact Lib.hid (by simpa [ivs] using hm3)
                clear hm3 hg3
                go_wp2
                all_goals
                  go_ret2
                  refine ⟨v3, rfl, ?_, HB3.out⟩
                  simp only [HLL.out]
                  exact H3.out
          · skip
            have HRA : Hid (∀ W A', Law.Row W A' (ivs da)) := HNA.out HAL.out
            have HRB : Hid (∀ W, Below w.heap.size w W → Law.Row W (Option.map (fun x => x.add a.length) B) (ivs db)) := fun W h => by have h := HDB.out W h; rwa [if_neg hds] at h
            clear HDA HDB HNA HNB
            go_wp2_with (at_builtin; refine list_app rfl (.tmp 58) (.tmp 61) 22 rfl Try.underlying22 hi hz0 hz1 hz2 rfl ho.out (A := _) (m := 0) (c := _) (ns := da) rfl HAL.out (by exact HRA.out _ _) (by omega) (by omega) ?_)
            all_goals
              intro v2 w2 hm2 hg2
              have HB2 := Lib.hid (hb.out.grown hg2 hszw (fun k e => (ho.out.lt k e).1))
              have hszw2 := HB2.out.size
              obtain ⟨X2, hX2⟩ : ∃ X2, X2 = ws ++ da := ⟨_, rfl⟩
              have H2 : Hid (w2.ownsRow w.heap.size 3 1 v2 (a.length + a.length + 0) (ivs X2)) := by
                rw [hX2]
                exact Lib.hid (by simpa [ivs] using hm2)
              have HX2 := Lib.hid hX2
              clear hm2 hg2 hX2
              go_wp2_with (at_builtin; refine list_app rfl (.tmp 63) (.tmp 66) 22 rfl Try.underlying22 hi hz0 hz1 hz2 rfl H2.out (A := _) (m := (b.length - a.length)) (c := _) (ns := db) rfl HBL.out (by exact HRB.out _ HB2.out) (by omega) (by omega) ?_)
              all_goals
                intro v3 w3 hm3 hg3
                have HB3 := Lib.hid (HB2.out.grown hg3 hszw2 (fun k e => (H2.out.lt k e).1))
                have H3 : Hid (w3.ownsRow w.heap.size 3 1 v3 (a.length + b.length) (ivs (Q.weave a b))) := by
                  rw [HM.out, ← HX2.out, show a.length + b.length = a.length + a.length + 0 + (b.length - a.length) by omega]
                  exact Lib.hid (by simpa [ivs] using hm3)
                clear hm3 hg3
                go_wp2
                all_goals
                  go_ret2
                  refine ⟨v3, rfl, ?_, HB3.out⟩
                  simp only [HLL.out]
                  exact H3.out
  · have hmin : min a.length b.length = b.length := by omega
    rw [hmin] at HM
    clear hmin
    have habI : (b.length : Int) < (a.length : Int) := by omega
    have habI2 : ¬ (a.length : Int) ≤ (b.length : Int) := by omega
    have habI3 : (b.length : Int) ≤ (a.length : Int) := by omega
    have hsa : b.length ≤ a.length := by omega
    have hsb : b.length ≤ b.length := by omega
    have hsaI : (b.length : Int) ≤ (a.length : Int) := by omega
    have hsbI : (b.length : Int) ≤ (b.length : Int) := by omega
    have hscI : (b.length : Int) ≤ (c : Int) := by omega
    have hsdI : (b.length : Int) ≤ (d : Int) := by omega
    go_enter Try.func27, Try.ntmps27
    go_wp2_with fail
    go_at_call 30
    refine (HQ.out).mono ?_
    rintro e w' ⟨rfl, hw'⟩
    obtain rfl := hw'.symm
    clear hw'
    go_wp2_with fail
    go_at_call 30
    refine (HQ2.out).mono ?_
    rintro e w' ⟨rfl, hw'⟩
    obtain rfl := hw'.symm
    clear hw'
    go_wp2_with fail
    go_at_call 38
    refine (HL.out).mono ?_
    rintro e w' ⟨rfl, hw'⟩
    obtain rfl := hw'.symm
    clear hw'
    go_wp2_with (at_make; refine wpList_make_own _ rfl _ _ 22 rfl w.heap.size 3 i0 (.int .i64 0) 1 Try.underlying22 hi hz0 hz1 .i64 .i64 _ (a.length + b.length) rfl rfl rfl ?m1x ?m2x ?m3x ?_)
    case m1x => rw [hz2]; omega
    case m2x => unfold maxLen; omega
    case m3x => exact Nat.le_refl _
    intro w1 hm1 hg1
    have HB := Lib.hid ((Below.refl _ _).grown hg1 (Nat.le_refl _) (fun k e => by cases e) : Below w.heap.size w w1)
    have HO := Lib.hid hm1
    clear hm1 hg1
    go_wp2_with fail
    go_loopw [8, 43] (fun u i wr => ∃ k : Nat, k ≤ b.length ∧ i = .int .i64 k ∧ Hid (wr.ownsRow w.heap.size 3 1 u (k + k) (ivs (Q.weaveK a b k))) ∧ Hid (Below w.heap.size w wr)) (fun _ i _ => b.length - (intOf i).toNat)
    case atStart => exact ⟨0, Nat.zero_le _, rfl, HO.out, HB.out⟩
    case round =>
      obtain ⟨k, hk, rfl, ho, hb⟩ := hrel
      by_cases hlt : k < b.length
      · have hltI : (k : Int) < (b.length : Int) := by omega
        have hlaI : (k : Int) < (a.length : Int) := by omega
        have hlbI : (k : Int) < (b.length : Int) := by omega
        have hk0 : (0 : Int) ≤ (k : Int) := by omega
        obtain ⟨x, hx⟩ : ∃ x, a[k]? = some x := ⟨_, List.getElem?_eq_getElem (by omega)⟩
        obtain ⟨b1, off1, rfl, hbl1, HC1⟩ := row_ever HR.out hx
        obtain ⟨y, hy⟩ : ∃ y, b[k]? = some y := ⟨_, List.getElem?_eq_getElem (by omega)⟩
        obtain ⟨b2, off2, rfl, hbl2, HC2⟩ := row_ever HS.out hy
        have HT := Lib.hid (Q.weaveK_both hx hy)
        clear hx hy
        have hcell1 := HC1.out _ hb.out
        have hcell2 := HC2.out _ hb.out
        have hszw := hb.out.size
        obtain ⟨ws, hws⟩ : ∃ ws, ws = Q.weaveK a b k := ⟨_, rfl⟩
        rw [← hws] at ho HT
        clear hws
        have hown := ho.out
        go_wp2_with fail
        go_region_law ((refine step_app (by rfl) (.tmp 46) (.tmp 55) 22 (by rfl) Try.underlying22 hi hz0 hz1 hz2 (by rfl) (v := u8) (n := k + k) (zs := ws) (by exact (hown.alloc _).drew) (A := some ⟨wr.heap.size, 0, none⟩) (m := 2) (c := 2) (ns := [x, y]) (by rfl) rfl (row_two_new wr x y _) (by simp; omega) (by omega) ?_; intro v9 w9 hm9 hgrow))
        all_goals
          have HB9 : Hid (Below w.heap.size w w9) := Lib.hid (((hb.out.alloc hszw _).drew).grown hgrow (by simp; omega) (fun j e => (ho.out.lt j e).1))
          have HO9 : Hid (w9.ownsRow w.heap.size 3 1 v9 (k + 1 + (k + 1)) (ivs (Q.weaveK a b (k + 1)))) := by
            rw [HT.out, show k + 1 + (k + 1) = k + k + 2 by omega, List.append_assoc]
            exact Lib.hid hm9
          clear hgrow hm9 ho hb hown hcell1 hcell2
          go_simp
          go_wp2
          go_roundw
          case rel => exact ⟨k + 1, by omega, by go_num, HO9.out, HB9.out⟩
          case measure => simp [intOf]; omega
      · have hke : k = b.length := by omega
        subst hke
        have hltI : ¬ (b.length : Int) < (b.length : Int) := by omega
        have hszw := hb.out.size
        obtain ⟨ws, hws⟩ : ∃ ws, ws = Q.weaveK a b b.length := ⟨_, rfl⟩
        rw [← hws] at ho HM
        clear hws
        obtain ⟨da, hda⟩ : ∃ da, da = a.drop b.length := ⟨_, rfl⟩
        have hdal : da.length = (a.length - b.length) := by rw [hda, List.length_drop]; first | done | omega
        obtain ⟨db, hdb⟩ : ∃ db, db = b.drop b.length := ⟨_, rfl⟩
        have hdbl : db.length = 0 := by rw [hdb, List.length_drop]; first | done | omega
        rw [← hda] at HM
        rw [← hdb] at HM
        have HDA : Hid (∀ W, Below w.heap.size w W → Law.Row W (if c = b.length then A else A.map (·.add b.length)) (ivs da)) := fun W h => by rw [hda]; exact row_drop (HR.out.stays h) b.length c HCA.out
        have HDB : Hid (∀ W, Below w.heap.size w W → Law.Row W (if d = b.length then B else B.map (·.add b.length)) (ivs db)) := fun W h => by rw [hdb]; exact row_drop (HS.out.stays h) b.length d HCB.out
        have HNA : Hid (da.length = 0 → ∀ W A', Law.Row W A' (ivs da)) := fun h W A' => by rw [List.eq_nil_of_length_eq_zero h]; exact fun hh => absurd rfl hh
        have HNB : Hid (db.length = 0 → ∀ W A', Law.Row W A' (ivs db)) := fun h W A' => by rw [List.eq_nil_of_length_eq_zero h]; exact fun hh => absurd rfl hh
        have HAL := Lib.hid hdal
        have HBL := Lib.hid hdbl
        clear hda hdb hdal hdbl
        have hcs : ¬ c = b.length := by have := HCA.out; omega
        by_cases hds : d = b.length
        · subst hds
          have HRA : Hid (∀ W, Below w.heap.size w W → Law.Row W (Option.map (fun x => x.add b.length) A) (ivs da)) := fun W h => by have h := HDA.out W h; rwa [if_neg hcs] at h
          have HRB : Hid (∀ W A', Law.Row W A' (ivs db)) := HNB.out HBL.out
          clear HDA HDB HNA HNB
          go_wp2_with (at_builtin; refine list_app rfl (.tmp 58) (.tmp 61) 22 rfl Try.underlying22 hi hz0 hz1 hz2 rfl ho.out (A := _) (m := (a.length - b.length)) (c := _) (ns := da) rfl HAL.out (by exact HRA.out _ hb.out) (by omega) (by omega) ?_)
          all_goals
            intro v2 w2 hm2 hg2
            have HB2 := Lib.hid (hb.out.grown hg2 hszw (fun k e => (ho.out.lt k e).1))
            have hszw2 := HB2.out.size
            obtain ⟨X2, hX2⟩ : ∃ X2, X2 = ws ++ da := ⟨_, rfl⟩
            have H2 : Hid (w2.ownsRow w.heap.size 3 1 v2 (b.length + b.length + (a.length - b.length)) (ivs X2)) := by
              rw [hX2]
              exact Lib.hid (by simpa [ivs] using hm2)
            have HX2 := Lib.hid hX2
            clear hm2 hg2 hX2
            go_wp2_with (at_builtin; refine list_app rfl (.tmp 63) (.tmp 66) 22 rfl Try.underlying22 hi hz0 hz1 hz2 rfl H2.out (A := _) (m := 0) (c := _) (ns := db) rfl HBL.out (by exact HRB.out _ _) (by omega) (by omega) ?_)
            all_goals
              intro v3 w3 hm3 hg3
              have HB3 := Lib.hid (HB2.out.grown hg3 hszw2 (fun k e => (H2.out.lt k e).1))
              have H3 : Hid (w3.ownsRow w.heap.size 3 1 v3 (a.length + b.length) (ivs (Q.weave a b))) := by
                rw [HM.out, ← HX2.out, show a.length + b.length = b.length + b.length + (a.length - b.length) + 0 by omega]
                exact Lib.hid (by simpa [ivs] using hm3)
              clear hm3 hg3
              go_wp2
              all_goals
                go_ret2
                refine ⟨v3, rfl, ?_, HB3.out⟩
                simp only [HLL.out]
                exact H3.out
        · skip
          have HRA : Hid (∀ W, Below w.heap.size w W → Law.Row W (Option.map (fun x => x.add b.length) A) (ivs da)) := fun W h => by have h := HDA.out W h; rwa [if_neg hcs] at h
          have HRB : Hid (∀ W A', Law.Row W A' (ivs db)) := HNB.out HBL.out
          clear HDA HDB HNA HNB
          go_wp2_with (at_builtin; refine list_app rfl (.tmp 58) (.tmp 61) 22 rfl Try.underlying22 hi hz0 hz1 hz2 rfl ho.out (A := _) (m := (a.length - b.length)) (c := _) (ns := da) rfl HAL.out (by exact HRA.out _ hb.out) (by omega) (by omega) ?_)
          all_goals
            intro v2 w2 hm2 hg2
            have HB2 := Lib.hid (hb.out.grown hg2 hszw (fun k e => (ho.out.lt k e).1))
            have hszw2 := HB2.out.size
            obtain ⟨X2, hX2⟩ : ∃ X2, X2 = ws ++ da := ⟨_, rfl⟩
            have H2 : Hid (w2.ownsRow w.heap.size 3 1 v2 (b.length + b.length + (a.length - b.length)) (ivs X2)) := by
              rw [hX2]
              exact Lib.hid (by simpa [ivs] using hm2)
            have HX2 := Lib.hid hX2
            clear hm2 hg2 hX2
            go_wp2_with (at_builtin; refine list_app rfl (.tmp 63) (.tmp 66) 22 rfl Try.underlying22 hi hz0 hz1 hz2 rfl H2.out (A := _) (m := 0) (c := _) (ns := db) rfl HBL.out (by exact HRB.out _ _) (by omega) (by omega) ?_)
            all_goals
              intro v3 w3 hm3 hg3
              have HB3 := Lib.hid (HB2.out.grown hg3 hszw2 (fun k e => (H2.out.lt k e).1))
              have H3 : Hid (w3.ownsRow w.heap.size 3 1 v3 (a.length + b.length) (ivs (Q.weave a b))) := by
                rw [HM.out, ← HX2.out, show a.length + b.length = b.length + b.length + (a.length - b.length) + 0 by omega]
                exact Lib.hid (by simpa [ivs] using hm3)
              clear hm3 hg3
              go_wp2
              all_goals
                go_ret2
                refine ⟨v3, rfl, ?_, HB3.out⟩
                simp only [HLL.out]
                exact H3.out
set_option maxHeartbeats 1600000 in
theorem impWeave_any (n : Int) (a b : List Int) (A : Option Addr) (c : Nat) (hl : a.length ≤ 1048576) (B : Option Addr) (d : Nat) (hl' : b.length ≤ 1048576) (w : World) (hca : a.length ≤ c) (hr : Law.Row w A (ivs a)) (hcb : b.length ≤ d) (hs : Law.Row w B (ivs b)) :
    Calls Try.prog 27 #[.int .i64 n, .slice A a.length c, .slice B b.length d] w (rowSays (Q.weaveQ n a b) w) := by
  have HQ := Lib.hid (impIsReq_any n A c a w hl hr)
  have HQ2 := Lib.hid (impIsReq_any n B d b w hl' hs)
  have HL := Lib.hid (isLength_any ((a.length : Int) + (b.length : Int)) w)
  have hla : (a.length : Int) ≤ 1048576 := by omega
  have hlb : (b.length : Int) ≤ 1048576 := by omega
  cases hg : Q.good n a
  · rw [show Q.weaveQ n a b = ([], false) from if_neg (by simp [Q.weaveOk, hg])]
    rw [hg] at HQ
    clear hr hs hg
    go_enter Try.func27, Try.ntmps27
    go_wp2_with fail
    go_at_call 30
    refine (HQ.out).mono ?_
    rintro e w' ⟨rfl, hw'⟩
    obtain rfl := hw'.symm
    clear hw'
    go_wp2
    go_ret2
    exact ⟨_, rfl, ownsRow_nil _ _, (Below.refl _ _).alloc (Nat.le_refl _) _⟩
  · cases hg' : Q.good n b
    · rw [show Q.weaveQ n a b = ([], false) from if_neg (by simp [Q.weaveOk, hg'])]
      rw [hg] at HQ
      rw [hg'] at HQ2
      clear hr hs hg hg'
      go_enter Try.func27, Try.ntmps27
      go_wp2_with fail
      go_at_call 30
      refine (HQ.out).mono ?_
      rintro e w' ⟨rfl, hw'⟩
      obtain rfl := hw'.symm
      clear hw'
      go_wp2_with fail
      go_at_call 30
      refine (HQ2.out).mono ?_
      rintro e w' ⟨rfl, hw'⟩
      obtain rfl := hw'.symm
      clear hw'
      go_wp2
      go_ret2
      exact ⟨_, rfl, ownsRow_nil _ _, (Below.refl _ _).alloc (Nat.le_refl _) _⟩
    · by_cases hs6 : a.length + b.length ≤ 60
      · rw [show Q.weaveQ n a b = (Q.weave a b, true) from if_pos (by simp [Q.weaveOk, hg, hg', hs6])]
        exact impWeave_good n a b A B c d w hg hg' hs6 hca hcb hr hs
      · rw [show Q.weaveQ n a b = ([], false) from if_neg (by simp [Q.weaveOk, hs6])]
        rw [hg] at HQ
        rw [hg'] at HQ2
        have hsI : ¬ (a.length : Int) + (b.length : Int) ≤ 60 := by omega
        rw [show (decide ((0 : Int) ≤ (a.length : Int) + (b.length : Int)) && decide ((a.length : Int) + (b.length : Int) ≤ 60)) = false by rw [Bool.eq_false_iff]; simp; omega] at HL
        clear hr hs hg hg'
        go_enter Try.func27, Try.ntmps27
        go_wp2_with fail
        go_at_call 30
        refine (HQ.out).mono ?_
        rintro e w' ⟨rfl, hw'⟩
        obtain rfl := hw'.symm
        clear hw'
        go_wp2_with fail
        go_at_call 30
        refine (HQ2.out).mono ?_
        rintro e w' ⟨rfl, hw'⟩
        obtain rfl := hw'.symm
        clear hw'
        go_wp2_with fail
        go_at_call 38
        refine (HL.out).mono ?_
        rintro e w' ⟨rfl, hw'⟩
        obtain rfl := hw'.symm
        clear hw'
        go_wp2
        go_ret2
        exact ⟨_, rfl, ownsRow_nil _ _, (Below.refl _ _).alloc (Nat.le_refl _) _⟩
end Go.Proofs.Ytgnfmbdomofgcab
