/-
  The model's l6Sort.
-/
import Derived.Test.YtphfjhnmnehfkaaSrt
import Derived.Test.YtphfjhnmnehfkaaApp
import Derived.Deep.RegionLaw
namespace Go.Proofs.Ytphfjhnmnehfkaa
open Go.RowKit
set_option linter.unusedVariables false
theorem row_one_new6 (W : World) (x : Int) (t : TypeId) : Law.Row (W.alloc (.cells #[.int .i64 x] t)) (some ⟨W.heap.size, 0, none⟩) (ivs [x]) := fun _ =>
  ⟨W.heap.size, 0, rfl, by simp, fun j u hu => by
    match j, hu with
    | 0, hu => simp at hu; subst hu; exact new_cell W _ t⟩
theorem row_one_far6 {W w' : World} {row : Option Nat} {b : Nat} {x : Int} (hg : W.grownBy w' row) (hne : some b ≠ row) (hb : b < W.heap.size) (hc : W.cell? ⟨b, 0, none⟩ = some (.int .i64 x)) : Law.Row w' (some ⟨b, 0, none⟩) (ivs [x]) := fun _ =>
  ⟨b, 0, rfl, Nat.lt_of_lt_of_le hb hg.size, fun j u hu => by
    match j, hu with
    | 0, hu => simp at hu; subst hu; exact (World.cell?_of_block (a := ⟨b, 0, none⟩) (hg.block b hb hne)).trans hc⟩
set_option maxRecDepth 100000 in
set_option maxHeartbeats 1600000 in
theorem l6Sort_any (A : Option Addr) (c : Nat) (zs : List Int) (w : World) (hn : zs.length ≤ 1000) (hr : Law.Row w A (ivs zs)) :
    Calls Try.prog 94 #[.slice A zs.length c] w (rowSays1 (Q.srt zs) w) := by
  obtain ⟨i0, hi, hz0, hz1, hz2⟩ := info_parts infoInts
  have HRz := Lib.hid fun (W : World) (h : Below w.heap.size w W) => hr.stays h
  have HLe := Lib.hid (Q.srtK_len zs)
  have HNx : Hid (∀ i x, zs[i]? = some x → Q.srtK zs (i + 1) = Q.putS x (Q.srtK zs i)) := fun i x h => by rw [Q.srtK, List.getD_eq_getElem?_getD, h]; rfl
  have HS0 : Hid (Q.srtK zs 0 = []) := rfl
  have HEnd : Hid (Q.srt zs = Q.srtK zs zs.length) := rfl
  rw [HEnd.out]
  generalize Q.srtK zs = K at HLe HNx HS0 ⊢
  have hst : Hid (World.ownsRow (w.alloc (.cells #[] 3)) w.heap.size 3 1 (.slice (some ⟨w.heap.size, 0, none⟩) 0 0) 0 (ivs (K 0))) := by show World.ownsRow _ _ _ _ _ _ _; rw [HS0.out]; exact ownsRow_nil _ _
  have hbs : Hid (Below w.heap.size w (w.alloc (.cells #[] 3))) := (Below.refl _ _).alloc (Nat.le_refl _) _
  clear hr
  go_enter Try.func94, Try.ntmps94
  go_wp2
  go_loopw [3, 4] (fun u q wr => ∃ i : Nat, ∃ g cs, i ≤ zs.length ∧ q = .int .i64 (i : Int) ∧ u = .slice (some ⟨g, 0, none⟩) i cs ∧ Hid (wr.ownsRow w.heap.size 3 1 (.slice (some ⟨g, 0, none⟩) i cs) i (ivs (K i))) ∧ Hid (Below w.heap.size w wr)) (fun _ q _ => zs.length - (intOf q).toNat)
  case atStart => exact ⟨0, _, _, Nat.zero_le _, rfl, rfl, hst.out, hbs.out⟩
  case round =>
    obtain ⟨i, g, cs, hi1, rfl, rfl, hv, hb⟩ := hrel
    clear hst hbs
    by_cases hlt : i < zs.length
    · have hltI : (i : Int) < (zs.length : Int) := by omega
      obtain ⟨x, hx⟩ : ∃ x, zs[i]? = some x := ⟨_, List.getElem?_eq_getElem hlt⟩
      have HN := Lib.hid (HNx.out i x hx)
      have hKl := HLe.out i
      have hcs : i ≤ cs := by
        obtain ⟨A', c', e, h1, _, _⟩ := Law.own_len hv.out
        injection e with _ _ e
        omega
      have HXi := Lib.hid hx
      generalize K i = S at hv HN hKl
      subst hKl
      clear hx
      obtain ⟨w4, hw4⟩ : ∃ w4, w4 = wr := ⟨_, rfl⟩
      rw [← hw4] at hv hb ⊢
      clear hw4
      have HRo := Lib.hid (Law.Row.own hv.out)
      go_wp2
      go_loopw [5] (fun q wq => ∃ k : Nat, k ≤ S.length ∧ q = .int .i64 (k : Int) ∧ Hid (∀ j z, j < k → S[j]? = some z → z ≤ x) ∧ Hid (Below w4.heap.size w4 wq)) (fun q _ => S.length - (intOf q).toNat)
      case atStart => exact ⟨0, Nat.zero_le _, rfl, fun j z hj => by omega, Below.refl _ _⟩
      case round =>
        obtain ⟨k, hk, rfl, hall, hb4⟩ := hrel
        obtain ⟨zb, zo, eA, hzb, hzc⟩ := (HRz.out _ (Law.then_ hb.out hb4.out)).at_ (ivs_some HXi.out)
        subst eA
        obtain ⟨w5, hw5⟩ : ∃ w5, w5 = wr := ⟨_, rfl⟩
        rw [← hw5] at hb4 hzc hzb ⊢
        clear hw5
        have HB5 := Lib.hid (Law.then_ hb.out hb4.out)
        have HRS := Lib.hid (HRo.out.stays hb4.out)
        have hfin : ∀ (hlead : Q.leadS x S = k), True := fun _ => trivial
        by_cases hlt2 : k < S.length
        · have hlt2I : (k : Int) < (S.length : Int) := by omega
          obtain ⟨y, hy⟩ : ∃ y, S[k]? = some y := ⟨_, List.getElem?_eq_getElem hlt2⟩
          obtain ⟨yb, yo, eS, hyb, hyc⟩ := HRS.out.at_ (ivs_some hy)
          cases eS
          rw [Nat.zero_add] at hyc
          by_cases hyx : y ≤ x
          · have hall2 : Hid (∀ j z, j < k + 1 → S[j]? = some z → z ≤ x) := fun j z hj h => by
              by_cases e : j = k
              · subst e; rw [hy] at h; injection h with h; omega
              · exact hall.out j z (by omega) h
            clear hall hy hfin
            go_wp2_with fail
            go_quiet (fail)
            go_wp2
            go_roundw
            case rel => exact ⟨k + 1, by omega, by go_num, hall2.out, Law.up hb4.out _⟩
            case measure => simp [intOf]; omega
          · have HLd := Lib.hid (Q.leadS_of (by omega) hall.out (fun z h => by rw [hy] at h; injection h with h; omega))
            clear hall hy hfin
            go_wp2_with fail
            go_quiet (fail)
            generalize hWW : w5.drewN _ = w6
            have hB6 : Below w5.heap.size w5 w6 := by rw [← hWW]; exact Law.up (Below.refl _ _) _
            have hzc6 : w6.cell? ⟨zb, zo + S.length, none⟩ = some (.int .i64 x) := by rw [← hWW]; exact hzc
            have HRS6 := Lib.hid (HRS.out.stays hB6)
            have hzb6 : zb < w6.heap.size := Nat.lt_of_lt_of_le hzb hB6.size
            have HB56 := Lib.hid (Law.then_ HB5.out hB6)
            clear hWW hB6 hzc hyc HRS HB5 hb4
            clear hzb
            have hkl : (k : Int) ≤ (S.length : Int) := by omega
            have hkcI : (k : Int) ≤ (cs : Int) := by omega
            have hlcI : (S.length : Int) ≤ (cs : Int) := by omega
            have hk0 : (0 : Int) ≤ (k : Int) := by omega
            have HT : Hid (∀ W, Below w6.heap.size w6 W → Law.Row W (some ⟨g, 0, none⟩) (ivs (S.take k))) := fun W h => row_take (HRS6.out.stays h) k
            have HD : Hid (∀ W, Below w6.heap.size w6 W → Law.Row W (if cs = k then some ⟨g, 0, none⟩ else some ⟨g, k, none⟩) (ivs (S.drop k))) := fun W h => by
              have h' := row_drop (HRS6.out.stays h) k cs hcs
              by_cases e : cs = k
              · rw [if_pos e] at h' ⊢
                exact h'
              · rw [if_neg e] at h' ⊢
                simpa [Law.add_plain] using h'
            go_wp2_with fail
            have lt : (S.take k).length = k := by rw [List.length_take]; omega
            have ld : (S.drop k).length = S.length - k := List.length_drop
            have HLT := Lib.hid lt
            have HLD := Lib.hid ld
            clear lt ld
            have E1 := Lib.hid (show World.ownsRow ((w6.alloc (.cells #[] 3)).drew) w6.heap.size 3 1 (.slice (some ⟨w6.heap.size, 0, none⟩) 0 0) 0 (ivs []) from ownsRow_nil w6 _)
            have E2 := Lib.hid (show World.ownsRow (((w6.alloc (.cells #[] 3)).alloc (.cells #[.int .i64 x] 3)).drew) w6.heap.size 3 1 (.slice (some ⟨w6.heap.size, 0, none⟩) 0 0) 0 (ivs []) from (ownsRow_nil w6 _).alloc _)
            have E3 : Hid (World.ownsRow (((w6.alloc (.cells #[.int .i64 x] 3)).alloc (.cells #[] 3)).drew) w6.heap.size 3 1 (.slice (some ⟨w6.heap.size + 1, 0, none⟩) 0 0) 0 (ivs [])) := by
              have h := ownsRow_nil (w6.alloc (.cells #[.int .i64 x] 3)) 3
              rw [show (w6.alloc (.cells #[.int .i64 x] 3)).heap.size = w6.heap.size + 1 from by simp] at h
              exact Lib.hid (own_down h (Nat.le_succ _))
            have D1 := Lib.hid (show Below w6.heap.size w6 (w6.alloc (.cells #[] 3)).drew from ((Below.refl _ _).alloc (Nat.le_refl _) _).drew)
            have D2 := Lib.hid (show Below w6.heap.size w6 ((w6.alloc (.cells #[] 3)).alloc (.cells #[.int .i64 x] 3)).drew from (((Below.refl _ _).alloc (Nat.le_refl _) _).alloc (by simp) _).drew)
            have D3 := Lib.hid (show Below w6.heap.size w6 ((w6.alloc (.cells #[.int .i64 x] 3)).alloc (.cells #[] 3)).drew from (((Below.refl _ _).alloc (Nat.le_refl _) _).alloc (by simp) _).drew)
            go_region_law ((first | (refine step_app (by rfl) (.tmp 30) (.tmp 33) 25 (by rfl) Try.underlying25 hi hz0 hz1 hz2 (by rfl) (v := .slice (some ⟨w6.heap.size, 0, none⟩) 0 0) (n := 0) (zs := []) (by exact E1.out) (A := some ⟨g, 0, none⟩) (m := k) (c := cs) (ns := S.take k) (by rfl) HLT.out (HT.out _ D1.out) (by first | omega | (simp; done) | (simp; omega)) (by omega) ?_; intro v37 w37 ho37 hg37; have B37 := Lib.hid (D1.out.grown hg37 (by first | omega | (simp; done) | (simp; omega)) (fun k e => (E1.out.lt k e).1)); have S37 := B37.out.size; have z37 := (B37.out.cell (p := ⟨zb, zo + S.length, none⟩) hzb6).trans hzc6) | (refine step_app (by rfl) (.tmp 30) (.tmp 33) 25 (by rfl) Try.underlying25 hi hz0 hz1 hz2 (by rfl) (v := .slice (some ⟨w6.heap.size, 0, none⟩) 0 0) (n := 0) (zs := []) (by exact E2.out) (A := some ⟨g, 0, none⟩) (m := k) (c := cs) (ns := S.take k) (by rfl) HLT.out (HT.out _ D2.out) (by first | omega | (simp; done) | (simp; omega)) (by omega) ?_; intro v37 w37 ho37 hg37; have B37 := Lib.hid (D2.out.grown hg37 (by first | omega | (simp; done) | (simp; omega)) (fun k e => (E2.out.lt k e).1)); have S37 := B37.out.size; have z37 := (B37.out.cell (p := ⟨zb, zo + S.length, none⟩) hzb6).trans hzc6) | (refine step_app (by rfl) (.tmp 30) (.tmp 33) 25 (by rfl) Try.underlying25 hi hz0 hz1 hz2 (by rfl) (v := .slice (some ⟨w6.heap.size + 1, 0, none⟩) 0 0) (n := 0) (zs := []) (by exact E3.out) (A := some ⟨g, 0, none⟩) (m := k) (c := cs) (ns := S.take k) (by rfl) HLT.out (HT.out _ D3.out) (by first | omega | (simp; done) | (simp; omega)) (by omega) ?_; intro v37 w37 ho37 hg37; have B37 := Lib.hid (D3.out.grown hg37 (by first | omega | (simp; done) | (simp; omega)) (fun k e => (E3.out.lt k e).1)); have S37 := B37.out.size; have z37 := (B37.out.cell (p := ⟨zb, zo + S.length, none⟩) hzb6).trans hzc6) | (refine step_app (by rfl) (.tmp 34) (.tmp 39) 25 (by rfl) Try.underlying25 hi hz0 hz1 hz2 (by rfl) (v := v37) (n := 0 + k) (zs := [] ++ S.take k) (by exact ho37.alloc _) (A := some ⟨w37.heap.size, 0, none⟩) (m := 1) (c := 1) (ns := [x]) (by rfl) rfl (row_one_new6 w37 x _) (by first | omega | (simp; done) | (simp; omega)) (by omega) ?_; intro v40 w40 ho40 hg40; have B40 := Lib.hid ((B37.out.alloc S37 (.cells #[.int .i64 x] 3)).grown hg40 (by first | omega | (simp; done) | (simp; omega)) (fun k e => (ho37.lt k e).1)); have S40 := B40.out.size) | (refine step_app (by rfl) (.tmp 34) (.tmp 39) 25 (by rfl) Try.underlying25 hi hz0 hz1 hz2 (by rfl) (v := v37) (n := 0 + k) (zs := [] ++ S.take k) (by exact ho37) (A := some ⟨w6.heap.size + 1, 0, none⟩) (m := 1) (c := 1) (ns := [x]) (by rfl) rfl (row_one_far6 hg37 (by simp [Value.ownBlock]) (by first | omega | (simp; done) | (simp; omega)) (by simp)) (by first | omega | (simp; done) | (simp; omega)) (by omega) ?_; intro v40 w40 ho40 hg40; have B40 := Lib.hid (B37.out.grown hg40 (by first | omega | (simp; done) | (simp; omega)) (fun k e => (ho37.lt k e).1)); have S40 := B40.out.size) | (refine step_app (by rfl) (.tmp 34) (.tmp 39) 25 (by rfl) Try.underlying25 hi hz0 hz1 hz2 (by rfl) (v := v37) (n := 0 + k) (zs := [] ++ S.take k) (by exact ho37) (A := some ⟨w6.heap.size, 0, none⟩) (m := 1) (c := 1) (ns := [x]) (by rfl) rfl (row_one_far6 hg37 (by simp [Value.ownBlock]) (by first | omega | (simp; done) | (simp; omega)) (by simp)) (by first | omega | (simp; done) | (simp; omega)) (by omega) ?_; intro v40 w40 ho40 hg40; have B40 := Lib.hid (B37.out.grown hg40 (by first | omega | (simp; done) | (simp; omega)) (fun k e => (ho37.lt k e).1)); have S40 := B40.out.size) | (refine step_app (by rfl) (.tmp 40) (.tmp 43) 25 (by rfl) Try.underlying25 hi hz0 hz1 hz2 (by rfl) (v := v40) (n := 0 + k + 1) (zs := [] ++ S.take k ++ [x]) (by exact ho40) (A := (if cs = k then some ⟨g, 0, none⟩ else some ⟨g, k, none⟩)) (m := S.length - k) (c := cs - k) (ns := S.drop k) (by rfl) HLD.out (HD.out _ B40.out) (by first | omega | (simp; done) | (simp; omega)) (by omega) ?_; intro v44 w44 ho44 hg44; have B44 := Lib.hid (B40.out.grown hg44 (by first | omega | (simp; done) | (simp; omega)) (fun k e => (ho40.lt k e).1)))))
            all_goals
              have HV6 : Hid (w44.ownsRow w.heap.size 3 1 v44 (S.length + 1) (ivs (K (S.length + 1)))) := by
                show World.ownsRow _ _ _ _ _ _ _
                have e : [] ++ S.take k ++ [x] ++ S.drop k = K (S.length + 1) := by rw [HN.out, Q.putS, HLd.out]; simp
                have h := own_down ho44 (base' := w.heap.size) HB56.out.size
                rw [e, show 0 + k + 1 + (S.length - k) = S.length + 1 by omega] at h
                exact h
              have HB6 := Lib.hid (Law.then_ HB56.out B44.out)
              obtain ⟨g6, c6, rfl, _, _⟩ := own_some HV6.out (by omega)
              clear ho44 hg44 hzc6
              go_wp2
              go_roundw
              case rel => exact ⟨S.length + 1, g6, c6, by omega, by go_num, rfl, HV6.out, HB6.out⟩
              case measure => simp [intOf]; omega
        · have hke : k = S.length := by omega
          have hlt2I : ¬ (k : Int) < (S.length : Int) := by omega
          have HLd := Lib.hid (Q.leadS_of hk hall.out (fun z h => by rw [List.getElem?_eq_none (by omega)] at h; cases h))
          clear hall hfin hke
          go_wp2_with fail
          go_quiet (fail)
          generalize hWW : w5.drewN _ = w6
          have hB6 : Below w5.heap.size w5 w6 := by rw [← hWW]; exact Law.up (Below.refl _ _) _
          have hzc6 : w6.cell? ⟨zb, zo + S.length, none⟩ = some (.int .i64 x) := by rw [← hWW]; exact hzc
          have HRS6 := Lib.hid (HRS.out.stays hB6)
          have hzb6 : zb < w6.heap.size := Nat.lt_of_lt_of_le hzb hB6.size
          have HB56 := Lib.hid (Law.then_ HB5.out hB6)
          clear hWW hB6 hzc HRS HB5 hb4
          clear hzb
          have hkl : (k : Int) ≤ (S.length : Int) := by omega
          have hkcI : (k : Int) ≤ (cs : Int) := by omega
          have hlcI : (S.length : Int) ≤ (cs : Int) := by omega
          have hk0 : (0 : Int) ≤ (k : Int) := by omega
          have HT : Hid (∀ W, Below w6.heap.size w6 W → Law.Row W (some ⟨g, 0, none⟩) (ivs (S.take k))) := fun W h => row_take (HRS6.out.stays h) k
          have HD : Hid (∀ W, Below w6.heap.size w6 W → Law.Row W (if cs = k then some ⟨g, 0, none⟩ else some ⟨g, k, none⟩) (ivs (S.drop k))) := fun W h => by
            have h' := row_drop (HRS6.out.stays h) k cs hcs
            by_cases e : cs = k
            · rw [if_pos e] at h' ⊢
              exact h'
            · rw [if_neg e] at h' ⊢
              simpa [Law.add_plain] using h'
          go_wp2_with fail
          have lt : (S.take k).length = k := by rw [List.length_take]; omega
          have ld : (S.drop k).length = S.length - k := List.length_drop
          have HLT := Lib.hid lt
          have HLD := Lib.hid ld
          clear lt ld
          have E1 := Lib.hid (show World.ownsRow ((w6.alloc (.cells #[] 3)).drew) w6.heap.size 3 1 (.slice (some ⟨w6.heap.size, 0, none⟩) 0 0) 0 (ivs []) from ownsRow_nil w6 _)
          have E2 := Lib.hid (show World.ownsRow (((w6.alloc (.cells #[] 3)).alloc (.cells #[.int .i64 x] 3)).drew) w6.heap.size 3 1 (.slice (some ⟨w6.heap.size, 0, none⟩) 0 0) 0 (ivs []) from (ownsRow_nil w6 _).alloc _)
          have E3 : Hid (World.ownsRow (((w6.alloc (.cells #[.int .i64 x] 3)).alloc (.cells #[] 3)).drew) w6.heap.size 3 1 (.slice (some ⟨w6.heap.size + 1, 0, none⟩) 0 0) 0 (ivs [])) := by
            have h := ownsRow_nil (w6.alloc (.cells #[.int .i64 x] 3)) 3
            rw [show (w6.alloc (.cells #[.int .i64 x] 3)).heap.size = w6.heap.size + 1 from by simp] at h
            exact Lib.hid (own_down h (Nat.le_succ _))
          have D1 := Lib.hid (show Below w6.heap.size w6 (w6.alloc (.cells #[] 3)).drew from ((Below.refl _ _).alloc (Nat.le_refl _) _).drew)
          have D2 := Lib.hid (show Below w6.heap.size w6 ((w6.alloc (.cells #[] 3)).alloc (.cells #[.int .i64 x] 3)).drew from (((Below.refl _ _).alloc (Nat.le_refl _) _).alloc (by simp) _).drew)
          have D3 := Lib.hid (show Below w6.heap.size w6 ((w6.alloc (.cells #[.int .i64 x] 3)).alloc (.cells #[] 3)).drew from (((Below.refl _ _).alloc (Nat.le_refl _) _).alloc (by simp) _).drew)
          go_region_law ((first | (refine step_app (by rfl) (.tmp 30) (.tmp 33) 25 (by rfl) Try.underlying25 hi hz0 hz1 hz2 (by rfl) (v := .slice (some ⟨w6.heap.size, 0, none⟩) 0 0) (n := 0) (zs := []) (by exact E1.out) (A := some ⟨g, 0, none⟩) (m := k) (c := cs) (ns := S.take k) (by rfl) HLT.out (HT.out _ D1.out) (by first | omega | (simp; done) | (simp; omega)) (by omega) ?_; intro v37 w37 ho37 hg37; have B37 := Lib.hid (D1.out.grown hg37 (by first | omega | (simp; done) | (simp; omega)) (fun k e => (E1.out.lt k e).1)); have S37 := B37.out.size; have z37 := (B37.out.cell (p := ⟨zb, zo + S.length, none⟩) hzb6).trans hzc6) | (refine step_app (by rfl) (.tmp 30) (.tmp 33) 25 (by rfl) Try.underlying25 hi hz0 hz1 hz2 (by rfl) (v := .slice (some ⟨w6.heap.size, 0, none⟩) 0 0) (n := 0) (zs := []) (by exact E2.out) (A := some ⟨g, 0, none⟩) (m := k) (c := cs) (ns := S.take k) (by rfl) HLT.out (HT.out _ D2.out) (by first | omega | (simp; done) | (simp; omega)) (by omega) ?_; intro v37 w37 ho37 hg37; have B37 := Lib.hid (D2.out.grown hg37 (by first | omega | (simp; done) | (simp; omega)) (fun k e => (E2.out.lt k e).1)); have S37 := B37.out.size; have z37 := (B37.out.cell (p := ⟨zb, zo + S.length, none⟩) hzb6).trans hzc6) | (refine step_app (by rfl) (.tmp 30) (.tmp 33) 25 (by rfl) Try.underlying25 hi hz0 hz1 hz2 (by rfl) (v := .slice (some ⟨w6.heap.size + 1, 0, none⟩) 0 0) (n := 0) (zs := []) (by exact E3.out) (A := some ⟨g, 0, none⟩) (m := k) (c := cs) (ns := S.take k) (by rfl) HLT.out (HT.out _ D3.out) (by first | omega | (simp; done) | (simp; omega)) (by omega) ?_; intro v37 w37 ho37 hg37; have B37 := Lib.hid (D3.out.grown hg37 (by first | omega | (simp; done) | (simp; omega)) (fun k e => (E3.out.lt k e).1)); have S37 := B37.out.size; have z37 := (B37.out.cell (p := ⟨zb, zo + S.length, none⟩) hzb6).trans hzc6) | (refine step_app (by rfl) (.tmp 34) (.tmp 39) 25 (by rfl) Try.underlying25 hi hz0 hz1 hz2 (by rfl) (v := v37) (n := 0 + k) (zs := [] ++ S.take k) (by exact ho37.alloc _) (A := some ⟨w37.heap.size, 0, none⟩) (m := 1) (c := 1) (ns := [x]) (by rfl) rfl (row_one_new6 w37 x _) (by first | omega | (simp; done) | (simp; omega)) (by omega) ?_; intro v40 w40 ho40 hg40; have B40 := Lib.hid ((B37.out.alloc S37 (.cells #[.int .i64 x] 3)).grown hg40 (by first | omega | (simp; done) | (simp; omega)) (fun k e => (ho37.lt k e).1)); have S40 := B40.out.size) | (refine step_app (by rfl) (.tmp 34) (.tmp 39) 25 (by rfl) Try.underlying25 hi hz0 hz1 hz2 (by rfl) (v := v37) (n := 0 + k) (zs := [] ++ S.take k) (by exact ho37) (A := some ⟨w6.heap.size + 1, 0, none⟩) (m := 1) (c := 1) (ns := [x]) (by rfl) rfl (row_one_far6 hg37 (by simp [Value.ownBlock]) (by first | omega | (simp; done) | (simp; omega)) (by simp)) (by first | omega | (simp; done) | (simp; omega)) (by omega) ?_; intro v40 w40 ho40 hg40; have B40 := Lib.hid (B37.out.grown hg40 (by first | omega | (simp; done) | (simp; omega)) (fun k e => (ho37.lt k e).1)); have S40 := B40.out.size) | (refine step_app (by rfl) (.tmp 34) (.tmp 39) 25 (by rfl) Try.underlying25 hi hz0 hz1 hz2 (by rfl) (v := v37) (n := 0 + k) (zs := [] ++ S.take k) (by exact ho37) (A := some ⟨w6.heap.size, 0, none⟩) (m := 1) (c := 1) (ns := [x]) (by rfl) rfl (row_one_far6 hg37 (by simp [Value.ownBlock]) (by first | omega | (simp; done) | (simp; omega)) (by simp)) (by first | omega | (simp; done) | (simp; omega)) (by omega) ?_; intro v40 w40 ho40 hg40; have B40 := Lib.hid (B37.out.grown hg40 (by first | omega | (simp; done) | (simp; omega)) (fun k e => (ho37.lt k e).1)); have S40 := B40.out.size) | (refine step_app (by rfl) (.tmp 40) (.tmp 43) 25 (by rfl) Try.underlying25 hi hz0 hz1 hz2 (by rfl) (v := v40) (n := 0 + k + 1) (zs := [] ++ S.take k ++ [x]) (by exact ho40) (A := (if cs = k then some ⟨g, 0, none⟩ else some ⟨g, k, none⟩)) (m := S.length - k) (c := cs - k) (ns := S.drop k) (by rfl) HLD.out (HD.out _ B40.out) (by first | omega | (simp; done) | (simp; omega)) (by omega) ?_; intro v44 w44 ho44 hg44; have B44 := Lib.hid (B40.out.grown hg44 (by first | omega | (simp; done) | (simp; omega)) (fun k e => (ho40.lt k e).1)))))
          all_goals
            have HV6 : Hid (w44.ownsRow w.heap.size 3 1 v44 (S.length + 1) (ivs (K (S.length + 1)))) := by
              show World.ownsRow _ _ _ _ _ _ _
              have e : [] ++ S.take k ++ [x] ++ S.drop k = K (S.length + 1) := by rw [HN.out, Q.putS, HLd.out]; simp
              have h := own_down ho44 (base' := w.heap.size) HB56.out.size
              rw [e, show 0 + k + 1 + (S.length - k) = S.length + 1 by omega] at h
              exact h
            have HB6 := Lib.hid (Law.then_ HB56.out B44.out)
            obtain ⟨g6, c6, rfl, _, _⟩ := own_some HV6.out (by omega)
            clear ho44 hg44 hzc6
            go_wp2
            go_roundw
            case rel => exact ⟨S.length + 1, g6, c6, by omega, by go_num, rfl, HV6.out, HB6.out⟩
            case measure => simp [intOf]; omega
    · have hie : i = zs.length := by omega
      have hltI : ¬ (i : Int) < (zs.length : Int) := by omega
      have h := hv.out
      rw [hie] at h
      have HH := Lib.hid h
      have HL2 := Lib.hid (HLe.out zs.length)
      have HIE := Lib.hid hie
      clear h hie hv
      go_wp2
      go_ret
      exact ⟨_, rfl, by rw [HL2.out, HIE.out]; exact HH.out, hb.out⟩
end Go.Proofs.Ytphfjhnmnehfkaa
