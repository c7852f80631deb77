/-
  ConfigsOf: the model's.
-/
import Derived.Test.YtndjpkeenbbgiaaCfg
import Derived.Test.YtndjpkeenbbgiaaAppB
namespace Go.Proofs.Ytndjpkeenbbgiaa
open Go.RowKit
set_option linter.unusedVariables false
theorem Q.ext_next' (l : List Int) {f p : Nat} (h : f ≤ p) : Q.extK l f (p + 1 - f) = Q.extK l f (p - f) ++ [l ++ [(p : Int)]] := by
  rw [show p + 1 - f = (p - f) + 1 by omega, Q.extK, show f + (p - f) = p by omega]
set_option maxHeartbeats 800000 in
theorem l6Cfg_good (n k : Nat) (w : World) (h1 : 1 ≤ n) (h6 : n ≤ 6) (k1 : 1 ≤ k) (k3 : k ≤ 3) :
    Calls Try.prog 67 #[.int .i64 n, .int .i64 k] w fun e w' => ∃ v xs, e = .returned v ∧ w'.ownsRow w.heap.size 22 1 v (Q.cfg n k).length xs ∧ NOwn w' w.heap.size xs (Q.cfg n k) ∧ Below w.heap.size w w' := by
  obtain ⟨i0, hi, hz0, hz1, hz2⟩ := info_parts infoInts
  obtain ⟨i1, hj', hq0, hq1, hq2⟩ := info_parts infoII
  have n1I : (1 : Int) ≤ (n : Int) := by omega
  have n6I : (n : Int) ≤ 6 := by omega
  have k1I : (1 : Int) ≤ (k : Int) := by omega
  have k3I : (k : Int) ≤ 3 := by omega
  go_enter Try.func67, Try.ntmps67
  go_wp2
  have hst : Hid (∃ xs, World.ownsRow ((w.alloc (.cells #[] 3)).alloc (.cells #[.slice (some ⟨w.heap.size, 0, none⟩) 0 0] 22)) w.heap.size 22 1 (.slice (some ⟨w.heap.size + 1, 0, none⟩) 1 1) (Q.cfg n 0).length xs ∧ NOwn ((w.alloc (.cells #[] 3)).alloc (.cells #[.slice (some ⟨w.heap.size, 0, none⟩) 0 0] 22)) w.heap.size xs (Q.cfg n 0)) := by
    have h := own_lit1 (w.alloc (.cells #[] 3)) (.slice (some ⟨w.heap.size, 0, none⟩) 0 0) 22
    rw [show (w.alloc (.cells #[] 3)).heap.size = w.heap.size + 1 by simp] at h
    refine ⟨_, own_down h (Nat.le_succ _), ?_⟩
    exact NOwn.snoc (w0 := w) (NOwn.nil _ _) (NOwn.nil _ _) ((ownsRow_nil w 3).alloc _) (Nat.le_refl _)
  have hbs : Hid (Below w.heap.size w ((w.alloc (.cells #[] 3)).alloc (.cells #[.slice (some ⟨w.heap.size, 0, none⟩) 0 0] 22))) := ((Below.refl _ _).alloc (Nat.le_refl _) _).alloc (by simp) _
  go_loopw [5, 6] (fun u i wr => ∃ j : Nat, j ≤ k ∧ i = .int .i64 j ∧ Hid (∃ xs, wr.ownsRow w.heap.size 22 1 u (Q.cfg n j).length xs ∧ NOwn wr w.heap.size xs (Q.cfg n j)) ∧ Hid (Below w.heap.size w wr)) (fun _ i _ => k - (intOf i).toNat)
  case atStart => exact ⟨0, Nat.zero_le _, rfl, hst, hbs⟩
  case round =>
    obtain ⟨i, hi3, rfl, hv, hb⟩ := hrel
    by_cases hlt : i < k
    · have hltI : (i : Int) < (k : Int) := by omega
      obtain ⟨xs, ho, hn⟩ := hv.out
      obtain ⟨A, c, rfl, _, _, _⟩ := Law.own_len ho
      have HOk := Lib.hid (Q.cfg_ok h1 i)
      have hL36 : (Q.cfg n i).length ≤ 216 := Q.cfg_few h6 (by omega)
      have hL6 : n * (Q.cfg n i).length ≤ 1296 := Nat.le_trans (Nat.mul_le_mul h6 hL36) (by decide)
      have HNext : Hid (Q.cfg n (i + 1) = Q.lvlK n (Q.cfg n i) (Q.cfg n i).length) := rfl
      have HLen := Lib.hid (Q.lvlK_len n (Q.cfg n i))
      have HP := Lib.hid (NRow.of ho hn)
      clear hv ho hn hst hbs
      generalize Q.cfg n i = L at *
      obtain ⟨w2, hw2⟩ : ∃ w2, w2 = wr := ⟨_, rfl⟩
      rw [← hw2] at hb HP ⊢
      clear hw2
      go_wp2
      have HO0 := Lib.hid (ownsRow_nil w2 22)
      have HB0 : Hid (Below w2.heap.size w2 (w2.alloc (.cells #[] 22))) := (Below.refl _ _).alloc (Nat.le_refl _) _
      go_loopw [7, 8] (fun v q wq => ∃ j : Nat, j ≤ L.length ∧ q = .int .i64 j ∧ Hid (∃ ys, wq.ownsRow w2.heap.size 22 1 v (Q.lvlK n L j).length ys ∧ NOwn wq w2.heap.size ys (Q.lvlK n L j)) ∧ Hid (Below w2.heap.size w2 wq)) (fun _ q _ => L.length - (intOf q).toNat)
      case atStart => exact ⟨0, Nat.zero_le _, rfl, ⟨[], HO0.out, NOwn.nil _ _⟩, HB0.out⟩
      case round =>
        obtain ⟨j, hj, rfl, hv, hb2⟩ := hrel
        by_cases hlt2 : j < L.length
        · have hltI2 : (j : Int) < (L.length : Int) := by omega
          obtain ⟨l, hl⟩ : ∃ l, L[j]? = some l := ⟨_, List.getElem?_eq_getElem hlt2⟩
          obtain ⟨hli, f, hf, hfn⟩ := HOk.out l (List.mem_of_getElem? hl)
          obtain ⟨x, hx⟩ : ∃ x, xs[j]? = some x := ⟨_, List.getElem?_eq_getElem (by rw [HP.out.len]; exact hlt2)⟩
          obtain ⟨B, cB, rfl, hrB0⟩ := HP.out.at_ j x l hx hl
          have hrB := hrB0.stays hb2.out
          obtain ⟨b, off, rfl, hbl, hc⟩ := (HP.out.stays hb2.out).row.at_ hx
          have HT := Lib.hid (Q.lvl_next (n := n) hl)
          have HE : Hid (Q.extN n l = Q.extK l f (n - f)) := by show _ = _; rw [Q.extN, hf]; rfl
          have HEL := Lib.hid (Q.extK_len l f)
          have hlen := HLen.out j
          have hlen2 : n * j ≤ 1296 := Nat.le_trans (Nat.mul_le_mul_left n hj) hL6
          obtain ⟨w3, hw3⟩ : ∃ w3, w3 = wr := ⟨_, rfl⟩
          rw [← hw3] at hb2 hrB hv hc hbl ⊢
          clear hw3
          have hcase : (l.length = 0 ∧ f = 0) ∨ (0 < l.length ∧ ∃ b' off', B = some ⟨b', off', none⟩ ∧ w3.cell? ⟨b', off' + (l.length - 1), none⟩ = some (.int .i64 (f : Int))) := by
            rcases Nat.eq_zero_or_pos l.length with h0 | h0
            · refine .inl ⟨h0, ?_⟩
              rw [Q.lastC, List.length_eq_zero_iff.1 h0] at hf
              simp at hf
              omega
            · have hlx : l[l.length - 1]? = some (f : Int) := by
                rw [Q.lastC, List.getD_eq_getElem?_getD, List.getElem?_eq_getElem (by omega)] at hf
                rw [List.getElem?_eq_getElem (by omega)]
                simpa using hf
              obtain ⟨b', off', e, _, hc'⟩ := hrB.at_ (ivs_some hlx)
              exact .inr ⟨h0, b', off', e, hc'⟩
          generalize Q.lvlK n L j = P at hv HT hlen
          have HRB := Lib.hid hrB0
          have hl3 : l.length ≤ 3 := by omega
          have HXJ := Lib.hid hx
          clear hl hx hf hrB hrB0
          have hstart : Hid (∃ ys, w3.ownsRow w2.heap.size 22 1 u7 (P.length + (f - f)) ys ∧ NOwn w3 w2.heap.size ys (P ++ Q.extK l f (f - f))) := by
            show ∃ ys, _
            rw [Nat.sub_self]
            simpa [Q.extK] using hv.out
          have hl1 : (0 : Int) ≤ (l.length : Int) - 1 ∨ l.length = 0 := by omega
          have HLI := Lib.hid hli
          clear hv hli
          rcases hcase with ⟨h0, rfl⟩ | ⟨h0, b', off', rfl, hcl⟩
          · have hl0 : ¬ (0 : Int) < (i : Int) := by have := HLI.out; omega
            clear hl1 h0
            go_wp2
            go_loopw [7, 10] (fun v q wq => ∃ p : Nat, 0 ≤ p ∧ p ≤ n ∧ q = .int .i64 p ∧ Hid (∃ ys, wq.ownsRow w2.heap.size 22 1 v (P.length + (p - 0)) ys ∧ NOwn wq w2.heap.size ys (P ++ Q.extK l 0 (p - 0))) ∧ Hid (Below w2.heap.size w2 wq)) (fun _ q _ => n - (intOf q).toNat)
            case atStart => exact ⟨0, Nat.le_refl _, by omega, rfl, hstart, hb2⟩
            case round =>
              obtain ⟨p, hp0, hp1, rfl, hv, hb3⟩ := hrel
              by_cases hlt3 : p < n
              · have hltI3 : (p : Int) < (n : Int) := by omega
                have HNx := Lib.hid (Q.ext_next' l hp0)
                obtain ⟨w5, hw5⟩ : ∃ w5, w5 = wr := ⟨_, rfl⟩
                rw [← hw5] at hb3 hv ⊢
                clear hw5 hstart
                have b5 : Below w5.heap.size w5 (w5.alloc (.cells #[] 3)) := (Below.refl _ _).alloc (Nat.le_refl _) _
                have HRl := Lib.hid ((HRB.out.stays hb3.out).stays b5)
                have H0 : Hid ((w5.alloc (.cells #[] 3)).ownsRow w5.heap.size 3 1 (.slice (some ⟨w5.heap.size, 0, none⟩) 0 0) 0 (ivs [])) := ownsRow_nil w5 3
                obtain ⟨_, _, hbe2, hbl5, hc5⟩ := ((HP.out.stays hb3.out).stays b5).row.at_ HXJ.out
                cases hbe2
                have HB5 := Lib.hid b5
                clear b5
                go_wp2_with (at_builtin; refine list_app rfl _ _ 22 rfl Try.underlying22 hi hz0 hz1 hz2 rfl H0.out rfl rfl HRl.out ?c1 ?c2 ?_)
                case c1 => simp
                case c2 => omega
                intro v6 w6 ho6 hg6
                have hb6 := HB5.out.grown hg6 (by simp) (fun k e => (H0.out.lt k e).1)
                clear hg6 hc5
                have hsz9 := (hb6).size
                go_wp2_with (at_builtin; refine list_app1 rfl _ _ 22 rfl Try.underlying22 hi hz0 hz1 hz2 rfl ((ho6).alloc _) rfl (new_cell (w6) (.int .i64 (p)) 3) ?ca9a ?ca9b ?_)
                case ca9a => omega
                case ca9b => (show w5.heap.size ≤ _; first | omega | (simp; omega))
                intro v9 w9 hm9 hg9 ha9
                have HB9 := Lib.hid (((hb6).alloc hsz9 (.cells #[.int .i64 (p)] 3)).grown hg9 (by simp; omega) (fun j e => Nat.le_trans (by omega) ((ho6).lt j e).1))
                have HX9 : Hid (w9.ownsRow w5.heap.size 3 1 v9 (l ++ [(p : Int)]).length (ivs (l ++ [(p : Int)]))) := by show World.ownsRow _ _ _ _ _ _ _; rw [ivs_snoc, show (l ++ [(p : Int)]).length = l.length + 1 by simp]; exact hm9
                generalize l ++ [(p : Int)] = m at HX9 HNx
                have hV := hv.out
                obtain ⟨ys, hy1, hy2⟩ := hV
                have HO9 := Lib.hid (own_past hy1 HB9.out)
                have HN9 := Lib.hid (NOwn.snoc hy2 (hy2.past HB9.out) HX9.out hb3.out.size)
                have HBW := Lib.hid (Law.then_ hb3.out HB9.out)
                have hszw := HBW.out.size
                obtain ⟨A9, c9, rfl, _, _, _⟩ := Law.own_len HX9.out
                have hyl : ys.length = P.length + (p - 0) := by have := hy1.1; omega
                clear hv hy1 hy2 HB9 hm9 hg9 ha9 HX9 ho6 hb6 hb3
                go_wp2_with (at_builtin; refine wpList_append_own _ rfl _ _ 34 rfl w2.heap.size 22 i1 (.slice none 0 0) 1 24 Try.underlying34 hj' hq0 hq1 hq2 rfl (by decide) _ _ _ rfl (HO9.out.alloc _) ⟨w9.heap.size, 0, none⟩ 1 1 [.slice A9 m.length c9] rfl rfl ?ca ?cb ?cc ?cd ?ce ?_)
                case ca =>
                  intro j' u hj'
                  match j', hj' with
                  | 0, hj' => simp at hj'; subst hj'; simp [Addr.add]
                case cb => intro u hu; simp at hu; subst hu; rfl
                case cc => unfold maxLen; omega
                case cd => omega
                case ce => simp; omega
                intro v10 w10 hm10 hg10 _
                have HB10 := Lib.hid ((HBW.out.alloc hszw (.cells #[.slice A9 m.length c9] 22)).grown hg10 (by simp; omega) (fun j e => (HO9.out.lt j e).1))
                have HV10 : Hid (∃ ys, w10.ownsRow w2.heap.size 22 1 v10 (P.length + (p + 1 - 0)) ys ∧ NOwn w10 w2.heap.size ys (P ++ Q.extK l 0 (p + 1 - 0))) := by
                  refine ⟨_, by rw [show P.length + (p + 1 - 0) = P.length + (p - 0) + 1 by omega]; exact hm10, ?_⟩
                  rw [HNx.out, ← List.append_assoc]
                  exact (HN9.out.alloc _).outer ints_ne (HO9.out.alloc _) hg10
                clear hm10 hg10
                go_wp2
                go_roundw
                case rel => exact ⟨p + 1, by omega, by omega, by go_num, HV10.out, HB10.out⟩
                case measure => simp [intOf]; omega
              · have hpe : p = n := by omega
                have hltI3 : ¬ (p : Int) < (n : Int) := by omega
                have HVn : Hid (∃ ys, wr.ownsRow w2.heap.size 22 1 u7 (Q.lvlK n L (j + 1)).length ys ∧ NOwn wr w2.heap.size ys (Q.lvlK n L (j + 1))) := by
                  show ∃ ys, _
                  have e : Q.lvlK n L (j + 1) = P ++ Q.extK l 0 (n - 0) := by rw [HT.out, HE.out]
                  obtain ⟨ys, g1, g2⟩ := hv.out
                  rw [hpe] at g1 g2
                  refine ⟨ys, ?_, by rw [e]; exact g2⟩
                  rw [e, List.length_append, HEL.out]
                  exact g1
                clear hpe hv hstart
                go_wp2
                go_roundw
                case rel => exact ⟨j + 1, by omega, by go_num, HVn.out, hb3.out⟩
                case measure => simp [intOf]; omega
          · have hl0 : (0 : Int) < (i : Int) := by have := HLI.out; omega
            have hl0n : 0 < i := by omega
            have hlw : IntKind.i64.wrap ((i : Int) - 1) = (i : Int) - 1 := IntWalk.i64_in _ (by omega)
            have hlp : (0 : Int) ≤ (i : Int) - 1 := by omega
            have hlq : (i : Int) - 1 < (l.length : Int) := by have := HLI.out; omega
            have hlt3 : ((i : Int) - 1).toNat = l.length - 1 := by have := HLI.out; omega
            clear h0
            clear hl1
            go_wp2
            go_loopw [7, 10] (fun v q wq => ∃ p : Nat, f ≤ p ∧ p ≤ n ∧ q = .int .i64 p ∧ Hid (∃ ys, wq.ownsRow w2.heap.size 22 1 v (P.length + (p - f)) ys ∧ NOwn wq w2.heap.size ys (P ++ Q.extK l f (p - f))) ∧ Hid (Below w2.heap.size w2 wq)) (fun _ q _ => n - (intOf q).toNat)
            case atStart => exact ⟨f, Nat.le_refl _, by omega, rfl, hstart, hb2⟩
            case round =>
              obtain ⟨p, hp0, hp1, rfl, hv, hb3⟩ := hrel
              by_cases hlt3 : p < n
              · have hltI3 : (p : Int) < (n : Int) := by omega
                have HNx := Lib.hid (Q.ext_next' l hp0)
                obtain ⟨w5, hw5⟩ : ∃ w5, w5 = wr := ⟨_, rfl⟩
                rw [← hw5] at hb3 hv ⊢
                clear hw5 hstart
                have b5 : Below w5.heap.size w5 (w5.alloc (.cells #[] 3)) := (Below.refl _ _).alloc (Nat.le_refl _) _
                have HRl := Lib.hid ((HRB.out.stays hb3.out).stays b5)
                have H0 : Hid ((w5.alloc (.cells #[] 3)).ownsRow w5.heap.size 3 1 (.slice (some ⟨w5.heap.size, 0, none⟩) 0 0) 0 (ivs [])) := ownsRow_nil w5 3
                obtain ⟨_, _, hbe2, hbl5, hc5⟩ := ((HP.out.stays hb3.out).stays b5).row.at_ HXJ.out
                cases hbe2
                have HB5 := Lib.hid b5
                clear b5
                go_wp2_with (at_builtin; refine list_app rfl _ _ 22 rfl Try.underlying22 hi hz0 hz1 hz2 rfl H0.out rfl rfl HRl.out ?c1 ?c2 ?_)
                case c1 => simp
                case c2 => omega
                intro v6 w6 ho6 hg6
                have hb6 := HB5.out.grown hg6 (by simp) (fun k e => (H0.out.lt k e).1)
                clear hg6 hc5
                have hsz9 := (hb6).size
                go_wp2_with (at_builtin; refine list_app1 rfl _ _ 22 rfl Try.underlying22 hi hz0 hz1 hz2 rfl ((ho6).alloc _) rfl (new_cell (w6) (.int .i64 (p)) 3) ?ca9a ?ca9b ?_)
                case ca9a => omega
                case ca9b => (show w5.heap.size ≤ _; first | omega | (simp; omega))
                intro v9 w9 hm9 hg9 ha9
                have HB9 := Lib.hid (((hb6).alloc hsz9 (.cells #[.int .i64 (p)] 3)).grown hg9 (by simp; omega) (fun j e => Nat.le_trans (by omega) ((ho6).lt j e).1))
                have HX9 : Hid (w9.ownsRow w5.heap.size 3 1 v9 (l ++ [(p : Int)]).length (ivs (l ++ [(p : Int)]))) := by show World.ownsRow _ _ _ _ _ _ _; rw [ivs_snoc, show (l ++ [(p : Int)]).length = l.length + 1 by simp]; exact hm9
                generalize l ++ [(p : Int)] = m at HX9 HNx
                have hV := hv.out
                obtain ⟨ys, hy1, hy2⟩ := hV
                have HO9 := Lib.hid (own_past hy1 HB9.out)
                have HN9 := Lib.hid (NOwn.snoc hy2 (hy2.past HB9.out) HX9.out hb3.out.size)
                have HBW := Lib.hid (Law.then_ hb3.out HB9.out)
                have hszw := HBW.out.size
                obtain ⟨A9, c9, rfl, _, _, _⟩ := Law.own_len HX9.out
                have hyl : ys.length = P.length + (p - f) := by have := hy1.1; omega
                clear hv hy1 hy2 HB9 hm9 hg9 ha9 HX9 ho6 hb6 hb3
                go_wp2_with (at_builtin; refine wpList_append_own _ rfl _ _ 34 rfl w2.heap.size 22 i1 (.slice none 0 0) 1 24 Try.underlying34 hj' hq0 hq1 hq2 rfl (by decide) _ _ _ rfl (HO9.out.alloc _) ⟨w9.heap.size, 0, none⟩ 1 1 [.slice A9 m.length c9] rfl rfl ?ca ?cb ?cc ?cd ?ce ?_)
                case ca =>
                  intro j' u hj'
                  match j', hj' with
                  | 0, hj' => simp at hj'; subst hj'; simp [Addr.add]
                case cb => intro u hu; simp at hu; subst hu; rfl
                case cc => unfold maxLen; omega
                case cd => omega
                case ce => simp; omega
                intro v10 w10 hm10 hg10 _
                have HB10 := Lib.hid ((HBW.out.alloc hszw (.cells #[.slice A9 m.length c9] 22)).grown hg10 (by simp; omega) (fun j e => (HO9.out.lt j e).1))
                have HV10 : Hid (∃ ys, w10.ownsRow w2.heap.size 22 1 v10 (P.length + (p + 1 - f)) ys ∧ NOwn w10 w2.heap.size ys (P ++ Q.extK l f (p + 1 - f))) := by
                  refine ⟨_, by rw [show P.length + (p + 1 - f) = P.length + (p - f) + 1 by omega]; exact hm10, ?_⟩
                  rw [HNx.out, ← List.append_assoc]
                  exact (HN9.out.alloc _).outer ints_ne (HO9.out.alloc _) hg10
                clear hm10 hg10
                go_wp2
                go_roundw
                case rel => exact ⟨p + 1, by omega, by omega, by go_num, HV10.out, HB10.out⟩
                case measure => simp [intOf]; omega
              · have hpe : p = n := by omega
                have hltI3 : ¬ (p : Int) < (n : Int) := by omega
                have HVn : Hid (∃ ys, wr.ownsRow w2.heap.size 22 1 u7 (Q.lvlK n L (j + 1)).length ys ∧ NOwn wr w2.heap.size ys (Q.lvlK n L (j + 1))) := by
                  show ∃ ys, _
                  have e : Q.lvlK n L (j + 1) = P ++ Q.extK l f (n - f) := by rw [HT.out, HE.out]
                  obtain ⟨ys, g1, g2⟩ := hv.out
                  rw [hpe] at g1 g2
                  refine ⟨ys, ?_, by rw [e]; exact g2⟩
                  rw [e, List.length_append, HEL.out]
                  exact g1
                clear hpe hv hstart
                go_wp2
                go_roundw
                case rel => exact ⟨j + 1, by omega, by go_num, HVn.out, hb3.out⟩
                case measure => simp [intOf]; omega
        · have hje : j = L.length := by omega
          have hltI2 : ¬ (j : Int) < (L.length : Int) := by omega
          have HVn : Hid (∃ ys, wr.ownsRow w.heap.size 22 1 u7 (Q.cfg n (i + 1)).length ys ∧ NOwn wr w.heap.size ys (Q.cfg n (i + 1))) := by
            show ∃ ys, _
            obtain ⟨ys, g1, g2⟩ := hv.out
            rw [hje] at g1 g2
            rw [HNext.out]
            exact ⟨ys, own_down g1 hb.out.size, g2.down hb.out.size⟩
          have HBn := Lib.hid (Law.then_ hb.out hb2.out)
          clear hje hv hb2
          go_wp2
          go_roundw
          case rel => exact ⟨i + 1, by omega, by go_num, HVn.out, HBn.out⟩
          case measure => simp [intOf]; omega
    · have hie : i = k := by omega
      have hltI : ¬ (i : Int) < (k : Int) := by omega
      obtain ⟨xs, ho, hn⟩ := hv.out
      rw [hie] at ho hn
      have HO := Lib.hid ho
      have HN := Lib.hid hn
      clear hie hv ho hn
      go_wp2
      go_ret
      exact ⟨_, rfl, xs, HO.out, HN.out, hb.out⟩
set_option maxHeartbeats 400000 in
theorem specCfg_any (n k : Int) (w : World) : Calls Try.prog 32 #[.int .i64 n, .int .i64 k] w (nestSays (Q.cfgQ n k) w) := by
  have H1 := Lib.hid fun W => l1In_any n 1 6 W
  have H2 := Lib.hid fun W => l1In_any k 1 3 W
  have HN : Hid (Q.cfgOk n k = ((decide (1 ≤ n) && decide (n ≤ 6)) && (decide (1 ≤ k) && decide (k ≤ 3)))) := rfl
  cases hok : Q.cfgOk n k
  · rw [show Q.cfgQ n k = ([], false) by simp [Q.cfgQ, hok]]
    rw [hok] at HN
    clear hok
    generalize (decide (1 ≤ n) && decide (n ≤ 6)) = b1 at H1 HN
    generalize (decide (1 ≤ k) && decide (k ≤ 3)) = b2 at H2 HN
    cases b1
    · clear H2 HN
      go_enter Try.func32, Try.ntmps32
      go_wp2_with fail
      go_at_call 59
      refine (H1.out _).mono ?_
      rintro e w' ⟨rfl, hw'⟩
      obtain rfl := hw'.symm
      clear hw'
      go_wp2
      go_ret2
      exact ⟨_, [], rfl, ownsRow_nil _ _, NOwn.nil _ _, (Below.refl _ _).alloc (Nat.le_refl _) _⟩
    · cases b2
      · clear HN
        go_enter Try.func32, Try.ntmps32
        go_wp2_with fail
        go_at_call 59
        refine (H1.out _).mono ?_
        rintro e w' ⟨rfl, hw'⟩
        obtain rfl := hw'.symm
        clear hw'
        go_wp2_with fail
        go_at_call 59
        refine (H2.out _).mono ?_
        rintro e w' ⟨rfl, hw'⟩
        obtain rfl := hw'.symm
        clear hw'
        go_wp2
        go_ret2
        exact ⟨_, [], rfl, ownsRow_nil _ _, NOwn.nil _ _, (Below.refl _ _).alloc (Nat.le_refl _) _⟩
      · cases HN.out
  · obtain ⟨⟨h1, h2⟩, h3, h4⟩ := Q.cfgOk_iff.1 hok
    rw [show Q.cfgQ n k = (Q.cfg n.toNat k.toNat, true) by simp [Q.cfgQ, hok]]
    obtain ⟨N, rfl⟩ := Int.eq_ofNat_of_zero_le (show 0 ≤ n by omega)
    obtain ⟨K, rfl⟩ := Int.eq_ofNat_of_zero_le (show 0 ≤ k by omega)
    rw [Int.toNat_natCast, Int.toNat_natCast]
    have HC := Lib.hid (l6Cfg_good N K w (by omega) (by omega) (by omega) (by omega))
    rw [show (decide (1 ≤ (N : Int)) && decide ((N : Int) ≤ 6)) = true by simp; omega] at H1
    rw [show (decide (1 ≤ (K : Int)) && decide ((K : Int) ≤ 3)) = true by simp; omega] at H2
    clear hok HN
    generalize Q.cfg N K = L at HC ⊢
    go_enter Try.func32, Try.ntmps32
    go_wp2_with fail
    go_at_call 59
    refine (H1.out _).mono ?_
    rintro e w' ⟨rfl, hw'⟩
    obtain rfl := hw'.symm
    clear hw'
    go_wp2_with fail
    go_at_call 59
    refine (H2.out _).mono ?_
    rintro e w' ⟨rfl, hw'⟩
    obtain rfl := hw'.symm
    clear hw'
    go_wp2_with fail
    go_at_call 67
    refine HC.out.mono ?_
    rintro e w1 ⟨v, xs, rfl, ho, hn, hb⟩
    have HO := Lib.hid ho
    have HNn := Lib.hid hn
    have HB := Lib.hid hb
    clear ho hn hb
    go_wp2
    go_ret2
    exact ⟨_, xs, rfl, HO.out, HNn.out, HB.out⟩
end Go.Proofs.Ytndjpkeenbbgiaa
