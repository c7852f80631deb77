/-
  Matchings: the model's l6Perms.
-/
import Derived.Test.YtphfjhnmnehfkaaMtM
import Derived.Test.YtphfjhnmnehfkaaMtA
import Derived.Test.YtphfjhnmnehfkaaOwnS
import Derived.Test.YtphfjhnmnehfkaaNil
import Derived.Test.YtphfjhnmnehfkaaCfg
namespace Go.Proofs.Ytphfjhnmnehfkaa
open Go.RowKit
set_option linter.unusedVariables false
set_option maxRecDepth 100000 in
set_option maxHeartbeats 800000 in
theorem l6Perms_any (k : Nat) (w : World) (k3 : k ≤ 3) :
    Calls Try.prog 119 #[.int .i64 k] w fun e w' => ∃ v xs, e = .returned v ∧ w'.ownsRow w.heap.size 25 1 v (Q.prm k k).length xs ∧ NOwn w' w.heap.size xs (Q.prm k k) ∧ Below w.heap.size w w' := by
  obtain ⟨i0, hi, hz0, hz1, hz2⟩ := info_parts infoInts
  obtain ⟨i1, hj', hq0, hq1, hq2⟩ := info_parts infoII
  have k3I : (k : Int) ≤ 3 := by omega
  go_enter Try.func119, Try.ntmps119
  go_wp2
  have hst : Hid (∃ xs, World.ownsRow ((w.alloc (.cells #[] 3)).alloc (.cells #[.slice (some ⟨w.heap.size, 0, none⟩) 0 0] 25)) w.heap.size 25 1 (.slice (some ⟨w.heap.size + 1, 0, none⟩) 1 1) (Q.prm k 0).length xs ∧ NOwn ((w.alloc (.cells #[] 3)).alloc (.cells #[.slice (some ⟨w.heap.size, 0, none⟩) 0 0] 25)) w.heap.size xs (Q.prm k 0)) := by
    have h := own_lit1 (w.alloc (.cells #[] 3)) (.slice (some ⟨w.heap.size, 0, none⟩) 0 0) 25
    rw [show (w.alloc (.cells #[] 3)).heap.size = w.heap.size + 1 by simp] at h
    refine ⟨_, own_down h (Nat.le_succ _), ?_⟩
    exact NOwn.snoc (w0 := w) (NOwn.nil _ _) (NOwn.nil _ _) ((ownsRow_nil w 3).alloc _) (Nat.le_refl _)
  have hbs : Hid (Below w.heap.size w ((w.alloc (.cells #[] 3)).alloc (.cells #[.slice (some ⟨w.heap.size, 0, none⟩) 0 0] 25))) := ((Below.refl _ _).alloc (Nat.le_refl _) _).alloc (by simp) _
  go_loopw [3, 4] (fun u i wr => ∃ j : Nat, j ≤ k ∧ i = .int .i64 j ∧ Hid (∃ xs, wr.ownsRow w.heap.size 25 1 u (Q.prm k j).length xs ∧ NOwn wr w.heap.size xs (Q.prm k j)) ∧ Hid (Below w.heap.size w wr)) (fun _ i _ => k - (intOf i).toNat)
  case atStart => exact ⟨0, Nat.zero_le _, rfl, hst, hbs⟩
  case round =>
    obtain ⟨i, hi3, rfl, hv, hb⟩ := hrel
    by_cases hlt : i < k
    · have hltI : (i : Int) < (k : Int) := by omega
      obtain ⟨xs, ho, hn⟩ := hv.out
      obtain ⟨A, c, rfl, _, _, _⟩ := Law.own_len ho
      have HOk := Lib.hid (Q.prm_all k i)
      have hL36 : (Q.prm k i).length ≤ 27 := Q.prm_few k3 i (by omega)
      have hL6 : k * (Q.prm k i).length ≤ 81 := Nat.le_trans (Nat.mul_le_mul k3 hL36) (by decide)
      have HNext : Hid (Q.prm k (i + 1) = Q.plK k (Q.prm k i) (Q.prm k i).length) := rfl
      have HLen := Lib.hid (Q.plK_len k (Q.prm k i))
      have HP := Lib.hid (NRow.of ho hn)
      clear hv ho hn hst hbs
      generalize Q.prm k i = L at *
      obtain ⟨w2, hw2⟩ : ∃ w2, w2 = wr := ⟨_, rfl⟩
      rw [← hw2] at hb HP ⊢
      clear hw2
      go_wp2
      have HO0 := Lib.hid (ownsRow_nil w2 25)
      have HB0 : Hid (Below w2.heap.size w2 (w2.alloc (.cells #[] 25))) := (Below.refl _ _).alloc (Nat.le_refl _) _
      go_loopw [5, 6] (fun v q wq => ∃ j : Nat, j ≤ L.length ∧ q = .int .i64 j ∧ Hid (∃ ys, wq.ownsRow w2.heap.size 25 1 v (Q.plK k L j).length ys ∧ NOwn wq w2.heap.size ys (Q.plK k L j)) ∧ Hid (Below w2.heap.size w2 wq)) (fun _ q _ => L.length - (intOf q).toNat)
      case atStart => exact ⟨0, Nat.zero_le _, rfl, ⟨[], HO0.out, NOwn.nil _ _⟩, HB0.out⟩
      case round =>
        obtain ⟨j, hj, rfl, hv, hb2⟩ := hrel
        by_cases hlt2 : j < L.length
        · have hltI2 : (j : Int) < (L.length : Int) := by omega
          obtain ⟨l, hl⟩ : ∃ l, L[j]? = some l := ⟨_, List.getElem?_eq_getElem hlt2⟩
          have hli := HOk.out l (List.mem_of_getElem? hl)
          obtain ⟨x, hx⟩ : ∃ x, xs[j]? = some x := ⟨_, List.getElem?_eq_getElem (by rw [HP.out.len]; exact hlt2)⟩
          obtain ⟨B, cB, rfl, hrB0⟩ := HP.out.at_ j x l hx hl
          obtain ⟨b, off, rfl, hbl, hc⟩ := (HP.out.stays hb2.out).row.at_ hx
          have HT := Lib.hid (Q.pl_next (k := k) hl)
          have HEL := Lib.hid (Q.pxK_len l)
          have hlen := HLen.out j
          have hlen2 : k * j ≤ 81 := Nat.le_trans (Nat.mul_le_mul_left k hj) hL6
          obtain ⟨w3, hw3⟩ : ∃ w3, w3 = wr := ⟨_, rfl⟩
          rw [← hw3] at hb2 hv hc hbl ⊢
          clear hw3
          generalize Q.plK k L j = P at hv HT hlen
          have HRB := Lib.hid hrB0
          have hl3 : l.length ≤ 3 := by omega
          have HXJ := Lib.hid hx
          clear hl hx hrB0
          have hstart : Hid (∃ ys, w3.ownsRow w2.heap.size 25 1 u5 (P.length + (Q.pxK l 0).length) ys ∧ NOwn w3 w2.heap.size ys (P ++ Q.pxK l 0)) := by
            show ∃ ys, _
            simpa [Q.pxK] using hv.out
          have HLI := Lib.hid hli
          clear hv hli
          go_wp2
          go_loopw [5, 7] (fun v q wq => ∃ p : Nat, p ≤ k ∧ q = .int .i64 p ∧ Hid (∃ ys, wq.ownsRow w2.heap.size 25 1 v (P.length + (Q.pxK l p).length) ys ∧ NOwn wq w2.heap.size ys (P ++ Q.pxK l p)) ∧ Hid (Below w2.heap.size w2 wq)) (fun _ q _ => k - (intOf q).toNat)
          case atStart => exact ⟨0, by omega, rfl, hstart, hb2⟩
          case round =>
            obtain ⟨p, hp1, rfl, hv, hb3⟩ := hrel
            by_cases hlt3 : p < k
            · have hltI3 : (p : Int) < (k : Int) := by omega
              have hpxl := HEL.out p
              obtain ⟨w5, hw5⟩ : ∃ w5, w5 = wr := ⟨_, rfl⟩
              rw [← hw5] at hb3 hv ⊢
              clear hw5 hstart
              obtain ⟨_, _, hbe1, hbl4, hc4⟩ := (HP.out.stays hb3.out).row.at_ HXJ.out
              cases hbe1
              have HH := Lib.hid (l1Has_any B cB l (p : Int) w5 (by omega) (HRB.out.stays hb3.out))
              by_cases hmem : (p : Int) ∈ l
              · have HNx : Hid (Q.pxK l (p + 1) = Q.pxK l p) := by show _ = _; rw [Q.pxK, if_pos hmem]
                rw [decide_eq_true hmem] at HH
                clear hmem
                go_wp2_with fail
                go_at_call 89
                refine (HH.out).mono ?_
                rintro e w' ⟨rfl, hw'⟩
                obtain rfl := hw'.symm
                clear hw'
                go_wp2
                go_roundw
                case rel => exact ⟨p + 1, by omega, by go_num, by show ∃ ys, _; rw [HNx.out]; exact hv.out, hb3.out⟩
                case measure => simp [intOf]; omega
              · have HNx : Hid (Q.pxK l (p + 1) = Q.pxK l p ++ [l ++ [(p : Int)]]) := by show _ = _; rw [Q.pxK, if_neg hmem]
                rw [decide_eq_false hmem] at HH
                clear hmem
                generalize Q.pxK l p = PX at hv HNx hpxl
                have b5 : Below w5.heap.size w5 (w5.alloc (.cells #[] 3)) := (Below.refl _ _).alloc (Nat.le_refl _) _
                have HRl := Lib.hid ((HRB.out.stays hb3.out).stays b5)
                have H0 : Hid ((w5.alloc (.cells #[] 3)).ownsRow w5.heap.size 3 1 (.slice (some ⟨w5.heap.size, 0, none⟩) 0 0) 0 (ivs [])) := ownsRow_nil w5 3
                obtain ⟨_, _, hbe2, hbl5, hc5⟩ := ((HP.out.stays hb3.out).stays b5).row.at_ HXJ.out
                cases hbe2
                have HB5 := Lib.hid b5
                clear b5
                go_wp2_with fail
                go_at_call 89
                refine (HH.out).mono ?_
                rintro e w' ⟨rfl, hw'⟩
                obtain rfl := hw'.symm
                clear hw'
                go_wp2_with (at_builtin; refine list_app rfl _ _ 25 rfl Try.underlying25 hi hz0 hz1 hz2 rfl H0.out rfl rfl HRl.out ?c1 ?c2 ?_)
                case c1 => simp
                case c2 => omega
                intro v6 w6 ho6 hg6
                have hb6 := HB5.out.grown hg6 (by simp) (fun k e => (H0.out.lt k e).1)
                clear hg6 hc5 hc4
                have hsz9 := (hb6).size
                go_wp2_with (at_builtin; refine list_app1 rfl _ _ 25 rfl Try.underlying25 hi hz0 hz1 hz2 rfl ((ho6).alloc _) rfl (new_cell (w6) (.int .i64 (p)) 3) ?ca9a ?ca9b ?_)
                case ca9a => omega
                case ca9b => (show w5.heap.size ≤ _; first | omega | (simp; omega))
                intro v9 w9 hm9 hg9 ha9
                have HB9 := Lib.hid (((hb6).alloc hsz9 (.cells #[.int .i64 (p)] 3)).grown hg9 (by simp; omega) (fun j e => Nat.le_trans (by omega) ((ho6).lt j e).1))
                have HX9 : Hid (w9.ownsRow w5.heap.size 3 1 v9 (l ++ [(p : Int)]).length (ivs (l ++ [(p : Int)]))) := by show World.ownsRow _ _ _ _ _ _ _; rw [ivs_snoc, show (l ++ [(p : Int)]).length = l.length + 1 by simp]; exact hm9
                generalize l ++ [(p : Int)] = m at HX9 HNx
                have hV := hv.out
                obtain ⟨ys, hy1, hy2⟩ := hV
                have HO9 := Lib.hid (own_past hy1 HB9.out)
                have HN9 := Lib.hid (NOwn.snoc hy2 (hy2.past HB9.out) HX9.out hb3.out.size)
                have HBW := Lib.hid (Law.then_ hb3.out HB9.out)
                have hszw := HBW.out.size
                obtain ⟨A9, c9, rfl, _, _, _⟩ := Law.own_len HX9.out
                have hyl : ys.length = P.length + PX.length := by have := hy1.1; omega
                clear hv hy1 hy2 HB9 hm9 hg9 ha9 HX9 ho6 hb6 hb3
                go_wp2_with (at_builtin; refine wpList_append_own _ rfl _ _ 22 rfl w2.heap.size 25 i1 (.slice none 0 0) 1 24 Try.underlying22 hj' hq0 hq1 hq2 rfl (by decide) _ _ _ rfl (HO9.out.alloc _) ⟨w9.heap.size, 0, none⟩ 1 1 [.slice A9 m.length c9] rfl rfl ?ca ?cb ?cc ?cd ?ce ?_)
                case ca =>
                  intro j' u hj'
                  match j', hj' with
                  | 0, hj' => simp at hj'; subst hj'; simp [Addr.add]
                case cb => intro u hu; simp at hu; subst hu; rfl
                case cc => unfold maxLen; omega
                case cd => omega
                case ce => simp; omega
                intro v10 w10 hm10 hg10 _
                have HB10 := Lib.hid ((HBW.out.alloc hszw (.cells #[.slice A9 m.length c9] 25)).grown hg10 (by simp; omega) (fun j e => (HO9.out.lt j e).1))
                have HV10 : Hid (∃ ys, w10.ownsRow w2.heap.size 25 1 v10 (P.length + (Q.pxK l (p + 1)).length) ys ∧ NOwn w10 w2.heap.size ys (P ++ Q.pxK l (p + 1))) := by
                  refine ⟨_, by rw [HNx.out, show P.length + (PX ++ [m]).length = P.length + PX.length + 1 by simp; omega]; exact hm10, ?_⟩
                  rw [HNx.out, ← List.append_assoc]
                  exact (HN9.out.alloc _).outer ints_ne (HO9.out.alloc _) hg10
                clear hm10 hg10
                go_wp2
                go_roundw
                case rel => exact ⟨p + 1, by omega, by go_num, HV10.out, HB10.out⟩
                case measure => simp [intOf]; omega
            · have hpe : p = k := by omega
              have hltI3 : ¬ (p : Int) < (k : Int) := by omega
              have HVn : Hid (∃ ys, wr.ownsRow w2.heap.size 25 1 u5 (Q.plK k L (j + 1)).length ys ∧ NOwn wr w2.heap.size ys (Q.plK k L (j + 1))) := by
                show ∃ ys, _
                obtain ⟨ys, g1, g2⟩ := hv.out
                rw [hpe] at g1 g2
                refine ⟨ys, ?_, by rw [HT.out]; exact g2⟩
                rw [HT.out, List.length_append]
                exact g1
              clear hpe hv hstart
              go_wp2
              go_roundw
              case rel => exact ⟨j + 1, by omega, by go_num, HVn.out, hb3.out⟩
              case measure => simp [intOf]; omega
        · have hje : j = L.length := by omega
          have hltI2 : ¬ (j : Int) < (L.length : Int) := by omega
          have HVn : Hid (∃ ys, wr.ownsRow w.heap.size 25 1 u5 (Q.prm k (i + 1)).length ys ∧ NOwn wr w.heap.size ys (Q.prm k (i + 1))) := by
            show ∃ ys, _
            obtain ⟨ys, g1, g2⟩ := hv.out
            rw [hje] at g1 g2
            rw [HNext.out]
            exact ⟨ys, own_down g1 hb.out.size, g2.down hb.out.size⟩
          have HBn := Lib.hid (Law.then_ hb.out hb2.out)
          clear hje hv hb2
          go_wp2
          go_roundw
          case rel => exact ⟨i + 1, by omega, by go_num, HVn.out, HBn.out⟩
          case measure => simp [intOf]; omega
    · have hie : i = k := by omega
      have hltI : ¬ (i : Int) < (k : Int) := by omega
      obtain ⟨xs, ho, hn⟩ := hv.out
      rw [hie] at ho hn
      have HO := Lib.hid ho
      have HN := Lib.hid hn
      clear hie hv ho hn
      go_wp2
      go_ret
      exact ⟨_, rfl, xs, HO.out, HN.out, hb.out⟩
end Go.Proofs.Ytphfjhnmnehfkaa
