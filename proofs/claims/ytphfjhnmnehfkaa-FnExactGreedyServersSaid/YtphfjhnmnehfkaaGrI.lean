/-
  GreedyServers: the code's.
-/
import Derived.Test.YtphfjhnmnehfkaaGrs
import Derived.Test.YtphfjhnmnehfkaaMtB
namespace Go.Proofs.Ytphfjhnmnehfkaa
open Go.RowKit
set_option linter.unusedVariables false
set_option maxRecDepth 100000 in
set_option maxHeartbeats 1600000 in
theorem impGre_any (A : Option Addr) (c : Nat) (xs : List Value) (L : List (List Int)) (a q : List Int) (Ba Bq : Option Addr) (da dq : Nat) (hll : ∀ l ∈ L, l.length ≤ 1048576) (hla : a.length ≤ 1048576) (hlq : q.length ≤ 1048576) (w : World) (hr : NRow w A xs L) (ha : Law.Row w Ba (ivs a)) (hq : Law.Row w Bq (ivs q)) :
    Calls Try.prog 51 #[mv A L.length c, .slice Ba a.length da, .slice Bq q.length dq] w (nest7 (Q.greQ L a q) w) := by
  obtain ⟨i1, hi, hz0, hz1, hz2⟩ := info_parts infoII
  have HM := Lib.hid (MetIn.start (c := c) hr 29)
  have HT := Lib.hid fun (W : World) (h : Below w.heap.size w W) => isServing_any A c xs L a q Ba Bq da dq hll hla hlq W (hr.stays h) (ha.stays h) (hq.stays h)
  cases hs : Q.srvQ L a q
  · rw [Q.gre_no hs]
    rw [hs] at HT
    clear hr ha hq hs
    go_enter Try.func51, Try.ntmps51
    go_wp2_with fail
    generalize w.alloc (.cells #[.slice A L.length c] 29) = wa at HM ⊢
    obtain ⟨hk0, hk1, hk2⟩ := HM.out.bk
    go_wp2_with fail
    go_at_call 90
    refine (HT.out wa HM.out.bl).mono ?_
    rintro e w1 ⟨rfl, hb⟩
    have HB := Lib.hid (HM.out.on hb).bl
    clear hb
    go_wp2
    go_ret3
    exact ⟨_, [], rfl, own_down (ownsRow_nil _ _) HB.out.size, NOwn.nil _ _, HB.out.alloc HB.out.size _⟩
  · rw [Q.gre_yes hs]
    have hm := Q.srv_good hs
    obtain ⟨ha1, ha3, hq60⟩ := Q.srv_len hs
    obtain ⟨_, hsa, _, hqw⟩ := Q.srv_iff.1 hs
    obtain ⟨_, ⟨hL1, hL6⟩, hsq⟩ := Q.met_sqr hm
    have hPa : Q.inP L a := fun i hi => Q.within_nat (Q.servers_iff.1 hsa).2.2.1 hi
    have HOk := Lib.hid (Q.gs_ok hPa hqw)
    have HXq : Hid (∀ i, i < q.length → ∃ r : Nat, q[i]? = some (r : Int) ∧ r < L.length) := fun i hi => Q.within_nat hqw hi
    have HRq := Lib.hid fun (W : World) (h : Below w.heap.size w W) => hq.stays h
    have HRa := Lib.hid fun (W : World) (h : Below w.heap.size w W) => ha.stays h
    have HMn := Lib.hid fun (zs : List Int) (B : Option Addr) (d br r : Nat) (W : World) (hP : Q.inP L zs) (hl : zs.length = a.length) (hrL : r < L.length) (h : MetIn w W A c xs L) (hbr : Bk1 W br (.int .i64 (r : Int))) (hz : Law.Row W B (ivs zs)) => minFunc_any A c xs L zs B d w.heap.size br r W hm hP (by omega) (by omega) hrL h.bk hbr h.rows hz
    have HS := Lib.hid hsq
    have HDs := Lib.hid fun (x y : Nat) (hx : x < L.length) (hy : y < L.length) => Q.met_dst hm hx hy
    rw [hs] at HT
    clear hr ha hq hs hm hsa hqw hsq hPa
    go_enter Try.func51, Try.ntmps51
    go_wp2_with fail
    generalize w.alloc (.cells #[.slice A L.length c] 29) = wa at HM ⊢
    obtain ⟨hk0, hk1, hk2⟩ := HM.out.bk
    go_wp2_with fail
    go_at_call 90
    refine (HT.out wa HM.out.bl).mono ?_
    rintro e w1 ⟨rfl, hb⟩
    have HM1 := Lib.hid (HM.out.on hb)
    clear hb hk0 hk1 hk2
    go_wp2_with (at_make; refine wpList_make_full _ rfl _ _ 22 rfl w1.heap.size 25 i1 (.slice none 0 0) 1 Try.underlying22 hi hz0 hz1 .i64 .i64 _ _ q.length rfl rfl rfl rfl ?c1 ?c2 ?c3 ?_)
    case c1 => rw [hz2]; omega
    case c2 => unfold maxLen; omega
    case c3 => exact Nat.le_refl _
    intro w2 hown hg
    rw [made_nils] at hown
    have HB2 : Hid (Below w1.heap.size w1 w2) := Lib.hid ((Below.refl _ _).grown hg (Nat.le_refl _) (fun k e => by cases e))
    have HO := Lib.hid hown
    clear hown hg
    go_wp2_with fail
    go_loopw [10, 11, 27] (fun sm now i wr => ∃ j : Nat, ∃ Bn cn, j ≤ q.length ∧ i = .int .i64 (j : Int) ∧ now = .slice Bn (Q.gsK L a q j).length cn ∧ sm = .int .i64 (Q.csum (Q.gsF L a q) j) ∧ Hid (0 ≤ Q.csum (Q.gsF L a q) j ∧ Q.csum (Q.gsF L a q) j ≤ 99 * j) ∧ Hid (Law.Row wr Bn (ivs (Q.gsK L a q j))) ∧ Hid (∃ ys, wr.ownsRow w1.heap.size 25 1 (.slice (some ⟨w1.heap.size, 0, none⟩) q.length q.length) q.length (ys ++ List.replicate (q.length - j) (Value.slice none 0 0)) ∧ NOwn wr w1.heap.size ys (Q.gsL L a q j)) ∧ Hid (Below w1.heap.size w1 wr)) (fun _ _ i _ => q.length - (intOf i).toNat)
    case atStart => exact ⟨0, Ba, da, Nat.zero_le _, rfl, rfl, rfl, by show _ ∧ _; simp [Q.csum], HRa.out _ (HM1.out.on HB2.out).bl, ⟨[], HO.out, NOwn.nil _ _⟩, HB2.out⟩
    case round =>
      obtain ⟨j, Bn, cn, hj, rfl, rfl, rfl, hsb, hnow, ho, hB⟩ := hrel
      have hM := Lib.hid (HM1.out.on hB.out)
      by_cases hlt : j < q.length
      · have hltI : (j : Int) < (q.length : Int) := by omega
        obtain ⟨hKl, hKp⟩ := HOk.out j hj
        obtain ⟨r, hq1, hrL⟩ := HXq.out j hlt
        have HN1 := Lib.hid (Q.gsK_next (L := L) (a := a) hq1)
        have HFx := Lib.hid fun (x : Nat) (hx : (Q.gsK L a q j)[Q.nr L (Q.gsK L a q j) r]? = some (x : Int)) => Q.gsF_at (L := L) (a := a) hq1 hx
        have HFs : Hid (Q.csum (Q.gsF L a q) (j + 1) = Q.csum (Q.gsF L a q) j + Q.gsF L a q j) := rfl
        have HL1 : Hid (Q.gsL L a q (j + 1) = Q.gsL L a q j ++ [Q.gsK L a q (j + 1)]) := rfl
        have HLl := Lib.hid (Q.gsL_len L a q j)
        have hnr := Q.nr_lt (L := L) (r := r) (show 1 ≤ (Q.gsK L a q j).length by omega)
        have HIx := Lib.hid fun (x : Nat) (hx : (Q.gsK L a q j)[Q.nr L (Q.gsK L a q j) r]? = some (x : Int)) => Q.nr_idx (L := L) (r := r) (x := x) (show 1 ≤ (Q.gsK L a q j).length by omega) hx
        have HKl1 : Hid ((Q.gsK L a q (j + 1)).length = (Q.gsK L a q j).length) := by show _ = _; rw [(HOk.out (j + 1) hlt).1, hKl]
        have hka : (Q.gsK L a q j).length ≤ 3 := by omega
        have hka1 : 1 ≤ (Q.gsK L a q j).length := by omega
        have HKp := Lib.hid hKp
        have HKl := Lib.hid hKl
        have HMc := Lib.hid (HMn.out (Q.gsK L a q j) Bn cn)
        obtain ⟨qb, qo, rfl, hqb, hqc⟩ := (HRq.out _ hM.out.bl).at_ (ivs_some hq1)
        generalize hK1 : Q.gsK L a q (j + 1) = K1 at HN1 HL1 HKl1 ⊢
        have HK1e := Lib.hid hK1
        generalize Q.gsK L a q j = K at hnr HFx HN1 HKl1 hka hka1 HKp HKl hnow HIx HMc ⊢
        generalize Q.gsL L a q j = G at ho HL1 HLl
        generalize hnrE : Q.nr L K r = n at hnr HFx HN1 HIx
        have HNE := Lib.hid hnrE
        clear hKl hKp hq1 hK1 hnrE
        obtain ⟨hs0, hs1⟩ := hsb.out
        generalize Q.gsF L a q j = F at HFx HFs
        generalize Q.csum (Q.gsF L a q) j = S at hs0 hs1 HFs ⊢
        clear hsb
        obtain ⟨w5, hw5⟩ : ∃ w5, w5 = wr := ⟨_, rfl⟩
        rw [← hw5] at hnow ho hM hB hqc hqb ⊢
        clear hw5
        obtain ⟨hk0, hk1, hk2⟩ := hM.out.bk
        have b6 : Below w5.heap.size w5 (w5.alloc (.cells #[.int .i64 (r : Int)] 3)) := (Below.refl _ _).alloc (Nat.le_refl _) _
        have HR6 := Lib.hid (Bk1.new w5 (.int .i64 (r : Int)) 3)
        have hM6 := Lib.hid (hM.out.on b6)
        have HB6 := Lib.hid b6
        go_wp2_with fail
        generalize hs5 : w5.heap.size = s5 at HR6 HB6 ⊢
        generalize hW6 : w5.alloc (.cells #[.int .i64 (r : Int)] 3) = w6 at HR6 hM6 HB6 ⊢
        have HS5 := Lib.hid hs5
        clear hs5 hW6 b6 hk0 hk1 hk2
        obtain ⟨hk0, hk1, hk2⟩ := hM6.out.bk
        obtain ⟨r0, r1, r2⟩ := HR6.out
        have hb6 := Lib.hid (show Below w5.heap.size w5 w6 by rw [HS5.out]; exact HB6.out)
        have hnow6 := Lib.hid (hnow.out.stays hb6.out)
        go_wp2_with fail
        go_at_call 95
        refine (HMc.out s5 r w6 HKp.out HKl.out hrL hM6.out HR6.out hnow6.out).mono ?_
        rintro e w7 ⟨⟨x, rfl, hx, hxL⟩, m7, rfl⟩
        generalize hW7 : w6.drewN m7 = w7
        have hM7 := Lib.hid (show MetIn w w7 A c xs L by rw [← hW7]; exact hM6.out.drewN _)
        have hb7 := Lib.hid (show Below w5.heap.size w5 w7 by rw [← hW7]; exact Law.up hb6.out _)
        have hnow7 := Lib.hid (show Law.Row w7 _ _ by rw [← hW7]; exact Law.Row.drewN hnow6.out _)
        have HR7 := Lib.hid (show Bk1 w7 s5 (.int .i64 (r : Int)) by rw [← hW7]; exact HR6.out.drewN _)
        clear hW7 hk0 hk1 hk2 r0 r1 r2 hM6 hnow6 HR6 hb6 HB6
        obtain ⟨hk0, hk1, hk2⟩ := hM7.out.bk
        obtain ⟨r0, r1, r2⟩ := HR7.out
        rw [HNE.out] at hx
        have HXx := Lib.hid hx
        have hF := HFx.out x hx
        have hI := HIx.out x hx
        have hd0 := (HDs.out x r hxL hrL).1
        have hd1 := (HDs.out x r hxL hrL).2.1
        rw [hF] at HFs
        have HI := Lib.hid hI
        clear hx hF hI HFx HIx HMc
        obtain ⟨bA, oA, bx, ox, dx, eA, hbb, hcx, hbx, hcxy⟩ := hM7.out.rows.dst_at HS.out hxL hrL
        subst eA
        generalize Q.dst L x r = D at hcxy HFs hd0 hd1
        have hw : IntKind.i64.wrap (S + D) = S + D := IntWalk.i64_in _ (by omega)
        have g3 : (x : Int) < (L.length : Int) := by omega
        have g4 : (r : Int) < (L.length : Int) := by omega
        have g5 : (n : Int) < (K.length : Int) := by omega
        go_wp2
        go_quiet (fail)
        generalize hWW : w7.drewN _ = w8
        have hb8 := Lib.hid (show Below w5.heap.size w5 w8 by rw [← hWW]; exact Law.up hb7.out _)
        have hnow8 := Lib.hid (show Law.Row w8 _ _ by rw [← hWW]; exact Law.Row.drewN hnow7.out _)
        have HR8 := Lib.hid (show Bk1 w8 s5 (.int .i64 (r : Int)) by rw [← hWW]; exact HR7.out.drewN _)
        clear hWW hk0 hk1 hk2 hcx hcxy r0 r1 r2 hqc hM7 hnow7 HR7 hb7
        have HCl := Lib.hid (cloneM (c := cn) hnow8.out (by omega))
        obtain ⟨r0, r1, r2⟩ := HR8.out
        go_wp2_with fail
        go_at_call 97
        refine HCl.out.mono ?_
        rintro e w9 ⟨v9, rfl, ho9, hb9⟩
        obtain ⟨g9, c9, rfl, hg9a, hg9b⟩ := own_some ho9 (by omega)
        have HO9 := Lib.hid ho9
        have hb9' := Lib.hid (Law.then_ hb8.out hb9)
        have HR9 := Lib.hid (HR8.out.on hb9)
        have HIn : Hid (∀ W, Law.Row W (some ⟨g9, 0, none⟩) (ivs K) → Calls Try.prog 98 #[.slice (some ⟨g9, 0, none⟩) K.length c9, .int .i64 (x : Int)] W fun e w' => e = .returned (.int .i64 ((n : Nat) : Int)) ∧ w' = W) := fun W h => by
          have h2 := index_rowG (c := c9) h hka1 (by omega) (x : Int)
          rwa [HI.out] at h2
        have HSo : Hid (∀ W, W.ownsRow w8.heap.size 3 1 (.slice (some ⟨g9, 0, none⟩) K.length c9) K.length (ivs (K.set n (r : Int))) → Calls Try.prog 99 #[.slice (some ⟨g9, 0, none⟩) K.length c9] W fun e w' => e = .returned (.tuple #[]) ∧ w'.ownsRow w8.heap.size 3 1 (.slice (some ⟨g9, 0, none⟩) K.length c9) K.length (ivs K1) ∧ W.grownBy w' (some g9)) := fun W h => by
          have hl : K.length = (K.set n (r : Int)).length := by rw [List.length_set]
          rw [hl] at h ⊢
          have h2 := sort_row h (by rw [List.length_set]; omega)
          rw [← HN1.out] at h2
          exact h2
        clear r0 r1 r2 HCl ho9 hb9
        obtain ⟨r0, r1, r2⟩ := HR9.out
        have hc9 := own_cell HO9.out HXx.out
        have hf9 := HO9.out.frozenAt n
        go_wp2_with fail
        go_region_law ((go_simp; go_at_call 98; refine (HIn.out _ (by first | exact Law.Row.own HO9.out | exact Law.Row.own HO9.out.drew | exact Law.Row.drewN (Law.Row.own HO9.out) _)).mono ?_; rintro e w' ⟨rfl, hw'⟩; subst hw'))
        all_goals
          clear hc9 hf9 r0 r1 r2
          go_wp2_with fail
          go_at_call 99
          refine (HSo.out _ (by exact own_put HO9.out n (r : Int))).mono ?_
          rintro e w10 ⟨rfl, ho10, hg10⟩
          have hlo : w5.heap.size ≤ g9 := Nat.le_trans hb8.out.size hg9a
          have hB10 := Lib.hid ((hb9'.out.setCell (p := ⟨g9, n, none⟩) hlo (.int .i64 (r : Int))).grown (row := some g9) ⟨hg10.os, hg10.tape, hg10.output, hg10.size, hg10.block⟩ (by have := hb9'.out.size; simpa [World.setCell] using this) (fun k e => by injection e with e; omega))
          have hx10 := own_down ho10 hb8.out.size
          obtain ⟨ys, ho1, hn1⟩ := ho.out
          have ho2 := own_past ho1 hB10.out
          rw [← HKl1.out] at hx10
          have hn3 := NOwn.snoc hn1 (hn1.past hB10.out) hx10 hB.out.size
          have hxl : ys.length = j := by rw [hn1.len, HLl.out]
          have hcO : w10.cell? ⟨w1.heap.size, j, none⟩ = some (.slice none 0 0) := (ho2.cellAt j (by omega)).trans (by
            rw [List.getElem?_append_right (by omega), hxl, Nat.sub_self]
            rw [List.getElem?_replicate]
            rw [if_pos (by omega)])
          have hfO := ho2.frozenAt j
          have hst := ho2.stored j (.slice (some ⟨g9, 0, none⟩) K1.length c9)
          have ho4 := hst.1
          rw [nils_set ys q.length j _ hxl hlt] at ho4
          have hn4 := hn3.outer ints_ne ho2 hst.2
          have hx4 := Law.Row.own (hx10.kept hst.2 (own_types ints_ne hx10 ho2))
          rw [← HL1.out] at hn4
          rw [HKl1.out] at ho4 hn4 hx4
          have HO4 := Lib.hid ho4
          have HN4 := Lib.hid hn4
          have HX4 := Lib.hid hx4
          have HB4 := Lib.hid ((Law.then_ hB.out hB10.out).setCell (p := ⟨w1.heap.size, j, none⟩) (Nat.le_refl _) (.slice (some ⟨g9, 0, none⟩) K.length c9))
          clear ho ho1 hn1 ho2 hn3 hx10 hst ho4 hn4 hx4 ho10 hg10
          go_wp2
          go_roundw
          case rel => exact ⟨j + 1, some ⟨g9, 0, none⟩, c9, by omega, by go_num, by rw [HK1e.out, HKl1.out], by rw [HFs.out], by show _ ∧ _; rw [HFs.out]; constructor <;> omega, by show Law.Row _ _ _; rw [HK1e.out]; exact HX4.out, ⟨_, HO4.out, HN4.out⟩, HB4.out⟩
          case measure => simp [intOf]; omega
      · have hje : j = q.length := by omega
        have hltI : ¬ (j : Int) < (q.length : Int) := by omega
        have HE : Hid (Q.csum (Q.gsF L a q) j = Q.csum (Q.gsF L a q) q.length) := by show _ = _; rw [hje]
        have HJ := Lib.hid hje
        have HLl := Lib.hid (Q.gsL_len L a q q.length)
        rw [HE.out]
        clear hje hsb
        go_wp2
        go_ret3
        obtain ⟨ys, ho1, hn1⟩ := ho.out
        rw [HJ.out, Nat.sub_self, List.replicate_zero, List.append_nil] at ho1
        rw [HJ.out] at hn1
        exact ⟨_, ys, rfl, (by show World.ownsRow _ _ _ _ _ (Q.gsL L a q q.length).length _; rw [HLl.out]; exact own_down ho1 HM1.out.bl.size), hn1.down HM1.out.bl.size, hM.out.bl⟩
end Go.Proofs.Ytphfjhnmnehfkaa
