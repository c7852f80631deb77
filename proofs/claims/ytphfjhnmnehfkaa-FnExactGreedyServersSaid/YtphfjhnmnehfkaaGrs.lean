/-
  GreedyServers: the mathematics; the model's.
-/
import Derived.Test.YtphfjhnmnehfkaaNrs
import Derived.Test.YtphfjhnmnehfkaaSrtS
import Derived.Test.YtphfjhnmnehfkaaOwnS
import Derived.Test.YtphfjhnmnehfkaaChc
import Derived.Test.YtphfjhnmnehfkaaNil
namespace Go.Proofs.Ytphfjhnmnehfkaa
open Go.RowKit
set_option linter.unusedVariables false
namespace Q
def gsK (L : List (List Int)) (a q : List Int) : Nat → List Int
  | 0 => a
  | i + 1 => srt ((gsK L a q i).set (nr L (gsK L a q i) (q.getD i 0).toNat) (q.getD i 0))
def gsL (L : List (List Int)) (a q : List Int) : Nat → List (List Int)
  | 0 => []
  | i + 1 => gsL L a q i ++ [gsK L a q (i + 1)]
def gsF (L : List (List Int)) (a q : List Int) (i : Nat) : Int := dst L ((gsK L a q i).getD (nr L (gsK L a q i) (q.getD i 0).toNat) 0).toNat (q.getD i 0).toNat
noncomputable def greQ (L : List (List Int)) (a q : List Int) : List (List Int) × Int × Bool := if srvQ L a q then (gsL L a q q.length, csum (gsF L a q) q.length, true) else ([], 0, false)
theorem gre_yes {L : List (List Int)} {a q : List Int} (h : srvQ L a q = true) : greQ L a q = (gsL L a q q.length, csum (gsF L a q) q.length, true) := if_pos h
theorem gre_no {L : List (List Int)} {a q : List Int} (h : srvQ L a q = false) : greQ L a q = ([], 0, false) := if_neg (by simp [h])
theorem inP_mem {L : List (List Int)} {l : List Int} : inP L l ↔ ∀ z ∈ l, ∃ x : Nat, z = (x : Int) ∧ x < L.length := by
  constructor
  · intro h z hz
    obtain ⟨i, hi, rfl⟩ := List.mem_iff_getElem.1 hz
    obtain ⟨x, h1, h2⟩ := h i hi
    rw [List.getElem?_eq_getElem hi] at h1
    injection h1 with h1
    exact ⟨x, h1, h2⟩
  · intro h i hi
    obtain ⟨x, h1, h2⟩ := h l[i] (List.getElem_mem hi)
    exact ⟨x, by rw [List.getElem?_eq_getElem hi, h1], h2⟩
theorem inP_srt {L : List (List Int)} {l : List Int} (h : inP L l) : inP L (srt l) := inP_mem.2 fun z hz => inP_mem.1 h z ((srt_perm l).mem_iff.1 hz)
theorem inP_set {L : List (List Int)} {l : List Int} {k r : Nat} (h : inP L l) (hr : r < L.length) : inP L (l.set k (r : Int)) := inP_mem.2 fun z hz => by
  rcases List.mem_or_eq_of_mem_set hz with h1 | h1
  · exact inP_mem.1 h z h1
  · exact ⟨r, h1, hr⟩
theorem gsK_next {L : List (List Int)} {a q : List Int} {i r : Nat} (h : q[i]? = some (r : Int)) : gsK L a q (i + 1) = srt ((gsK L a q i).set (nr L (gsK L a q i) r) (r : Int)) := by
  rw [gsK, List.getD_eq_getElem?_getD, h]
  rfl
theorem gsF_at {L : List (List Int)} {a q : List Int} {i r x : Nat} (h : q[i]? = some (r : Int)) (hx : (gsK L a q i)[nr L (gsK L a q i) r]? = some (x : Int)) : gsF L a q i = dst L x r := by
  unfold gsF
  rw [show q.getD i 0 = (r : Int) by rw [List.getD_eq_getElem?_getD, h]; rfl, Int.toNat_natCast, List.getD_eq_getElem?_getD, hx]
  rfl
theorem gs_ok {L : List (List Int)} {a q : List Int} (ha : inP L a) (hq : within 0 ((L.length : Int) - 1) q = true) : ∀ i, i ≤ q.length → (gsK L a q i).length = a.length ∧ inP L (gsK L a q i)
  | 0, _ => ⟨rfl, ha⟩
  | i + 1, h => by
    have ih := gs_ok ha hq i (by omega)
    obtain ⟨r, h1, h2⟩ := within_nat hq (i := i) (by omega)
    rw [gsK_next h1]
    exact ⟨by rw [srt_len, List.length_set, ih.1], inP_srt (inP_set ih.2 h2)⟩
theorem gsL_len (L : List (List Int)) (a q : List Int) : ∀ i, (gsL L a q i).length = i
  | 0 => rfl
  | i + 1 => by rw [gsL, List.length_append, gsL_len L a q i]; rfl
end Q
/-- What a call says that gives rows of its own, a number and whether there are any. -/
def nest7 (X : List (List Int) × Int × Bool) (w : World) (e : Ending) (w' : World) : Prop :=
  ∃ v xs, e = .returned (.tuple #[v, .int .i64 X.2.1, .bool X.2.2]) ∧ w'.ownsRow w.heap.size 25 1 v X.1.length xs ∧ NOwn w' w.heap.size xs X.1 ∧ Below w.heap.size w w'
set_option maxRecDepth 100000 in
set_option maxHeartbeats 1600000 in
theorem specGre_any (A : Option Addr) (c : Nat) (xs : List Value) (L : List (List Int)) (a q : List Int) (Ba Bq : Option Addr) (da dq : Nat) (hla : a.length ≤ 1048576) (hlq : q.length ≤ 1048576) (w : World) (hr : NRow w A xs L) (ha : Law.Row w Ba (ivs a)) (hq : Law.Row w Bq (ivs q)) :
    Calls Try.prog 50 #[mv A L.length c, .slice Ba a.length da, .slice Bq q.length dq] w (nest7 (Q.greQ L a q) w) := by
  obtain ⟨i0, hi, hz0, hz1, hz2⟩ := info_parts infoInts
  obtain ⟨i1, hj', hq0, hq1, hq2⟩ := info_parts infoII
  have HM0 := MetIn.start (c := c) hr 29
  have hb0 : Below (w.alloc (.cells #[.slice A L.length c] 29)).heap.size (w.alloc (.cells #[.slice A L.length c] 29)) ((w.alloc (.cells #[.slice A L.length c] 29)).alloc (.cells #[] 25)) := (Below.refl _ _).alloc (Nat.le_refl _) _
  have HM := Lib.hid (HM0.on hb0)
  have HO0 := ownsRow_nil (w.alloc (.cells #[.slice A L.length c] 29)) 25
  have HO := Lib.hid (own_down HO0 HM0.bl.size)
  have HT := Lib.hid fun (W : World) (h : Below w.heap.size w W) => l6Start_any A c xs L a q Ba Bq da dq hla hlq W (hr.stays h) (ha.stays h) (hq.stays h)
  rw [show (w.alloc (.cells #[.slice A L.length c] 29)).heap.size = w.heap.size + 1 by simp] at HO
  clear HM0 hb0 HO0
  cases hs : Q.srvQ L a q
  · rw [Q.gre_no hs]
    rw [hs] at HT
    clear hr ha hq hs
    go_enter Try.func50, Try.ntmps50
    go_wp2_with fail
    generalize (w.alloc (.cells #[.slice A L.length c] 29)).alloc (.cells #[] 25) = wa at HM HO ⊢
    obtain ⟨hk0, hk1, hk2⟩ := HM.out.bk
    go_wp2_with fail
    go_at_call 69
    refine (HT.out wa HM.out.bl).mono ?_
    rintro e w1 ⟨rfl, hb⟩
    have HB := Lib.hid (HM.out.on hb).bl
    have HO1 := Lib.hid (own_past HO.out hb)
    clear hb
    go_wp2
    go_ret3
    exact ⟨_, [], rfl, HO1.out, NOwn.nil _ _, HB.out⟩
  · rw [Q.gre_yes hs]
    have hm := Q.srv_good hs
    obtain ⟨ha1, ha3, hq60⟩ := Q.srv_len hs
    obtain ⟨_, hsa, _, hqw⟩ := Q.srv_iff.1 hs
    obtain ⟨_, ⟨hL1, hL6⟩, hsq⟩ := Q.met_sqr hm
    have hPa : Q.inP L a := fun i hi => Q.within_nat (Q.servers_iff.1 hsa).2.2.1 hi
    have HOk := Lib.hid (Q.gs_ok hPa hqw)
    have HXq : Hid (∀ i, i < q.length → ∃ r : Nat, q[i]? = some (r : Int) ∧ r < L.length) := fun i hi => Q.within_nat hqw hi
    have HRq := Lib.hid fun (W : World) (h : Below w.heap.size w W) => hq.stays h
    have HRa := Lib.hid fun (W : World) (h : Below w.heap.size w W) => ha.stays h
    have HNr := Lib.hid fun (zs : List Int) (B : Option Addr) (d r : Nat) (W : World) (hP : Q.inP L zs) (hl : zs.length = a.length) (hrL : r < L.length) (h : Below w.heap.size w W) (hz : Law.Row W B (ivs zs)) => l6Nearest_any A c xs L zs B d r W hm hP (by omega) (by omega) hrL (hr.stays h) hz
    have HS := Lib.hid hsq
    have HDs := Lib.hid fun (x y : Nat) (hx : x < L.length) (hy : y < L.length) => Q.met_dst hm hx hy
    have HMb := Lib.hid (MetIn.start (c := c) hr 29)
    have HOb := Lib.hid (ownsRow_nil (w.alloc (.cells #[.slice A L.length c] 29)) 25)
    have HBb : Hid (Below (w.alloc (.cells #[.slice A L.length c] 29)).heap.size (w.alloc (.cells #[.slice A L.length c] 29)) ((w.alloc (.cells #[.slice A L.length c] 29)).alloc (.cells #[] 25))) := (Below.refl _ _).alloc (Nat.le_refl _) _
    rw [hs] at HT
    clear hr ha hq hs hm hsa hqw hsq hPa HO
    go_enter Try.func50, Try.ntmps50
    go_wp2_with fail
    generalize (w.alloc (.cells #[.slice A L.length c] 29)).alloc (.cells #[] 25) = wa at HM HOb HBb ⊢
    generalize hwb : w.alloc (.cells #[.slice A L.length c] 29) = wb at HMb HOb HBb ⊢
    have hsb : wb.heap.size = w.heap.size + 1 := by rw [← hwb]; simp
    rw [← hsb]
    clear hwb hsb
    obtain ⟨hk0, hk1, hk2⟩ := HM.out.bk
    go_wp2_with fail
    go_at_call 69
    refine (HT.out wa HM.out.bl).mono ?_
    rintro e w1 ⟨rfl, hb⟩
    have HB1 := Lib.hid (Law.then_ HBb.out hb)
    have HO1 := Lib.hid (own_past HOb.out hb)
    clear hb hk0 hk1 hk2 HM HBb HOb
    go_wp2
    go_loopw [9, 10, 11, 12] (fun u sm now i wr => ∃ j : Nat, ∃ Bn cn, j ≤ q.length ∧ i = .int .i64 (j : Int) ∧ now = .slice Bn (Q.gsK L a q j).length cn ∧ sm = .int .i64 (Q.csum (Q.gsF L a q) j) ∧ Hid (0 ≤ Q.csum (Q.gsF L a q) j ∧ Q.csum (Q.gsF L a q) j ≤ 99 * j) ∧ Hid (Law.Row wr Bn (ivs (Q.gsK L a q j))) ∧ Hid (∃ ys, wr.ownsRow wb.heap.size 25 1 u (Q.gsL L a q j).length ys ∧ NOwn wr wb.heap.size ys (Q.gsL L a q j)) ∧ Hid (Below wb.heap.size wb wr)) (fun _ _ _ i _ => q.length - (intOf i).toNat)
    case atStart => exact ⟨0, Ba, da, Nat.zero_le _, rfl, rfl, rfl, by show _ ∧ _; simp [Q.csum], HRa.out _ (HMb.out.on HB1.out).bl, ⟨[], HO1.out, NOwn.nil _ _⟩, HB1.out⟩
    case round =>
      obtain ⟨j, Bn, cn, hj, rfl, rfl, rfl, hsb, hnow, ho, hB⟩ := hrel
      have hM := Lib.hid (HMb.out.on hB.out)
      by_cases hlt : j < q.length
      · have hltI : (j : Int) < (q.length : Int) := by omega
        obtain ⟨hKl, hKp⟩ := HOk.out j hj
        obtain ⟨r, hq1, hrL⟩ := HXq.out j hlt
        have hnr := Q.nr_lt (L := L) (r := r) (show 1 ≤ (Q.gsK L a q j).length by omega)
        obtain ⟨x, hx, hxL⟩ := hKp _ hnr
        have HN1 := Lib.hid (Q.gsK_next (L := L) (a := a) hq1)
        have HF1 : Hid (Q.csum (Q.gsF L a q) (j + 1) = Q.csum (Q.gsF L a q) j + Q.dst L x r) := by show _ = _; rw [Q.csum, Q.gsF_at hq1 hx]
        have HL1 : Hid (Q.gsL L a q (j + 1) = Q.gsL L a q j ++ [Q.gsK L a q (j + 1)]) := rfl
        have HLl := Lib.hid (Q.gsL_len L a q j)
        have HNc := Lib.hid (HNr.out (Q.gsK L a q j) Bn cn r)
        have hd0 := (HDs.out x r hxL hrL).1
        have hd1 := (HDs.out x r hxL hrL).2.1
        have HKl1 : Hid ((Q.gsK L a q (j + 1)).length = (Q.gsK L a q j).length) := by show _ = _; rw [(HOk.out (j + 1) hlt).1, hKl]
        have hka : (Q.gsK L a q j).length ≤ 3 := by omega
        have HKp := Lib.hid hKp
        have HKl := Lib.hid hKl
        obtain ⟨qb, qo, rfl, hqb, hqc⟩ := (HRq.out _ hM.out.bl).at_ (ivs_some hq1)
        have HXx := Lib.hid hx
        generalize hK1 : Q.gsK L a q (j + 1) = K1 at HN1 HL1 HKl1 ⊢
        have HK1e := Lib.hid hK1
        clear hK1
        generalize Q.gsK L a q j = K at hnr HNc HN1 HKl1 hka HKp HKl hnow HXx ⊢
        generalize Q.gsL L a q j = G at ho HL1 HLl
        generalize Q.nr L K r = n at hnr HNc HN1 HXx
        clear hKl hKp hq1 hx
        obtain ⟨hs0, hs1⟩ := hsb.out
        generalize Q.csum (Q.gsF L a q) j = S at hs0 hs1 HF1 ⊢
        generalize hD0 : Q.dst L x r = D at hd0 hd1 HF1
        have HDD := Lib.hid hD0
        clear hD0 hsb
        have hw : IntKind.i64.wrap (S + D) = S + D := IntWalk.i64_in _ (by omega)
        obtain ⟨w5, hw5⟩ : ∃ w5, w5 = wr := ⟨_, rfl⟩
        rw [← hw5] at hnow ho hM hB hqc hqb ⊢
        clear hw5
        obtain ⟨hk0, hk1, hk2⟩ := hM.out.bk
        have HQC := Lib.hid hqc
        go_wp2_with fail
        go_region_law ((go_simp; go_at_call 92; refine (HNc.out _ HKp.out HKl.out hrL (Law.up hM.out.bl _) (by first | exact hnow.out | exact Law.Row.drewN hnow.out _)).mono ?_; rintro e w6 ⟨rfl, hb⟩; have hb6 := Lib.hid (Law.then_ (Law.up (Below.refl w5.heap.size w5) _) hb); clear hb))
        all_goals
          have hM6 := Lib.hid (hM.out.on hb6.out)
          have hnow6 := Lib.hid (hnow.out.stays hb6.out)
          have hqc6 : w6.cell? ⟨qb, qo + j, none⟩ = some (.int .i64 (r : Int)) := (hb6.out.cell (p := ⟨qb, qo + j, none⟩) hqb).trans hqc
          clear hk0 hk1 hk2 hqc
          obtain ⟨hk0, hk1, hk2⟩ := hM6.out.bk
          obtain ⟨bA, oA, bx, ox, dx, eA, hbb, hcx, hbx, hcxy⟩ := hM6.out.rows.dst_at HS.out hxL hrL
          obtain ⟨cb, co, eB, hcb, hcB⟩ := hnow6.out.at_ (ivs_some HXx.out)
          subst eA eB
          rw [HDD.out] at hcxy
          have g3 : (x : Int) < (L.length : Int) := by omega
          have g4 : (r : Int) < (L.length : Int) := by omega
          have g5 : (n : Int) < (K.length : Int) := by omega
          go_wp2
          go_quiet (fail)
          generalize hWW : w6.drewN _ = w7
          have hb7 := Lib.hid (show Below w5.heap.size w5 w7 by rw [← hWW]; exact Law.up hb6.out _)
          have hnow7 := Lib.hid (show Law.Row w7 _ _ by rw [← hWW]; exact Law.Row.drewN hnow6.out _)
          clear hWW hk0 hk1 hk2 hcx hcxy hcB hqc6 hM6 hnow6
          have HOw := Lib.hid (l1Own_any _ cn K w7 (by omega) hnow7.out)
          go_wp2_with fail
          go_at_call 93
          refine HOw.out.mono ?_
          rintro e w8 ⟨v8, rfl, ho8, hb8⟩
          obtain ⟨g8, c8, rfl, hg8a, hg8b⟩ := own_some ho8 (by omega)
          have hb8' := Lib.hid (Law.then_ hb7.out hb8)
          have hqc8 : w8.cell? ⟨qb, qo + j, none⟩ = some (.int .i64 (r : Int)) := (hb8'.out.cell (p := ⟨qb, qo + j, none⟩) hqb).trans HQC.out
          have hc8 := own_cell ho8 HXx.out
          have hf8 := ho8.frozenAt n
          have HP8 := Lib.hid (own_put ho8 n (r : Int))
          have hb9 := Lib.hid (hb8'.out.setCell (p := ⟨g8, n, none⟩) (Nat.le_trans hb7.out.size hg8a) (.int .i64 (r : Int)))
          have hSo := l6Sort_any (some ⟨g8, 0, none⟩) c8 (K.set n (r : Int)) _ (by rw [List.length_set]; omega) (Law.Row.own HP8.out)
          rw [List.length_set, ← HN1.out] at hSo
          have HSo := Lib.hid hSo
          clear hSo ho8 hb8
          go_wp2_with fail
          go_at_call 94
          refine HSo.out.mono ?_
          rintro e w9 ⟨v9, rfl, ho9, hb9b⟩
          have hb9' := Lib.hid (Law.then_ hb9.out hb9b)
          have hx9 := own_down ho9 hb9.out.size
          clear hb9b ho9 HP8 hb9 HSo hqc8 hc8 hf8
          obtain ⟨A9, c9, rfl, _, _, _⟩ := Law.own_len hx9
          have HX9 := Lib.hid hx9
          have HOw2 := Lib.hid (l1Own_any A9 c9 K1 w9 (by have := HKl1.out; omega) (Law.Row.own hx9))
          clear hx9
          go_wp2_with fail
          go_at_call 93
          refine HOw2.out.mono ?_
          rintro e w10 ⟨v10, rfl, ho10, hb10⟩
          have HB10 := Lib.hid (Law.then_ hb9'.out hb10)
          have hx10 := own_down ho10 hb9'.out.size
          have HX910 := Lib.hid (own_past HX9.out hb10)
          obtain ⟨A10, c10, rfl, _, _, _⟩ := Law.own_len ho10
          obtain ⟨ys, hy1, hy2⟩ := ho.out
          have HO10 := Lib.hid (own_past hy1 HB10.out)
          have HN10 := Lib.hid (NOwn.snoc hy2 (hy2.past HB10.out) hx10 hB.out.size)
          have HBW := Lib.hid (Law.then_ hB.out HB10.out)
          have hszw := HBW.out.size
          have hGl : G.length ≤ 60 := by have := HLl.out; omega
          have hyl : ys.length = G.length := by have := hy1.1; omega
          clear hy1 hy2 ho10 hb10 hx10
          go_wp2_with (at_builtin; refine wpList_append_own _ rfl _ _ 22 rfl wb.heap.size 25 i1 (.slice none 0 0) 1 24 Try.underlying22 hj' hq0 hq1 hq2 rfl (by decide) _ _ _ rfl (HO10.out.alloc _) ⟨w10.heap.size, 0, none⟩ 1 1 [.slice A10 K1.length c10] rfl rfl ?_ ?_ ?_ ?_ ?_ ?_)
          · intro j' u hj'
            match j', hj' with
            | 0, hj' => simp at hj'; subst hj'; simp [Addr.add]
          · intro u hu; simp at hu; subst hu; rfl
          · unfold maxLen; omega
          · omega
          · simp; omega
          intro v11 w11 hm11 hg11 _
          have HB11 := Lib.hid ((HBW.out.alloc hszw (.cells #[.slice A10 K1.length c10] 25)).grown hg11 (by simp; omega) (fun j e => (HO10.out.lt j e).1))
          have HV11 : Hid (∃ ys, w11.ownsRow wb.heap.size 25 1 v11 (Q.gsL L a q (j + 1)).length ys ∧ NOwn w11 wb.heap.size ys (Q.gsL L a q (j + 1))) := by
            refine ⟨_, by rw [HL1.out, show (G ++ [K1]).length = G.length + 1 by simp]; exact hm11, ?_⟩
            rw [HL1.out]
            exact (HN10.out.alloc _).outer ints_ne (HO10.out.alloc _) hg11
          have HX11 := Lib.hid (Law.Row.own ((HX910.out.alloc (.cells #[.slice A10 K1.length c10] 25)).kept hg11 (own_types ints_ne HX910.out HO10.out)))
          clear hm11 hg11 ho hnow hnow7
          go_wp2
          go_roundw
          case rel => exact ⟨j + 1, A9, c9, by omega, by go_num, by rw [HK1e.out], by rw [HF1.out], by show _ ∧ _; rw [HF1.out]; constructor <;> omega, by show Law.Row _ _ _; rw [HK1e.out]; exact HX11.out, HV11.out, HB11.out⟩
          case measure => simp [intOf]; omega
      · have hje : j = q.length := by omega
        have hltI : ¬ (j : Int) < (q.length : Int) := by omega
        have HE : Hid (Q.csum (Q.gsF L a q) j = Q.csum (Q.gsF L a q) q.length) := by show _ = _; rw [hje]
        have HJ := Lib.hid hje
        rw [HE.out]
        clear hje hsb
        go_wp2
        go_ret3
        obtain ⟨ys, ho1, hn1⟩ := ho.out
        rw [HJ.out] at ho1 hn1
        exact ⟨_, ys, rfl, own_down ho1 HMb.out.bl.size, hn1.down HMb.out.bl.size, hM.out.bl⟩
end Go.Proofs.Ytphfjhnmnehfkaa
