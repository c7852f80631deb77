/-
  Matchings: the code's bestMatching, which calls itself with longer and longer beginnings.
-/
import Derived.Test.YtphfjhnmnehfkaaMtA
import Derived.Test.YtphfjhnmnehfkaaMtM
import Derived.Deep.RegionLaw
namespace Go.Proofs.Ytphfjhnmnehfkaa
open Go.RowKit
set_option linter.unusedVariables false
namespace Q
def mg (L : List (List Int)) (a b : List Int) (i j : Nat) : Int := dst L (a.getD i 0).toNat (b.getD j 0).toNat
theorem mg_at {L : List (List Int)} {a b : List Int} {i j x y : Nat} (hx : a[i]? = some (x : Int)) (hy : b[j]? = some (y : Int)) : mg L a b i j = dst L x y := by
  simp [mg, List.getD_eq_getElem?_getD, hx, hy]
theorem mg_in {L : List (List Int)} {a b : List Int} (hm : metQ L = true) (ha : inP L a) (hb : inP L b) {i j : Nat} (hi : i < a.length) (hj : j < b.length) : 0 ≤ mg L a b i j ∧ mg L a b i j ≤ 99 := by
  obtain ⟨x, hx, hx'⟩ := ha i hi
  obtain ⟨y, hy, hy'⟩ := hb j hj
  rw [mg_at hx hy]
  have := met_dst hm hx' hy'
  omega
end Q
theorem cloneM {w : World} {A : Option Addr} {c : Nat} {zs : List Int} (hr : Law.Row w A (ivs zs)) (hn : zs.length ≤ 1048576) :
    Calls Try.prog 97 #[.slice A zs.length c] w fun e w' => ∃ v', e = .returned v' ∧ w'.ownsRow w.heap.size 3 1 v' zs.length (ivs zs) ∧ Below w.heap.size w w' := by
  by_cases h0 : zs = []
  · subst h0
    cases A with
    | none => exact (Try.slices_Clone_int_nil 0 c w).mono fun e w' ⟨he, hw⟩ => ⟨_, he, by rw [hw]; exact World.ownsRow_nil _ _ _ _, by rw [hw]; exact Below.refl _ _⟩
    | some a => exact (Try.slices_Clone_int_zero a c w).mono fun e w' ⟨v', he, ho, _, hb⟩ => ⟨v', he, ho, hb⟩
  · obtain ⟨b, off, rfl, _, hc⟩ := hr (by simpa [ivs] using h0)
    have h := Try.slices_Clone_int b off zs.length c zs w (Nat.le_refl _) (by omega) (fun j hj => hc j _ (by rw [ivs, List.getElem?_map, List.getElem?_eq_getElem hj, List.getD_eq_getElem?_getD, List.getElem?_eq_getElem hj]; rfl))
    rw [List.take_length] at h
    exact h.mono fun e w' ⟨v', he, ho, _, hb⟩ => ⟨v', he, ho, hb⟩
/-- What holds in each round of bestMatching. -/
structure BmIn (w0 w W : World) (A : Option Addr) (c n : Nat) (v : Value) (p : List Int) (vb : Value) (m : List Int) : Prop where
  bk : Bk1 W w.heap.size (.slice A n c)
  gr : w.grownBy W v.ownBlock
  beg : W.ownsRow w0.heap.size 3 1 v p.length (ivs p)
  bst : W.ownsRow (w.heap.size + 1) 3 1 vb m.length (ivs m)
theorem own_block_lt {w : World} {base n e : Nat} {v : Value} {xs : List Value} (h : w.ownsRow base e 1 v n xs) (k : Nat) (hk : k = w.heap.size ∨ w.heap.size < k) : v.ownBlock ≠ some k := fun e => by
  have := (h.lt k e).2
  omega
theorem BmIn.below {w0 w W : World} {A : Option Addr} {c n : Nat} {v : Value} {p : List Int} {vb : Value} {m : List Int} (h : BmIn w0 w W A c n v p vb m) (hv : w.ownsRow w0.heap.size 3 1 v p.length (ivs p)) (hb : Below w0.heap.size w0 w) : Below w0.heap.size w0 W :=
  hb.grown h.gr hb.size (fun k e => (hv.lt k e).1)
theorem BmIn.drewN {w0 w W : World} {A : Option Addr} {c n : Nat} {v : Value} {p : List Int} {vb : Value} {m : List Int} (h : BmIn w0 w W A c n v p vb m) (k : Nat) : BmIn w0 w (W.drewN k) A c n v p vb m :=
  ⟨h.bk.drewN k, ⟨h.gr.os, h.gr.tape, h.gr.output, h.gr.size, h.gr.block⟩, h.beg, h.bst⟩
/-- Behind the append and the call with the longer beginning. -/
theorem BmIn.step {w0 w W w9 w10 : World} {A : Option Addr} {c n : Nat} {v v9 : Value} {p : List Int} {vb : Value} {m : List Int} {u : Value} {o : Obj} (h : BmIn w0 w W A c n v p vb m) (hv : w.ownsRow w0.heap.size 3 1 v p.length (ivs p))
    (hg9 : (W.alloc o).grownBy w9 v.ownBlock) (ha9 : atOrNew v (W.alloc o) v9) (hm9 : w9.ownsRow w0.heap.size 3 1 v9 (p.length + 1) (ivs p ++ [u])) (hk9 : w9.ownsRow w0.heap.size 3 1 v p.length (ivs p))
    (hg10 : w9.grownBy w10 v9.ownBlock) (hm10 : w10.ownsRow w0.heap.size 3 1 v9 (p.length + 1) (ivs p ++ [u])) : BmIn w0 w w10 A c n v p vb m := by
  have hsz : (W.alloc o).heap.size = W.heap.size + 1 := by simp
  have hlt := h.bk.lt
  have g1 : W.grownBy w9 v.ownBlock := grownBy_trans (grownBy_of ((Below.refl _ _).alloc (Nat.le_refl _) o) v.ownBlock) hg9 (.inl rfl)
  have hne : ∀ k, w.heap.size ≤ k → k < W.heap.size → v9.ownBlock ≠ some k := fun k h1 h2 e => by
    rcases ha9 with e9 | e9
    · have := (hv.lt k (e9 ▸ e)).2; omega
    · rw [e9] at e; injection e with e; omega
  have hvne : ∀ k, w.heap.size ≤ k → v.ownBlock ≠ some k := fun k h1 e => by
    have := (hv.lt k e).2; omega
  refine ⟨(h.bk.grown g1 (hvne _ (Nat.le_refl _))).grown hg10 (hne _ (Nat.le_refl _) hlt), ?_, own_back hk9 hm9 hm10 hg10, ?_⟩
  · have g2 : W.grownBy w10 v.ownBlock := grownBy_trans g1 hg10 (by
      rcases ha9 with e9 | e9
      · exact .inl e9
      · refine .inr fun g e => ?_
        rw [e9] at e; injection e with e; omega)
    exact grownBy_trans h.gr g2 (.inl rfl)
  · refine (h.bst.kept g1 ?_).kept hg10 ?_
    · cases hb : vb.ownBlock with
      | none => exact .inl rfl
      | some b => exact .inr (fun e => hvne b (by have := (h.bst.lt b hb).1; omega) e.symm)
    · cases hb : vb.ownBlock with
      | none => exact .inl rfl
      | some b => exact .inr (fun e => hne b (by have := (h.bst.lt b hb).1; omega) (h.bst.lt b hb).2 e.symm)
theorem BmIn.best {w0 w W : World} {A : Option Addr} {c n b : Nat} {v : Value} {p : List Int} {vb r : Value} {m m' : List Int} (h : BmIn w0 w W A c n v p vb m) (hr : W.ownsRow b 3 1 r m'.length (ivs m')) (hb : w.heap.size + 1 ≤ b) : BmIn w0 w W A c n v p r m' :=
  ⟨h.bk, h.gr, h.beg, own_down hr hb⟩
set_option maxRecDepth 100000 in
set_option maxHeartbeats 1600000 in
theorem bestM_any (w0 : World) (A : Option Addr) (c : Nat) (xs : List Value) (L : List (List Int)) (a b : List Int) (Ba Bb : Option Addr) (da db : Nat) (hm : Q.metQ L = true) (hPa : Q.inP L a) (hPb : Q.inP L b) (hk1 : 1 ≤ a.length) (hk3 : a.length ≤ 3) (hab : b.length = a.length)
    (hr : NRow w0 A xs L) (ha : Law.Row w0 Ba (ivs a)) (hb : Law.Row w0 Bb (ivs b)) : ∀ (f : Nat) (p : List Int) (v : Value) (w : World), p.length + f = a.length → Below w0.heap.size w0 w → w.ownsRow w0.heap.size 3 1 v p.length (ivs p) →
    Calls Try.prog 86 #[mv A L.length c, .slice Ba a.length da, .slice Bb b.length db, v] w fun e w' => ∃ r, e = .returned (.tuple #[r, .int .i64 (Q.bm (Q.mg L a b) a.length f p).2]) ∧ w'.ownsRow w.heap.size 3 1 r (Q.bm (Q.mg L a b) a.length f p).1.length (ivs (Q.bm (Q.mg L a b) a.length f p).1) ∧ w.grownBy w' v.ownBlock ∧ w'.ownsRow w0.heap.size 3 1 v p.length (ivs p)
  | 0, p, v, w, hpf, hB, hv => by
    obtain ⟨Av, cv, rfl, _, _, _⟩ := Law.own_len hv
    have hb0 : Below w.heap.size w (w.alloc (.cells #[.slice A L.length c] 29)) := (Below.refl _ _).alloc (Nat.le_refl _) _
    have HC := Lib.hid (cloneM (c := cv) (Law.Row.own (own_past hv hb0)) (by omega))
    have HV := Lib.hid (own_past hv hb0)
    have HB0 := Lib.hid hb0
    have hE : Q.bm (Q.mg L a b) a.length 0 p = (p, 0) := rfl
    have hpa : a.length = p.length := by omega
    rw [hE, hpa]
    have HV0 := Lib.hid hv
    clear hv hb0 hE hpa hpf hk1 hk3 hab
    go_enter Try.func86, Try.ntmps86
    go_wp2_with fail
    generalize w.alloc (.cells #[.slice A L.length c] 29) = wa at HC HV HB0 ⊢
    go_at_call 97
    refine HC.out.mono ?_
    rintro e w1 ⟨v1, rfl, ho1, hb1⟩
    have HO1 := Lib.hid ho1
    have HB1 := Lib.hid (Law.then_ HB0.out hb1)
    have hsz := HB0.out.size
    clear ho1 hb1
    go_wp2
    go_ret2
    exact ⟨_, rfl, own_down HO1.out hsz, grownBy_of HB1.out _, own_past HV0.out HB1.out⟩
  | f + 1, p, v, w, hpf, hB, hv => by
    obtain ⟨i0, hi, hz0, hz1, hz2⟩ := info_parts infoInts
    obtain ⟨Av, cv, rfl, _, _, _⟩ := Law.own_len hv
    obtain ⟨_, ⟨hL1, hL6⟩, hsq⟩ := Q.met_sqr hm
    have IH := bestM_any w0 A c xs L a b Ba Bb da db hm hPa hPb hk1 hk3 hab hr ha hb f
    have HRec : Hid (∀ (j : Nat) (v9 : Value) (W : World), Below w0.heap.size w0 W → W.ownsRow w0.heap.size 3 1 v9 (p.length + 1) (ivs p ++ [.int .i64 (j : Int)]) →
        Calls Try.prog 86 #[mv A L.length c, .slice Ba a.length da, .slice Bb b.length db, v9] W fun e w' => ∃ r, e = .returned (.tuple #[r, .int .i64 (Q.bm (Q.mg L a b) a.length f (p ++ [(j : Int)])).2]) ∧ w'.ownsRow W.heap.size 3 1 r (Q.bm (Q.mg L a b) a.length f (p ++ [(j : Int)])).1.length (ivs (Q.bm (Q.mg L a b) a.length f (p ++ [(j : Int)])).1) ∧ W.grownBy w' v9.ownBlock ∧ w'.ownsRow w0.heap.size 3 1 v9 (p.length + 1) (ivs p ++ [.int .i64 (j : Int)])) := fun j v9 W h1 h2 => by
      have h := IH (p ++ [(j : Int)]) v9 W (by simp; omega) h1 (by rw [ivs_snoc, show (p ++ [(j : Int)]).length = p.length + 1 by simp]; exact h2)
      rwa [ivs_snoc, show (p ++ [(j : Int)]).length = p.length + 1 by simp] at h
    have HRb : Hid (∀ j, j < b.length → 0 ≤ (Q.bm (Q.mg L a b) a.length f (p ++ [(j : Int)])).2 ∧ (Q.bm (Q.mg L a b) a.length f (p ++ [(j : Int)])).2 ≤ 594) := fun j hj => Q.bm_in (fun i j hi hj => (Q.mg_in hm hPa hPb hi (by omega)).1) f _ (by simp; omega)
    have HGb : Hid (∀ j, j < b.length → 0 ≤ Q.mg L a b p.length j ∧ Q.mg L a b p.length j ≤ 99) := fun j hj => Q.mg_in hm hPa hPb (by omega) hj
    have HKb : Hid (∀ j, j ≤ b.length → 0 ≤ (Q.bmK (Q.bm (Q.mg L a b) a.length f) (Q.mg L a b p.length) p j).2 ∧ (Q.bmK (Q.bm (Q.mg L a b) a.length f) (Q.mg L a b p.length) p j).2 ≤ 594) := fun j hj => Q.bmK_in j fun i hi => ⟨(HGb.out i (by omega)).1, (HRb.out i (by omega)).1⟩
    have HE1 : Hid (∀ j : Nat, (j : Int) ∈ p → Q.bmK (Q.bm (Q.mg L a b) a.length f) (Q.mg L a b p.length) p (j + 1) = Q.bmK (Q.bm (Q.mg L a b) a.length f) (Q.mg L a b p.length) p j) := fun j h => by rw [Q.bmK, if_pos h]
    have HE2 : Hid (∀ j : Nat, (j : Int) ∉ p → Q.bmK (Q.bm (Q.mg L a b) a.length f) (Q.mg L a b p.length) p (j + 1) = Q.st (Q.bmK (Q.bm (Q.mg L a b) a.length f) (Q.mg L a b p.length) p j) (Q.sh (Q.bm (Q.mg L a b) a.length f (p ++ [(j : Int)])) (Q.mg L a b p.length j))) := fun j h => by rw [Q.bmK, if_neg h]
    have hE : Q.bm (Q.mg L a b) a.length (f + 1) p = Q.bmK (Q.bm (Q.mg L a b) a.length f) (Q.mg L a b p.length) p b.length := by rw [Q.bm, hab]
    rw [hE]
    obtain ⟨x, hx, hxL⟩ := hPa p.length (by omega)
    have HY := Lib.hid hPb
    have HDst : Hid (∀ j y : Nat, b[j]? = some (y : Int) → Q.mg L a b p.length j = Q.dst L x y) := fun j y hy => Q.mg_at hx hy
    generalize hRc : Q.bm (Q.mg L a b) a.length f = rc at HRec HRb HKb HE1 HE2 ⊢
    generalize hGg : Q.mg L a b p.length = gg at HGb HKb HE1 HE2 HDst ⊢
    have HT0 : Hid (Q.bmK rc gg p 0 = Q.top) := rfl
    generalize hKk : Q.bmK rc gg p = K at HKb HE1 HE2 HT0 ⊢
    have HB0 := Lib.hid hB
    have HV := Lib.hid hv
    have HNR := Lib.hid fun (W : World) (h : Below w0.heap.size w0 W) => hr.stays h
    have HRA := Lib.hid fun (W : World) (h : Below w0.heap.size w0 W) => (ha.stays h).at_ (ivs_some hx)
    have HRB := Lib.hid fun (W : World) (h : Below w0.heap.size w0 W) => hb.stays h
    have HAB := Lib.hid hab
    have HS := Lib.hid hsq
    have hneB : ((p.length : Int) == (a.length : Int)) = false := by simp; omega
    have hpI : (p.length : Int) < (a.length : Int) := by omega
    have hpl : p.length ≤ 3 := by omega
    have hbl : b.length ≤ 3 := by omega
    have hst : BmIn w0 w ((w.alloc (.cells #[.slice A L.length c] 29)).alloc (.cells #[] 3)) A c L.length (.slice Av p.length cv) p (.slice (some ⟨w.heap.size + 1, 0, none⟩) 0 0) [] := by
      have hb2 : Below w.heap.size w ((w.alloc (.cells #[.slice A L.length c] 29)).alloc (.cells #[] 3)) := ((Below.refl _ _).alloc (Nat.le_refl _) _).alloc (by simp) _
      have ho := ownsRow_nil (w.alloc (.cells #[.slice A L.length c] 29)) 3
      rw [show (w.alloc (.cells #[.slice A L.length c] 29)).heap.size = w.heap.size + 1 by simp] at ho
      exact ⟨(Bk1.new _ _ _).alloc _, grownBy_of hb2 _, own_past hv hb2, ho⟩
    have HST := Lib.hid hst
    clear hm hPa hPb hr ha hb hv hB IH hE hRc hGg hKk hx hsq hst hk1 hk3 hab hpf
    go_enter Try.func86, Try.ntmps86
    go_wp2
    clear hneB
    go_loopw [11, 12, 28] (fun vb cst i wr => ∃ j : Nat, j ≤ b.length ∧ i = .int .i64 (j : Int) ∧ cst = .int .i64 (K j).2 ∧ Hid (BmIn w0 w wr A c L.length (.slice Av p.length cv) p vb (K j).1)) (fun _ _ i _ => b.length - (intOf i).toNat)
    case atStart => exact ⟨0, Nat.zero_le _, rfl, by rw [HT0.out]; rfl, by show BmIn _ _ _ _ _ _ _ _ _ _; rw [HT0.out]; exact HST.out⟩
    case round =>
      obtain ⟨j, hj, rfl, rfl, hN⟩ := hrel
      obtain ⟨hk0, hk5⟩ := HKb.out j hj
      have hBw := Lib.hid (hN.out.below HV.out HB0.out)
      by_cases hlt : j < b.length
      · have hltI : (j : Int) < (b.length : Int) := by omega
        obtain ⟨y, hy, hyL⟩ := HY.out j hlt
        obtain ⟨cb, co, rfl, hcb, hcB⟩ := (HRB.out _ hBw.out).at_ (ivs_some hy)
        have HH := Lib.hid (has_row (c := cv) (Law.Row.own hN.out.beg) (by omega) (j : Int))
        by_cases hmem : (j : Int) ∈ p
        · have HE := Lib.hid (HE1.out j hmem)
          rw [decide_eq_true hmem] at HH
          clear hmem hy
          go_wp2_with fail
          go_at_call 91
          refine (HH.out).mono ?_
          rintro e w' ⟨rfl, hw'⟩
          obtain rfl := hw'.symm
          clear hw'
          go_wp2
          go_roundw
          case rel => exact ⟨j + 1, by omega, by go_num, by rw [HE.out], by show BmIn _ _ _ _ _ _ _ _ _ _; rw [HE.out]; exact hN.out⟩
          case measure => simp [intOf]; omega
        · have HE := Lib.hid (HE2.out j hmem)
          rw [decide_eq_false hmem] at HH
          have HD := HDst.out j y hy
          have hgb := HGb.out j hlt
          rw [HD] at HE hgb
          have hrb := HRb.out j hlt
          have HRj := Lib.hid (HRec.out j)
          generalize rc (p ++ [(j : Int)]) = R at HE hrb HRj
          generalize hD0 : Q.dst L x y = D at HE hgb
          have HDD := Lib.hid hD0
          clear hmem hy HD hD0
          obtain ⟨hp0, hp1, hp2⟩ := hN.out.bk
          go_wp2_with fail
          go_at_call 91
          refine (HH.out).mono ?_
          rintro e w' ⟨rfl, hw'⟩
          obtain rfl := hw'.symm
          clear hw'
          go_wp2_with fail
          go_region_law ((first
            | (refine step_app2 (by rfl) (.tmp 40) (.tmp 42) 25 (by rfl) Try.underlying25 hi hz0 hz1 hz2 (by rfl) (v := .slice Av p.length cv) (n := p.length) (xs := ivs p) (base := w0.heap.size) (by exact hN.out.beg.alloc _) (ad := ⟨wr.heap.size, 0, none⟩) (c := 1) (z := (j : Int)) (by rfl) (by simp) (by omega) (by have := hBw.out.size; simp; omega) ?_; intro v9 w9 hm9 hg9 ha9 hk9; have HM9 := Lib.hid hm9; have HG9 : Hid ((wr.alloc (.cells #[.int .i64 (j : Int)] 3)).grownBy w9 (Value.slice Av p.length cv).ownBlock) := ⟨hg9.os, hg9.tape, hg9.output, hg9.size, hg9.block⟩; have HA9 : Hid (atOrNew (.slice Av p.length cv) (wr.alloc (.cells #[.int .i64 (j : Int)] 3)) v9) := ha9; have HK9 := Lib.hid hk9; clear hm9 hg9 ha9 hk9 hp0 hp1 hp2; have hbk9 := (hN.out.bk.alloc (.cells #[.int .i64 (j : Int)] 3)).grown HG9.out (own_block_lt HV.out _ (.inl rfl)); have HB9 := Lib.hid ((hBw.out.alloc hBw.out.size (.cells #[.int .i64 (j : Int)] 3)).grown HG9.out (by have := hBw.out.size; simp; omega) (fun k e => (HV.out.lt k e).1)); obtain ⟨hp0, hp1, hp2⟩ := hbk9)
            | (go_simp; go_at_call 86; refine (HRj.out v9 w9 HB9.out HM9.out).mono ?_; rintro e w10 ⟨r10, rfl, hr10, hg10, hm10⟩; have HN10 := Lib.hid (hN.out.step HV.out HG9.out HA9.out HM9.out HK9.out hg10 hm10); have HR10 := Lib.hid (own_down hr10 (show w.heap.size + 1 ≤ w9.heap.size from by have h1 := HG9.out.size; have h2 := hN.out.bk.lt; simp at h1; omega)); clear hr10 hg10 hm10 hp0 hp1 hp2)))
          all_goals
            obtain ⟨hp0, hp1, hp2⟩ := HN10.out.bk
            have hB10 := Lib.hid (HN10.out.below HV.out HB0.out)
            obtain ⟨bA, oA, bx, ox, dx, eA, hbb, hcx, hbx, hcxy⟩ := (HNR.out _ hB10.out).dst_at HS.out hxL hyL
            obtain ⟨ca, oa, eBa, hca, hcA⟩ := HRA.out _ hB10.out
            rw [HDD.out] at hcxy
            subst eA eBa
            have hw : IntKind.i64.wrap (R.2 + D) = R.2 + D := IntWalk.i64_in _ (by omega)
            have g3 : (x : Int) < (L.length : Int) := by omega
            have g4 : (y : Int) < (L.length : Int) := by omega
            go_wp2
            go_quiet (fail)
            by_cases hlt2 : R.2 + D < (K j).2
            · have HE3 : Hid (K (j + 1) = (R.1, R.2 + D)) := by show _ = _; rw [HE.out, Q.st, if_pos (by exact hlt2)]; rfl
              clear HE
              generalize (K j).2 = kc at hlt2 hk0 hk5 ⊢
              go_wp2
              go_roundw
              case rel => exact ⟨j + 1, by omega, by go_num, by rw [HE3.out], by show BmIn _ _ _ _ _ _ _ _ _ _; rw [HE3.out]; exact (HN10.out.drewN _).best HR10.out (Nat.le_refl _)⟩
              case measure => simp [intOf]; omega
            · have HE3 : Hid (K (j + 1) = K j) := by show _ = _; rw [HE.out, Q.st, if_neg (by exact hlt2)]
              clear HE
              have HKj : Hid ((K (j + 1)).2 = (K j).2) := by show _ = _; rw [HE3.out]
              go_wp2
              go_roundw
              case rel => exact ⟨j + 1, by omega, by go_num, by rw [HKj.out], by show BmIn _ _ _ _ _ _ _ _ _ _; rw [HE3.out]; exact HN10.out.drewN _⟩
              case measure => simp [intOf]; omega
      · have hje : j = b.length := by omega
        have hltI : ¬ (j : Int) < (b.length : Int) := by omega
        have HE : Hid (K j = K b.length) := by show _ = _; rw [hje]
        rw [HE.out] at hN ⊢
        clear hje hk0 hk5
        go_wp2
        go_ret2
        exact ⟨_, rfl, own_down hN.out.bst (Nat.le_succ _), hN.out.gr, hN.out.beg⟩
end Go.Proofs.Ytphfjhnmnehfkaa
