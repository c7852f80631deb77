/-
  The nearest server: the model's l6Nearest, the code's comparison and the library's MinFunc over it, Index of the nearest.
-/
import Derived.Test.YtphfjhnmnehfkaaFlo
import Derived.Test.YtphfjhnmnehfkaaTbI
import Derived.Deep.RegionLaw
namespace Go.Proofs.Ytphfjhnmnehfkaa
open Go.RowKit
set_option linter.unusedVariables false
namespace Q
/-- The first of the places below i with the least number. -/
def nrI (f : Nat → Int) : Nat → Nat
  | 0 => 0
  | i + 1 => if f i < f (nrI f i) then i else nrI f i
theorem nrI_lt (f : Nat → Int) : ∀ i, 1 ≤ i → nrI f i < i
  | 0, h => by omega
  | 1, _ => by simp [nrI]
  | i + 2, _ => by
    have := nrI_lt f (i + 1) (by omega)
    unfold nrI
    split <;> omega
theorem nrI_one (f : Nat → Int) : nrI f 1 = 0 := by simp [nrI]
theorem nrI_first (f : Nat → Int) : ∀ i j, j < nrI f i → f (nrI f i) < f j
  | 0, j, h => by simp [nrI] at h
  | i + 1, j, h => by
    unfold nrI at h ⊢
    split
    · rename_i hc
      rw [if_pos hc] at h
      by_cases hj : j < nrI f i
      · have := nrI_first f i j hj; omega
      · have := nrI_least f i j (by omega)
        omega
    · rename_i hc
      rw [if_neg hc] at h
      exact nrI_first f i j h
where
  nrI_least (f : Nat → Int) : ∀ i j, j < i → f (nrI f i) ≤ f j
  | 0, j, h => by omega
  | i + 1, j, h => by
    unfold nrI
    split
    · rename_i hc
      by_cases e : j = i
      · rw [e]; exact Int.le_refl _
      · have := nrI_least f i j (by omega); omega
    · rename_i hc
      by_cases e : j = i
      · rw [e]; omega
      · exact nrI_least f i j (by omega)
def drf (L : List (List Int)) (zs : List Int) (r : Nat) (i : Nat) : Int := dst L (zs.getD i 0).toNat r
theorem drf_at {L : List (List Int)} {zs : List Int} {r i x : Nat} (h : zs[i]? = some (x : Int)) : drf L zs r i = dst L x r := by simp [drf, List.getD_eq_getElem?_getD, h]
def nr (L : List (List Int)) (zs : List Int) (r : Nat) : Nat := nrI (drf L zs r) zs.length
theorem nr_lt {L : List (List Int)} {zs : List Int} {r : Nat} (h : 1 ≤ zs.length) : nr L zs r < zs.length := nrI_lt _ _ h
theorem nr_idx {L : List (List Int)} {zs : List Int} {r x : Nat} (h : 1 ≤ zs.length) (hx : zs[nr L zs r]? = some (x : Int)) : Lib.idxOf zs (x : Int) = ((nr L zs r : Nat) : Int) := by
  unfold Lib.idxOf
  rw [Lib.idxFrom_hit (x : Int) zs (nr L zs r) 0 (nr_lt h) (by simp [List.getD_eq_getElem?_getD, hx]) (fun j hj e => ?_), Nat.zero_add]
  have h1 := nrI_first (drf L zs r) zs.length j hj
  have hjl : j < zs.length := Nat.lt_trans hj (nr_lt h)
  have hj2 : zs[j]? = some (x : Int) := by
    rw [List.getElem?_eq_getElem hjl]
    rw [List.getD_eq_getElem?_getD, List.getElem?_eq_getElem hjl] at e
    simpa using e
  rw [drf_at hj2] at h1
  have h2 := drf_at (L := L) (r := r) hx
  unfold nr at h2
  omega
end Q
set_option maxHeartbeats 800000 in
theorem l6Nearest_any (A : Option Addr) (c : Nat) (xs : List Value) (L : List (List Int)) (zs : List Int) (B : Option Addr) (d : Nat) (r : Nat) (w : World) (hm : Q.metQ L = true) (hP : Q.inP L zs) (h1 : 1 ≤ zs.length) (h3 : zs.length ≤ 3) (hrL : r < L.length) (hr : NRow w A xs L) (hz : Law.Row w B (ivs zs)) :
    Calls Try.prog 92 #[mv A L.length c, .slice B zs.length d, .int .i64 (r : Int)] w fun e w' => e = .returned (.int .i64 ((Q.nr L zs r : Nat) : Int)) ∧ Below w.heap.size w w' := by
  have HM := Lib.hid (MetIn.start (c := c) hr 29)
  have HZ := Lib.hid fun (W : World) (h : Below w.heap.size w W) => hz.stays h
  obtain ⟨_, _, hsq⟩ := Q.met_sqr hm
  have HS := Lib.hid hsq
  have HX := Lib.hid hP
  have HLt := Lib.hid fun i (h : 1 ≤ i) => Q.nrI_lt (Q.drf L zs r) i h
  have HNx : Hid (∀ i, Q.nrI (Q.drf L zs r) (i + 1) = if Q.drf L zs r i < Q.drf L zs r (Q.nrI (Q.drf L zs r) i) then i else Q.nrI (Q.drf L zs r) i) := fun i => by rw [Q.nrI]
  have H1 := Lib.hid (Q.nrI_one (Q.drf L zs r))
  have HD := Lib.hid fun (i x : Nat) (h : zs[i]? = some (x : Int)) => Q.drf_at (L := L) (r := r) h
  have HE : Hid (Q.nr L zs r = Q.nrI (Q.drf L zs r) zs.length) := rfl
  rw [HE.out]
  generalize Q.nrI (Q.drf L zs r) = N at HLt HNx H1 ⊢
  generalize Q.drf L zs r = f at HNx HD
  have hrI : (r : Int) < (L.length : Int) := by omega
  clear hr hz hsq hP hm
  go_enter Try.func92, Try.ntmps92
  go_wp2_with fail
  generalize w.alloc (.cells #[.slice A L.length c] 29) = wa at HM ⊢
  go_wp2
  go_loopw [7, 8] (fun b i wr => ∃ j : Nat, 1 ≤ j ∧ j ≤ zs.length ∧ i = .int .i64 (j : Int) ∧ b = .int .i64 ((N j : Nat) : Int) ∧ Hid (MetIn w wr A c xs L)) (fun _ i _ => zs.length - (intOf i).toNat)
  case atStart => exact ⟨1, Nat.le_refl _, h1, rfl, by rw [H1.out]; rfl, HM.out⟩
  case round =>
    obtain ⟨j, hj1, hj, rfl, rfl, hM⟩ := hrel
    by_cases hlt : j < zs.length
    · have hltI : (j : Int) < (zs.length : Int) := by omega
      have hn := HLt.out j hj1
      have HNj := Lib.hid (HNx.out j)
      obtain ⟨x, hx, hxL⟩ := HX.out j hlt
      obtain ⟨y, hy, hyL⟩ := HX.out (N j) (by omega)
      rw [HD.out j x hx, HD.out (N j) y hy] at HNj
      generalize N j = k at hn hy HNj ⊢
      have hkI : (k : Int) < (zs.length : Int) := by omega
      obtain ⟨p0, p1, p2⟩ := hM.out.bk
      have HZr := Lib.hid (HZ.out _ hM.out.bl)
      obtain ⟨ba, oa, bx, ox, dx, eA, hbb, hcx, hbx, hcxy⟩ := hM.out.rows.dst_at HS.out hxL hrL
      obtain ⟨ba2, oa2, by2, oy, dy, eA2, hbb2, hcy, hby, hcyy⟩ := hM.out.rows.dst_at HS.out hyL hrL
      obtain ⟨cz, oz, eB, hcz, hcj⟩ := HZr.out.at_ (ivs_some hx)
      obtain ⟨cz2, oz2, eB2, hcz2, hck⟩ := HZr.out.at_ (ivs_some hy)
      subst eA eB
      cases eA2
      cases eB2
      have g3 : (x : Int) < (L.length : Int) := by omega
      have g4 : (y : Int) < (L.length : Int) := by omega
      have hbl := Lib.hid hM.out.bl
      generalize Q.dst L x r = D at hcxy HNj
      generalize Q.dst L y r = E at hcyy HNj
      clear hx hy
      by_cases hDE : D < E
      · rw [if_pos hDE] at HNj
        go_wp2
        go_quiet (fail)
        go_wp2
        go_roundw
        case rel => exact ⟨j + 1, by omega, by omega, by go_num, by rw [HNj.out], hM.out.drewN _⟩
        case measure => simp [intOf]; omega
      · rw [if_neg hDE] at HNj
        go_wp2
        go_quiet (fail)
        go_wp2
        go_roundw
        case rel => exact ⟨j + 1, by omega, by omega, by go_num, by rw [HNj.out], hM.out.drewN _⟩
        case measure => simp [intOf]; omega
    · have hje : j = zs.length := by omega
      have hltI : ¬ (j : Int) < (zs.length : Int) := by omega
      have HEn : Hid (N j = N zs.length) := by show _ = _; rw [hje]
      rw [HEn.out]
      clear hje
      go_wp2
      go_ret
      exact ⟨rfl, hM.out.bl⟩
set_option maxHeartbeats 800000 in
/-- The comparison by the distance to a point. -/
theorem cmpG_any (A : Option Addr) (c : Nat) (xs : List Value) (L : List (List Int)) (bm br x y r : Nat) (w : World) (hm : Q.metQ L = true) (hx : x < L.length) (hy : y < L.length) (hrL : r < L.length) (hb : Bk1 w bm (.slice A L.length c)) (hrb : Bk1 w br (.int .i64 (r : Int))) (hr : NRow w A xs L) :
    Calls Try.prog 96 #[.int .i64 (x : Int), .int .i64 (y : Int), .pointer (some ⟨bm, 0, none⟩), .pointer (some ⟨br, 0, none⟩)] w fun e w' => e = .returned (.int .i64 (Q.dst L x r - Q.dst L y r)) ∧ ∃ m, w' = w.drewN m := by
  obtain ⟨_, _, hsq⟩ := Q.met_sqr hm
  have d0 := (Q.met_dst hm hx hrL).1
  have d1 := (Q.met_dst hm hx hrL).2.1
  have e0 := (Q.met_dst hm hy hrL).1
  have e1 := (Q.met_dst hm hy hrL).2.1
  obtain ⟨ba, oa, bx, ox, dx, eA, hbb, hcx, hbx, hcxy⟩ := hr.dst_at hsq hx hrL
  obtain ⟨ba2, oa2, by2, oy, dy, eA2, hbb2, hcy, hby, hcyy⟩ := hr.dst_at hsq hy hrL
  subst eA
  cases eA2
  obtain ⟨p0, p1, p2⟩ := hb
  obtain ⟨q0, q1, q2⟩ := hrb
  have g1 : (r : Int) < (L.length : Int) := by omega
  have g3 : (x : Int) < (L.length : Int) := by omega
  have g4 : (y : Int) < (L.length : Int) := by omega
  generalize Q.dst L x r = D at *
  generalize Q.dst L y r = E at *
  have hw : IntKind.i64.wrap (D - E) = D - E := IntWalk.i64_in _ (by omega)
  clear hr hm hsq hx hy hrL
  go_enter Try.func96, Try.ntmps96
  go_wp2
  go_quiet (fail)
  go_wp2
  go_ret
  exact ⟨rfl, _, rfl⟩
set_option maxHeartbeats 800000 in
theorem minFunc_any (A : Option Addr) (c : Nat) (xs : List Value) (L : List (List Int)) (zs : List Int) (B : Option Addr) (d bm br r : Nat) (w : World) (hm : Q.metQ L = true) (hP : Q.inP L zs) (h1 : 1 ≤ zs.length) (h3 : zs.length ≤ 3) (hrL : r < L.length) (hb : Bk1 w bm (.slice A L.length c)) (hrb : Bk1 w br (.int .i64 (r : Int))) (hr : NRow w A xs L) (hz : Law.Row w B (ivs zs)) :
    Calls Try.prog 95 #[.slice B zs.length d, .func (.func 96) #[] #[.pointer (some ⟨bm, 0, none⟩), .pointer (some ⟨br, 0, none⟩)]] w fun e w' => (∃ x : Nat, e = .returned (.int .i64 (x : Int)) ∧ zs[Q.nr L zs r]? = some (x : Int) ∧ x < L.length) ∧ ∃ m, w' = w.drewN m := by
  have HLt := Lib.hid fun i (h : 1 ≤ i) => Q.nrI_lt (Q.drf L zs r) i h
  have HNx : Hid (∀ i, Q.nrI (Q.drf L zs r) (i + 1) = if Q.drf L zs r i < Q.drf L zs r (Q.nrI (Q.drf L zs r) i) then i else Q.nrI (Q.drf L zs r) i) := fun i => by rw [Q.nrI]
  have H1 := Lib.hid (Q.nrI_one (Q.drf L zs r))
  have HD := Lib.hid fun (i x : Nat) (h : zs[i]? = some (x : Int)) => Q.drf_at (L := L) (r := r) h
  have HE : Hid (Q.nr L zs r = Q.nrI (Q.drf L zs r) zs.length) := rfl
  rw [HE.out]
  have HC := Lib.hid fun (x y m : Nat) (hx : x < L.length) (hy : y < L.length) => cmpG_any A c xs L bm br x y r (w.drewN m) hm hx hy hrL (hb.drewN m) (hrb.drewN m) (hr.drewN m)
  have HZ := Lib.hid hz
  have HX := Lib.hid hP
  generalize Q.nrI (Q.drf L zs r) = N at HLt HNx H1 ⊢
  generalize Q.drf L zs r = f at HNx HD
  have h1I : ¬ (zs.length : Int) < 1 := by omega
  have h0I : (0 : Int) < (zs.length : Int) := by omega
  clear hr hz hP hm hb hrb
  obtain ⟨x0, hx0, hx0L⟩ := HX.out 0 (by omega)
  obtain ⟨cz, oz, rfl, hcz, hc0⟩ := HZ.out.at_ (ivs_some hx0)
  rw [Nat.add_zero] at hc0
  have HX0 := Lib.hid hx0
  clear hx0
  go_enter Try.func95, Try.ntmps95
  go_wp2
  go_loopw [5, 6] (fun v i wr => ∃ (j x : Nat), 1 ≤ j ∧ j ≤ zs.length ∧ i = .int .i64 (j : Int) ∧ v = .int .i64 (x : Int) ∧ x < L.length ∧ Hid (zs[N j]? = some (x : Int)) ∧ Hid (∃ m, wr = w.drewN m)) (fun _ i _ => zs.length - (intOf i).toNat)
  case atStart => exact ⟨1, x0, Nat.le_refl _, h1, rfl, rfl, hx0L, by show _ = _; rw [H1.out]; exact HX0.out, 0, rfl⟩
  case round =>
    obtain ⟨j, y, hj1, hj, rfl, rfl, hyL, hy, hW⟩ := hrel
    by_cases hlt : j < zs.length
    · have hltI : (j : Int) < (zs.length : Int) := by omega
      obtain ⟨m0, rfl⟩ := hW.out
      have HNj := Lib.hid (HNx.out j)
      obtain ⟨x, hx, hxL⟩ := HX.out j hlt
      rw [HD.out j x hx, HD.out (N j) y hy.out] at HNj
      obtain ⟨cz2, oz2, eB, hcz2, hcj⟩ := HZ.out.at_ (ivs_some hx)
      cases eB
      have HCj := Lib.hid (HC.out x y m0 hxL hyL)
      have HXj := Lib.hid hx
      clear hx
      generalize Q.dst L x r = D at HNj HCj
      generalize Q.dst L y r = E at HNj HCj
      by_cases hDE : D < E
      · rw [if_pos hDE] at HNj
        have hneg : D - E < 0 := by omega
        go_wp2_with fail
        go_at_call 96
        refine HCj.out.mono ?_
        rintro e w' ⟨rfl, m1, rfl⟩
        go_wp2
        go_roundw
        case rel => exact ⟨j + 1, x, by omega, by omega, by go_num, rfl, hxL, by show _ = _; rw [HNj.out]; exact HXj.out, _, rfl⟩
        case measure => simp [intOf]; omega
      · rw [if_neg hDE] at HNj
        have hneg : ¬ D - E < 0 := by omega
        go_wp2_with fail
        go_at_call 96
        refine HCj.out.mono ?_
        rintro e w' ⟨rfl, m1, rfl⟩
        go_wp2
        go_roundw
        case rel => exact ⟨j + 1, y, by omega, by omega, by go_num, rfl, hyL, by show _ = _; rw [HNj.out]; exact hy.out, _, rfl⟩
        case measure => simp [intOf]; omega
    · have hje : j = zs.length := by omega
      have hltI : ¬ (j : Int) < (zs.length : Int) := by omega
      have HEn : Hid (zs[N zs.length]? = some (y : Int)) := by show _ = _; rw [← hje]; exact hy.out
      clear hje hy
      go_wp2
      go_ret
      exact ⟨⟨y, rfl, HEn.out, hyL⟩, hW.out⟩
theorem index_rowG {w : World} {A : Option Addr} {c : Nat} {zs : List Int} (hr : Law.Row w A (ivs zs)) (h1 : 1 ≤ zs.length) (hn : zs.length ≤ 1048576) (x : Int) :
    Calls Try.prog 98 #[.slice A zs.length c, .int .i64 x] w fun e w' => e = .returned (.int .i64 (Lib.idxOf zs x)) ∧ w' = w := by
  obtain ⟨b, off, rfl, _, hc⟩ := hr (by intro e; have : zs.length = 0 := by have := congrArg List.length e; simpa [ivs] using this
                                        omega)
  have h := Try.slices_Index_int b off zs.length c zs x w (Nat.le_refl _) (by omega) (fun j hj => hc j _ (by rw [ivs, List.getElem?_map, List.getElem?_eq_getElem hj, List.getD_eq_getElem?_getD, List.getElem?_eq_getElem hj]; rfl))
  rw [List.take_length] at h
  exact h
end Go.Proofs.Ytphfjhnmnehfkaa
