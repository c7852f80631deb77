/-
  Matchings: the model's l6Match and l6Move, l6Two and the code's isMove; MoveCost and MatchConfigs, both sides.
-/
import Derived.Test.YtphfjhnmnehfkaaMtB
import Derived.Test.YtphfjhnmnehfkaaMtP
namespace Go.Proofs.Ytphfjhnmnehfkaa
open Go.RowKit
set_option linter.unusedVariables false
namespace Q
def allIn (k : Nat) (L : List (List Int)) : Prop := ∀ l ∈ L, ∀ j, j < l.length → ∃ x : Nat, l[j]? = some (x : Int) ∧ x < k
theorem px_in {k : Nat} {l : List Int} (h : ∀ j, j < l.length → ∃ x : Nat, l[j]? = some (x : Int) ∧ x < k) : ∀ x, x ≤ k → allIn k (pxK l x)
  | 0, _ => fun m hm => by simp [pxK] at hm
  | x + 1, hx => fun m hm => by
    unfold pxK at hm
    split at hm
    · exact px_in h x (by omega) m hm
    · rcases List.mem_append.1 hm with h1 | h1
      · exact px_in h x (by omega) m h1
      · obtain rfl := List.mem_singleton.1 h1
        intro j hj
        by_cases e : j < l.length
        · rw [List.getElem?_append_left e]
          exact h j e
        · have : j = l.length := by simp at hj; omega
          subst this
          exact ⟨x, by simp, by omega⟩
theorem pl_in {k : Nat} {L : List (List Int)} (h : allIn k L) : ∀ j, j ≤ L.length → allIn k (plK k L j)
  | 0, _ => fun m hm => by simp [plK] at hm
  | j + 1, hj => fun m hm => by
    have hx : L[j]? = some L[j] := List.getElem?_eq_getElem (by omega)
    rw [pl_next hx] at hm
    rcases List.mem_append.1 hm with h1 | h1
    · exact pl_in h j (by omega) m h1
    · exact px_in (h _ (List.getElem_mem (by omega))) k (Nat.le_refl _) m h1
theorem prm_in (k : Nat) : ∀ i, allIn k (prm k i)
  | 0 => fun l hl => by simp [prm] at hl; subst hl; intro j hj; simp at hj
  | i + 1 => pl_in (prm_in k i) _ (Nat.le_refl _)
theorem mt_bm {g : Nat → Nat → Int} {k : Nat} (h1 : 1 ≤ k) (h3 : k ≤ 3) (hg : ∀ i j, i < k → j < k → 0 ≤ g i j ∧ g i j ≤ 99) : mt g k = bm g k k [] := by
  rcases (by omega : k = 1 ∨ k = 2 ∨ k = 3) with rfl | rfl | rfl
  · exact mt_bm1 g (hg 0 0 (by decide) (by decide))
  · exact mt_bm2 g hg
  · exact mt_bm3 g hg
theorem psf_at {g : Nat → Nat → Int} {l : List Int} {j x : Nat} (h : l[j]? = some (x : Int)) : psf g l j = g j x := by simp [psf, List.getD_eq_getElem?_getD, h]
theorem mtK_get {g : Nat → Nat → Int} {k : Nat} {L : List (List Int)} {i : Nat} {l : List Int} (h : L[i]? = some l) : mtK g k L (i + 1) = if (mtK g k L i).2 < 0 ∨ psum g k l < (mtK g k L i).2 then (l, psum g k l) else mtK g k L i := by
  rw [mtK, show L.getD i [] = l by rw [List.getD_eq_getElem?_getD, h]; rfl]
theorem mtK_len {g : Nat → Nat → Int} {k : Nat} {L : List (List Int)} (h : allLen k L) : ∀ i, i ≤ L.length → (mtK g k L i).1.length ≤ k
  | 0, _ => by simp [mtK]
  | i + 1, hi => by
    have hx : L[i]? = some L[i] := List.getElem?_eq_getElem (by omega)
    rw [mtK_get hx]
    split
    · exact Nat.le_of_eq (h _ (List.getElem_mem (by omega)))
    · exact mtK_len h i (by omega)
/-- Two configurations with as many servers. -/
noncomputable def twoQ (L : List (List Int)) (a b : List Int) : Bool := metQ L && (servers ((L.length : Int) - 1) a && (servers ((L.length : Int) - 1) b && decide (a.length = b.length)))
theorem two_iff {L : List (List Int)} {a b : List Int} : twoQ L a b = true ↔ metQ L = true ∧ servers ((L.length : Int) - 1) a = true ∧ servers ((L.length : Int) - 1) b = true ∧ a.length = b.length := by simp [twoQ]
theorem srv_in {L : List (List Int)} {a : List Int} (h : servers ((L.length : Int) - 1) a = true) : inP L a := fun i hi => within_nat (servers_iff.1 h).2.2.1 hi
noncomputable def moveQ (L : List (List Int)) (a b : List Int) : Mt := mt (mg L a b) a.length
noncomputable def mvcQ (L : List (List Int)) (a b : List Int) : Int × Bool := if twoQ L a b then ((moveQ L a b).2, true) else (0, false)
noncomputable def mtchQ (L : List (List Int)) (a b : List Int) : List Int × Bool := if twoQ L a b then ((moveQ L a b).1, true) else ([], false)
theorem mvc_yes {L : List (List Int)} {a b : List Int} (h : twoQ L a b = true) : mvcQ L a b = ((moveQ L a b).2, true) := if_pos h
theorem mvc_no {L : List (List Int)} {a b : List Int} (h : twoQ L a b = false) : mvcQ L a b = (0, false) := if_neg (by simp [h])
theorem mtch_yes {L : List (List Int)} {a b : List Int} (h : twoQ L a b = true) : mtchQ L a b = ((moveQ L a b).1, true) := if_pos h
theorem mtch_no {L : List (List Int)} {a b : List Int} (h : twoQ L a b = false) : mtchQ L a b = ([], false) := if_neg (by simp [h])
theorem move_bm {L : List (List Int)} {a b : List Int} (hm : metQ L = true) (ha : inP L a) (hb : inP L b) (h1 : 1 ≤ a.length) (h3 : a.length ≤ 3) (hab : b.length = a.length) : moveQ L a b = bm (mg L a b) a.length a.length [] :=
  mt_bm h1 h3 fun i j hi hj => mg_in hm ha hb hi (by omega)
theorem move_in {L : List (List Int)} {a b : List Int} (hm : metQ L = true) (ha : inP L a) (hb : inP L b) (h1 : 1 ≤ a.length) (h3 : a.length ≤ 3) (hab : b.length = a.length) : 0 ≤ (moveQ L a b).2 ∧ (moveQ L a b).2 ≤ 594 := by
  rw [move_bm hm ha hb h1 h3 hab]
  exact bm_in (fun i j hi hj => (mg_in hm ha hb hi (by omega)).1) _ _ (by simp)
theorem move_len {L : List (List Int)} {a b : List Int} : (moveQ L a b).1.length ≤ a.length := mtK_len (prm_all _ _) _ (Nat.le_refl _)
end Q
set_option maxRecDepth 100000 in
set_option maxHeartbeats 1600000 in
theorem l6Match_any (A : Option Addr) (c : Nat) (xs : List Value) (L : List (List Int)) (a b : List Int) (Ba Bb : Option Addr) (da db : Nat) (w : World) (hm : Q.metQ L = true) (hPa : Q.inP L a) (hPb : Q.inP L b) (hk3 : a.length ≤ 3) (hab : b.length = a.length) (hr : NRow w A xs L) (ha : Law.Row w Ba (ivs a)) (hb : Law.Row w Bb (ivs b)) :
    Calls Try.prog 87 #[mv A L.length c, .slice Ba a.length da, .slice Bb b.length db] w fun e w' => ∃ v, e = .returned (.tuple #[v, .int .i64 (Q.moveQ L a b).2]) ∧ w'.ownsRow w.heap.size 3 1 v (Q.moveQ L a b).1.length (ivs (Q.moveQ L a b).1) ∧ Below w.heap.size w w' := by
  obtain ⟨_, ⟨hL1, hL6⟩, hsq⟩ := Q.met_sqr hm
  have HM := Lib.hid (MetIn.start (c := c) hr 29)
  have HP := Lib.hid fun (W : World) => l6Perms_any a.length W hk3
  have HAll := Lib.hid (Q.prm_all a.length a.length)
  have HIn := Lib.hid (Q.prm_in a.length a.length)
  have hfew : (Q.prm a.length a.length).length ≤ 27 := Q.prm_few hk3 _ hk3
  have HGi := Lib.hid fun i j (hi : i < a.length) (hj : j < b.length) => Q.mg_in hm hPa hPb hi hj
  have HX := Lib.hid hPa
  have HY := Lib.hid hPb
  have HRA := Lib.hid fun (W : World) (h : Below w.heap.size w W) => ha.stays h
  have HRB := Lib.hid fun (W : World) (h : Below w.heap.size w W) => hb.stays h
  have HS := Lib.hid hsq
  have HAB := Lib.hid hab
  have HDst := Lib.hid fun (i j x y : Nat) (h1 : a[i]? = some (x : Int)) (h2 : b[j]? = some (y : Int)) => Q.mg_at (L := L) h1 h2
  have HE0 : Hid (Q.moveQ L a b = Q.mtK (Q.mg L a b) a.length (Q.prm a.length a.length) (Q.prm a.length a.length).length) := rfl
  rw [HE0.out]
  have hbl : b.length ≤ 3 := by omega
  clear hr ha hb hm hPa hPb hsq hab HE0
  generalize Q.mg L a b = g at HGi HDst ⊢
  generalize Q.prm a.length a.length = R at HP HAll HIn hfew ⊢
  have HG1 := Lib.hid fun (i : Nat) (l : List Int) (h : R[i]? = some l) => Q.mtK_get (g := g) (k := a.length) h
  have HG0 : Hid (Q.mtK g a.length R 0 = ([], -1)) := rfl
  generalize Q.mtK g a.length R = K at HG1 HG0 ⊢
  go_enter Try.func87, Try.ntmps87
  go_wp2_with fail
  generalize w.alloc (.cells #[.slice A L.length c] 29) = wa at HM ⊢
  go_at_call 119
  refine (HP.out wa).mono ?_
  rintro e w1 ⟨v1, ys, rfl, ho1, hn1, hb1⟩
  obtain ⟨Av, cv, rfl, _, _, _⟩ := Law.own_len ho1
  have hb2 : Below w1.heap.size w1 (w1.alloc (.cells #[] 3)) := (Below.refl _ _).alloc (Nat.le_refl _) _
  have HM1 := Lib.hid ((HM.out.on hb1).on hb2)
  have HO := Lib.hid (own_down (ownsRow_nil w1 3) (Nat.le_trans HM.out.bl.size hb1.size))
  have HR := Lib.hid ((NRow.of ho1 hn1).stays hb2)
  have HN := Lib.hid ((hn1.down HM.out.bl.size).past hb2)
  clear ho1 hn1 hb1 hb2
  go_wp2_with fail
  generalize hsz : w1.heap.size = s1 at HO ⊢
  generalize w1.alloc (.cells #[] 3) = w2 at HM1 HO HR HN ⊢
  clear hsz
  go_wp2
  go_loopw [9, 10, 11] (fun vb least i wr => ∃ j : Nat, j ≤ R.length ∧ i = .int .i64 (j : Int) ∧ least = .int .i64 (K j).2 ∧ Hid (-1 ≤ (K j).2 ∧ (K j).2 ≤ 297) ∧ Hid (wr.ownsRow w.heap.size 3 1 vb (K j).1.length (ivs (K j).1)) ∧ Hid (Below w2.heap.size w2 wr)) (fun _ _ i _ => R.length - (intOf i).toNat)
  case atStart => exact ⟨0, Nat.zero_le _, rfl, by rw [HG0.out], by show _ ∧ _; rw [HG0.out]; simp, by show World.ownsRow _ _ _ _ _ _ _; rw [HG0.out]; exact HO.out, Below.refl _ _⟩
  case round =>
    obtain ⟨j, hj, rfl, rfl, hkb, hvb, hB⟩ := hrel
    by_cases hlt : j < R.length
    · have hltI : (j : Int) < (R.length : Int) := by omega
      obtain ⟨l, hl⟩ : ∃ l, R[j]? = some l := ⟨_, List.getElem?_eq_getElem hlt⟩
      obtain ⟨y, hy⟩ : ∃ y, ys[j]? = some y := ⟨_, List.getElem?_eq_getElem (by rw [HR.out.len]; exact hlt)⟩
      obtain ⟨Bl, cl, rfl, hrl0⟩ := HR.out.at_ j y l hy hl
      have HOl := Lib.hid ((HN.out.past hB.out).own j _ l hy hl)
      have HRl := Lib.hid hrl0
      have HLn := Lib.hid (HAll.out l (List.mem_of_getElem? hl))
      have HLi := Lib.hid (HIn.out l (List.mem_of_getElem? hl))
      have HKn := Lib.hid (HG1.out j l hl)
      obtain ⟨ob, oo, rfl, hob, hoc⟩ := HR.out.row.at_ hy
      have HOC := Lib.hid fun (W : World) (h : Below w2.heap.size w2 W) => (h.cell (p := ⟨ob, oo + j, none⟩) hob).trans hoc
      clear hl hy hrl0 hoc
      obtain ⟨w5, hw5⟩ : ∃ w5, w5 = wr := ⟨_, rfl⟩
      rw [← hw5] at hvb hB HOl ⊢
      clear hw5
      go_wp2
      go_loopw [12, 13] (fun sm q wq => ∃ t : Nat, t ≤ a.length ∧ q = .int .i64 (t : Int) ∧ sm = .int .i64 (Q.csum (Q.psf g l) t) ∧ Hid (0 ≤ Q.csum (Q.psf g l) t ∧ Q.csum (Q.psf g l) t ≤ 99 * t) ∧ Hid (Below w5.heap.size w5 wq)) (fun _ q _ => a.length - (intOf q).toNat)
      case atStart => exact ⟨0, Nat.zero_le _, rfl, rfl, by show _ ∧ _; simp [Q.csum], Below.refl _ _⟩
      case round =>
        obtain ⟨t, ht, rfl, rfl, hsb, hB5⟩ := hrel
        have hBq := Lib.hid (Law.then_ hB.out hB5.out)
        by_cases hlt2 : t < a.length
        · have hlt2I : (t : Int) < (a.length : Int) := by omega
          have hltl : t < l.length := by have := HLn.out; omega
          have hltlI : (t : Int) < (l.length : Int) := by omega
          obtain ⟨z, hz, hzk⟩ := HLi.out t hltl
          obtain ⟨x, hx, hxL⟩ := HX.out t hlt2
          obtain ⟨y, hy, hyL⟩ := HY.out z (by have := HAB.out; omega)
          have hMq := Lib.hid (HM1.out.on hBq.out)
          obtain ⟨hp0, hp1, hp2⟩ := hMq.out.bk
          obtain ⟨bA, oA, bx, ox, dx, eA, hbb, hcx, hbx, hcxy⟩ := hMq.out.rows.dst_at HS.out hxL hyL
          obtain ⟨ca, oa, eBa, hca, hcA⟩ := (HRA.out _ hMq.out.bl).at_ (ivs_some hx)
          obtain ⟨cb, ob2, eBb, hcb, hcB⟩ := (HRB.out _ hMq.out.bl).at_ (ivs_some hy)
          obtain ⟨cl2, ol, eBl, hcl, hcL⟩ := (HRl.out.stays hBq.out).at_ (ivs_some hz)
          have hoc := HOC.out _ hBq.out
          subst eA eBa eBb eBl
          have HE : Hid (Q.csum (Q.psf g l) (t + 1) = Q.csum (Q.psf g l) t + Q.dst L x y) := by show _ = _; rw [Q.csum, Q.psf_at hz, HDst.out t z x y hx hy]
          have hd := HGi.out t z hlt2 (by have := HAB.out; omega)
          rw [HDst.out t z x y hx hy] at hd
          generalize Q.dst L x y = D at hcxy HE hd
          obtain ⟨hs0, hs1⟩ := hsb.out
          generalize Q.csum (Q.psf g l) t = S at hs0 hs1 HE ⊢
          have hw : IntKind.i64.wrap (S + D) = S + D := IntWalk.i64_in _ (by omega)
          have g3 : (x : Int) < (L.length : Int) := by omega
          have g4 : (y : Int) < (L.length : Int) := by omega
          have g5 : (z : Int) < (b.length : Int) := by have := HAB.out; omega
          clear hx hy hz hsb
          go_wp2
          go_quiet (fail)
          go_wp2
          go_roundw
          case rel => exact ⟨t + 1, by omega, by go_num, by rw [HE.out], by show _ ∧ _; rw [HE.out]; constructor <;> omega, Law.up hB5.out _⟩
          case measure => simp [intOf]; omega
        · have hte : t = a.length := by omega
          have hlt2I : ¬ (t : Int) < (a.length : Int) := by omega
          have HE : Hid (Q.csum (Q.psf g l) t = Q.psum g a.length l) := by show _ = _; rw [hte]; rfl
          obtain ⟨hs0, hs1⟩ := hsb.out
          rw [HE.out] at hs0 hs1 ⊢
          obtain ⟨hk0, hk1⟩ := hkb.out
          have hs2 : Q.psum g a.length l ≤ 297 := by omega
          have hoc := HOC.out _ hBq.out
          clear hte hsb hs1 HE
          generalize Q.psum g a.length l = S at hs0 hs2 HKn ⊢
          have HOl2 := Lib.hid (own_past HOl.out hB5.out)
          have HVb2 := Lib.hid (own_past hvb.out hB5.out)
          by_cases h1 : (K j).2 < 0
          · have HE : Hid (K (j + 1) = (l, S)) := by show _ = _; rw [HKn.out, if_pos (.inl h1)]
            clear HKn hkb
            generalize (K j).2 = kj at h1 hk0 hk1 ⊢
            go_wp2
            go_roundw
            case rel => exact ⟨j + 1, by omega, by go_num, by rw [HE.out], by show _ ∧ _; rw [HE.out]; exact ⟨by omega, hs2⟩, by show World.ownsRow _ _ _ _ _ _ _; rw [HE.out]; exact HOl2.out, hBq.out⟩
            case measure => simp [intOf]; omega
          · by_cases h2 : S < (K j).2
            · have HE : Hid (K (j + 1) = (l, S)) := by show _ = _; rw [HKn.out, if_pos (.inr h2)]
              clear HKn hkb
              generalize (K j).2 = kj at h1 h2 hk0 hk1 ⊢
              go_wp2
              go_roundw
              case rel => exact ⟨j + 1, by omega, by go_num, by rw [HE.out], by show _ ∧ _; rw [HE.out]; exact ⟨by omega, hs2⟩, by show World.ownsRow _ _ _ _ _ _ _; rw [HE.out]; exact HOl2.out, hBq.out⟩
              case measure => simp [intOf]; omega
            · have HE : Hid (K (j + 1) = K j) := by show _ = _; rw [HKn.out, if_neg (by omega)]
              have HE2 : Hid ((K (j + 1)).2 = (K j).2) := by show _ = _; rw [HE.out]
              clear HKn
              generalize hkj : (K j).2 = kj at h1 h2 hk0 hk1 ⊢
              have HKJ := Lib.hid hkj
              clear hkj
              go_wp2
              go_roundw
              case rel => exact ⟨j + 1, by omega, by go_num, by rw [HE2.out, HKJ.out], by show _ ∧ _; rw [HE.out]; exact hkb.out, by show World.ownsRow _ _ _ _ _ _ _; rw [HE.out]; exact HVb2.out, hBq.out⟩
              case measure => simp [intOf]; omega
    · have hje : j = R.length := by omega
      have hltI : ¬ (j : Int) < (R.length : Int) := by omega
      have HE : Hid (K j = K R.length) := by show _ = _; rw [hje]
      rw [HE.out] at hvb ⊢
      have HBl := Lib.hid (HM1.out.on hB.out).bl
      clear hje hkb
      go_wp2
      go_ret2
      exact ⟨_, rfl, hvb.out, HBl.out⟩
theorem l6Move_any (A : Option Addr) (c : Nat) (xs : List Value) (L : List (List Int)) (a b : List Int) (Ba Bb : Option Addr) (da db : Nat) (w : World) (hm : Q.metQ L = true) (hPa : Q.inP L a) (hPb : Q.inP L b) (hk3 : a.length ≤ 3) (hab : b.length = a.length) (hr : NRow w A xs L) (ha : Law.Row w Ba (ivs a)) (hb : Law.Row w Bb (ivs b)) :
    Calls Try.prog 84 #[mv A L.length c, .slice Ba a.length da, .slice Bb b.length db] w fun e w' => e = .returned (.int .i64 (Q.moveQ L a b).2) ∧ Below w.heap.size w w' := by
  have HM := Lib.hid (MetIn.start (c := c) hr 29)
  have HT := Lib.hid (l6Match_any A c xs L a b Ba Bb da db _ hm hPa hPb hk3 hab HM.out.rows (ha.stays HM.out.bl) (hb.stays HM.out.bl))
  clear hr ha hb hm hPa hPb hab
  generalize Q.moveQ L a b = M at HT ⊢
  go_enter Try.func84, Try.ntmps84
  go_wp2_with fail
  generalize w.alloc (.cells #[.slice A L.length c] 29) = wa at HM HT ⊢
  obtain ⟨hk0, hk1, hk2⟩ := HM.out.bk
  go_wp2_with fail
  go_at_call 87
  refine HT.out.mono ?_
  rintro e w1 ⟨v, rfl, ho, hb⟩
  have HB := Lib.hid (Law.then_ HM.out.bl hb)
  clear hb ho
  go_wp2
  go_ret
  exact ⟨rfl, HB.out⟩
end Go.Proofs.Ytphfjhnmnehfkaa
