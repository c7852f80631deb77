/-
  Work functions of sequences, the model's: l8Work, l8Least. LeastCost and WorkFunction: both sides.
-/
import Derived.Test.YtammlkaclooohaaWw8
import Derived.Deep.RegionHeld3
/- Work functions of sequences, the model's: l8Work, l8Least. -/
namespace Go.Proofs.Ytammlkaclooohaa
open Go.RowKit
set_option linter.unusedVariables false
section
variable (A : Option Addr) (c : Nat) (xs : List Value) (L : List (List Int)) (B : Option Addr) (d : Nat) (ys : List Value) (S : List (List Int)) (w : World) (s0 : Nat) (reqs : List Int) (R : Option Addr) (e : Nat)
set_option maxRecDepth 100000 in
set_option maxHeartbeats 1600000 in
theorem l8Work_any (hpr : Q.Pr L S) (h0 : s0 < L.length) (h60 : reqs.length ≤ 60) (hrq : ∀ k, k < reqs.length → ∃ x : Nat, reqs[k]? = some (x : Int) ∧ x < S.length) (hL : NRow w A xs L) (hS : NRow w B ys S) (hR : Law.Row w R (ivs reqs)) :
    Calls Try.prog 160 #[pv A L.length c B S.length d, .int .i64 (s0 : Int), .slice R reqs.length e] w (rowSays1 (Q.workK L S s0 reqs reqs.length) w) := by
  obtain ⟨i0, hi, hz0, hz1, hz2⟩ := info_parts infoInts
  have HP := Lib.hid (PIn.start (c := c) (d := d) hL hS 35)
  have HR := Lib.hid fun (W : World) (h : Below w.heap.size w W) => hR.stays h
  have HV := Lib.hid fun k (hk : k ≤ reqs.length) => Q.workK_vals hpr h0 hrq k hk
  have HSc := Lib.hid fun k x h => Q.workK_succ (L := L) (S := S) (s0 := s0) (reqs := reqs) (k := k) (x := x) h
  have HN := Lib.hid fun (W : World) (v : List Int) (V : Option Addr) (f : Nat) (M : Int) (r : Nat) (hM : M ≤ 1000000) (hr : r < S.length) (hvl : v.length = L.length) (hv : Q.Vals L.length M v) (h1 : NRow W A xs L) (h2 : NRow W B ys S) (h3 : Law.Row W V (ivs v)) => l8Next_any A c xs L B d ys S W v V f hpr hM r hr hvl hv h1 h2 h3
  have HRq := Lib.hid hrq
  obtain ⟨l0, hl0, hll0⟩ : ∃ l, L[s0]? = some l ∧ l.length = L.length := ⟨_, List.getElem?_eq_getElem h0, hpr.sq _ (List.getElem_mem h0)⟩
  have HZ : Hid (Q.workK L S s0 reqs 0 = l0) := by show L.getD s0 [] = l0; rw [List.getD_eq_getElem?_getD, hl0]; rfl
  obtain ⟨bA, oA, X0, dX0, rfl, hbA, hcA, hrX⟩ := hL.row_at hl0
  have hn4 := hpr.n4
  have hsI : (s0 : Int) < (L.length : Int) := by omega
  have b0 : Below w.heap.size w ((w.alloc (.cells #[.slice (some ⟨bA, oA, none⟩) L.length c, .slice B S.length d] 35)).alloc (.cells #[] 3)) := ((Below.refl _ _).alloc (Nat.le_refl _) _).alloc (by simp) _
  have HRX := Lib.hid (hrX.stays b0)
  have hcA2 : ((w.alloc (.cells #[.slice (some ⟨bA, oA, none⟩) L.length c, .slice B S.length d] 35)).alloc (.cells #[] 3)).cell? ⟨bA, oA + s0, none⟩ = some (.slice X0 L.length dX0) := by
    have q := (b0.cell (p := ⟨bA, oA + s0, none⟩) hbA).trans hcA
    rw [hll0] at q
    exact q
  have HPb := Lib.hid (HP.out.on ((Below.refl _ _).alloc (Nat.le_refl _) (.cells #[] 3)))
  have H0 := Lib.hid (show World.ownsRow _ _ _ _ _ _ (ivs []) from ownsRow_nil (w.alloc (.cells #[.slice (some ⟨bA, oA, none⟩) L.length c, .slice B S.length d] 35)) 3)
  have HLen := Lib.hid hll0
  have hsa0 : (w.alloc (.cells #[.slice (some ⟨bA, oA, none⟩) L.length c, .slice B S.length d] 35)).heap.size = w.heap.size + 1 := by simp
  rw [hsa0] at H0
  have hq0 : w.heap.size < ((w.alloc (.cells #[.slice (some ⟨bA, oA, none⟩) L.length c, .slice B S.length d] 35)).alloc (.cells #[] 3)).heap.size := by simp; omega
  obtain ⟨p0, p1, _, _, _⟩ := HPb.out.bk
  generalize Q.workK L S s0 reqs = K at HV HSc HZ ⊢
  clear hpr hL hS hR hrq hl0 hrX hcA hll0 b0
  go_enter Try.func160, Try.ntmps160
  go_wp2_with (at_builtin; refine list_app rfl _ _ 25 rfl Try.underlying25 hi hz0 hz1 hz2 rfl H0.out rfl HLen.out HRX.out ?c1 ?c2 ?_)
  case c1 => first | omega | (simp; done) | (simp; omega)
  case c2 => omega
  intro v1 w1 ho1 hg1
  have HB1 := Lib.hid ((((Below.refl _ _).alloc (Nat.le_refl _) (.cells #[] 3) : Below (w.alloc (.cells #[.slice (some ⟨bA, oA, none⟩) L.length c, .slice B S.length d] 35)).heap.size (w.alloc (.cells #[.slice (some ⟨bA, oA, none⟩) L.length c, .slice B S.length d] 35)) _)).grown hg1 (by simp) (fun k e => by rw [hsa0]; exact (H0.out.lt k e).1))
  clear p0 p1 hcA2 hg1 hq0
  generalize w.alloc (.cells #[.slice (some ⟨bA, oA, none⟩) L.length c, .slice B S.length d] 35) = wa at HP HPb HB1 hsa0 H0 HRX
  rw [← hsa0] at ho1
  have HO1 : Hid (w1.ownsRow wa.heap.size 3 1 v1 (K 0).length (ivs (K 0))) := by show World.ownsRow _ _ _ _ _ _ _; rw [HZ.out, HLen.out]; simpa using ho1
  clear ho1 hsa0 HPb H0 HRX
  go_wp2_with fail
  go_loopw [7, 8] (fun o i wr => ∃ k : Nat, k ≤ reqs.length ∧ i = .int .i64 (k : Int) ∧ Hid (wr.ownsRow wa.heap.size 3 1 o (K k).length (ivs (K k))) ∧ Hid (Below wa.heap.size wa wr)) (fun _ i _ => reqs.length - (intOf i).toNat)
  case atStart => exact ⟨0, Nat.zero_le _, rfl, HO1.out, HB1.out⟩
  case round =>
    obtain ⟨k, hk, rfl, ho, hb⟩ := hrel
    have HPr := Lib.hid (HP.out.on hb.out)
    obtain ⟨p0, p1, _, _, _⟩ := HPr.out.bk
    by_cases hlt : k < reqs.length
    · have hltI : (k : Int) < (reqs.length : Int) := by omega
      obtain ⟨x, hx, hxm⟩ := HRq.out k hlt
      obtain ⟨bR, oR, eR, hbR, hcR⟩ := (HR.out wr HPr.out.bl).at_ (ivs_some hx)
      subst eR
      obtain ⟨V, f, eV, _, _, _⟩ := Law.own_len ho.out
      subst eV
      obtain ⟨k1, k2⟩ := HV.out k hk
      have HCk := Lib.hid fun (W : World) (h : Below wr.heap.size wr W) => HN.out W (K k) V f (119 * (k : Int) + 119) x (by omega) hxm k1 k2 (HPr.out.mv.stays h) (HPr.out.sv.stays h) ((Law.Row.own ho.out).stays h)
      rw [← HSc.out k x hx] at HCk
      have HB0 := Lib.hid hb.out
      have hbs := hb.out.size
      have hp0 := Law.cell_in p0
      generalize (K k).length = kn at ho HCk
      have HM : Hid (∀ w' : World, Below wr.heap.size wr w' → w'.cell? ⟨w.heap.size, 0, none⟩ = some (.slice (some ⟨bA, oA, none⟩) L.length c) ∧ w'.cell? ⟨w.heap.size, 1, none⟩ = some (.slice B S.length d) ∧ w'.cell? ⟨bR, oR + k, none⟩ = some (.int .i64 (x : Int)) ∧ Below wr.heap.size wr w') := Lib.hid fun w' h => ⟨(h.cell (p := ⟨w.heap.size, 0, none⟩) hp0).trans p0, (h.cell (p := ⟨w.heap.size, 1, none⟩) hp0).trans p1, (h.cell (p := ⟨bR, oR + k, none⟩) hbR).trans hcR, h⟩
      have hs0 := HM.out wr.drew (Below.refl _ _).drew
      clear hx ho hb k2 k1 hp0
      go_wp2
      first
        | go_region_held3 (fun w' => w'.cell? ⟨w.heap.size, 0, none⟩ = some (.slice (some ⟨bA, oA, none⟩) L.length c) ∧ w'.cell? ⟨w.heap.size, 1, none⟩ = some (.slice B S.length d) ∧ w'.cell? ⟨bR, oR + k, none⟩ = some (.int .i64 (x : Int)) ∧ Below wr.heap.size wr w') ((first | exact hs0 | assumption | exact HM.out _ (Law.then_ (by assumption : _ ∧ _ ∧ _ ∧ Below wr.heap.size wr _).2.2.2 (by assumption)))) (first
          | (go_at_call 190; have hS9 := (by assumption : _ ∧ _ ∧ _ ∧ Below wr.heap.size wr _).2.2.2; refine (HCk.out _ hS9).mono ?_; rintro e w10 ⟨v10, rfl, ho10, hb10⟩; have ho11 := Lib.hid (own_down ho10 (Nat.le_trans hbs hS9.size)); clear ho10 hS9))
        | fail
      all_goals
        have hbl := (by assumption : _ ∧ _ ∧ _ ∧ Below wr.heap.size wr w10).2.2.2
        have HB2 := Lib.hid (Law.then_ HB0.out hbl)
        clear hbl hb10 hs0 HM p0 p1 hcR
        go_wp2
        go_roundw
        case rel => exact ⟨k + 1, by omega, by go_num, ho11.out, HB2.out⟩
        case measure => simp [intOf]; omega
    · have hke : k = reqs.length := by omega
      have hltI : ¬ (k : Int) < (reqs.length : Int) := by omega
      have HB := Lib.hid HPr.out.bl
      have HO := Lib.hid (own_down ho.out HP.out.bl.size)
      subst hke
      go_wp2
      go_ret
      exact ⟨_, rfl, HO.out, HB.out⟩
end
theorem least8_any (x y : Int) (w : World) : Calls Try.prog 169 #[.int .i64 x, .int .i64 y] w fun e w' => e = .returned (.int .i64 (min x y)) ∧ w' = w := by
  by_cases h : x < y
  · rw [Int.min_eq_left (by omega)]
    go_enter Try.func169, Try.ntmps169
    go_wp2
    go_ret
    exact ⟨rfl, rfl⟩
  · rw [Int.min_eq_right (by omega)]
    go_enter Try.func169, Try.ntmps169
    go_wp2
    go_ret
    exact ⟨rfl, rfl⟩
set_option maxHeartbeats 800000 in
theorem l8Least_any (V : Option Addr) (f : Nat) (l : List Int) (w : World) (h1 : 1 ≤ l.length) (hn : l.length ≤ 1048576) (hV : Law.Row w V (ivs l)) :
    Calls Try.prog 159 #[.slice V l.length f] w fun e w' => e = .returned (.int .i64 (Q.leastK l l.length)) ∧ w' = w := by
  have HR := Lib.hid hV
  have hI : (0 : Int) < (l.length : Int) := by omega
  obtain ⟨x0, hx0⟩ : ∃ x, l[0]? = some x := ⟨_, List.getElem?_eq_getElem (by omega)⟩
  obtain ⟨b, off, rfl, hbl, hc⟩ := HR.out.at_ (ivs_some hx0)
  have HK1 : Hid (Q.leastK l 1 = x0) := by
    show min (l.getD 0 0) (l.getD 0 0) = x0
    rw [List.getD_eq_getElem?_getD, hx0]
    simp
  have HS : Hid (∀ k x, l[k]? = some x → Q.leastK l (k + 1) = min (Q.leastK l k) x) := fun k x h => by
    show min _ (l.getD k 0) = _
    rw [List.getD_eq_getElem?_getD, h]
    rfl
  rw [Nat.add_zero] at hc
  generalize Q.leastK l = K at HK1 HS ⊢
  clear hV hx0
  go_enter Try.func159, Try.ntmps159
  go_wp2
  go_loop [3, 4] (fun q i => ∃ k : Nat, 1 ≤ k ∧ k ≤ l.length ∧ i = .int .i64 (k : Int) ∧ q = .int .i64 (K k)) (fun _ i => l.length - (intOf i).toNat)
  case atStart => exact ⟨1, Nat.le_refl _, h1, rfl, by rw [HK1.out]⟩
  case round =>
    obtain ⟨k, hk1, hk, rfl, rfl⟩ := hrel
    by_cases hlt : k < l.length
    · have hltI : (k : Int) < (l.length : Int) := by omega
      obtain ⟨x, hx⟩ : ∃ x, l[k]? = some x := ⟨_, List.getElem?_eq_getElem hlt⟩
      obtain ⟨b2, o2, e2, _, hc2⟩ := HR.out.at_ (ivs_some hx)
      cases e2
      have HL := Lib.hid fun W => least8_any (K k) x W
      rw [← HS.out k x hx] at HL
      clear hx
      generalize K k = kk at HL ⊢
      go_wp2_with (go_at_call 169; refine (HL.out _).mono ?_; rintro e w' ⟨rfl, hw'⟩; subst hw')
      go_round
      case rel => exact ⟨k + 1, by omega, by omega, by go_num, rfl⟩
      case measure => simp [intOf]; omega
    · have hke : k = l.length := by omega
      have hltI : ¬ (k : Int) < (l.length : Int) := by omega
      subst hke
      go_wp2
      go_ret
      exact ⟨rfl, rfl⟩
end Go.Proofs.Ytammlkaclooohaa

/- LeastCost and WorkFunction: both sides. -/
namespace Go.Proofs.Ytammlkaclooohaa
open Go.RowKit
set_option linter.unusedVariables false
namespace Q
noncomputable def wfQ (L S : List (List Int)) (start : Int) (reqs : List Int) : List Int × Bool := if askQ L S start reqs then (workK L S start.toNat reqs reqs.length, true) else ([], false)
theorem wf_no {L S : List (List Int)} {start : Int} {reqs : List Int} (h : askQ L S start reqs = false) : wfQ L S start reqs = ([], false) := if_neg (by simp [h])
theorem wf_yes {L S : List (List Int)} {start : Int} {reqs : List Int} (h : askQ L S start reqs = true) : wfQ L S start reqs = (workK L S start.toNat reqs reqs.length, true) := if_pos h
noncomputable def lcQ (L S : List (List Int)) (start : Int) (reqs : List Int) : Int × Bool := if askQ L S start reqs then (leastK (workK L S start.toNat reqs reqs.length) (workK L S start.toNat reqs reqs.length).length, true) else (0, false)
theorem lc_no {L S : List (List Int)} {start : Int} {reqs : List Int} (h : askQ L S start reqs = false) : lcQ L S start reqs = (0, false) := if_neg (by simp [h])
theorem lc_yes {L S : List (List Int)} {start : Int} {reqs : List Int} (h : askQ L S start reqs = true) : lcQ L S start reqs = (leastK (workK L S start.toNat reqs reqs.length) (workK L S start.toNat reqs reqs.length).length, true) := if_pos h
end Q
set_option maxHeartbeats 800000 in
theorem l8Opt_any (A : Option Addr) (c : Nat) (xs : List Value) (L : List (List Int)) (B : Option Addr) (d : Nat) (ys : List Value) (S : List (List Int)) (w : World) (s0 : Nat) (reqs : List Int) (R : Option Addr) (e : Nat) (hpr : Q.Pr L S) (h0 : s0 < L.length) (h60 : reqs.length ≤ 60) (hrq : ∀ k, k < reqs.length → ∃ x : Nat, reqs[k]? = some (x : Int) ∧ x < S.length) (hL : NRow w A xs L) (hS : NRow w B ys S) (hR : Law.Row w R (ivs reqs)) :
    Calls Try.prog 101 #[pv A L.length c B S.length d, .int .i64 (s0 : Int), .slice R reqs.length e] w fun e w' => e = .returned (.int .i64 (Q.leastK (Q.workK L S s0 reqs reqs.length) (Q.workK L S s0 reqs reqs.length).length)) ∧ Below w.heap.size w w' := by
  have HP := Lib.hid (PIn.start (c := c) (d := d) hL hS 35)
  have HW := Lib.hid fun (W : World) (h : Below w.heap.size w W) (h1 : NRow W A xs L) (h2 : NRow W B ys S) => l8Work_any A c xs L B d ys S W s0 reqs R e hpr h0 h60 hrq h1 h2 (hR.stays h)
  have hwl := (Q.workK_vals hpr h0 hrq reqs.length (Nat.le_refl _)).1
  have hn1 := hpr.n1
  have hn4 := hpr.n4
  generalize Q.workK L S s0 reqs reqs.length = K at HW hwl ⊢
  clear hL hS hR hpr hrq
  go_enter Try.func101, Try.ntmps101
  go_wp2_with fail
  generalize w.alloc (.cells #[.slice A L.length c, .slice B S.length d] 35) = wa at HP ⊢
  obtain ⟨p0, p1, _, _, _⟩ := HP.out.bk
  go_wp2_with fail
  go_at_call 160
  refine (HW.out _ HP.out.bl HP.out.mv HP.out.sv).mono ?_
  rintro e w2 ⟨v2, rfl, ho, hb⟩
  obtain ⟨V, f, rfl, _, _, _⟩ := Law.own_len ho
  have HB := Lib.hid (Law.then_ HP.out.bl hb)
  have HMn := Lib.hid (l8Least_any V f K w2 (by omega) (by omega) (Law.Row.own ho))
  clear ho hb p0 p1 hwl
  go_wp2_with fail
  go_at_call 159
  refine HMn.out.mono ?_
  rintro e w3 ⟨rfl, hw⟩
  obtain rfl := hw.symm
  clear hw
  go_wp2
  go_ret
  exact ⟨rfl, HB.out⟩
end Go.Proofs.Ytammlkaclooohaa
