/-
  ScheduleCost: both sides.
-/
import Derived.Test.YtammlkaclooohaaSch8
import Derived.Deep.RegionHeld3
namespace Go.Proofs.Ytammlkaclooohaa
open Go.RowKit
set_option linter.unusedVariables false
namespace Q
def okSt (n : Nat) (S : List (List Int)) (r s : Int) : Bool := (decide (0 ≤ s) && decide (s < n)) && decide (dst S r.toNat s.toNat ≠ -1)
def schQ (n : Nat) (S : List (List Int)) (reqs states : List Int) : Bool := decide (states.length = reqs.length) && (List.range states.length).all fun k => okSt n S (reqs.getD k 0) (states.getD k 0)
theorem sch_no_len {n : Nat} {S : List (List Int)} {reqs states : List Int} (h : ¬ states.length = reqs.length) : schQ n S reqs states = false := by
  rw [schQ, decide_eq_false h, Bool.false_and]
theorem sch_no {n : Nat} {S : List (List Int)} {reqs states : List Int} {k : Nat} {x z : Int} (h1 : reqs[k]? = some x) (h2 : states[k]? = some z) (h : okSt n S x z = false) : schQ n S reqs states = false := by
  rw [Bool.eq_false_iff]
  intro hs
  simp only [schQ, Bool.and_eq_true, List.all_eq_true, List.mem_range] at hs
  have := hs.2 k (List.getElem?_eq_some_iff.1 h2).1
  rw [List.getD_eq_getElem?_getD, List.getD_eq_getElem?_getD, h1, h2] at this
  simp only [Option.getD_some] at this
  rw [h] at this
  cases this
theorem sch_yes {n : Nat} {S : List (List Int)} {reqs states : List Int} (hl : states.length = reqs.length) (h : ∀ (k : Nat) (x z : Int), reqs[k]? = some x → states[k]? = some z → okSt n S x z = true) : schQ n S reqs states = true := by
  simp only [schQ, Bool.and_eq_true, List.all_eq_true, List.mem_range, decide_eq_true_eq]
  refine ⟨hl, fun k hk => ?_⟩
  have h1 : reqs[k]? = some reqs[k] := List.getElem?_eq_getElem (by omega)
  have h2 : states[k]? = some states[k] := List.getElem?_eq_getElem hk
  rw [List.getD_eq_getElem?_getD, List.getD_eq_getElem?_getD, h1, h2]
  exact h k _ _ h1 h2
theorem sch_len {n : Nat} {S : List (List Int)} {reqs states : List Int} (h : schQ n S reqs states = true) : states.length = reqs.length := by
  simp only [schQ, Bool.and_eq_true, decide_eq_true_eq] at h
  exact h.1
theorem sch_nats {n : Nat} {S : List (List Int)} {reqs states : List Int} (h : schQ n S reqs states = true) : Nats n states := fun k hk => by
  simp only [schQ, Bool.and_eq_true, decide_eq_true_eq, List.all_eq_true, List.mem_range] at h
  have := h.2 k hk
  rw [List.getD_eq_getElem?_getD (l := states), List.getElem?_eq_getElem hk] at this
  simp only [okSt, Option.getD_some, Bool.and_eq_true, decide_eq_true_eq] at this
  obtain ⟨x, hx⟩ := Int.eq_ofNat_of_zero_le this.1.1
  exact ⟨x, by rw [List.getElem?_eq_getElem hk, hx], by omega⟩
noncomputable def schC (L S : List (List Int)) (start : Int) (reqs states : List Int) : Int × Bool := if askQ L S start reqs && schQ L.length S reqs states then ((costK L S start.toNat reqs states reqs.length).1, true) else (0, false)
theorem schC_no1 {L S : List (List Int)} {start : Int} {reqs states : List Int} (h : askQ L S start reqs = false) : schC L S start reqs states = (0, false) := if_neg (by simp [h])
theorem schC_no2 {L S : List (List Int)} {start : Int} {reqs states : List Int} (h : schQ L.length S reqs states = false) : schC L S start reqs states = (0, false) := if_neg (by simp [h])
theorem schC_yes {L S : List (List Int)} {start : Int} {reqs states : List Int} (h : askQ L S start reqs = true) (h2 : schQ L.length S reqs states = true) : schC L S start reqs states = ((costK L S start.toNat reqs states reqs.length).1, true) := if_pos (by simp [h, h2])
end Q
section
variable (A : Option Addr) (c : Nat) (xs : List Value) (L : List (List Int)) (B : Option Addr) (d : Nat) (ys : List Value) (S : List (List Int)) (w : World) (reqs states : List Int) (R : Option Addr) (e : Nat) (T : Option Addr) (f : Nat)
set_option maxRecDepth 100000 in
set_option maxHeartbeats 1600000 in
theorem isServed_any (hpr : Q.Pr L S) (hlr : reqs.length ≤ 1048576) (hls : states.length ≤ 1048576) (hrq : Q.Nats S.length reqs) (hL : NRow w A xs L) (hS : NRow w B ys S) (hR : Law.Row w R (ivs reqs)) (hT : Law.Row w T (ivs states)) :
    Calls Try.prog 189 #[pv A L.length c B S.length d, .slice R reqs.length e, .slice T states.length f] w fun e w' => e = .returned (.bool (Q.schQ L.length S reqs states)) ∧ Below w.heap.size w w' := by
  obtain ⟨bB, oB, rfl⟩ := hS.some_ hpr.m1
  have HP := Lib.hid (PIn.start (c := c) (d := d) hL hS 35)
  by_cases hlen : states.length = reqs.length
  · have HTS := Lib.hid fun (W : World) (h : NRow W (some ⟨bB, oB, none⟩) ys S) => h.tab hpr.rows hpr.n1
    have HR := Lib.hid fun (W : World) (h : Below w.heap.size w W) => hR.stays h
    have HT := Lib.hid fun (W : World) (h : Below w.heap.size w W) => hT.stays h
    have HE := Lib.hid fun (r s : Nat) (hr : r < S.length) (hs : s < L.length) => hpr.srv hr hs
    have HRq := Lib.hid hrq
    have HNo := Lib.hid fun (k : Nat) (x z : Int) h1 h2 h => Q.sch_no (n := L.length) (S := S) (reqs := reqs) (states := states) (k := k) (x := x) (z := z) h1 h2 h
    have HYes := Lib.hid fun h => Q.sch_yes (n := L.length) (S := S) hlen h
    have HL := Lib.hid hlen
    have HIs := Lib.hid fun (s : Int) (W : World) (h : NRow W A xs L) (h2 : NRow W (some ⟨bB, oB, none⟩) ys S) => isState_any A c xs L (some ⟨bB, oB, none⟩) d ys S W s h h2
    rw [hlen]
    clear hL hS hR hT hrq hls hpr hlen
    generalize Q.schQ L.length S reqs states = V at HNo HYes ⊢
    go_enter Try.func189, Try.ntmps189
    go_wp2_with fail
    generalize w.alloc (.cells #[.slice A L.length c, .slice (some ⟨bB, oB, none⟩) S.length d] 35) = wa at HP ⊢
    go_loopw [16] (fun i wr => ∃ k : Nat, k ≤ reqs.length ∧ i = .int .i64 (k : Int) ∧ Hid (PIn w wr A c xs L (some ⟨bB, oB, none⟩) d ys S) ∧ Hid (∀ (j : Nat) (x z : Int), j < k → reqs[j]? = some x → states[j]? = some z → Q.okSt L.length S x z = true)) (fun i _ => reqs.length - (intOf i).toNat)
    case atStart => exact ⟨0, Nat.zero_le _, rfl, HP.out, fun j x z hj => by omega⟩
    case round =>
      obtain ⟨k, hk, rfl, hp, hall⟩ := hrel
      obtain ⟨p0, p1, _, _, _⟩ := hp.out.bk
      by_cases hlt : k < reqs.length
      · have hltI : (k : Int) < (reqs.length : Int) := by omega
        obtain ⟨x, hx, hxm⟩ := HRq.out k hlt
        obtain ⟨z, hz⟩ : ∃ z, states[k]? = some z := ⟨_, List.getElem?_eq_getElem (by rw [HL.out]; exact hlt)⟩
        obtain ⟨bR, oR, eR, hbR, hcR⟩ := (HR.out wr hp.out.bl).at_ (ivs_some hx)
        obtain ⟨bT, oT, eT, hbT, hcT⟩ := (HT.out wr hp.out.bl).at_ (ivs_some hz)
        subst eR eT
        have hxI : (x : Int) < (S.length : Int) := by omega
        have HNR := Lib.hid fun (W : World) (h : Below wr.heap.size wr W) => HIs.out z W (hp.out.mv.stays h) (hp.out.sv.stays h)
        have HB := Lib.hid fun (W : World) (h : Below wr.heap.size wr W) => hp.out.on h
        have HXZ := Lib.hid (And.intro hx hz)
        clear hx hz
        by_cases hst : 0 ≤ z ∧ z < L.length
        · obtain ⟨s, rfl⟩ := Int.eq_ofNat_of_zero_le hst.1
          have hsn : s < L.length := by omega
          have hsI : (s : Int) < (L.length : Int) := by omega
          obtain ⟨b2, o2, d2, hc2, hv2⟩ := HTS.out wr hp.out.sv x hxm
          have hv3 := hv2 s hsn
          clear hv2
          have hv2 := hv3
          clear hv3
          have hE := HE.out x s hxm hsn
          have hok : Q.okSt L.length S (x : Int) (s : Int) = decide (Q.dst S x s ≠ -1) := by
            rw [Q.okSt]
            simp [hsn]
          have hb2 := Law.cell_in hv2
          have hb1 := Law.cell_in hc2
          have hp0 := Law.cell_in p0
          rw [show (decide (0 ≤ (s : Int)) && decide ((s : Int) < L.length)) = true by simp; omega] at HNR
          generalize Q.dst S x s = E at hv2 hok hE
          have HM : Hid (∀ w' : World, Below wr.heap.size wr w' → w'.cell? ⟨w.heap.size, 0, none⟩ = some (.slice A L.length c) ∧ w'.cell? ⟨w.heap.size, 1, none⟩ = some (.slice (some ⟨bB, oB, none⟩) S.length d) ∧ w'.cell? ⟨bR, oR + k, none⟩ = some (.int .i64 (x : Int)) ∧ w'.cell? ⟨bB, oB + x, none⟩ = some (.slice (some ⟨b2, o2, none⟩) L.length d2) ∧ w'.cell? ⟨b2, o2 + s, none⟩ = some (.int .i64 E) ∧ Below wr.heap.size wr w') := Lib.hid fun w' h => ⟨(h.cell (p := ⟨w.heap.size, 0, none⟩) hp0).trans p0, (h.cell (p := ⟨w.heap.size, 1, none⟩) hp0).trans p1, (h.cell (p := ⟨bR, oR + k, none⟩) hbR).trans hcR, (h.cell (p := ⟨bB, oB + x, none⟩) hb1).trans hc2, (h.cell (p := ⟨b2, o2 + s, none⟩) hb2).trans hv2, h⟩
          have hs0 := HM.out wr.drew (Below.refl _ _).drew
          by_cases hE1 : E = -1
          · subst hE1
            have HN := Lib.hid (HNo.out k x s HXZ.out.1 HXZ.out.2 (by rw [hok]; decide))
            clear hok hall HNo HYes hb1 hb2 hp0 hE hst
            go_wp2
            go_region_held3 (fun w' => w'.cell? ⟨w.heap.size, 0, none⟩ = some (.slice A L.length c) ∧ w'.cell? ⟨w.heap.size, 1, none⟩ = some (.slice (some ⟨bB, oB, none⟩) S.length d) ∧ w'.cell? ⟨bR, oR + k, none⟩ = some (.int .i64 (x : Int)) ∧ w'.cell? ⟨bB, oB + x, none⟩ = some (.slice (some ⟨b2, o2, none⟩) L.length d2) ∧ w'.cell? ⟨b2, o2 + s, none⟩ = some (.int .i64 (-1)) ∧ Below wr.heap.size wr w') ((first | exact hs0 | assumption | exact HM.out _ (Law.then_ (by assumption : _ ∧ _ ∧ _ ∧ _ ∧ _ ∧ Below wr.heap.size wr _).2.2.2.2.2 (by assumption)))) (first
              | (go_at_call 140; refine (HNR.out _ (by assumption : _ ∧ _ ∧ _ ∧ _ ∧ _ ∧ Below wr.heap.size wr _).2.2.2.2.2).mono ?_; rintro e w10 ⟨rfl, hb10⟩))
            all_goals
              have hbl := (by assumption : _ ∧ _ ∧ _ ∧ _ ∧ _ ∧ Below wr.heap.size wr w10).2.2.2.2.2
              have HBf := Lib.hid (HB.out _ hbl).bl
              clear hbl hb10 hs0 HM p0 p1 hcR hcT hc2 hv2
              go_wp2
              go_ret
              exact ⟨by rw [HN.out]; first | rfl | simp, HBf.out⟩
          · have hEb : (E == -1) = false := by simpa using hE1
            have HA : Hid (∀ (j : Nat) (x z : Int), j < k + 1 → reqs[j]? = some x → states[j]? = some z → Q.okSt L.length S x z = true) := fun j x' z' hj h1 h2 => by
              by_cases e : j = k
              · subst e
                rw [HXZ.out.1] at h1
                rw [HXZ.out.2] at h2
                cases h1
                cases h2
                rw [hok]
                simpa using hE1
              · exact hall.out j x' z' (by omega) h1 h2
            clear hok hall HNo HYes hb1 hb2 hp0 hst
            go_wp2
            go_region_held3 (fun w' => w'.cell? ⟨w.heap.size, 0, none⟩ = some (.slice A L.length c) ∧ w'.cell? ⟨w.heap.size, 1, none⟩ = some (.slice (some ⟨bB, oB, none⟩) S.length d) ∧ w'.cell? ⟨bR, oR + k, none⟩ = some (.int .i64 (x : Int)) ∧ w'.cell? ⟨bB, oB + x, none⟩ = some (.slice (some ⟨b2, o2, none⟩) L.length d2) ∧ w'.cell? ⟨b2, o2 + s, none⟩ = some (.int .i64 E) ∧ Below wr.heap.size wr w') ((first | exact hs0 | assumption | exact HM.out _ (Law.then_ (by assumption : _ ∧ _ ∧ _ ∧ _ ∧ _ ∧ Below wr.heap.size wr _).2.2.2.2.2 (by assumption)))) (first
              | (go_at_call 140; refine (HNR.out _ (by assumption : _ ∧ _ ∧ _ ∧ _ ∧ _ ∧ Below wr.heap.size wr _).2.2.2.2.2).mono ?_; rintro e w10 ⟨rfl, hb10⟩))
            all_goals
              have hbl := (by assumption : _ ∧ _ ∧ _ ∧ _ ∧ _ ∧ Below wr.heap.size wr w10).2.2.2.2.2
              have HBf := Lib.hid (HB.out _ hbl)
              clear hbl hb10 hs0 HM p0 p1 hcR hcT hc2 hv2
              go_wp2
              go_roundw
              case rel => exact ⟨k + 1, by omega, by go_num, HBf.out, HA.out⟩
              case measure => simp [intOf]; omega
        · have HN := Lib.hid (HNo.out k x z HXZ.out.1 HXZ.out.2 (by
            rw [Q.okSt, show (decide (0 ≤ z) && decide (z < (L.length : Int))) = false by rw [Bool.eq_false_iff]; simpa using hst]
            rfl))
          rw [show (decide (0 ≤ z) && decide (z < (L.length : Int))) = false by rw [Bool.eq_false_iff]; simpa using hst] at HNR
          have hp0 := Law.cell_in p0
          have HM : Hid (∀ w' : World, Below wr.heap.size wr w' → w'.cell? ⟨w.heap.size, 0, none⟩ = some (.slice A L.length c) ∧ w'.cell? ⟨w.heap.size, 1, none⟩ = some (.slice (some ⟨bB, oB, none⟩) S.length d) ∧ Below wr.heap.size wr w') := Lib.hid fun w' h => ⟨(h.cell (p := ⟨w.heap.size, 0, none⟩) hp0).trans p0, (h.cell (p := ⟨w.heap.size, 1, none⟩) hp0).trans p1, h⟩
          have hs0 := HM.out wr.drew (Below.refl _ _).drew
          clear hst hall HNo HYes hp0
          go_wp2
          refine wp_region_held_drew (S := fun w' => w'.cell? ⟨w.heap.size, 0, none⟩ = some (.slice A L.length c) ∧ w'.cell? ⟨w.heap.size, 1, none⟩ = some (.slice (some ⟨bB, oB, none⟩) S.length d) ∧ Below wr.heap.size wr w') (by kernel_rfl) hs0 (fun hS1 => ?_)
          refine wpAnyH_take (i := 0) (v := ?vv1) rfl (by kernel_rfl) (by kernel_rfl) (by kernel_rfl) (fun _ _ _ h => h) (Or.inl ⟨by rfl, ?hy1⟩) hS1 ?_
          case hy1 => (intro w7 hSw; (try dsimp only at hSw); obtain ⟨z0, z1, z2⟩ := hSw; go_simp; try with_reducible rfl)
          try simp only [Act.put]
          refine wpAnyH_take (i := 1) (v := ?vv2) rfl (by kernel_rfl) (by kernel_rfl) (by kernel_rfl) (fun _ _ _ h => h) (Or.inl ⟨by rfl, ?hy2⟩) hS1 ?_
          case hy2 => (intro w7 hSw; (try dsimp only at hSw); obtain ⟨z0, z1, z2⟩ := hSw; go_simp; try with_reducible rfl)
          try simp only [Act.put]
          refine wpAnyH_ready (rs := [2]) (by kernel_rfl) (by simp) ?_
          refine AllReadyH.cons rfl (fun K hK => ?_) AllReadyH.nil
          go_simp
          go_at_call 140
          refine (HNR.out _ hS1.2.2).mono ?_
          rintro e w10 ⟨rfl, hb10⟩
          have hS2 := HM.out w10 (Law.then_ hS1.2.2 hb10)
          refine hK.out _ _ hS2 (fun hS3 => ?_)
          try simp only [Act.put]
          refine wpAnyH_take (i := 3) (v := ?vv3) rfl (by kernel_rfl) (by kernel_rfl) (by kernel_rfl) (fun _ _ _ h => h) (Or.inl ⟨by rfl, ?hy3⟩) hS3 ?_
          case hy3 => (intro w7 hSw; (try dsimp only at hSw); obtain ⟨z0, z1, z2⟩ := hSw; go_simp; try with_reducible rfl)
          try simp only [Act.put]
          refine wpAnyH_take (i := 4) (v := ?vv4) rfl (by kernel_rfl) (by kernel_rfl) (by kernel_rfl) (fun _ _ _ h => h) (Or.inl ⟨by rfl, ?hy4⟩) hS3 ?_
          case hy4 => (intro w7 hSw; (try dsimp only at hSw); obtain ⟨z0, z1, z2⟩ := hSw; go_simp; try with_reducible rfl)
          try simp only [Act.put]
          refine wpAnyH_take (i := 5) (v := undef) rfl (by kernel_rfl) (by kernel_rfl) (by kernel_rfl) (fun _ _ _ h => h) (Or.inr ⟨by kernel_rfl, rfl⟩) hS3 ?_
          try simp only [Act.put]
          refine wpAnyH_take (i := 6) (v := undef) rfl (by kernel_rfl) (by kernel_rfl) (by kernel_rfl) (fun _ _ _ h => h) (Or.inr ⟨by kernel_rfl, rfl⟩) hS3 ?_
          try simp only [Act.put]
          refine wpAnyH_take (i := 7) (v := undef) rfl (by kernel_rfl) (by kernel_rfl) (by kernel_rfl) (fun _ _ _ h => h) (Or.inr ⟨by kernel_rfl, rfl⟩) hS3 ?_
          try simp only [Act.put]
          refine wpAnyH_take (i := 8) (v := undef) rfl (by kernel_rfl) (by kernel_rfl) (by kernel_rfl) (fun _ _ _ h => h) (Or.inr ⟨by kernel_rfl, rfl⟩) hS3 ?_
          try simp only [Act.put]
          refine wpAnyH_take (i := 9) (v := undef) rfl (by kernel_rfl) (by kernel_rfl) (by kernel_rfl) (fun _ _ _ h => h) (Or.inr ⟨by kernel_rfl, rfl⟩) hS3 ?_
          try simp only [Act.put]
          refine wpAnyH_take (i := 10) (v := undef) rfl (by kernel_rfl) (by kernel_rfl) (by kernel_rfl) (fun _ _ _ h => h) (Or.inr ⟨by kernel_rfl, rfl⟩) hS3 ?_
          try simp only [Act.put]
          refine wpAnyH_take (i := 11) (v := undef) rfl (by kernel_rfl) (by kernel_rfl) (by kernel_rfl) (fun _ _ _ h => h) (Or.inr ⟨by kernel_rfl, rfl⟩) hS3 ?_
          try simp only [Act.put]
          refine wpAnyH_take (i := 12) (v := undef) rfl (by kernel_rfl) (by kernel_rfl) (by kernel_rfl) (fun _ _ _ h => h) (Or.inr ⟨by kernel_rfl, rfl⟩) hS3 ?_
          try simp only [Act.put]
          refine wpAnyH_take (i := 13) (v := undef) rfl (by kernel_rfl) (by kernel_rfl) (by kernel_rfl) (fun _ _ _ h => h) (Or.inr ⟨by kernel_rfl, rfl⟩) hS3 ?_
          try simp only [Act.put]
          refine wpAnyH_take (i := 14) (v := undef) rfl (by kernel_rfl) (by kernel_rfl) (by kernel_rfl) (fun _ _ _ h => h) (Or.inr ⟨by kernel_rfl, rfl⟩) hS3 ?_
          try simp only [Act.put]
          refine wpAnyH_take (i := 15) (v := undef) rfl (by kernel_rfl) (by kernel_rfl) (by kernel_rfl) (fun _ _ _ h => h) (Or.inr ⟨by kernel_rfl, rfl⟩) hS3 ?_
          try simp only [Act.put]
          refine wpAnyH_take (i := 16) (v := undef) rfl (by kernel_rfl) (by kernel_rfl) (by kernel_rfl) (fun _ _ _ h => h) (Or.inr ⟨by kernel_rfl, rfl⟩) hS3 ?_
          try simp only [Act.put]
          refine wpAnyH_take (i := 17) (v := ?vv5) rfl (by kernel_rfl) (by kernel_rfl) (by kernel_rfl) (fun _ _ _ h => h) (Or.inl ⟨by rfl, ?hy5⟩) hS3 ?_
          case hy5 => (intro w7 hSw; (try dsimp only at hSw); obtain ⟨z0, z1, z2⟩ := hSw; go_simp; try with_reducible rfl)
          try simp only [Act.put]
          refine wpAnyH_done (by kernel_rfl) ?_ _
          simp
          have HBf := Lib.hid (HB.out _ hS3.2.2).bl
          clear hb10 hS1 hS2 hS3 hs0 HM p0 p1 hcR hcT hK
          go_wp2
          go_ret
          exact ⟨by rw [HN.out]; first | rfl | simp, HBf.out⟩
      · have hke : k = reqs.length := by omega
        have hltI : ¬ (k : Int) < (reqs.length : Int) := by omega
        have HB := Lib.hid hp.out.bl
        have HN := Lib.hid (HYes.out fun j x z h1 h2 => hall.out j x z (by have := (List.getElem?_eq_some_iff.1 h1).1; omega) h1 h2)
        clear hke hall
        go_wp2
        go_ret
        exact ⟨by rw [HN.out]; rfl, HB.out⟩
  · have hne : ((states.length : Int) != (reqs.length : Int)) = true := by simp; omega
    have hne2 : ¬ (states.length : Int) = (reqs.length : Int) := by omega
    have HN := Lib.hid (Q.sch_no_len (n := L.length) (S := S) hlen)
    clear hL hS hR hT hlen
    generalize Q.schQ L.length S reqs states = V at HN ⊢
    generalize states.length = n1 at hne hne2 ⊢
    go_enter Try.func189, Try.ntmps189
    go_wp2_with fail
    generalize w.alloc (.cells #[.slice A L.length c, .slice (some ⟨bB, oB, none⟩) S.length d] 35) = wa at HP ⊢
    go_wp2
    go_ret
    exact ⟨by rw [HN.out]; first | rfl | simp, HP.out.bl⟩
end
end Go.Proofs.Ytammlkaclooohaa
