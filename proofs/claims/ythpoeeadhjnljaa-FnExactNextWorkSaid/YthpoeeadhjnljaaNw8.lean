/-
  NextWork: the lists that it takes, both sides.
-/
import Derived.Test.YthpoeeadhjnljaaWn8
namespace Go.Proofs.Ythpoeeadhjnljaa
open Go.RowKit
set_option linter.unusedVariables false
namespace Q
def nearP (L : List (List Int)) (v : List Int) (t s : Nat) : Bool := decide (v.getD s 0 ≤ v.getD t 0 + dst L t s)
def nearQ (L : List (List Int)) (v : List Int) : Bool := (decide (v.length = L.length) && within 0 100000 v) && (List.range L.length).all fun t => (List.range L.length).all fun s => nearP L v t s
theorem near_no1 {L : List (List Int)} {v : List Int} (h : ¬ v.length = L.length) : nearQ L v = false := by simp [nearQ, h]
theorem near_no2 {L : List (List Int)} {v : List Int} (h : within 0 100000 v = false) : nearQ L v = false := by simp [nearQ, h]
theorem near_no3 {L : List (List Int)} {v : List Int} {t s : Nat} (ht : t < L.length) (hs : s < L.length) (h : nearP L v t s = false) : nearQ L v = false := by
  rw [Bool.eq_false_iff]
  intro hn
  simp only [nearQ, Bool.and_eq_true, List.all_eq_true, List.mem_range] at hn
  have := hn.2 t ht s hs
  rw [h] at this
  cases this
theorem near_yes {L : List (List Int)} {v : List Int} (h1 : v.length = L.length) (h2 : within 0 100000 v = true) (h : ∀ t, t < L.length → ∀ s, s < L.length → nearP L v t s = true) : nearQ L v = true := by
  simp only [nearQ, Bool.and_eq_true, List.all_eq_true, List.mem_range, decide_eq_true_eq]
  exact ⟨⟨h1, h2⟩, h⟩
theorem near_parts {L : List (List Int)} {v : List Int} (h : nearQ L v = true) : v.length = L.length ∧ within 0 100000 v = true := by
  simp only [nearQ, Bool.and_eq_true, decide_eq_true_eq] at h
  exact h.1
theorem near_vals {L : List (List Int)} {v : List Int} (h : nearQ L v = true) : Vals L.length 100000 v := fun s hs => by
  obtain ⟨h1, h2⟩ := near_parts h
  exact within_at h2 (by omega)
theorem nearP_at {L : List (List Int)} {v : List Int} {t s : Nat} {x y : Int} (hx : v[t]? = some x) (hy : v[s]? = some y) : nearP L v t s = decide (y ≤ x + dst L t s) := by
  rw [nearP, List.getD_eq_getElem?_getD, List.getD_eq_getElem?_getD, hx, hy]
  rfl
noncomputable def nwQ (L S : List (List Int)) (v : List Int) (r : Int) : List Int × Bool := if prQ L S && ((decide (0 ≤ r) && decide (r < S.length)) && nearQ L v) then (nextQ L S v r.toNat, true) else ([], false)
theorem nw_no {L S : List (List Int)} {v : List Int} {r : Int} (h : (prQ L S && ((decide (0 ≤ r) && decide (r < S.length)) && nearQ L v)) = false) : nwQ L S v r = ([], false) := if_neg (by rw [h]; simp)
theorem nw_yes {L S : List (List Int)} {v : List Int} {r : Int} (h : (prQ L S && ((decide (0 ≤ r) && decide (r < S.length)) && nearQ L v)) = true) : nwQ L S v r = (nextQ L S v r.toNat, true) := if_pos h
end Q
section
variable (A : Option Addr) (c : Nat) (xs : List Value) (L : List (List Int)) (B : Option Addr) (d : Nat) (ys : List Value) (S : List (List Int)) (w : World) (v : List Int) (V : Option Addr) (f : Nat)
set_option maxRecDepth 100000 in
set_option maxHeartbeats 1600000 in
theorem isNumbers_any (hpr : Q.Pr L S) (hlv : v.length ≤ 1048576) (hL : NRow w A xs L) (hS : NRow w B ys S) (hV : Law.Row w V (ivs v)) :
    Calls Try.prog 78 #[pv A L.length c B S.length d, .slice V v.length f] w fun e w' => e = .returned (.bool (Q.nearQ L v)) ∧ Below w.heap.size w w' := by
  obtain ⟨bA, oA, rfl⟩ := hL.some_ hpr.n1
  have HP := Lib.hid (PIn.start (c := c) (d := d) hL hS 29)
  obtain ⟨p0, p1, _, _, _⟩ := HP.out.bk
  have HV := Lib.hid fun (W : World) (h : Below w.heap.size w W) => hV.stays h
  by_cases h1 : v.length = L.length
  · have HW := Lib.hid fun (W : World) (h : Below w.heap.size w W) => isWithin_any V f v 0 100000 W hlv (hV.stays h)
    have h1b : ((v.length : Int) != (L.length : Int)) = false := by simp [h1]
    cases h2 : Q.within 0 100000 v
    · have HN := Lib.hid (Q.near_no2 (L := L) h2)
      rw [h2] at HW
      rw [h1] at HW ⊢
      clear hL hS hV h1 h1b
      go_enter Try.func78, Try.ntmps78
      go_wp2_with fail
      go_at_call 97
      refine (HW.out _ HP.out.bl).mono ?_
      rintro e w1 ⟨rfl, hw⟩
      obtain rfl := hw.symm
      clear hw
      go_wp2
      go_ret
      exact ⟨by rw [HN.out]; first | rfl | simp, HP.out.bl⟩
    · have HTL := Lib.hid fun (W : World) (h : NRow W (some ⟨bA, oA, none⟩) xs L) => h.tab hpr.sq hpr.n1
      have HNo := Lib.hid fun (t s : Nat) ht hs h => Q.near_no3 (L := L) (v := v) (t := t) (s := s) ht hs h
      have HYes := Lib.hid fun h => Q.near_yes (L := L) (v := v) h1 h2 h
      have HVs : Hid (∀ s, s < L.length → ∃ z, v[s]? = some z ∧ 0 ≤ z ∧ z ≤ 100000) := fun s hs => Q.within_at h2 (by omega)
      have HPt := Lib.hid fun (t s : Nat) (x y : Int) hx hy => Q.nearP_at (L := L) (v := v) (t := t) (s := s) (x := x) (y := y) hx hy
      have HD := Lib.hid fun (x y : Nat) (hx : x < L.length) (hy : y < L.length) => hpr.dst hx hy
      have hn4 := hpr.n4
      rw [h2] at HW
      rw [h1] at HW ⊢
      generalize Q.nearQ L v = X at HNo HYes ⊢
      generalize Q.nearP L v = PP at HNo HYes HPt
      clear hL hS hV h1 h1b h2 hpr
      go_enter Try.func78, Try.ntmps78
      go_wp2_with fail
      go_at_call 97
      refine (HW.out _ HP.out.bl).mono ?_
      rintro e w1 ⟨rfl, hw⟩
      obtain rfl := hw.symm
      clear hw
      go_wp2_with fail
      generalize w.alloc (.cells #[.slice (some ⟨bA, oA, none⟩) L.length c, .slice B S.length d] 29) = wa at HP p0 p1 ⊢
      clear p0 p1
      go_loopw [23] (fun i wr => ∃ t : Nat, t ≤ L.length ∧ i = .int .i64 (t : Int) ∧ Hid (∃ m, wr = wa.drewN m) ∧ Hid (∀ t', t' < t → ∀ s, s < L.length → PP t' s = true)) (fun i _ => L.length - (intOf i).toNat)
      case atStart => exact ⟨0, Nat.zero_le _, rfl, ⟨0, rfl⟩, fun t' h => by omega⟩
      case round =>
        obtain ⟨t, ht, rfl, hw, hall⟩ := hrel
        obtain ⟨wo, hwo⟩ : ∃ wo, wo = wr := ⟨_, rfl⟩
        rw [← hwo] at hw ⊢
        clear hwo
        have HPo : Hid (PIn w wo (some ⟨bA, oA, none⟩) c xs L B d ys S) := by
          obtain ⟨q, e⟩ := hw.out
          rw [e]
          exact HP.out.drewN q
        by_cases hlt : t < L.length
        · have hltI : (t : Int) < (L.length : Int) := by omega
          obtain ⟨b1, o1, d1, hc1, hcs1⟩ := HTL.out wo HPo.out.mv t hlt
          have HCs := Lib.hid hcs1
          clear hcs1
          go_wp2
          clear hc1
          go_loopw [30] (fun i wr => ∃ s : Nat, s ≤ L.length ∧ i = .int .i64 (s : Int) ∧ Hid (∃ m, wr = wo.drewN m) ∧ Hid (∀ s', s' < s → PP t s' = true)) (fun i _ => L.length - (intOf i).toNat)
          case atStart => exact ⟨0, Nat.zero_le _, rfl, ⟨0, rfl⟩, fun t' h => by omega⟩
          case round =>
            obtain ⟨s, hs, rfl, hw2, hall2⟩ := hrel
            have HPr : Hid (∀ m, PIn w (wr.drewN m) (some ⟨bA, oA, none⟩) c xs L B d ys S ∧ ∃ q, wr.drewN m = wo.drewN q) := fun m => by
              obtain ⟨q, e⟩ := hw2.out
              rw [e]
              exact ⟨(HPo.out.drewN q).drewN m, q + m, by simp⟩
            have hP0 := (HPr.out 0).1
            have e0 : wr.drewN 0 = wr := rfl
            rw [e0] at hP0
            have HP1 := Lib.hid hP0
            clear hP0 e0
            by_cases hls : s < L.length
            · have hlsI : (s : Int) < (L.length : Int) := by omega
              obtain ⟨x, hx, x0, x9⟩ := HVs.out t hlt
              obtain ⟨y, hy, y0, y9⟩ := HVs.out s hls
              obtain ⟨bV, oV, eV, hbV, hcV⟩ := (HV.out wr HP1.out.bl).at_ (ivs_some hx)
              obtain ⟨bV2, oV2, eV2, _, hcV2⟩ := (HV.out wr HP1.out.bl).at_ (ivs_some hy)
              subst eV
              cases eV2
              have hv1 : wr.cell? ⟨b1, o1 + s, none⟩ = some (.int .i64 (Q.dst L t s)) := by
                obtain ⟨q, e⟩ := hw2.out
                rw [e]
                exact HCs.out s hls
              have hDD := HD.out t s hlt hls
              have D0 := hDD.1
              have D9 := hDD.2.1
              clear hDD
              have hPt := HPt.out t s x y hx hy
              generalize Q.dst L t s = D at hv1 D0 D9 hPt
              have hw1 : IntKind.i64.wrap (x + D) = x + D := IntWalk.i64_in _ (by omega)
              clear hx hy hw2
              by_cases hbad : x + D < y
              · have HN := Lib.hid (HNo.out t s hlt hls (by rw [hPt]; simp; omega))
                have HB := Lib.hid fun m => (HPr.out m).1.bl
                clear hPt hall hall2 HNo HYes
                go_wp2
                go_quiet (fail)
                go_wp2
                go_ret
                exact ⟨by rw [HN.out]; first | rfl | simp, HB.out _⟩
              · have HA : Hid (∀ s', s' < s + 1 → PP t s' = true) := fun s' hs' => by
                  by_cases e : s' = s
                  · subst e
                    rw [hPt]
                    simp
                    omega
                  · exact hall2.out s' (by omega)
                clear hPt hall2
                go_wp2
                go_quiet (fail)
                go_wp2
                go_roundw
                case rel => exact ⟨s + 1, by omega, by go_num, (HPr.out _).2, HA.out⟩
                case measure => simp [intOf]; omega
            · have hse : s = L.length := by omega
              have hlsI : ¬ (s : Int) < (L.length : Int) := by omega
              have HA : Hid (∀ t', t' < t + 1 → ∀ s, s < L.length → PP t' s = true) := fun t' ht' s' hs' => by
                by_cases e : t' = t
                · rw [e]; exact hall2.out s' (by omega)
                · exact hall.out t' (by omega) s' hs'
              have HWn : Hid (∀ m, ∃ q, wr.drewN m = wa.drewN q) := fun m => by
                obtain ⟨q, e⟩ := hw2.out
                obtain ⟨q2, e2⟩ := hw.out
                exact ⟨q2 + q + m, by rw [e, e2]; simp⟩
              have HWm : Hid (∃ q, wr = wa.drewN q) := HWn.out 0
              clear hse hall hall2 hw hw2
              go_wp2
              go_roundw
              case rel => exact ⟨t + 1, by omega, by go_num, HWm.out, HA.out⟩
              case measure => simp [intOf]; omega
        · have hte : t = L.length := by omega
          have hltI : ¬ (t : Int) < (L.length : Int) := by omega
          have HN := Lib.hid (HYes.out fun t' h s hs => hall.out t' (by omega) s hs)
          have HB := Lib.hid HPo.out.bl
          clear hte hall hw
          go_wp2
          go_ret
          exact ⟨by rw [HN.out]; rfl, HB.out⟩
  · have h1b : ((v.length : Int) != (L.length : Int)) = true := by simp; omega
    have h1I : ¬ (v.length : Int) = (L.length : Int) := by omega
    have HN := Lib.hid (Q.near_no1 h1)
    clear hL hS hV h1
    generalize v.length = vn at h1b h1I ⊢
    go_enter Try.func78, Try.ntmps78
    go_wp2
    go_ret
    exact ⟨by rw [HN.out]; first | rfl | simp, HP.out.bl⟩
end
end Go.Proofs.Ythpoeeadhjnljaa
