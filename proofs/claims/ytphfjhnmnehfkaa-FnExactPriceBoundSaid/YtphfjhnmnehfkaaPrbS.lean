/-
  The model's l7Rent, l7Prices; PriceBound, both sides.
-/
import Derived.Test.YtphfjhnmnehfkaaPrb
namespace Go.Proofs.Ytphfjhnmnehfkaa
open Go.RowKit
set_option linter.unusedVariables false
theorem most7_any (a b : Int) (w : World) : Calls Try.prog 101 #[.int .i64 a, .int .i64 b] w fun e w' => e = .returned (.int .i64 (max a b)) ∧ w' = w := by
  by_cases h : a > b
  · have hb : b < a := h
    have HE : Hid (max a b = a) := by show _ = _; omega
    rw [HE.out]
    clear h
    go_enter Try.func101, Try.ntmps101
    go_wp2
    go_ret
    exact ⟨rfl, rfl⟩
  · have hb : ¬ b < a := h
    have HE : Hid (max a b = b) := by show _ = _; omega
    rw [HE.out]
    clear h
    go_enter Try.func101, Try.ntmps101
    go_wp2
    go_ret
    exact ⟨rfl, rfl⟩
set_option maxHeartbeats 800000 in
theorem l7Rent_any (A : Option Addr) (c : Nat) (xs : List Value) (L : List (List Int)) (a q pr : List Int) (Ba Bq Bp : Option Addr) (da dq dp : Nat) (l : Nat) (w : World) (hk : 1 ≤ a.length) (hm : Q.metQ L = true) (hP : Q.inP L (a ++ q)) (hla : a.length ≤ 500) (hlq : q.length ≤ 500) (hb : pr.length = q.length) (ho : Q.okPr pr) (hlP : l < a.length + q.length) (hr : NRow w A xs L) (ha : Law.Row w Ba (ivs a)) (hq : Law.Row w Bq (ivs q)) (hpr : Law.Row w Bp (ivs pr)) :
    Calls Try.prog 80 #[mv A L.length c, .slice Ba a.length da, .slice Bq q.length dq, .slice Bp pr.length dp, .int .i64 (l : Int)] w fun e w' => e = .returned (.int .i64 (Q.rent L (a ++ q) a.length pr l)) ∧ Below w.heap.size w w' := by
  have hPl : (a ++ q).length = a.length + q.length := List.length_append
  have HGi := Lib.hid (Q.pgf_in (k := a.length) hm hP ho (by omega) (l := l) (by omega))
  have HG := Lib.hid fun (W : World) (h : Below w.heap.size w W) (i : Nat) (hi : i < q.length) => l7Gap_any A c xs L a q Ba Bq da dq l i W hm hP (by omega) (by omega) hi hlP (hr.stays h) (ha.stays h) (hq.stays h)
  have HF := Lib.hid (MetIn.start (c := c) hr 29)
  have HB := Lib.hid fun (W : World) (h : Below w.heap.size w W) => hpr.stays h
  have HMo := Lib.hid fun (x y : Int) (W : World) => most7_any x y W
  have HO := Lib.hid ho
  have HBQ := Lib.hid hb
  have hbl : pr.length ≤ 1000 := by omega
  have hqI : (q.length : Int) = (pr.length : Int) := by omega
  have hst : ((Q.stF a.length l : Nat) : Int) = max 0 ((l : Int) - (a.length : Int) + 1) := by unfold Q.stF; omega
  have hsl : Q.stF a.length l ≤ pr.length := by unfold Q.stF; omega
  have HRE : Hid (Q.rent L (a ++ q) a.length pr l = Q.rk (Q.pgf L (a ++ q) a.length pr l) (Q.stF a.length l) pr.length) := by show _ = _; rw [Q.rent, Nat.max_eq_right hsl]
  have hw1 : IntKind.i64.wrap ((l : Int) - (a.length : Int)) = (l : Int) - (a.length : Int) := IntWalk.i64_in _ (by omega)
  have hw2 : IntKind.i64.wrap ((l : Int) - (a.length : Int) + 1) = (l : Int) - (a.length : Int) + 1 := IntWalk.i64_in _ (by omega)
  rw [HRE.out]
  have HR0 := Lib.hid (Q.rk_start (Q.pgf L (a ++ q) a.length pr l) (Q.stF a.length l))
  have HRS : Hid (∀ i, Q.stF a.length l ≤ i → Q.rk (Q.pgf L (a ++ q) a.length pr l) (Q.stF a.length l) (i + 1) = max (Q.rk (Q.pgf L (a ++ q) a.length pr l) (Q.stF a.length l) i) (Q.pgf L (a ++ q) a.length pr l i)) := fun i hi => by rw [Q.rk, if_pos hi]
  have HRB : Hid (∀ i, i ≤ pr.length → 0 ≤ Q.rk (Q.pgf L (a ++ q) a.length pr l) (Q.stF a.length l) i ∧ Q.rk (Q.pgf L (a ++ q) a.length pr l) (Q.stF a.length l) i ≤ 99999) := fun i hi => Q.rk_in (by decide) i fun j hj => (HGi.out j (by omega)).1
  clear hr ha hq hpr hP hm ho hb HRE hPl
  have HPG := Lib.hid fun (i : Nat) (z : Int) (h : pr[i]? = some z) => Q.pgf_at (L := L) (P := a ++ q) (k := a.length) (l := l) h
  generalize Q.rk (Q.pgf L (a ++ q) a.length pr l) (Q.stF a.length l) = RK at HR0 HRS HRB ⊢
  generalize Q.pgf L (a ++ q) a.length pr l = pg at HGi HRS HPG
  generalize Q.stF a.length l = s at hst hsl HR0 HRS
  have HQI := Lib.hid hqI
  have HMs : Hid (∀ W : World, Calls Try.prog 101 #[.int .i64 0, .int .i64 ((l : Int) - (a.length : Int) + 1)] W fun e w' => e = .returned (.int .i64 (s : Int)) ∧ w' = W) := fun W => by rw [hst]; exact HMo.out _ _ W
  clear hst hqI
  go_enter Try.func80, Try.ntmps80
  go_wp2_with fail
  generalize w.alloc (.cells #[.slice A L.length c] 29) = wa at HF ⊢
  go_wp2_with fail
  go_at_call 101
  refine (HMs.out _).mono ?_
  rintro e w9 ⟨rfl, e9⟩
  subst e9
  clear hw1 hw2
  go_wp2
  go_loopw [11, 12] (fun v i wr => ∃ j : Nat, s ≤ j ∧ j ≤ pr.length ∧ i = .int .i64 (j : Int) ∧ v = .int .i64 (RK j) ∧ Hid (MetIn w wr A c xs L)) (fun _ i _ => pr.length - (intOf i).toNat)
  case atStart => exact ⟨s, Nat.le_refl _, hsl, rfl, by rw [HR0.out], HF.out⟩
  case round =>
    obtain ⟨j, hsj, hj, rfl, rfl, hF⟩ := hrel
    by_cases hlt : j < pr.length
    · have hltI : (j : Int) < (pr.length : Int) := by omega
      have hltQ : (j : Int) < (q.length : Int) := by have := HQI.out; omega
      obtain ⟨z, hz, hz1, hz2⟩ := HO.out j hlt
      have HE := Lib.hid (HRS.out j hsj)
      rw [HPG.out j z hz] at HE
      have hgi := HGi.out j hlt
      rw [HPG.out j z hz] at hgi
      obtain ⟨hr0, hr1⟩ := HRB.out j hj
      have HGj : Hid (∀ W : World, Below w.heap.size w W → Calls Try.prog 115 #[mv A L.length c, .slice Ba a.length da, .slice Bq q.length dq, .int .i64 (l : Int), .int .i64 (j : Int)] W fun e w' => e = .returned (.int .i64 (Q.gap L (a ++ q) (a.length + j) l)) ∧ Below W.heap.size W w') := fun W h => HG.out W h j (by have := HBQ.out; omega)
      generalize RK j = S at hr0 hr1 HE ⊢
      generalize Q.gap L (a ++ q) (a.length + j) l = D at hgi HE HGj
      obtain ⟨cb, co, rfl, hcb, hc1⟩ := (HB.out _ hF.out.bl).at_ (ivs_some hz)
      obtain ⟨p0, p1, p2⟩ := hF.out.bk
      have hw : IntKind.i64.wrap (z - D) = z - D := IntWalk.i64_in _ (by omega)
      have HM2 := Lib.hid fun (W : World) => HMo.out S (z - D) W
      obtain ⟨M, hM⟩ : ∃ M, max S (z - D) = M := ⟨_, rfl⟩
      rw [hM] at HE HM2
      clear hz hM
      go_wp2_with fail
      go_region_law ((first
        | (go_simp; go_at_call 115; refine (HGj.out _ (Law.up hF.out.bl _)).mono ?_; rintro e w1 ⟨rfl, hb1⟩; have hb2 := Law.then_ (Law.up (Below.refl wr.heap.size wr) _) hb1; have hF1 := Lib.hid (hF.out.on hb2); have hc9 : w1.cell? ⟨cb, co + j, none⟩ = some (.int .i64 z) := (hb2.cell (p := ⟨cb, co + j, none⟩) hcb).trans hc1; clear hb1 hb2)
        | (go_simp; go_at_call 101; refine (HM2.out _).mono ?_; rintro e w2 ⟨rfl, e2⟩; subst e2)))
      all_goals
        go_wp2
        go_roundw
        case rel => exact ⟨j + 1, by omega, by omega, by go_num, by rw [HE.out], hF1.out⟩
        case measure => simp [intOf]; omega
    · have hje : j = pr.length := by omega
      have hltQ : ¬ (j : Int) < (q.length : Int) := by have := HQI.out; omega
      have HE : Hid (RK j = RK pr.length) := by show _ = _; rw [hje]
      rw [HE.out]
      clear hje
      go_wp2
      go_ret
      exact ⟨rfl, hF.out.bl⟩
end Go.Proofs.Ytphfjhnmnehfkaa
