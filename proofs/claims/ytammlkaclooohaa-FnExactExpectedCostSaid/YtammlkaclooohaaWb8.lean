/-
  bestServe and workAfter.
-/
import Derived.Test.YtammlkaclooohaaWm8
import Derived.Test.YtammlkaclooohaaPlw
import Derived.BigQuiet
namespace Go.Proofs.Ytammlkaclooohaa
open Go.RowKit
set_option linter.unusedVariables false
namespace Q
/-- The sum of what bestServe compares, with a weight. -/
def bwF (L S : List (List Int)) (q : Nat) (r : Nat) (v : List Int) (t s : Nat) : Int := (q : Int) * (dst L t s + dst S r s) + v.getD s 0
theorem bwF_one (L S : List (List Int)) (r : Nat) (v : List Int) (t : Nat) : bwF L S 1 r v t = bstF L S r v t := by
  funext s
  unfold bwF bstF
  rw [show ((1 : Nat) : Int) = 1 from rfl, Int.one_mul]
theorem bwF_at {L S : List (List Int)} {q r : Nat} {v : List Int} {t s : Nat} {z : Int} (h : v[s]? = some z) : bwF L S q r v t s = (q : Int) * (dst L t s + dst S r s) + z := by
  rw [bwF, List.getD_eq_getElem?_getD, h]
  rfl
theorem bw_prod {q : Nat} {y : Int} (h0 : -1 ≤ y) (h9 : y ≤ 119) : -(q : Int) ≤ (q : Int) * y ∧ (q : Int) * y ≤ 119 * (q : Int) := by
  have a := Int.mul_le_mul_of_nonneg_left h0 (Int.natCast_nonneg q)
  have b := Int.mul_le_mul_of_nonneg_left h9 (Int.natCast_nonneg q)
  omega
theorem bwF_bd {L S : List (List Int)} (h : Pr L S) {q r t : Nat} {v : List Int} {M : Int} (hr : r < S.length) (ht : t < L.length) (hv : Vals L.length M v) : ∀ s, s < L.length → okS S r s = true → 0 ≤ bwF L S q r v t s ∧ bwF L S q r v t s ≤ M + 119 * (q : Int) := fun s hs ho => by
  obtain ⟨z, hz, h0, h1⟩ := hv s hs
  rw [bwF_at hz]
  have a := h.dst ht hs
  have b := h.srv hr hs
  have c : dst S r s ≠ -1 := by simpa [okS] using ho
  have d := Int.mul_nonneg (Int.natCast_nonneg q) (show 0 ≤ dst L t s + dst S r s by omega)
  have e := (bw_prod (q := q) (y := dst L t s + dst S r s) (by omega) (by omega)).2
  omega
end Q
section
variable (A : Option Addr) (c : Nat) (xs : List Value) (L : List (List Int)) (B : Option Addr) (d : Nat) (ys : List Value) (S : List (List Int)) (w : World) (v : List Int) (V : Option Addr) (e : Nat)
set_option maxHeartbeats 1600000 in
theorem bestServeW_any (hpr : Q.Pr L S) {M : Int} (hM : M ≤ 100000000) (q : Nat) (hq : q ≤ 100000) (t r : Nat) (ht : t < L.length) (hr : r < S.length) (hv : Q.Vals L.length M v) (hL : NRow w A xs L) (hS : NRow w B ys S) (hV : Law.Row w V (ivs v)) :
    Calls Try.prog 111 #[pv A L.length c B S.length d, .int .i64 (t : Int), .int .i64 (r : Int), .int .i64 (q : Int), .slice V v.length e] w fun e w' => e = .returned (.tuple #[.int .i64 (Q.amK (Q.bwF L S q r v t) (Q.okS S r) L.length).1, .int .i64 (Q.amK (Q.bwF L S q r v t) (Q.okS S r) L.length).2]) ∧ Below w.heap.size w w' := by
  obtain ⟨bA, oA, rfl⟩ := hL.some_ hpr.n1
  obtain ⟨bB, oB, rfl⟩ := hS.some_ hpr.m1
  have HP := Lib.hid (PIn.start (c := c) (d := d) hL hS 35)
  have HTL := Lib.hid fun (W : World) (h : NRow W (some ⟨bA, oA, none⟩) xs L) => h.tab hpr.sq hpr.n1
  have HTS := Lib.hid fun (W : World) (h : NRow W (some ⟨bB, oB, none⟩) ys S) => h.tab hpr.rows hpr.n1
  have HV := Lib.hid fun (W : World) (h : Below w.heap.size w W) => hV.stays h
  have hM0 := hv.pos hpr.n1
  have HBd := Lib.hid fun k (hk : k ≤ L.length) => Q.amK_bd (f := Q.bwF L S q r v t) (ok := Q.okS S r) (M := M + 119 * (q : Int)) (by omega) k fun s hs ho => Q.bwF_bd (q := q) hpr hr ht hv s (by omega) ho
  have HD := Lib.hid fun (x y : Nat) (hx : x < L.length) (hy : y < L.length) => hpr.dst hx hy
  have HE := Lib.hid fun (r s : Nat) (hr : r < S.length) (hs : s < L.length) => hpr.srv hr hs
  have HF := Lib.hid fun s z h => Q.bwF_at (L := L) (S := S) (q := q) (r := r) (v := v) (t := t) (s := s) (z := z) h
  have HO : Hid (∀ s, Q.okS S r s = decide (Q.dst S r s ≠ -1)) := fun s => rfl
  have HVs := Lib.hid hv
  have hn4 := hpr.n4
  have HVl : Hid (L.length ≤ v.length) := by
    have hn1 := hpr.n1
    obtain ⟨z, hz, _⟩ := hv (L.length - 1) (by omega)
    have := (List.getElem?_eq_some_iff.1 hz).1
    show _ ≤ _
    omega
  have HS : Hid (∀ k, Q.amK (Q.bwF L S q r v t) (Q.okS S r) (k + 1) = if Q.okS S r k && (decide ((Q.amK (Q.bwF L S q r v t) (Q.okS S r) k).1 < 0) || decide (Q.bwF L S q r v t k < (Q.amK (Q.bwF L S q r v t) (Q.okS S r) k).2)) then ((k : Int), Q.bwF L S q r v t k) else Q.amK (Q.bwF L S q r v t) (Q.okS S r) k) := fun k => rfl
  have HZ : Hid (Q.amK (Q.bwF L S q r v t) (Q.okS S r) 0 = (-1, 0)) := rfl
  generalize Q.amK (Q.bwF L S q r v t) (Q.okS S r) = K at HBd HS HZ ⊢
  generalize Q.bwF L S q r v t = F at HS HF
  generalize Q.okS S r = ok at HS HO
  clear hpr hL hS hV hv
  have htI : (t : Int) < (L.length : Int) := by omega
  have hrI : (r : Int) < (S.length : Int) := by omega
  have hvI : (L.length : Int) ≤ (v.length : Int) := by have := HVl.out; omega
  generalize v.length = vn at hvI HVl ⊢
  obtain ⟨b2, o2, d2, hc2, hcs2⟩ := HTS.out _ HP.out.sv r hr
  have HC2 := Lib.hid hcs2
  clear hcs2
  go_enter Try.func111, Try.ntmps111
  go_wp2
  generalize w.alloc (.cells #[.slice (some ⟨bA, oA, none⟩) L.length c, .slice (some ⟨bB, oB, none⟩) S.length d] 35) = wa at HP hc2 HC2 ⊢
  clear hc2
  go_loopw [12, 13, 23] (fun b l i wr => ∃ k : Nat, k ≤ L.length ∧ i = .int .i64 (k : Int) ∧ b = .int .i64 (K k).1 ∧ l = .int .i64 (K k).2 ∧ Hid (∃ m, wr = wa.drewN m)) (fun _ _ i _ => L.length - (intOf i).toNat)
  case atStart => exact ⟨0, Nat.zero_le _, rfl, by rw [HZ.out], by rw [HZ.out], ⟨0, rfl⟩⟩
  case round =>
    obtain ⟨k, hk, rfl, rfl, rfl, hw⟩ := hrel
    have HPr : Hid (∀ m, PIn w (wr.drewN m) (some ⟨bA, oA, none⟩) c xs L (some ⟨bB, oB, none⟩) d ys S ∧ ∃ q, wr.drewN m = wa.drewN q) := fun m => by
      obtain ⟨q, e⟩ := hw.out
      rw [e]
      exact ⟨(HP.out.drewN q).drewN m, q + m, by simp⟩
    have hP0 := (HPr.out 0).1
    have e0 : wr.drewN 0 = wr := rfl
    rw [e0] at hP0
    have HP0 := Lib.hid hP0
    clear hP0 e0
    obtain ⟨p0, p1, _, _, _⟩ := HP0.out.bk
    by_cases hlt : k < L.length
    · have hltI : (k : Int) < (L.length : Int) := by omega
      obtain ⟨z, hz, z0, z9⟩ := HVs.out k hlt
      obtain ⟨bV, oV, eV, hbV, hcV⟩ := (HV.out wr HP0.out.bl).at_ (ivs_some hz)
      subst eV
      obtain ⟨b1, o1, d1, hc1, hcs1⟩ := HTL.out wr HP0.out.mv t ht
      have hv1 := hcs1 k hlt
      have hv2 : wr.cell? ⟨b2, o2 + k, none⟩ = some (.int .i64 (Q.dst S r k)) := by
        obtain ⟨q, e⟩ := hw.out
        rw [e]
        exact HC2.out k hlt
      have hDD := HD.out t k ht hlt
      have D0 := hDD.1
      have D9 := hDD.2.1
      clear hDD
      obtain ⟨E0, E9⟩ := HE.out r k hr hlt
      obtain ⟨k1, k2, k3, k4⟩ := HBd.out k hk
      have hF := HF.out k z hz
      have hok := HO.out k
      have hK1 := HS.out k
      rw [hok, hF] at hK1
      generalize Q.dst L t k = D at hv1 D0 D9 hK1
      generalize Q.dst S r k = E at hv2 E0 E9 hK1
      have hkv : (k : Int) < (vn : Int) := by omega
      have hpb := Q.bw_prod (q := q) (y := D + E) (by omega) (by omega)
      generalize hPp : (q : Int) * (D + E) = P9 at hpb hK1
      obtain ⟨hpb1, hpb2⟩ := hpb
      have hw1 : IntKind.i64.wrap (D + E) = D + E := IntWalk.i64_in _ (by omega)
      have hw3 : IntKind.i64.wrap P9 = P9 := IntWalk.i64_in _ (by omega)
      have hw2 : IntKind.i64.wrap (P9 + z) = P9 + z := IntWalk.i64_in _ (by omega)
      clear hcs1 hz hF hok hw
      generalize hKk : K k = P at k1 k2 k3 k4 hK1 ⊢
      obtain ⟨bb, ll⟩ := P
      simp only [] at k1 k2 k3 k4 hK1
      by_cases hE : E = -1
      · subst hE
        have HN : Hid (K (k + 1) = (bb, ll)) := by show _ = _; rw [hK1]; simp
        clear hK1 hKk
        go_wp2
        go_quiet (fail)
        go_wp2
        go_roundw
        case rel => exact ⟨k + 1, by omega, by go_num, by rw [HN.out], by rw [HN.out], (HPr.out _).2⟩
        case measure => simp [intOf]; omega
      · have hEb : (E != -1) = true := by simpa using hE
        have hdE : decide (E ≠ -1) = true := by simpa using hE
        by_cases hb : bb < 0
        · have HN : Hid (K (k + 1) = ((k : Int), P9 + z)) := by show _ = _; rw [hK1, hdE]; simp [hb]
          clear hK1 hKk hdE hE
          go_wp2
          go_quiet (fail)
          go_wp2
          go_roundw
          case rel => exact ⟨k + 1, by omega, by go_num, by rw [HN.out], by rw [HN.out], (HPr.out _).2⟩
          case measure => simp [intOf]; omega
        · by_cases hl : P9 + z < ll
          · have HN : Hid (K (k + 1) = ((k : Int), P9 + z)) := by show _ = _; rw [hK1, hdE]; simp [hl]
            clear hK1 hKk hdE hE
            go_wp2
            go_quiet (fail)
            go_wp2
            go_roundw
            case rel => exact ⟨k + 1, by omega, by go_num, by rw [HN.out], by rw [HN.out], (HPr.out _).2⟩
            case measure => simp [intOf]; omega
          · have HN : Hid (K (k + 1) = (bb, ll)) := by show _ = _; rw [hK1, hdE, if_neg (by first | (simp [hb, hl]; done) | (simp [hb, hl]; omega))]
            clear hK1 hKk hdE hE
            go_wp2
            go_quiet (fail)
            go_wp2
            go_roundw
            case rel => exact ⟨k + 1, by omega, by go_num, by rw [HN.out], by rw [HN.out], (HPr.out _).2⟩
            case measure => simp [intOf]; omega
    · have hke : k = L.length := by omega
      have hltI : ¬ (k : Int) < (L.length : Int) := by omega
      have HB := Lib.hid HP0.out.bl
      subst hke
      clear hw
      go_wp2
      go_ret2
      exact ⟨rfl, HB.out⟩
/-- The weight 1. -/
theorem bestServe_any (hpr : Q.Pr L S) {M : Int} (hM : M ≤ 1000000) (t r : Nat) (ht : t < L.length) (hr : r < S.length) (hv : Q.Vals L.length M v) (hL : NRow w A xs L) (hS : NRow w B ys S) (hV : Law.Row w V (ivs v)) :
    Calls Try.prog 111 #[pv A L.length c B S.length d, .int .i64 (t : Int), .int .i64 (r : Int), .int .i64 1, .slice V v.length e] w fun e w' => e = .returned (.tuple #[.int .i64 (Q.amK (Q.bstF L S r v t) (Q.okS S r) L.length).1, .int .i64 (Q.amK (Q.bstF L S r v t) (Q.okS S r) L.length).2]) ∧ Below w.heap.size w w' := by
  have h := bestServeW_any A c xs L B d ys S w v V e hpr (show M ≤ 100000000 by omega) 1 (by omega) t r ht hr hv hL hS hV
  rw [Q.bwF_one] at h
  exact h
set_option maxRecDepth 100000 in
set_option maxHeartbeats 1600000 in
theorem workAfter_any (hpr : Q.Pr L S) {M : Int} (hM : M ≤ 1000000) (r : Nat) (hr : r < S.length) (hvl : v.length = L.length) (hv : Q.Vals L.length M v) (hL : NRow w A xs L) (hS : NRow w B ys S) (hV : Law.Row w V (ivs v)) :
    Calls Try.prog 161 #[pv A L.length c B S.length d, .slice V v.length e, .int .i64 (r : Int)] w (rowSays1 (Q.nextQ L S v r) w) := by
  obtain ⟨i0, hi, hz0, hz1, hz2⟩ := info_parts infoInts
  have HP := Lib.hid (PIn.start (c := c) (d := d) hL hS 35)
  have HC := Lib.hid fun (t : Nat) (ht : t < L.length) (W : World) (h1 : NRow W A xs L) (h2 : NRow W B ys S) (h3 : Law.Row W V (ivs v)) => bestServe_any A c xs L B d ys S W v V e hpr hM t r ht hr hv h1 h2 h3
  have HV := Lib.hid fun (W : World) (h : Below w.heap.size w W) => hV.stays h
  have HE : Hid (Q.nextQ L S v r = Q.fillK (fun t => (Q.amK (Q.bstF L S r v t) (Q.okS S r) L.length).2) L.length L.length) := by show _ = _; rw [Q.fill_end]; rfl
  have hn4 := hpr.n4
  have hn1 := hpr.n1
  have hln : (Q.nextQ L S v r).length = L.length := Q.nextQ_len _ _ _ _
  have hS' : ∀ k, (Q.fillK (fun t => (Q.amK (Q.bstF L S r v t) (Q.okS S r) L.length).2) L.length k).set k (Q.amK (Q.bstF L S r v k) (Q.okS S r) L.length).2 = Q.fillK (fun t => (Q.amK (Q.bstF L S r v t) (Q.okS S r) L.length).2) L.length (k + 1) := fun k => Q.fill_set
  have HFs := Lib.hid hS'
  have HF0 := Lib.hid fun k (hk : k < L.length) => Q.fill_at (f := fun t => (Q.amK (Q.bstF L S r v t) (Q.okS S r) L.length).2) hk
  have HFz := Lib.hid (Q.fill_zero (fun t => (Q.amK (Q.bstF L S r v t) (Q.okS S r) L.length).2) L.length)
  generalize Q.fillK (fun t => (Q.amK (Q.bstF L S r v t) (Q.okS S r) L.length).2) L.length = FK at HE HFs HF0 HFz
  rw [hvl] at HC ⊢
  clear hpr hL hS hV hv hS' hvl
  show Calls _ _ _ _ (rowSays1 _ _)
  unfold rowSays1
  rw [hln]
  generalize Q.nextQ L S v r = X at HE ⊢
  clear hln
  go_enter Try.func161, Try.ntmps161
  go_wp2_with (at_make; refine wpList_make_full _ rfl _ _ 25 rfl (w.heap.size + 1) 3 i0 (.int .i64 0) 1 Try.underlying25 hi hz0 hz1 .i64 .i64 _ _ L.length rfl rfl rfl rfl ?cm1a ?cm1b ?cm1c ?_)
  case cm1a => rw [hz2]; omega
  case cm1b => unfold maxLen; omega
  case cm1c => first | exact Nat.le_refl _ | omega | (simp; done) | (simp; omega)
  intro w1 hm1 hg1
  replace hm1 := made_own (w := w1) hm1
  have hsa0 : (w.alloc (.cells #[.slice A L.length c, .slice B S.length d] 35)).heap.size = w.heap.size + 1 := by simp
  have HB1 : Hid (Below (w.alloc (.cells #[.slice A L.length c, .slice B S.length d] 35)).heap.size (w.alloc (.cells #[.slice A L.length c, .slice B S.length d] 35)) w1) := Lib.hid ((Below.refl _ _).grown hg1 (Nat.le_refl _) (fun k e => by cases e))
  clear hg1
  generalize w.alloc (.cells #[.slice A L.length c, .slice B S.length d] 35) = wa at HP HB1 hsa0 hm1 ⊢
  try rw [← hsa0] at hm1
  try rw [← hsa0]
  clear hsa0
  have HO1 : Hid (w1.ownsRow wa.heap.size 3 1 (.slice (some ⟨wa.heap.size, 0, none⟩) L.length L.length) L.length (ivs (FK 0))) := by show World.ownsRow _ _ _ _ _ _ _; rw [HFz.out]; exact hm1
  clear hm1
  go_wp2_with fail
  go_loopw [14] (fun i wr => ∃ k : Nat, k ≤ L.length ∧ i = .int .i64 (k : Int) ∧ Hid (wr.ownsRow wa.heap.size 3 1 (.slice (some ⟨wa.heap.size, 0, none⟩) L.length L.length) L.length (ivs (FK k))) ∧ Hid (Below wa.heap.size wa wr)) (fun i _ => L.length - (intOf i).toNat)
  case atStart => exact ⟨0, Nat.zero_le _, rfl, HO1.out, HB1.out⟩
  case round =>
    obtain ⟨k, hk, rfl, ho, hb⟩ := hrel
    have HPr := Lib.hid (HP.out.on hb.out)
    obtain ⟨p0, p1, _, _, _⟩ := HPr.out.bk
    by_cases hlt : k < L.length
    · have hltI : (k : Int) < (L.length : Int) := by omega
      have HCk := Lib.hid (HC.out k hlt wr HPr.out.mv HPr.out.sv (HV.out wr HPr.out.bl))
      have HFk := Lib.hid (HFs.out k)
      generalize Q.amK (Q.bstF L S r v k) (Q.okS S r) L.length = P at HCk HFk
      obtain ⟨bb, ll⟩ := P
      simp only [] at HCk HFk
      go_wp2_with fail
      go_at_call 111
      refine HCk.out.mono ?_
      rintro e w2 ⟨rfl, hb2⟩
      have ho2 := own_past ho.out hb2
      have hcO := own_cell ho2 (HF0.out k hlt)
      have hfO := ho2.frozenAt k
      have HS2 := Lib.hid (own_put ho2 k ll)
      have HB2 := Lib.hid ((Law.then_ hb.out hb2).setCell (p := ⟨wa.heap.size, k, none⟩) (Nat.le_refl _) (.int .i64 ll))
      clear ho hb ho2 hb2 p0 p1
      go_wp2
      go_roundw
      case rel => exact ⟨k + 1, by omega, by go_num, (by show World.ownsRow _ _ _ _ _ _ _; rw [← HFk.out]; exact HS2.out), HB2.out⟩
      case measure => simp [intOf]; omega
    · have hke : k = L.length := by omega
      have hltI : ¬ (k : Int) < (L.length : Int) := by omega
      have HK := Lib.hid hke
      have HB := Lib.hid HPr.out.bl
      clear hke
      go_wp2
      go_ret
      refine ⟨_, rfl, ?_, HB.out⟩
      have h := ho.out
      rw [HK.out, ← HE.out] at h
      exact own_down h HP.out.bl.size
end
end Go.Proofs.Ytammlkaclooohaa
