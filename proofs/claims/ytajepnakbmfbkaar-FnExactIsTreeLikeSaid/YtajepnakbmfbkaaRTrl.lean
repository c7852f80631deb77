/-
  IsTreeLike: the mathematics, the code's, the model's.
-/
import Derived.Test.YtajepnakbmfbkaaRMtS
import Derived.Test.YtajepnakbmfbkaaRSrt
import Derived.BigQuiet
import Derived.StillTailTactics
namespace Go.Proofs.YtajepnakbmfbkaaR
open Go.RowKit
set_option linter.unusedVariables false
namespace Q
theorem met_sqrT {L : List (List Int)} (h : metQ L = true) : tabQ false L = true ∧ (1 ≤ L.length ∧ L.length ≤ 6) ∧ (∀ l ∈ L, l.length = L.length) := by
  simp only [metQ, Bool.and_eq_true] at h
  have h2 := sqr_iff.1 (tab_iff.1 h.1).1
  exact ⟨h.1, h2.1, h2.2⟩
def four (a b c : Int) : Prop := ¬ (max b c < a ∨ max a c < b ∨ max a b < c)
instance (a b c : Int) : Decidable (four a b c) := inferInstanceAs (Decidable (¬ _))
theorem srt3 (a b c : Int) : ∃ p q r : Int, srt [a, b, c] = [p, q, r] ∧ (q = r ↔ four a b c) := by
  have h : srt [a, b, c] = putS c (putS b (putS a [])) := rfl
  rw [h]
  have h1 : putS a [] = [a] := rfl
  rw [h1]
  unfold four
  by_cases e1 : a ≤ b
  · have h2 : putS b [a] = [a, b] := by simp [putS, leadS, e1]
    rw [h2]
    by_cases e2 : a ≤ c
    · by_cases e3 : b ≤ c
      · exact ⟨a, b, c, by simp [putS, leadS, e2, e3], by omega⟩
      · exact ⟨a, c, b, by simp [putS, leadS, e2, e3], by omega⟩
    · exact ⟨c, a, b, by simp [putS, leadS, e2], by omega⟩
  · have h2 : putS b [a] = [b, a] := by simp [putS, leadS, e1]
    rw [h2]
    by_cases e2 : b ≤ c
    · by_cases e3 : a ≤ c
      · exact ⟨b, a, c, by simp [putS, leadS, e2, e3], by omega⟩
      · exact ⟨b, c, a, by simp [putS, leadS, e2, e3], by omega⟩
    · exact ⟨c, b, a, by simp [putS, leadS, e2], by omega⟩
def treeAt (L : List (List Int)) (x y z v : Nat) : Prop := four (dst L x y + dst L z v) (dst L x z + dst L y v) (dst L x v + dst L y z)
instance (L : List (List Int)) (x y z v : Nat) : Decidable (treeAt L x y z v) := inferInstanceAs (Decidable (four _ _ _))
def allT (L : List (List Int)) : Prop := ∀ x, x < L.length → ∀ y, y < L.length → ∀ z, z < L.length → ∀ v, v < L.length → treeAt L x y z v
open Classical in
noncomputable def treQ (L : List (List Int)) : Bool × Bool := if metQ L then (decide (allT L), true) else (false, false)
theorem tre_no {L : List (List Int)} (h : metQ L = false) : treQ L = (false, false) := if_neg (by simp [h])
open Classical in
theorem tre_yes {L : List (List Int)} (h : metQ L = true) (ha : allT L) : treQ L = (true, true) := by rw [treQ, if_pos h, decide_eq_true ha]
open Classical in
theorem tre_not {L : List (List Int)} (h : metQ L = true) (ha : ¬ allT L) : treQ L = (false, true) := by rw [treQ, if_pos h, decide_eq_false ha]
theorem lt_mix {a b n m : Nat} (ha : a < n) (hb : b < m) : a + n * b < n * m := by
  have h1 : n * (b + 1) ≤ n * m := Nat.mul_le_mul_left n hb
  rw [Nat.mul_add, Nat.mul_one] at h1
  omega
theorem code4 {n x y z v : Nat} (hx : x < n) (hy : y < n) (hz : z < n) (hv : v < n) : ∃ j, j < n * (n * (n * n)) ∧ j % n = x ∧ j / n % n = y ∧ j / n / n % n = z ∧ j / n / n / n = v := by
  have hn : 0 < n := by omega
  have e1 : (x + n * (y + n * (z + n * v))) / n = y + n * (z + n * v) := by rw [Nat.add_mul_div_left _ _ hn, Nat.div_eq_of_lt hx, Nat.zero_add]
  have e2 : (y + n * (z + n * v)) / n = z + n * v := by rw [Nat.add_mul_div_left _ _ hn, Nat.div_eq_of_lt hy, Nat.zero_add]
  have e3 : (z + n * v) / n = v := by rw [Nat.add_mul_div_left _ _ hn, Nat.div_eq_of_lt hz, Nat.zero_add]
  refine ⟨x + n * (y + n * (z + n * v)), lt_mix hx (lt_mix hy (lt_mix hz hv)), ?_, ?_, ?_, ?_⟩
  · rw [Nat.add_mul_mod_self_left]; exact Nat.mod_eq_of_lt hx
  · rw [e1, Nat.add_mul_mod_self_left]; exact Nat.mod_eq_of_lt hy
  · rw [e1, e2, Nat.add_mul_mod_self_left]; exact Nat.mod_eq_of_lt hz
  · rw [e1, e2, e3]
theorem top4 {n k : Nat} (h : k < n * (n * (n * n))) : k / n / n / n < n :=
  Nat.div_lt_of_lt_mul (Nat.div_lt_of_lt_mul (Nat.div_lt_of_lt_mul h))
end Q
theorem mostT_any (a b : Int) (w : World) : Calls Try.prog 31 #[.int .i64 a, .int .i64 b] w fun e w' => e = .returned (.int .i64 (max a b)) ∧ w' = w := by
  by_cases h : b < a
  · rw [show max a b = a by omega]
    go_enter Try.func31, Try.ntmps31
    go_wp2
    go_ret
    exact ⟨rfl, rfl⟩
  · rw [show max a b = b by omega]
    go_enter Try.func31, Try.ntmps31
    go_wp2
    go_ret
    exact ⟨rfl, rfl⟩
set_option maxRecDepth 100000 in
set_option maxHeartbeats 3200000 in
theorem fourI_any (A : Option Addr) (c : Nat) (xs : List Value) (L : List (List Int)) (w : World) (x y z v : Nat) (hm : Q.metQ L = true) (hx : x < L.length) (hy : y < L.length) (hz : z < L.length) (hv : v < L.length) (hr : NRow w A xs L) :
    Calls Try.prog 34 #[mv A L.length c, .int .i64 (x : Int), .int .i64 (y : Int), .int .i64 (z : Int), .int .i64 (v : Int)] w fun e w' => e = .returned (.bool (decide (Q.treeAt L x y z v))) ∧ Below w.heap.size w w' := by
  have HM := Lib.hid (MetIn.start (c := c) hr 28)
  obtain ⟨htab, ⟨h1, h6⟩, hsq⟩ := Q.met_sqrT hm
  have bxy := Q.tab_bd htab hx hy
  have bzv := Q.tab_bd htab hz hv
  have bxz := Q.tab_bd htab hx hz
  have byv := Q.tab_bd htab hy hv
  have bxv := Q.tab_bd htab hx hv
  have byz := Q.tab_bd htab hy hz
  obtain ⟨b, off, b1, o1, d1, rfl, hb, hcx, hb1, cxy⟩ := HM.out.rows.dst_at hsq hx hy
  obtain ⟨_, _, _, _, _, e2, _, hcz, _, czv⟩ := HM.out.rows.dst_at hsq hz hv
  cases e2
  obtain ⟨_, _, _, _, _, e3, _, hcx3, _, cxz⟩ := HM.out.rows.dst_at hsq hx hz
  cases e3
  rw [hcx] at hcx3
  cases hcx3
  obtain ⟨_, _, _, _, _, e4, _, hcy, _, cyv⟩ := HM.out.rows.dst_at hsq hy hv
  cases e4
  obtain ⟨_, _, _, _, _, e5, _, hcx5, _, cxv⟩ := HM.out.rows.dst_at hsq hx hv
  cases e5
  rw [hcx] at hcx5
  cases hcx5
  obtain ⟨_, _, _, _, _, e6, _, hcy6, _, cyz⟩ := HM.out.rows.dst_at hsq hy hz
  cases e6
  rw [hcy] at hcy6
  cases hcy6
  have hxI : (x : Int) < (L.length : Int) := by omega
  have hyI : (y : Int) < (L.length : Int) := by omega
  have hzI : (z : Int) < (L.length : Int) := by omega
  have hvI : (v : Int) < (L.length : Int) := by omega
  obtain ⟨P, hP⟩ : ∃ P, P = decide (Q.treeAt L x y z v) := ⟨_, rfl⟩
  rw [← hP]
  replace hP : P = decide (Q.four (Q.dst L x y + Q.dst L z v) (Q.dst L x z + Q.dst L y v) (Q.dst L x v + Q.dst L y z)) := hP
  generalize Q.dst L x y = a1 at *
  generalize Q.dst L z v = a2 at *
  generalize Q.dst L x z = a3 at *
  generalize Q.dst L y v = a4 at *
  generalize Q.dst L x v = a5 at *
  generalize Q.dst L y z = a6 at *
  have w1 : IntKind.i64.wrap (a1 + a2) = a1 + a2 := IntWalk.i64_in _ (by omega)
  have w2 : IntKind.i64.wrap (a3 + a4) = a3 + a4 := IntWalk.i64_in _ (by omega)
  have w3 : IntKind.i64.wrap (a5 + a6) = a5 + a6 := IntWalk.i64_in _ (by omega)
  obtain ⟨s1, hs1⟩ : ∃ s, s = a1 + a2 := ⟨_, rfl⟩
  obtain ⟨s2, hs2⟩ : ∃ s, s = a3 + a4 := ⟨_, rfl⟩
  obtain ⟨s3, hs3⟩ : ∃ s, s = a5 + a6 := ⟨_, rfl⟩
  have W1 : Hid (IntKind.i64.wrap (a1 + a2) = s1) := Lib.hid (w1.trans hs1.symm)
  have W2 : Hid (IntKind.i64.wrap (a3 + a4) = s2) := Lib.hid (w2.trans hs2.symm)
  have W3 : Hid (IntKind.i64.wrap (a5 + a6) = s3) := Lib.hid (w3.trans hs3.symm)
  rw [← hs1, ← hs2, ← hs3] at hP
  clear w1 w2 w3 hs1 hs2 hs3
  obtain ⟨p, q, r, hsr, hqr⟩ := Q.srt3 s1 s2 s3
  have HP : Hid (P = decide (q = r)) := by
    show P = _
    rw [hP]
    exact decide_eq_decide.2 hqr.symm
  have HSR := Lib.hid hsr
  obtain ⟨hk0, _, _⟩ := HM.out.bk
  have HBl := Lib.hid HM.out.bl
  clear hP hqr hsr hr htab hsq hm bxy bzv bxz byv bxv byz h1 h6 HM hb hb1
  go_enter Try.func34, Try.ntmps34
  go_wp2_with fail
  generalize w.alloc (.cells #[.slice (some ⟨b, off, none⟩) L.length c] 28) = wa at *
  go_still_tail 51, (by kernel_rfl)
  change wpList _ _ _ _ _ wa.drew
  have hdr : Below wa.heap.size wa wa.drew := (Below.refl _ _).drew
  generalize wa.drew = wd at hdr ⊢
  have HBd := Lib.hid (Law.then_ HBl.out hdr)
  clear hdr hk0 hcx hcy hcz cxy czv cxz cyv cxv cyz
  go_wp2_with fail
  rw [show wrap64 (a1 + a2) = s1 from (IntWalk.i64_left _).symm.trans W1.out, show wrap64 (a3 + a4) = s2 from (IntWalk.i64_left _).symm.trans W2.out, show wrap64 (a5 + a6) = s3 from (IntWalk.i64_left _).symm.trans W3.out]
  have hrow : (wd.alloc (.cells #[.int .i64 s1, .int .i64 s2, .int .i64 s3] 3)).ownsRow wd.heap.size 3 1 (.slice (some ⟨wd.heap.size, 0, none⟩) [s1, s2, s3].length 3) [s1, s2, s3].length (ivs [s1, s2, s3]) := row_lit3 wd _ _ _ _
  have HSo := Lib.hid (sort_row hrow (by simp))
  have HBa := Lib.hid (HBd.out.alloc HBd.out.size (.cells #[.int .i64 s1, .int .i64 s2, .int .i64 s3] 3))
  have hsz := HBd.out.size
  clear hrow
  go_at_call 41
  refine HSo.out.mono ?_
  rintro e w9 ⟨rfl, ho9, hg9⟩
  rw [HSR.out] at ho9
  have hB9 := HBa.out.grown hg9 HBa.out.size (fun j e => by cases e; exact hsz)
  have HB9 := Lib.hid hB9
  have c1 := own_cell (k := 1) ho9 (x := q) rfl
  have c2 := own_cell (k := 2) ho9 (x := r) rfl
  clear ho9 hg9 hB9
  by_cases hqr : q = r
  · have hPt : P = true := by rw [HP.out]; exact decide_eq_true hqr
    subst hPt hqr
    go_wp2_with fail
    go_region
    all_goals
      go_wp2
      go_ret
      exact ⟨by simp, by first | exact HB9.out | exact HB9.out.drew | exact Law.up HB9.out _⟩
  · have hPt : P = false := by rw [HP.out]; exact decide_eq_false hqr
    subst hPt
    go_wp2_with fail
    go_region
    all_goals
      go_wp2
      go_ret
      exact ⟨by simp [hqr], by first | exact HB9.out | exact HB9.out.drew | exact Law.up HB9.out _⟩
set_option maxRecDepth 100000 in
set_option maxHeartbeats 3200000 in
theorem impTre_any (A : Option Addr) (c : Nat) (xs : List Value) (L : List (List Int)) (w : World) (hll : ∀ l ∈ L, l.length ≤ 1048576) (hr : NRow w A xs L) :
    Calls Try.prog 10 #[mv A L.length c] w fun e w' => e = .returned (.tuple #[.bool (Q.treQ L).1, .bool (Q.treQ L).2]) ∧ Below w.heap.size w w' := by
  have HM := Lib.hid (MetIn.start (c := c) hr 28)
  have HG := Lib.hid (impMet_any A c xs L _ hll HM.out.rows)
  clear hr hll
  cases hg : Q.metQ L
  · rw [Q.tre_no hg]
    rw [hg] at HG
    clear hg
    go_enter Try.func10, Try.ntmps10
    go_wp2_with fail
    generalize w.alloc (.cells #[.slice A L.length c] 28) = wa at HM HG ⊢
    go_at_call 33
    refine HG.out.mono ?_
    rintro e w1 ⟨rfl, hb⟩
    have HB := Lib.hid (HM.out.on hb).bl
    clear hb
    go_wp2
    go_ret2
    exact ⟨rfl, HB.out⟩
  · rw [hg] at HG
    obtain ⟨VV, hVV⟩ : ∃ VV, VV = Q.treQ L := ⟨_, rfl⟩
    have HYe : Hid (Q.allT L → VV = (true, true)) := fun h => hVV.trans (Q.tre_yes hg h)
    have HNo : Hid (¬ Q.allT L → VV = (false, true)) := fun h => hVV.trans (Q.tre_not hg h)
    rw [← hVV]
    clear hVV
    have HMQ := Lib.hid hg
    obtain ⟨htab, ⟨h1, h6⟩, hsq⟩ := Q.met_sqrT hg
    have HS := Lib.hid hsq
    have HBd := Lib.hid (fun x y => Q.tab_bd htab (x := x) (y := y))
    clear hg htab hsq
    go_enter Try.func10, Try.ntmps10
    go_wp2_with fail
    generalize w.alloc (.cells #[.slice A L.length c] 28) = wa at HM HG ⊢
    go_at_call 33
    refine HG.out.mono ?_
    rintro e w1 ⟨rfl, hb⟩
    have HM1 := Lib.hid (HM.out.on hb)
    clear hb HM HG
    have HF := Lib.hid fun (W : World) (x y z v : Nat) (hx : x < L.length) (hy : y < L.length) (hz : z < L.length) (hv : v < L.length) (h : NRow W A xs L) => fourI_any A c xs L W x y z v HMQ.out hx hy hz hv h
    obtain ⟨hk0, _, _⟩ := HM1.out.bk
    go_wp2
    clear hk0
    go_loopw [14] (fun i wr => ∃ x : Nat, x ≤ L.length ∧ i = .int .i64 (x : Int) ∧ Hid (∀ u, u < x → ∀ y', y' < L.length → ∀ z', z' < L.length → ∀ v', v' < L.length → Q.treeAt L u y' z' v') ∧ Hid (MetIn w wr A c xs L)) (fun i _ => L.length - (intOf i).toNat)
    case atStart => exact ⟨0, Nat.zero_le _, rfl, fun u h => by omega, HM1.out⟩
    case round =>
      obtain ⟨x, hx, rfl, ha0, hm0⟩ := hrel
      obtain ⟨k0, _, _⟩ := hm0.out.bk
      by_cases hlx : x < L.length
      · have hlxI : (x : Int) < (L.length : Int) := by omega
        obtain ⟨wo0, hwo⟩ : ∃ wo, wo = wr := ⟨_, rfl⟩
        rw [← hwo] at hm0 k0 ⊢
        clear hwo
        go_wp2
        clear k0
        go_loopw [20] (fun i wr => ∃ y : Nat, y ≤ L.length ∧ i = .int .i64 (y : Int) ∧ Hid (∀ u, u < y → ∀ z', z' < L.length → ∀ v', v' < L.length → Q.treeAt L x u z' v') ∧ Hid (MetIn w wr A c xs L)) (fun i _ => L.length - (intOf i).toNat)
        case atStart => exact ⟨0, Nat.zero_le _, rfl, fun u h => by omega, hm0⟩
        case round =>
          obtain ⟨y, hy, rfl, ha1, hm1⟩ := hrel
          obtain ⟨k1, _, _⟩ := hm1.out.bk
          by_cases hly : y < L.length
          · have hlyI : (y : Int) < (L.length : Int) := by omega
            obtain ⟨wo1, hwo⟩ : ∃ wo, wo = wr := ⟨_, rfl⟩
            rw [← hwo] at hm1 k1 ⊢
            clear hwo
            go_wp2
            clear k1
            go_loopw [26] (fun i wr => ∃ z : Nat, z ≤ L.length ∧ i = .int .i64 (z : Int) ∧ Hid (∀ u, u < z → ∀ v', v' < L.length → Q.treeAt L x y u v') ∧ Hid (MetIn w wr A c xs L)) (fun i _ => L.length - (intOf i).toNat)
            case atStart => exact ⟨0, Nat.zero_le _, rfl, fun u h => by omega, hm1⟩
            case round =>
              obtain ⟨z, hz, rfl, ha2, hm2⟩ := hrel
              obtain ⟨k2, _, _⟩ := hm2.out.bk
              by_cases hlz : z < L.length
              · have hlzI : (z : Int) < (L.length : Int) := by omega
                obtain ⟨wo2, hwo⟩ : ∃ wo, wo = wr := ⟨_, rfl⟩
                rw [← hwo] at hm2 k2 ⊢
                clear hwo
                go_wp2
                clear k2
                go_loopw [32] (fun i wr => ∃ v : Nat, v ≤ L.length ∧ i = .int .i64 (v : Int) ∧ Hid (∀ u, u < v → Q.treeAt L x y z u) ∧ Hid (MetIn w wr A c xs L)) (fun i _ => L.length - (intOf i).toNat)
                case atStart => exact ⟨0, Nat.zero_le _, rfl, fun u h => by omega, hm2⟩
                case round =>
                  obtain ⟨v, hv, rfl, ha3, hm3⟩ := hrel
                  obtain ⟨k3, _, _⟩ := hm3.out.bk
                  by_cases hlv : v < L.length
                  · have hlvI : (v : Int) < (L.length : Int) := by omega
                    have HC := Lib.hid (HF.out wr x y z v hlx hly hlz hlv hm3.out.rows)
                    obtain ⟨wo3, hwo⟩ : ∃ wo, wo = wr := ⟨_, rfl⟩
                    rw [← hwo] at hm3 k3 HC ⊢
                    clear hwo
                    by_cases ht : Q.treeAt L x y z v
                    · have HN : Hid (∀ u, u < v + 1 → Q.treeAt L x y z u) := fun u hu => by
                        by_cases e : u = v
                        · rw [e]; exact ht
                        · exact ha3.out u (by omega)
                      rw [decide_eq_true ht] at HC
                      clear ht ha3
                      go_wp2_with fail
                      go_at_call 34
                      refine HC.out.mono ?_
                      rintro e w5 ⟨rfl, hb5⟩
                      have HM5 := Lib.hid (hm3.out.on hb5)
                      clear hb5 k3
                      obtain ⟨k5, _, _⟩ := HM5.out.bk
                      go_wp2
                      go_roundw
                      case rel => exact ⟨v + 1, by omega, by go_num, HN.out, HM5.out⟩
                      case measure => simp [intOf]; omega
                    · have HN : Hid (VV = (false, true)) := HNo.out fun h => ht (h x hlx y hly z hlz v hlv)
                      rw [decide_eq_false ht] at HC
                      clear ht ha3
                      go_wp2_with fail
                      go_at_call 34
                      refine HC.out.mono ?_
                      rintro e w5 ⟨rfl, hb5⟩
                      have HM5 := Lib.hid (hm3.out.on hb5)
                      clear hb5 k3
                      go_wp2
                      go_ret2
                      exact ⟨by rw [HN.out]; rfl, HM5.out.bl⟩
                  · have hev : v = L.length := by omega
                    have hlvI : ¬ (v : Int) < (L.length : Int) := by omega
                    have HN : Hid (∀ u, u < z + 1 → ∀ v', v' < L.length → Q.treeAt L x y u v') := fun u hu v' hv' => by
                      by_cases e : u = z
                      · rw [e]; exact ha3.out v' (by omega)
                      · exact ha2.out u (by omega) v' hv'
                    clear hev
                    go_wp2
                    go_roundw
                    case rel => exact ⟨z + 1, by omega, by go_num, HN.out, hm3.out⟩
                    case measure => simp [intOf]; omega
              · have hez : z = L.length := by omega
                have hlzI : ¬ (z : Int) < (L.length : Int) := by omega
                have HN : Hid (∀ u, u < y + 1 → ∀ z', z' < L.length → ∀ v', v' < L.length → Q.treeAt L x u z' v') := fun u hu z' hz' v' hv' => by
                  by_cases e : u = y
                  · rw [e]; exact ha2.out z' (by omega) v' hv'
                  · exact ha1.out u (by omega) z' hz' v' hv'
                clear hez
                go_wp2
                go_roundw
                case rel => exact ⟨y + 1, by omega, by go_num, HN.out, hm2.out⟩
                case measure => simp [intOf]; omega
          · have hey : y = L.length := by omega
            have hlyI : ¬ (y : Int) < (L.length : Int) := by omega
            have HN : Hid (∀ u, u < x + 1 → ∀ y', y' < L.length → ∀ z', z' < L.length → ∀ v', v' < L.length → Q.treeAt L u y' z' v') := fun u hu y' hy' z' hz' v' hv' => by
              by_cases e : u = x
              · rw [e]; exact ha1.out y' (by omega) z' hz' v' hv'
              · exact ha0.out u (by omega) y' hy' z' hz' v' hv'
            clear hey
            go_wp2
            go_roundw
            case rel => exact ⟨x + 1, by omega, by go_num, HN.out, hm1.out⟩
            case measure => simp [intOf]; omega
      · have hex : x = L.length := by omega
        have hlxI : ¬ (x : Int) < (L.length : Int) := by omega
        have HN : Hid (VV = (true, true)) := HYe.out fun u hu y' hy' z' hz' v' hv' => ha0.out u (by omega) y' hy' z' hz' v' hv'
        clear hex
        go_wp2
        go_ret2
        exact ⟨by rw [HN.out]; rfl, hm0.out.bl⟩
set_option maxRecDepth 100000 in
set_option maxHeartbeats 3200000 in
theorem specTre_any (A : Option Addr) (c : Nat) (xs : List Value) (L : List (List Int)) (w : World) (hr : NRow w A xs L) :
    Calls Try.prog 8 #[mv A L.length c] w fun e w' => e = .returned (.tuple #[.bool (Q.treQ L).1, .bool (Q.treQ L).2]) ∧ Below w.heap.size w w' := by
  have HM := Lib.hid (MetIn.start (c := c) hr 28)
  have HG := Lib.hid (l6Good_any A c xs L _ HM.out.rows)
  clear hr
  cases hg : Q.metQ L
  · rw [Q.tre_no hg]
    rw [hg] at HG
    clear hg
    go_enter Try.func8, Try.ntmps8
    go_wp2_with fail
    generalize w.alloc (.cells #[.slice A L.length c] 28) = wa at HM HG ⊢
    go_at_call 30
    refine HG.out.mono ?_
    rintro e w1 ⟨rfl, hb⟩
    have HB := Lib.hid (HM.out.on hb).bl
    clear hb
    go_wp2
    go_ret2
    exact ⟨rfl, HB.out⟩
  · rw [hg] at HG
    obtain ⟨VV, hVV⟩ : ∃ VV, VV = Q.treQ L := ⟨_, rfl⟩
    have HYe : Hid (Q.allT L → VV = (true, true)) := fun h => hVV.trans (Q.tre_yes hg h)
    have HNo : Hid (¬ Q.allT L → VV = (false, true)) := fun h => hVV.trans (Q.tre_not hg h)
    rw [← hVV]
    clear hVV
    have HMQ := Lib.hid hg
    obtain ⟨htab, ⟨h1, h6⟩, hsq⟩ := Q.met_sqrT hg
    have HS := Lib.hid hsq
    have HBd := Lib.hid (fun x y => Q.tab_bd htab (x := x) (y := y))
    clear hg htab hsq
    go_enter Try.func8, Try.ntmps8
    go_wp2_with fail
    generalize w.alloc (.cells #[.slice A L.length c] 28) = wa at HM HG ⊢
    go_at_call 30
    refine HG.out.mono ?_
    rintro e w1 ⟨rfl, hb⟩
    have HM1 := Lib.hid (HM.out.on hb)
    clear hb HM HG
    obtain ⟨n, hn⟩ : ∃ n, n = L.length := ⟨_, rfl⟩
    have hnI : (n : Int) = (L.length : Int) := by omega
    obtain ⟨m2, hm2⟩ : ∃ m, m = n * n := ⟨_, rfl⟩
    obtain ⟨m3, hm3⟩ : ∃ m, m = n * m2 := ⟨_, rfl⟩
    obtain ⟨m4, hm4⟩ : ∃ m, m = n * m3 := ⟨_, rfl⟩
    have hn6n : n ≤ 6 := by omega
    have b2 : m2 ≤ 36 := by rw [hm2]; exact Nat.le_trans (Nat.mul_le_mul hn6n hn6n) (by decide)
    have b3 : m3 ≤ 216 := by rw [hm3]; exact Nat.le_trans (Nat.mul_le_mul hn6n b2) (by decide)
    have b4 : m4 ≤ 1296 := by rw [hm4]; exact Nat.le_trans (Nat.mul_le_mul hn6n b3) (by decide)
    have v2 : IntKind.i64.wrap ((L.length : Int) * (L.length : Int)) = (m2 : Int) := by
      have e : (L.length : Int) * (L.length : Int) = (m2 : Int) := by rw [hm2, hn]; simp
      rw [e]; exact IntWalk.i64_in _ (by omega)
    have v3 : IntKind.i64.wrap ((m2 : Int) * (L.length : Int)) = (m3 : Int) := by
      have e : (m2 : Int) * (L.length : Int) = (m3 : Int) := by rw [hm3, hn, Nat.mul_comm]; simp
      rw [e]; exact IntWalk.i64_in _ (by omega)
    have v4 : IntKind.i64.wrap ((m3 : Int) * (L.length : Int)) = (m4 : Int) := by
      have e : (m3 : Int) * (L.length : Int) = (m4 : Int) := by rw [hm4, hn, Nat.mul_comm]; simp
      rw [e]; exact IntWalk.i64_in _ (by omega)
    have HAll : Hid ((∀ j, j < m4 → Q.treeAt L (j % n) (j / n % n) (j / n / n % n) (j / n / n / n)) → Q.allT L) := fun h x hx y hy z hz v hv => by
      obtain ⟨j, hj, e1, e2, e3, e4⟩ := Q.code4 (n := n) (by omega : x < n) (by omega : y < n) (by omega : z < n) (by omega : v < n)
      have := h j (by rw [hm4, hm3, hm2]; exact hj)
      rw [e1, e2, e3, e4] at this
      exact this
    have HTop : Hid (∀ k, k < m4 → k / n / n / n < n) := fun k hk => Q.top4 (by rw [← hm2, ← hm3, ← hm4]; exact hk)
    have hn1 : 1 ≤ n := by omega
    clear hm2 hm3 hm4 b2 b3 hn6n
    have HN := Lib.hid hn
    clear hn hnI
    obtain ⟨hk0, _, _⟩ := HM1.out.bk
    go_wp2_with fail
    clear hk0
    go_loopw [5] (fun i wr => ∃ k : Nat, k ≤ m4 ∧ i = .int .i64 (k : Int) ∧ Hid (∀ j, j < k → Q.treeAt L (j % n) (j / n % n) (j / n / n % n) (j / n / n / n)) ∧ Hid (MetIn w wr A c xs L)) (fun i _ => m4 - (intOf i).toNat)
    case atStart => exact ⟨0, Nat.zero_le _, rfl, fun u h => by omega, HM1.out⟩
    case round =>
      obtain ⟨k, hk, rfl, hall, hm⟩ := hrel
      by_cases hlk : k < m4
      · have hlkI : (k : Int) < (m4 : Int) := by omega
        have hn6 : ¬ (L.length : Int) = 0 := by omega
        obtain ⟨x, hx⟩ : ∃ x, x = k % n := ⟨_, rfl⟩
        obtain ⟨k1, hk1⟩ : ∃ x, x = k / n := ⟨_, rfl⟩
        obtain ⟨y, hy⟩ : ∃ x, x = k1 % n := ⟨_, rfl⟩
        obtain ⟨k2, hk2⟩ : ∃ x, x = k1 / n := ⟨_, rfl⟩
        obtain ⟨z, hz⟩ : ∃ x, x = k2 % n := ⟨_, rfl⟩
        obtain ⟨v, hv⟩ : ∃ x, x = k2 / n := ⟨_, rfl⟩
        have g1 : (k : Int).tmod (L.length : Int) = (x : Int) := by rw [Int.tmod_eq_emod_of_nonneg (by omega), hx, HN.out]; simp
        have g2 : (k : Int).tdiv (L.length : Int) = (k1 : Int) := by rw [Int.tdiv_eq_ediv_of_nonneg (by omega), hk1, HN.out]; simp
        have g3 : (k1 : Int).tmod (L.length : Int) = (y : Int) := by rw [Int.tmod_eq_emod_of_nonneg (by omega), hy, HN.out]; simp
        have g4 : (k1 : Int).tdiv (L.length : Int) = (k2 : Int) := by rw [Int.tdiv_eq_ediv_of_nonneg (by omega), hk2, HN.out]; simp
        have g5 : (k2 : Int).tmod (L.length : Int) = (z : Int) := by rw [Int.tmod_eq_emod_of_nonneg (by omega), hz, HN.out]; simp
        have g6 : (k2 : Int).tdiv (L.length : Int) = (v : Int) := by rw [Int.tdiv_eq_ediv_of_nonneg (by omega), hv, HN.out]; simp
        have d1 : k1 ≤ k := by rw [hk1]; exact Nat.div_le_self _ _
        have d2 : k2 ≤ k1 := by rw [hk2]; exact Nat.div_le_self _ _
        have d3 : v ≤ k2 := by rw [hv]; exact Nat.div_le_self _ _
        have u2 : IntKind.i64.wrap (k1 : Int) = (k1 : Int) := IntWalk.i64_in _ (by omega)
        have u4 : IntKind.i64.wrap (k2 : Int) = (k2 : Int) := IntWalk.i64_in _ (by omega)
        have u6 : IntKind.i64.wrap (v : Int) = (v : Int) := IntWalk.i64_in _ (by omega)
        have lx : x < L.length := by rw [← HN.out, hx]; exact Nat.mod_lt _ hn1
        have ly : y < L.length := by rw [← HN.out, hy]; exact Nat.mod_lt _ hn1
        have lz : z < L.length := by rw [← HN.out, hz]; exact Nat.mod_lt _ hn1
        have lv : v < L.length := by rw [← HN.out, hv, hk2, hk1]; exact HTop.out k hlk
        have HT : Hid (Q.treeAt L x y z v → ∀ j, j < k + 1 → Q.treeAt L (j % n) (j / n % n) (j / n / n % n) (j / n / n / n)) := fun h j hj => by
          by_cases e : j = k
          · subst e
            rw [← hk1, ← hk2, ← hx, ← hy, ← hz, ← hv]
            exact h
          · exact hall.out j (by omega)
        clear hx hk1 hy hk2 hz hv
        obtain ⟨q0, _, _⟩ := hm.out.bk
        go_wp2_with fail
        go_quiet (fail)
        generalize hW : World.drewN wr _ = ws
        have HMs : Hid (MetIn w ws A c xs L) := by rw [← hW]; exact hm.out.drewN _
        clear hW q0 hm g1 g2 g3 g4 g5 g6 u2 u4 u6 d1 d2 d3
        obtain ⟨q0, _, _⟩ := HMs.out.bk
        obtain ⟨b, off, b1, o1, d1, rfl, hb, hcx, hb1, cxy⟩ := HMs.out.rows.dst_at HS.out lx ly
        obtain ⟨_, _, _, _, _, e2, _, hcz, _, czv⟩ := HMs.out.rows.dst_at HS.out lz lv
        cases e2
        obtain ⟨_, _, _, _, _, e3, _, hcx3, _, cxz⟩ := HMs.out.rows.dst_at HS.out lx lz
        cases e3
        rw [hcx] at hcx3
        cases hcx3
        obtain ⟨_, _, _, _, _, e4, _, hcy, _, cyv⟩ := HMs.out.rows.dst_at HS.out ly lv
        cases e4
        obtain ⟨_, _, _, _, _, e5, _, hcx5, _, cxv⟩ := HMs.out.rows.dst_at HS.out lx lv
        cases e5
        rw [hcx] at hcx5
        cases hcx5
        obtain ⟨_, _, _, _, _, e6, _, hcy6, _, cyz⟩ := HMs.out.rows.dst_at HS.out ly lz
        cases e6
        rw [hcy] at hcy6
        cases hcy6
        have bxy := HBd.out x y lx ly
        have bzv := HBd.out z v lz lv
        have bxz := HBd.out x z lx lz
        have byv := HBd.out y v ly lv
        have bxv := HBd.out x v lx lv
        have byz := HBd.out y z ly lz
        have hxI : (x : Int) < (L.length : Int) := by omega
        have hyI : (y : Int) < (L.length : Int) := by omega
        have hzI : (z : Int) < (L.length : Int) := by omega
        have hvI : (v : Int) < (L.length : Int) := by omega
        have HF : Hid (Q.treeAt L x y z v ↔ Q.four (Q.dst L x y + Q.dst L z v) (Q.dst L x z + Q.dst L y v) (Q.dst L x v + Q.dst L y z)) := Iff.rfl
        have HNt : Hid (¬ Q.treeAt L x y z v → VV = (false, true)) := fun h => HNo.out fun hl => h (hl x lx y ly z lz v lv)
        generalize Q.treeAt L x y z v = TT at HF HT HNt
        generalize Q.dst L x y = a1 at *
        generalize Q.dst L z v = a2 at *
        generalize Q.dst L x z = a3 at *
        generalize Q.dst L y v = a4 at *
        generalize Q.dst L x v = a5 at *
        generalize Q.dst L y z = a6 at *
        obtain ⟨s1, hs1⟩ : ∃ s, s = a1 + a2 := ⟨_, rfl⟩
        obtain ⟨s2, hs2⟩ : ∃ s, s = a3 + a4 := ⟨_, rfl⟩
        obtain ⟨s3, hs3⟩ : ∃ s, s = a5 + a6 := ⟨_, rfl⟩
        have w1 : IntKind.i64.wrap (a1 + a2) = s1 := by rw [hs1]; exact IntWalk.i64_in _ (by omega)
        have w2 : IntKind.i64.wrap (a3 + a4) = s2 := by rw [hs2]; exact IntWalk.i64_in _ (by omega)
        have w3 : IntKind.i64.wrap (a5 + a6) = s3 := by rw [hs3]; exact IntWalk.i64_in _ (by omega)
        rw [← hs1, ← hs2, ← hs3] at HF
        clear hs1 hs2 hs3 bxy bzv bxz byv bxv byz hb hb1 lx ly lz lv
        go_wp2_with fail
        go_quiet (fail)
        generalize hW : World.drewN ws _ = wt
        have HMt : Hid (MetIn w wt (some ⟨b, off, none⟩) c xs L) := by rw [← hW]; exact HMs.out.drewN _
        clear hW q0 HMs hcx hcy hcz cxy czv cxz cyv cxv cyz w1 w2 w3 hxI hyI hzI hvI
        have HF2 : Hid (TT ↔ ¬ (max s2 s3 < s1 ∨ max s1 s3 < s2 ∨ max s1 s2 < s3)) := HF.out
        clear HF
        obtain ⟨q0, _, _⟩ := HMt.out.bk
        by_cases c1 : max s2 s3 < s1
        · have HV := Lib.hid (HNt.out fun h => HF2.out.1 h (.inl c1))
          clear HF2 HNt HT hall
          go_wp2_with (go_at_call 31; refine (mostT_any _ _ _).mono ?_; rintro e w9 ⟨rfl, rfl⟩)
          go_ret2
          exact ⟨by rw [HV.out]; rfl, HMt.out.bl⟩
        · by_cases c2 : max s1 s3 < s2
          · have HV := Lib.hid (HNt.out fun h => HF2.out.1 h (.inr (.inl c2)))
            clear HF2 HNt HT hall
            go_wp2_with (go_at_call 31; refine (mostT_any _ _ _).mono ?_; rintro e w9 ⟨rfl, rfl⟩)
            go_ret2
            exact ⟨by rw [HV.out]; rfl, HMt.out.bl⟩
          · by_cases c3 : max s1 s2 < s3
            · have HV := Lib.hid (HNt.out fun h => HF2.out.1 h (.inr (.inr c3)))
              clear HF2 HNt HT hall
              go_wp2_with (go_at_call 31; refine (mostT_any _ _ _).mono ?_; rintro e w9 ⟨rfl, rfl⟩)
              go_ret2
              exact ⟨by rw [HV.out]; rfl, HMt.out.bl⟩
            · have HV := Lib.hid (HT.out (HF2.out.2 (by omega)))
              clear HF2 HNt HT hall
              go_wp2_with (go_at_call 31; refine (mostT_any _ _ _).mono ?_; rintro e w9 ⟨rfl, rfl⟩)
              go_roundw
              case rel => exact ⟨k + 1, by omega, by go_num, HV.out, HMt.out⟩
              case measure => simp [intOf]; omega
      · have hke : k = m4 := by omega
        have hlkI : ¬ (k : Int) < (m4 : Int) := by omega
        have HV : Hid (VV = (true, true)) := HYe.out (HAll.out fun j hj => hall.out j (by omega))
        clear hke hall
        go_wp2
        go_ret2
        exact ⟨by rw [HV.out]; rfl, hm.out.bl⟩
end Go.Proofs.YtajepnakbmfbkaaR
