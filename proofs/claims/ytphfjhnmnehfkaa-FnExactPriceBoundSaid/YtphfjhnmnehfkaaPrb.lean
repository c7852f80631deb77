/-
  Rents and the bound of a price list: the mathematics; the code's rent and the model's l7Rent.
-/
import Derived.Test.YtphfjhnmnehfkaaChc
namespace Go.Proofs.Ytphfjhnmnehfkaa
open Go.RowKit
set_option linter.unusedVariables false
namespace Q
/-- The rent over the places from s up to i. -/
def rk (f : Nat → Int) (s : Nat) : Nat → Int
  | 0 => 0
  | i + 1 => if s ≤ i then max (rk f s i) (f i) else 0
theorem rk_start (f : Nat → Int) (s : Nat) : rk f s s = 0 := by
  cases s with
  | zero => rfl
  | succ s => unfold rk; rw [if_neg (by omega)]
theorem rk_in {f : Nat → Int} {s : Nat} {B : Int} (hB : 0 ≤ B) : ∀ (i : Nat), (∀ j, j < i → f j ≤ B) → 0 ≤ rk f s i ∧ rk f s i ≤ B
  | 0, _ => by simp [rk, hB]
  | i + 1, h => by
    have ih := rk_in (f := f) (s := s) hB i fun j hj => h j (by omega)
    have h1 := h i (by omega)
    unfold rk
    split
    · omega
    · omega
def stF (k l : Nat) : Nat := l + 1 - k
def pgf (L : List (List Int)) (P : List Int) (k : Nat) (pr : List Int) (l i : Nat) : Int := pr.getD i 0 - gap L P (k + i) l
def rent (L : List (List Int)) (P : List Int) (k : Nat) (pr : List Int) (l : Nat) : Int := rk (pgf L P k pr l) (stF k l) (max (stF k l) pr.length)
def okPr (pr : List Int) : Prop := ∀ i, i < pr.length → ∃ z, pr[i]? = some z ∧ 0 ≤ z ∧ z ≤ 99999
theorem pgf_at {L : List (List Int)} {P : List Int} {k : Nat} {pr : List Int} {l i : Nat} {z : Int} (h : pr[i]? = some z) : pgf L P k pr l i = z - gap L P (k + i) l := by
  simp [pgf, List.getD_eq_getElem?_getD, h]
theorem pgf_in {L : List (List Int)} {P : List Int} {k : Nat} {pr : List Int} (hm : metQ L = true) (hP : inP L P) (ho : okPr pr) (hl : k + pr.length = P.length) {l : Nat} (hlP : l < P.length) (i : Nat) (hi : i < pr.length) : pgf L P k pr l i ≤ 99999 ∧ -99 ≤ pgf L P k pr l i := by
  obtain ⟨z, h1, h2, h3⟩ := ho i hi
  rw [pgf_at h1]
  have := gap_in hm hP (i := k + i) (j := l) (by omega) hlP
  omega
theorem rent_in {L : List (List Int)} {P : List Int} {k : Nat} {pr : List Int} (hm : metQ L = true) (hP : inP L P) (ho : okPr pr) (hl : k + pr.length = P.length) {l : Nat} (hlP : l < P.length) (hk : 1 ≤ k) : 0 ≤ rent L P k pr l ∧ rent L P k pr l ≤ 99999 :=
  rk_in (by decide) _ fun j hj => (pgf_in hm hP ho hl hlP j (by unfold stF at hj; omega)).1
end Q
set_option maxHeartbeats 800000 in
theorem rent_any (A : Option Addr) (c : Nat) (xs : List Value) (L : List (List Int)) (k : Nat) (C : Option Addr) (d : Nat) (P pr : List Int) (Bp : Option Addr) (dp : Nat) (l : Nat) (w : World) (hk : 1 ≤ k) (hm : Q.metQ L = true) (hP : Q.inP L P) (hl : P.length ≤ 1000) (hb : k + pr.length = P.length) (ho : Q.okPr pr) (hlP : l < P.length) (hr : NRow w A xs L) (hp : Law.Row w C (ivs P)) (hpr : Law.Row w Bp (ivs pr)) :
    Calls Try.prog 82 #[fv A L.length c k C P.length d, .int .i64 (l : Int), .slice Bp pr.length dp] w fun e w' => e = .returned (.int .i64 (Q.rent L P k pr l)) ∧ Below w.heap.size w w' := by
  have HGi := Lib.hid (Q.pgf_in (k := k) hm hP ho hb hlP)
  have HG := Lib.hid fun (W : World) (h : Below w.heap.size w W) (i : Nat) (hi : k + i < P.length) => dist_any A c xs L k C d P i l W hm hP hl hi hlP (hr.stays h) (hp.stays h)
  have HF := Lib.hid (FloIn.start (c := c) (k := k) (d := d) hr hp 88)
  have HB := Lib.hid fun (W : World) (h : Below w.heap.size w W) => hpr.stays h
  have HO := Lib.hid ho
  have HBQ := Lib.hid hb
  have hbl : pr.length ≤ 1000 := by omega
  have hst : ((Q.stF k l : Nat) : Int) = max 0 ((l : Int) - (k : Int) + 1) := by unfold Q.stF; omega
  have hsl : Q.stF k l ≤ pr.length := by unfold Q.stF; omega
  have HRE : Hid (Q.rent L P k pr l = Q.rk (Q.pgf L P k pr l) (Q.stF k l) pr.length) := by show _ = _; rw [Q.rent, Nat.max_eq_right hsl]
  have hw1 : IntKind.i64.wrap ((l : Int) - (k : Int)) = (l : Int) - (k : Int) := IntWalk.i64_in _ (by omega)
  have hw2 : IntKind.i64.wrap ((l : Int) - (k : Int) + 1) = (l : Int) - (k : Int) + 1 := IntWalk.i64_in _ (by omega)
  have hll : l ≤ 1000 := by omega
  have hkk : k ≤ 1000 := by omega
  rw [HRE.out]
  have HR0 := Lib.hid (Q.rk_start (Q.pgf L P k pr l) (Q.stF k l))
  have HRS : Hid (∀ i, Q.stF k l ≤ i → Q.rk (Q.pgf L P k pr l) (Q.stF k l) (i + 1) = max (Q.rk (Q.pgf L P k pr l) (Q.stF k l) i) (Q.pgf L P k pr l i)) := fun i hi => by rw [Q.rk, if_pos hi]
  have HRB : Hid (∀ i, i ≤ pr.length → 0 ≤ Q.rk (Q.pgf L P k pr l) (Q.stF k l) i ∧ Q.rk (Q.pgf L P k pr l) (Q.stF k l) i ≤ 99999) := fun i hi => Q.rk_in (by decide) i fun j hj => (HGi.out j (by omega)).1
  clear hr hp hpr hP hm ho hb HRE hlP
  have HPG := Lib.hid fun (i : Nat) (z : Int) (h : pr[i]? = some z) => Q.pgf_at (L := L) (P := P) (k := k) (l := l) h
  generalize Q.rk (Q.pgf L P k pr l) (Q.stF k l) = RK at HR0 HRS HRB ⊢
  generalize Q.pgf L P k pr l = pg at HGi HRS HPG
  generalize Q.stF k l = s at hst hsl HR0 HRS
  have HST := Lib.hid hst
  go_enter Try.func82, Try.ntmps82
  go_wp2_with fail
  generalize w.alloc (.cells #[.slice A L.length c, .int .i64 (k : Int), .slice C P.length d] 88) = wa at HF ⊢
  obtain ⟨p0, p1, p2, _, _, _, _⟩ := HF.out.bk
  rw [eq_comm] at hst
  go_wp2
  clear hst hw1 hw2
  go_loopw [7, 8] (fun v i wr => ∃ j : Nat, s ≤ j ∧ j ≤ pr.length ∧ i = .int .i64 (j : Int) ∧ v = .int .i64 (RK j) ∧ Hid (FloIn w wr A c xs L k C d P)) (fun _ i _ => pr.length - (intOf i).toNat)
  case atStart => exact ⟨s, Nat.le_refl _, hsl, by first | rfl | (rw [← HST.out]) | (congr 1; omega), by rw [HR0.out], HF.out⟩
  case round =>
    obtain ⟨j, hsj, hj, rfl, rfl, hF⟩ := hrel
    by_cases hlt : j < pr.length
    · have hltI : (j : Int) < (pr.length : Int) := by omega
      obtain ⟨z, hz, hz1, hz2⟩ := HO.out j hlt
      have HE := Lib.hid (HRS.out j hsj)
      rw [HPG.out j z hz] at HE
      have hgi := HGi.out j hlt
      rw [HPG.out j z hz] at hgi
      obtain ⟨hr0, hr1⟩ := HRB.out j hj
      have HGj : Hid (∀ W : World, Below w.heap.size w W → Calls Try.prog 117 #[fv A L.length c k C P.length d, .int .i64 (j : Int), .int .i64 (l : Int)] W fun e w' => e = .returned (.int .i64 (Q.gap L P (k + j) l)) ∧ Below W.heap.size W w') := fun W h => HG.out W h j (by have := HBQ.out; omega)
      generalize RK j = S at hr0 hr1 HE ⊢
      generalize Q.gap L P (k + j) l = D at hgi HE HGj
      obtain ⟨cb, co, rfl, hcb, hc1⟩ := (HB.out _ hF.out.bl).at_ (ivs_some hz)
      clear p0 p1 p2
      obtain ⟨p0, p1, p2, _, _, _, _⟩ := hF.out.bk
      have hw : IntKind.i64.wrap (z - D) = z - D := IntWalk.i64_in _ (by omega)
      obtain ⟨M, hM⟩ : ∃ M, max S (z - D) = M := ⟨_, rfl⟩
      have HMx := Lib.hid hM
      clear hz
      go_wp2_with fail
      go_region_law ((go_simp; go_at_call 117; refine (HGj.out _ (Law.up hF.out.bl _)).mono ?_; rintro e w1 ⟨rfl, hb1⟩; have hb2 := Law.then_ (Law.up (Below.refl wr.heap.size wr) _) hb1; have hF1 := Lib.hid (hF.out.on hb2); have hc9 : w1.cell? ⟨cb, co + j, none⟩ = some (.int .i64 z) := (hb2.cell (p := ⟨cb, co + j, none⟩) hcb).trans hc1; clear hb1 hb2))
      all_goals
        go_wp2
        go_roundw
        case rel => exact ⟨j + 1, by omega, by omega, by go_num, by rw [HE.out, HMx.out], hF1.out⟩
        case measure => simp [intOf]; omega
    · have hje : j = pr.length := by omega
      have hltI : ¬ (j : Int) < (pr.length : Int) := by omega
      have HE : Hid (RK j = RK pr.length) := by show _ = _; rw [hje]
      rw [HE.out]
      clear hje
      go_wp2
      go_ret
      exact ⟨rfl, hF.out.bl⟩
end Go.Proofs.Ytphfjhnmnehfkaa
