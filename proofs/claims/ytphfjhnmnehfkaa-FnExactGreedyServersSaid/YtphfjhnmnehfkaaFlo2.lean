/-
  The cost of a chain list: the code's and the model's.
-/
import Derived.Test.YtphfjhnmnehfkaaFlo
namespace Go.Proofs.Ytphfjhnmnehfkaa
open Go.RowKit
set_option linter.unusedVariables false
namespace Q
def csum (f : Nat → Int) : Nat → Int
  | 0 => 0
  | n + 1 => csum f n + f n
theorem csum_in {f : Nat → Int} {B : Int} : ∀ (n : Nat), (∀ i, i < n → 0 ≤ f i ∧ f i ≤ B) → 0 ≤ csum f n ∧ csum f n ≤ B * n
  | 0, _ => by simp [csum]
  | n + 1, h => by
    have ih := csum_in n fun i hi => h i (by omega)
    have h1 := h n (by omega)
    simp only [csum]
    have : B * ((n + 1 : Nat) : Int) = B * n + B := by rw [Int.natCast_add, Int.mul_add]; simp
    omega
theorem csum_congr {f g : Nat → Int} : ∀ (n : Nat), (∀ i, i < n → f i = g i) → csum f n = csum g n
  | 0, _ => rfl
  | n + 1, h => by
    simp only [csum]
    rw [csum_congr n fun i hi => h i (by omega), h n (by omega)]
/-- Every number of a chain list tells a server or an earlier place. -/
def chIn (k : Nat) (b : List Int) : Prop := ∀ i, i < b.length → ∃ x : Nat, b[i]? = some (x : Int) ∧ x < k + i
def gpf (L : List (List Int)) (P : List Int) (k : Nat) (b : List Int) (i : Nat) : Int := gap L P (k + i) (b.getD i 0).toNat
def cost (L : List (List Int)) (P : List Int) (k : Nat) (b : List Int) : Int := csum (gpf L P k b) b.length
theorem gpf_at {L : List (List Int)} {P : List Int} {k : Nat} {b : List Int} {i x : Nat} (h : b[i]? = some (x : Int)) : gpf L P k b i = gap L P (k + i) x := by
  simp [gpf, List.getD_eq_getElem?_getD, h]
theorem gpf_in {L : List (List Int)} {P : List Int} {k : Nat} {b : List Int} (hm : metQ L = true) (hP : inP L P) (hc : chIn k b) (hl : k + b.length = P.length) (i : Nat) (hi : i < b.length) : 0 ≤ gpf L P k b i ∧ gpf L P k b i ≤ 99 := by
  obtain ⟨x, h1, h2⟩ := hc i hi
  rw [gpf_at h1]
  have := gap_in hm hP (i := k + i) (j := x) (by omega) (by omega)
  omega
end Q
set_option maxHeartbeats 800000 in
theorem l7Gap_any (A : Option Addr) (c : Nat) (xs : List Value) (L : List (List Int)) (a q : List Int) (Ba Bq : Option Addr) (da dq : Nat) (l i : Nat) (w : World) (hm : Q.metQ L = true) (hP : Q.inP L (a ++ q)) (hla : a.length ≤ 1000) (hlq : q.length ≤ 1000) (hi : i < q.length) (hl : l < a.length + q.length) (hr : NRow w A xs L) (ha : Law.Row w Ba (ivs a)) (hq : Law.Row w Bq (ivs q)) :
    Calls Try.prog 115 #[mv A L.length c, .slice Ba a.length da, .slice Bq q.length dq, .int .i64 (l : Int), .int .i64 (i : Int)] w fun e w' => e = .returned (.int .i64 (Q.gap L (a ++ q) (a.length + i) l)) ∧ Below w.heap.size w w' := by
  have hlP : (a ++ q).length = a.length + q.length := List.length_append
  rw [(Q.gap_in hm hP (i := a.length + i) (j := l) (by omega) (by omega)).2.2]
  obtain ⟨x, hx, hx'⟩ := hP l (by omega)
  obtain ⟨y, hy, hy'⟩ := hP (a.length + i) (by omega)
  rw [Q.gap_at hx hy]
  obtain ⟨_, ⟨h1, h6⟩, hsq⟩ := Q.met_sqr hm
  generalize hD0 : Q.dst L x y = D
  have HD := Lib.hid hD0
  have HM := Lib.hid (MetIn.start (c := c) hr 29)
  have HPt := Lib.hid fun (W : World) (h : Below w.heap.size w W) => l7Point_any a q Ba Bq da dq l x W hla hlq hx (ha.stays h) (hq.stays h)
  have hqy : q[i]? = some (y : Int) := by rw [List.getElem?_append_right (by omega), Nat.add_sub_cancel_left] at hy; exact hy
  have HQ := Lib.hid (hq.stays HM.out.bl)
  clear hD0 hr ha hq hP hm hlP
  go_enter Try.func115, Try.ntmps115
  go_wp2_with fail
  generalize w.alloc (.cells #[.slice A L.length c] 29) = wa at HM HQ ⊢
  obtain ⟨hk0, hk1, hk2⟩ := HM.out.bk
  obtain ⟨b, off, bx, ox, dx, rfl, hbb, hcx, hbx, hcxy⟩ := HM.out.rows.dst_at hsq hx' hy'
  rw [HD.out] at hcxy
  obtain ⟨cb, co, rfl, _, hc1⟩ := HQ.out.at_ (ivs_some hqy)
  have g1 : (i : Int) < (q.length : Int) := by omega
  have g3 : (x : Int) < (L.length : Int) := by omega
  have g4 : (y : Int) < (L.length : Int) := by omega
  have HPw : Hid (∀ W : World, Below w.heap.size w W → Calls Try.prog 130 #[.slice Ba a.length da, .slice (some ⟨cb, co, none⟩) q.length dq, .int .i64 (l : Int)] W fun e w' => e = .returned (.int .i64 (x : Int)) ∧ w' = W) := fun W h => HPt.out W h
  clear HPt hx hy hqy hsq hx' hy' hi hl
  go_quiet ((go_at_call 130; exact Calls.quiet_of_same (HPw.out _ (Law.up HM.out.bl _))))
  go_wp2
  go_ret
  exact ⟨rfl, Law.up HM.out.bl _⟩
set_option maxHeartbeats 800000 in
theorem l7Cost_any (A : Option Addr) (c : Nat) (xs : List Value) (L : List (List Int)) (a q b : List Int) (Ba Bq Bb : Option Addr) (da dq db : Nat) (w : World) (hm : Q.metQ L = true) (hP : Q.inP L (a ++ q)) (hla : a.length ≤ 1000) (hlq : q.length ≤ 1000) (hb : b.length = q.length) (hc : Q.chIn a.length b) (hr : NRow w A xs L) (ha : Law.Row w Ba (ivs a)) (hq : Law.Row w Bq (ivs q)) (hbr : Law.Row w Bb (ivs b)) :
    Calls Try.prog 75 #[mv A L.length c, .slice Ba a.length da, .slice Bq q.length dq, .slice Bb b.length db] w fun e w' => e = .returned (.int .i64 (Q.cost L (a ++ q) a.length b)) ∧ Below w.heap.size w w' := by
  have hlP : (a ++ q).length = a.length + q.length := List.length_append
  have hG := Q.gpf_in (k := a.length) hm hP hc (by omega)
  have HG := Lib.hid fun (W : World) (h : Below w.heap.size w W) (l i : Nat) (hi : i < q.length) (hl : l < a.length + q.length) => l7Gap_any A c xs L a q Ba Bq da dq l i W hm hP hla hlq hi hl (hr.stays h) (ha.stays h) (hq.stays h)
  have HM := Lib.hid (MetIn.start (c := c) hr 29)
  have HB := Lib.hid fun (W : World) (h : Below w.heap.size w W) => hbr.stays h
  have HGi := Lib.hid hG
  have HC := Lib.hid hc
  have HBQ := Lib.hid hb
  have hbl : b.length ≤ 1000 := by omega
  clear hr ha hq hbr hP hm hc hG hb hlP
  go_enter Try.func75, Try.ntmps75
  go_wp2_with fail
  generalize w.alloc (.cells #[.slice A L.length c] 29) = wa at HM ⊢
  go_wp2
  go_loopw [9, 10] (fun s i wr => ∃ j : Nat, j ≤ b.length ∧ i = .int .i64 (j : Int) ∧ s = .int .i64 (Q.csum (Q.gpf L (a ++ q) a.length b) j) ∧ Hid (MetIn w wr A c xs L)) (fun _ i _ => b.length - (intOf i).toNat)
  case atStart => exact ⟨0, Nat.zero_le _, rfl, rfl, HM.out⟩
  case round =>
    obtain ⟨j, hj, rfl, rfl, hM⟩ := hrel
    obtain ⟨hs0, hs1⟩ := Q.csum_in (f := Q.gpf L (a ++ q) a.length b) (B := 99) j (fun i hi => HGi.out i (by omega))
    by_cases hlt : j < b.length
    · have hltI : (j : Int) < (b.length : Int) := by omega
      obtain ⟨x, hx, hx'⟩ := HC.out j hlt
      have HE : Hid (Q.csum (Q.gpf L (a ++ q) a.length b) (j + 1) = Q.csum (Q.gpf L (a ++ q) a.length b) j + Q.gap L (a ++ q) (a.length + j) x) := by show _ = _; rw [Q.csum, Q.gpf_at hx]
      have hgi := HGi.out j hlt
      rw [Q.gpf_at hx] at hgi
      have HGj : Hid (∀ W : World, Below w.heap.size w W → Calls Try.prog 115 #[mv A L.length c, .slice Ba a.length da, .slice Bq q.length dq, .int .i64 (x : Int), .int .i64 (j : Int)] W fun e w' => e = .returned (.int .i64 (Q.gap L (a ++ q) (a.length + j) x)) ∧ Below W.heap.size W w') := fun W h => HG.out W h x j (by have := HBQ.out; omega) (by have := HBQ.out; omega)
      generalize Q.csum (Q.gpf L (a ++ q) a.length b) j = S at hs0 hs1 HE ⊢
      generalize Q.gap L (a ++ q) (a.length + j) x = D at hgi HE HGj
      obtain ⟨cb, co, rfl, _, hc1⟩ := (HB.out _ hM.out.bl).at_ (ivs_some hx)
      obtain ⟨hk0, hk1, hk2⟩ := hM.out.bk
      have hw : IntKind.i64.wrap (S + D) = S + D := IntWalk.i64_in _ (by omega)
      clear hx
      go_wp2_with fail
      go_region_law ((go_simp; go_at_call 115; refine (HGj.out _ (Law.up hM.out.bl _)).mono ?_; rintro e w1 ⟨rfl, hb1⟩; have hb2 := Law.then_ (Law.up (Below.refl wr.heap.size wr) _) hb1; have hM1 := Lib.hid (hM.out.on hb2); clear hb1 hb2))
      all_goals
        go_wp2
        go_roundw
        case rel => exact ⟨j + 1, by omega, by go_num, by rw [HE.out], hM1.out⟩
        case measure => simp [intOf]; omega
    · have hje : j = b.length := by omega
      have hltI : ¬ (j : Int) < (b.length : Int) := by omega
      have HE : Hid (Q.csum (Q.gpf L (a ++ q) a.length b) j = Q.cost L (a ++ q) a.length b) := by show _ = _; rw [hje]; rfl
      rw [HE.out]
      clear hje hs0 hs1
      go_wp2
      go_ret
      exact ⟨rfl, hM.out.bl⟩
set_option maxHeartbeats 800000 in
theorem cost_any (A : Option Addr) (c : Nat) (xs : List Value) (L : List (List Int)) (k : Nat) (C : Option Addr) (d : Nat) (P b : List Int) (Bb : Option Addr) (db : Nat) (w : World) (hm : Q.metQ L = true) (hP : Q.inP L P) (hl : P.length ≤ 1000) (hb : k + b.length = P.length) (hc : Q.chIn k b) (hr : NRow w A xs L) (hp : Law.Row w C (ivs P)) (hbr : Law.Row w Bb (ivs b)) :
    Calls Try.prog 78 #[fv A L.length c k C P.length d, .slice Bb b.length db] w fun e w' => e = .returned (.int .i64 (Q.cost L P k b)) ∧ Below w.heap.size w w' := by
  have HGi := Lib.hid (Q.gpf_in (k := k) hm hP hc hb)
  have HG := Lib.hid fun (W : World) (h : Below w.heap.size w W) (l i : Nat) (hi : k + i < P.length) (hj : l < P.length) => dist_any A c xs L k C d P i l W hm hP hl hi hj (hr.stays h) (hp.stays h)
  have HF := Lib.hid (FloIn.start (c := c) (k := k) (d := d) hr hp 88)
  have HB := Lib.hid fun (W : World) (h : Below w.heap.size w W) => hbr.stays h
  have HC := Lib.hid hc
  have HBQ := Lib.hid hb
  have hbl : b.length ≤ 1000 := by omega
  clear hr hp hbr hP hm hc hb
  go_enter Try.func78, Try.ntmps78
  go_wp2_with fail
  generalize w.alloc (.cells #[.slice A L.length c, .int .i64 (k : Int), .slice C P.length d] 88) = wa at HF ⊢
  go_wp2
  go_loopw [5, 10] (fun s i wr => ∃ j : Nat, j ≤ b.length ∧ i = .int .i64 (j : Int) ∧ s = .int .i64 (Q.csum (Q.gpf L P k b) j) ∧ Hid (FloIn w wr A c xs L k C d P)) (fun _ i _ => b.length - (intOf i).toNat)
  case atStart => exact ⟨0, Nat.zero_le _, rfl, rfl, HF.out⟩
  case round =>
    obtain ⟨j, hj, rfl, rfl, hF⟩ := hrel
    obtain ⟨hs0, hs1⟩ := Q.csum_in (f := Q.gpf L P k b) (B := 99) j (fun i hi => HGi.out i (by omega))
    by_cases hlt : j < b.length
    · have hltI : (j : Int) < (b.length : Int) := by omega
      obtain ⟨x, hx, hx'⟩ := HC.out j hlt
      have HE : Hid (Q.csum (Q.gpf L P k b) (j + 1) = Q.csum (Q.gpf L P k b) j + Q.gap L P (k + j) x) := by show _ = _; rw [Q.csum, Q.gpf_at hx]
      have hgi := HGi.out j hlt
      rw [Q.gpf_at hx] at hgi
      have HGj : Hid (∀ W : World, Below w.heap.size w W → Calls Try.prog 117 #[fv A L.length c k C P.length d, .int .i64 (j : Int), .int .i64 (x : Int)] W fun e w' => e = .returned (.int .i64 (Q.gap L P (k + j) x)) ∧ Below W.heap.size W w') := fun W h => HG.out W h x j (by have := HBQ.out; omega) (by have := HBQ.out; omega)
      generalize Q.csum (Q.gpf L P k b) j = S at hs0 hs1 HE ⊢
      generalize Q.gap L P (k + j) x = D at hgi HE HGj
      obtain ⟨cb, co, rfl, _, hc1⟩ := (HB.out _ hF.out.bl).at_ (ivs_some hx)
      obtain ⟨p0, p1, p2, _, _, _, _⟩ := hF.out.bk
      have hw : IntKind.i64.wrap (S + D) = S + D := IntWalk.i64_in _ (by omega)
      clear hx
      go_wp2_with fail
      go_at_call 117
      refine (HGj.out _ hF.out.bl).mono ?_
      rintro e w1 ⟨rfl, hb1⟩
      have hF1 := Lib.hid (hF.out.on hb1)
      clear hb1
      go_wp2
      go_roundw
      case rel => exact ⟨j + 1, by omega, by go_num, by rw [HE.out], hF1.out⟩
      case measure => simp [intOf]; omega
    · have hje : j = b.length := by omega
      have hltI : ¬ (j : Int) < (b.length : Int) := by omega
      have HE : Hid (Q.csum (Q.gpf L P k b) j = Q.cost L P k b) := by show _ = _; rw [hje]; rfl
      rw [HE.out]
      clear hje hs0 hs1
      go_wp2
      go_ret
      exact ⟨rfl, hF.out.bl⟩
end Go.Proofs.Ytphfjhnmnehfkaa
