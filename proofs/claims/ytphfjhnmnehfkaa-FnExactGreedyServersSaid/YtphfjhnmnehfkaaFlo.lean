/-
  The flow of a configuration and a sequence: the code's struct, its distances; the model's points and gaps.
-/
import Derived.Test.YtphfjhnmnehfkaaSrv
import Derived.Test.YtphfjhnmnehfkaaCcat
import Derived.BigQuiet
namespace Go.Proofs.Ytphfjhnmnehfkaa
open Go.RowKit
set_option linter.unusedVariables false
namespace Q
def gap (L : List (List Int)) (P : List Int) (i j : Nat) : Int := dst L (P.getD i 0).toNat (P.getD j 0).toNat
def inP (L : List (List Int)) (P : List Int) : Prop := ∀ i, i < P.length → ∃ x : Nat, P[i]? = some (x : Int) ∧ x < L.length
theorem gap_at {L : List (List Int)} {P : List Int} {i j x y : Nat} (hx : P[i]? = some (x : Int)) (hy : P[j]? = some (y : Int)) : gap L P i j = dst L x y := by
  simp [gap, List.getD_eq_getElem?_getD, hx, hy]
theorem gap_in {L : List (List Int)} {P : List Int} (hm : metQ L = true) (hP : inP L P) {i j : Nat} (hi : i < P.length) (hj : j < P.length) : 0 ≤ gap L P i j ∧ gap L P i j ≤ 99 ∧ gap L P i j = gap L P j i := by
  obtain ⟨x, hx, hx'⟩ := hP i hi
  obtain ⟨y, hy, hy'⟩ := hP j hj
  rw [gap_at hx hy, gap_at hy hx]
  exact met_dst hm hx' hy'
theorem inP_app {L : List (List Int)} {a q : List Int} (ha : servers ((L.length : Int) - 1) a = true) (hq : within 0 ((L.length : Int) - 1) q = true) : inP L (a ++ q) := fun i hi => by
  by_cases h : i < a.length
  · obtain ⟨x, h1, h2⟩ := within_nat (servers_iff.1 ha).2.2.1 h
    exact ⟨x, by rw [List.getElem?_append_left h]; exact h1, h2⟩
  · rw [List.length_append] at hi
    obtain ⟨x, h1, h2⟩ := within_nat hq (i := i - a.length) (by omega)
    exact ⟨x, by rw [List.getElem?_append_right (by omega)]; exact h1, h2⟩
end Q
/-- A struct of three cells in a block of the call's own. -/
structure Bk3 (w : World) (b : Nat) (x y z : Value) : Prop where
  c0 : w.cell? ⟨b, 0, none⟩ = some x
  c1 : w.cell? ⟨b, 1, none⟩ = some y
  c2 : w.cell? ⟨b, 2, none⟩ = some z
  f0 : w.frozen? ⟨b, 0, none⟩ = false
  f1 : w.frozen? ⟨b, 1, none⟩ = false
  f2 : w.frozen? ⟨b, 2, none⟩ = false
  lt : b < w.heap.size
theorem Bk3.below {B : Nat} {w w' : World} {b : Nat} {x y z : Value} (h : Bk3 w b x y z) (hb : Below B w w') (hlt : b < B) : Bk3 w' b x y z :=
  ⟨(hb.cell (p := ⟨b, 0, none⟩) hlt).trans h.c0, (hb.cell (p := ⟨b, 1, none⟩) hlt).trans h.c1, (hb.cell (p := ⟨b, 2, none⟩) hlt).trans h.c2, (hb.frozen (p := ⟨b, 0, none⟩) hlt).trans h.f0, (hb.frozen (p := ⟨b, 1, none⟩) hlt).trans h.f1, (hb.frozen (p := ⟨b, 2, none⟩) hlt).trans h.f2, Nat.lt_of_lt_of_le h.lt hb.size⟩
theorem Bk3.on {w w' : World} {b : Nat} {x y z : Value} (h : Bk3 w b x y z) (hb : Below w.heap.size w w') : Bk3 w' b x y z := h.below hb h.lt
theorem Bk3.new (w : World) (x y z : Value) (t : TypeId) : Bk3 (w.alloc (.cells #[x, y, z] t)) w.heap.size x y z := ⟨by simp, by simp, by simp, by simp, by simp, by simp, by simp⟩
/-- The flow's value. -/
abbrev fv (A : Option Addr) (n c k : Nat) (C : Option Addr) (m d : Nat) : Value := .agg #[.slice A n c, .int .i64 (k : Int), .slice C m d]
/-- What a call knows of the flow that it was given by value. -/
structure FloIn (w W : World) (A : Option Addr) (c : Nat) (xs : List Value) (L : List (List Int)) (k : Nat) (C : Option Addr) (d : Nat) (P : List Int) : Prop where
  bk : Bk3 W w.heap.size (.slice A L.length c) (.int .i64 (k : Int)) (.slice C P.length d)
  rows : NRow W A xs L
  pts : Law.Row W C (ivs P)
  bl : Below w.heap.size w W
theorem FloIn.on {w W W' : World} {A : Option Addr} {c : Nat} {xs : List Value} {L : List (List Int)} {k : Nat} {C : Option Addr} {d : Nat} {P : List Int} (h : FloIn w W A c xs L k C d P) (hb : Below W.heap.size W W') : FloIn w W' A c xs L k C d P :=
  ⟨h.bk.on hb, h.rows.stays hb, h.pts.stays hb, Law.then_ h.bl hb⟩
theorem FloIn.start {w : World} {A : Option Addr} {c : Nat} {xs : List Value} {L : List (List Int)} {k : Nat} {C : Option Addr} {d : Nat} {P : List Int} (h : NRow w A xs L) (hp : Law.Row w C (ivs P)) (t : TypeId) :
    FloIn w (w.alloc (.cells #[.slice A L.length c, .int .i64 (k : Int), .slice C P.length d] t)) A c xs L k C d P :=
  ⟨Bk3.new _ _ _ _ _, h.stays ((Below.refl _ _).alloc (Nat.le_refl _) _), hp.stays ((Below.refl _ _).alloc (Nat.le_refl _) _), (Below.refl _ _).alloc (Nat.le_refl _) _⟩
set_option maxHeartbeats 800000 in
theorem dist_any (A : Option Addr) (c : Nat) (xs : List Value) (L : List (List Int)) (k : Nat) (C : Option Addr) (d : Nat) (P : List Int) (i j : Nat) (w : World) (hm : Q.metQ L = true) (hP : Q.inP L P) (hl : P.length ≤ 1000) (hi : k + i < P.length) (hj : j < P.length) (hr : NRow w A xs L) (hp : Law.Row w C (ivs P)) :
    Calls Try.prog 117 #[fv A L.length c k C P.length d, .int .i64 (i : Int), .int .i64 (j : Int)] w fun e w' => e = .returned (.int .i64 (Q.gap L P (k + i) j)) ∧ Below w.heap.size w w' := by
  have HF := Lib.hid (FloIn.start (c := c) (k := k) (d := d) hr hp 88)
  obtain ⟨x, hx, hx'⟩ := hP (k + i) hi
  obtain ⟨y, hy, hy'⟩ := hP j hj
  rw [Q.gap_at hx hy]
  obtain ⟨_, ⟨h1, h6⟩, hsq⟩ := Q.met_sqr hm
  generalize hD0 : Q.dst L x y = D
  have HD := Lib.hid hD0
  clear hD0
  go_enter Try.func117, Try.ntmps117
  go_wp2_with fail
  generalize w.alloc (.cells #[.slice A L.length c, .int .i64 (k : Int), .slice C P.length d] 88) = wa at HF ⊢
  obtain ⟨p0, p1, p2, _, _, _, _⟩ := HF.out.bk
  obtain ⟨b, off, bx, ox, dx, rfl, hbb, hcx, hbx, hcxy⟩ := HF.out.rows.dst_at hsq hx' hy'
  obtain ⟨cb, co, rfl, _, hc1⟩ := HF.out.pts.at_ (ivs_some hx)
  obtain ⟨cb', co', hce, _, hc2⟩ := HF.out.pts.at_ (ivs_some hy)
  cases hce
  have hw : IntKind.i64.wrap ((k : Int) + (i : Int)) = (k : Int) + (i : Int) := IntWalk.i64_in _ (by omega)
  have ht : ((k : Int) + (i : Int)).toNat = k + i := by omega
  have g0 : (0 : Int) ≤ (k : Int) + (i : Int) := by omega
  have g1 : (k : Int) + (i : Int) < (P.length : Int) := by omega
  have g2 : (j : Int) < (P.length : Int) := by omega
  have g3 : (x : Int) < (L.length : Int) := by omega
  have g4 : (y : Int) < (L.length : Int) := by omega
  have HB := Lib.hid HF.out.bl
  clear hx hy hr hp hP hm hsq hx' hy' hi hj
  rw [HD.out] at hcxy
  go_wp2
  go_quiet (fail)
  go_wp2
  go_ret
  exact ⟨rfl, Law.up HB.out _⟩
/-- The model's point of a server or of a place. -/
theorem l7Point_any (a q : List Int) (Ba Bq : Option Addr) (da dq : Nat) (j : Nat) (z : Int) (w : World) (hla : a.length ≤ 1000) (hlq : q.length ≤ 1000) (hj : (a ++ q)[j]? = some z) (ha : Law.Row w Ba (ivs a)) (hq : Law.Row w Bq (ivs q)) :
    Calls Try.prog 130 #[.slice Ba a.length da, .slice Bq q.length dq, .int .i64 (j : Int)] w fun e w' => e = .returned (.int .i64 z) ∧ w' = w := by
  by_cases h : j < a.length
  · have hI : (j : Int) < (a.length : Int) := by omega
    rw [List.getElem?_append_left h] at hj
    obtain ⟨b, off, rfl, _, hc⟩ := ha.at_ (ivs_some hj)
    clear hj
    go_enter Try.func130, Try.ntmps130
    go_wp2
    go_ret
    exact ⟨rfl, rfl⟩
  · have hI : ¬ (j : Int) < (a.length : Int) := by omega
    have hjl := (List.getElem?_eq_some_iff.1 hj).1
    rw [List.length_append] at hjl
    rw [List.getElem?_append_right (by omega)] at hj
    obtain ⟨i, rfl⟩ : ∃ i, j = a.length + i := ⟨j - a.length, by omega⟩
    rw [Nat.add_sub_cancel_left] at hj
    obtain ⟨b, off, rfl, _, hc⟩ := hq.at_ (ivs_some hj)
    have hw : IntKind.i64.wrap (((a.length + i : Nat) : Int) - (a.length : Int)) = (i : Int) := by rw [IntWalk.i64_in _ (by omega)]; omega
    have he : ((a.length + i : Nat) : Int) - (a.length : Int) = (i : Int) := by omega
    have hi : (i : Int) < (q.length : Int) := by omega
    obtain ⟨J, hJ⟩ : ∃ J : Int, J = ((a.length + i : Nat) : Int) := ⟨_, rfl⟩
    rw [← hJ] at hI hw he ⊢
    clear hj hJ hjl
    go_enter Try.func130, Try.ntmps130
    go_wp2
    go_ret
    exact ⟨rfl, rfl⟩
end Go.Proofs.Ytphfjhnmnehfkaa
