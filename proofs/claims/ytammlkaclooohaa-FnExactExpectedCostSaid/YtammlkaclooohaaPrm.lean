/-
  Finite problems: the mathematics of a valid one; a problem that a call was given by value.
-/
import Derived.Test.YtammlkaclooohaaMtS
import Derived.Test.YtammlkaclooohaaRw3
namespace Go.Proofs.Ytammlkaclooohaa
open Go.RowKit
set_option linter.unusedVariables false
namespace Q
/-- A request's costs: one for each of n states, -1 (not served) or 0..20, and served in one at least. -/
def srvR (n : Nat) (l : List Int) : Bool := decide (l.length = n) && (within (-1) 20 l && l.any fun z => decide (0 ≤ z))
noncomputable def prQ (L S : List (List Int)) : Bool := (decide (L.length ≤ 4) && metQ L) && ((decide (1 ≤ S.length) && decide (S.length ≤ 4)) && S.all (srvR L.length))
structure Pr (L S : List (List Int)) : Prop where
  met : metQ L = true
  n1 : 1 ≤ L.length
  n4 : L.length ≤ 4
  sq : ∀ l ∈ L, l.length = L.length
  m1 : 1 ≤ S.length
  m4 : S.length ≤ 4
  row : ∀ l ∈ S, srvR L.length l = true
theorem metQ_sqr {L : List (List Int)} (h : metQ L = true) : tabQ false L = true ∧ (1 ≤ L.length ∧ L.length ≤ 6) ∧ (∀ l ∈ L, l.length = L.length) := by
  simp only [metQ, Bool.and_eq_true] at h
  have h2 := sqr_iff.1 (tab_iff.1 h.1).1
  exact ⟨h.1, h2.1, h2.2⟩
theorem pr_iff {L S : List (List Int)} : prQ L S = true ↔ Pr L S := by
  constructor
  · intro h
    simp only [prQ, Bool.and_eq_true, decide_eq_true_eq, List.all_eq_true] at h
    obtain ⟨⟨h1, h2⟩, ⟨h3, h4⟩, h5⟩ := h
    exact ⟨h2, (metQ_sqr h2).2.1.1, h1, (metQ_sqr h2).2.2, h3, h4, h5⟩
  · intro h
    simp only [prQ, Bool.and_eq_true, decide_eq_true_eq, List.all_eq_true]
    exact ⟨⟨h.n4, h.met⟩, ⟨h.m1, h.m4⟩, h.row⟩
theorem srvR_iff {n : Nat} {l : List Int} : srvR n l = true ↔ l.length = n ∧ within (-1) 20 l = true ∧ ∃ z ∈ l, 0 ≤ z := by simp [srvR]
theorem Pr.dst {L S : List (List Int)} (h : Pr L S) {x y : Nat} (hx : x < L.length) (hy : y < L.length) : 0 ≤ dst L x y ∧ dst L x y ≤ 99 ∧ dst L x y = dst L y x := by
  have h1 := (tab_iff.1 (metQ_sqr h.met).1).2 x hx y hy
  unfold okD at h1
  by_cases e : x = y
  · subst e
    simp at h1
    omega
  · rw [if_neg e] at h1
    simp at h1
    omega
theorem Pr.self {L S : List (List Int)} (h : Pr L S) {x : Nat} (hx : x < L.length) : Q.dst L x x = 0 := by
  have h1 := (tab_iff.1 (metQ_sqr h.met).1).2 x hx x hx
  simpa [okD] using h1
theorem Pr.srv {L S : List (List Int)} (h : Pr L S) {r s : Nat} (hr : r < S.length) (hs : s < L.length) : -1 ≤ Q.dst S r s ∧ Q.dst S r s ≤ 20 := by
  have h1 := (srvR_iff.1 (h.row _ (List.getElem_mem hr)))
  have hl : s < S[r].length := by rw [h1.1]; exact hs
  obtain ⟨x, hx, h2, h3⟩ := within_at h1.2.1 hl
  have : Q.dst S r s = x := by
    unfold Q.dst
    rw [List.getD_eq_getElem?_getD (l := S), List.getElem?_eq_getElem hr]
    simp only [Option.getD_some]
    rw [List.getD_eq_getElem?_getD, hx]
    rfl
  omega
theorem Pr.can {L S : List (List Int)} (h : Pr L S) {r : Nat} (hr : r < S.length) : ∃ s, s < L.length ∧ 0 ≤ Q.dst S r s := by
  have h1 := (srvR_iff.1 (h.row _ (List.getElem_mem hr)))
  obtain ⟨z, hz, h0⟩ := h1.2.2
  obtain ⟨s, hs, rfl⟩ := List.mem_iff_getElem.1 hz
  refine ⟨s, by rw [← h1.1]; exact hs, ?_⟩
  unfold Q.dst
  rw [List.getD_eq_getElem?_getD (l := S), List.getElem?_eq_getElem hr]
  simp only [Option.getD_some]
  rw [List.getD_eq_getElem?_getD, List.getElem?_eq_getElem hs]
  exact h0
theorem within_nat8 {n : Nat} {l : List Int} (h : within 0 ((n : Int) - 1) l = true) {i : Nat} (hi : i < l.length) : ∃ x : Nat, l[i]? = some (x : Int) ∧ x < n := by
  obtain ⟨z, h1, h2, h3⟩ := within_at h hi
  obtain ⟨x, rfl⟩ := Int.eq_ofNat_of_zero_le h2
  exact ⟨x, h1, by omega⟩
end Q
/-- A problem's value. -/
abbrev pv (A : Option Addr) (n c : Nat) (B : Option Addr) (m d : Nat) : Value := .agg #[.slice A n c, .slice B m d]
/-- A struct of two cells in a block of the call's own. -/
structure Bk2 (w : World) (b : Nat) (x y : Value) : Prop where
  c0 : w.cell? ⟨b, 0, none⟩ = some x
  c1 : w.cell? ⟨b, 1, none⟩ = some y
  f0 : w.frozen? ⟨b, 0, none⟩ = false
  f1 : w.frozen? ⟨b, 1, none⟩ = false
  lt : b < w.heap.size
theorem Bk2.below {B : Nat} {w w' : World} {b : Nat} {x y : Value} (h : Bk2 w b x y) (hb : Below B w w') (hlt : b < B) : Bk2 w' b x y :=
  ⟨(hb.cell (p := ⟨b, 0, none⟩) hlt).trans h.c0, (hb.cell (p := ⟨b, 1, none⟩) hlt).trans h.c1, (hb.frozen (p := ⟨b, 0, none⟩) hlt).trans h.f0, (hb.frozen (p := ⟨b, 1, none⟩) hlt).trans h.f1, Nat.lt_of_lt_of_le h.lt hb.size⟩
theorem Bk2.on {w w' : World} {b : Nat} {x y : Value} (h : Bk2 w b x y) (hb : Below w.heap.size w w') : Bk2 w' b x y := h.below hb h.lt
theorem Bk2.new (w : World) (x y : Value) (t : TypeId) : Bk2 (w.alloc (.cells #[x, y] t)) w.heap.size x y := ⟨by simp, by simp, by simp, by simp, by simp⟩
theorem Bk2.alloc {w : World} {b : Nat} {x y : Value} (h : Bk2 w b x y) (o : Obj) : Bk2 (w.alloc o) b x y := h.on ((Below.refl _ _).alloc (Nat.le_refl _) o)
theorem Bk2.drewN {w : World} {b : Nat} {x y : Value} (h : Bk2 w b x y) (m : Nat) : Bk2 (w.drewN m) b x y := h.on (Law.up (Below.refl _ _) m)
/-- What a call knows of the problem that it was given by value. -/
structure PIn (w W : World) (A : Option Addr) (c : Nat) (xs : List Value) (L : List (List Int)) (B : Option Addr) (d : Nat) (ys : List Value) (S : List (List Int)) : Prop where
  bk : Bk2 W w.heap.size (.slice A L.length c) (.slice B S.length d)
  mv : NRow W A xs L
  sv : NRow W B ys S
  bl : Below w.heap.size w W
section
variable {w W W' : World} {A : Option Addr} {c : Nat} {xs : List Value} {L : List (List Int)} {B : Option Addr} {d : Nat} {ys : List Value} {S : List (List Int)}
theorem PIn.on (h : PIn w W A c xs L B d ys S) (hb : Below W.heap.size W W') : PIn w W' A c xs L B d ys S :=
  ⟨h.bk.on hb, h.mv.stays hb, h.sv.stays hb, Law.then_ h.bl hb⟩
theorem PIn.drewN (h : PIn w W A c xs L B d ys S) (m : Nat) : PIn w (W.drewN m) A c xs L B d ys S := h.on (Law.up (Below.refl _ _) m)
theorem PIn.start (hm : NRow w A xs L) (hs : NRow w B ys S) (t : TypeId) : PIn w (w.alloc (.cells #[.slice A L.length c, .slice B S.length d] t)) A c xs L B d ys S :=
  ⟨Bk2.new _ _ _ _, hm.stays ((Below.refl _ _).alloc (Nat.le_refl _) _), hs.stays ((Below.refl _ _).alloc (Nat.le_refl _) _), (Below.refl _ _).alloc (Nat.le_refl _) _⟩
/-- Where an entry of rows lies, all rows being of one length. -/
theorem NRow.ent {n : Nat} (h : NRow w A xs L) (hs : ∀ l ∈ L, l.length = n) {x y : Nat} (hx : x < L.length) (hy : y < n) :
    ∃ b off b' off' d, A = some ⟨b, off, none⟩ ∧ b < w.heap.size ∧ w.cell? ⟨b, off + x, none⟩ = some (.slice (some ⟨b', off', none⟩) n d) ∧ b' < w.heap.size ∧ w.cell? ⟨b', off' + y, none⟩ = some (.int .i64 (Q.dst L x y)) := by
  have h1 : L[x]? = some L[x] := List.getElem?_eq_getElem hx
  have h2 : L[x].length = n := hs _ (List.getElem_mem hx)
  have h3 : L[x][y]? = some (Q.dst L x y) := by
    unfold Q.dst
    rw [List.getD_eq_getElem?_getD (l := L), h1]
    simp [List.getElem?_eq_getElem (show y < L[x].length by omega)]
  obtain ⟨b, off, B, d, eA, hb, hc, hr⟩ := h.row_at h1
  obtain ⟨b', off', eB, hb', hc'⟩ := hr.at_ (ivs_some h3)
  rw [h2, eB] at hc
  exact ⟨b, off, b', off', d, eA, hb, hc, hb', hc'⟩
end
theorem Q.Pr.rows {L S : List (List Int)} (h : Q.Pr L S) : ∀ l ∈ S, l.length = L.length := fun l hl => (Q.srvR_iff.1 (h.row l hl)).1
end Go.Proofs.Ytammlkaclooohaa
