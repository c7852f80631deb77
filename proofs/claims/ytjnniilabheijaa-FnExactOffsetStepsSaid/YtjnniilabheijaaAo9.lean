/-
  The nearest state in which a request can be served: nearestServe, l8Greedy; the algorithms' function literals. Tables by a function of a state and a request; the function literals of the greedy and of the lazy algorithm.
-/
import Derived.Test.YtjnniilabheijaaWb8
import Derived.Deep.RegionHeld3
import Derived.Test.YtjnniilabheijaaNil
/- The nearest state in which a request can be served: nearestServe, l8Greedy; the algorithms' function literals. -/
namespace Go.Proofs.Ytjnniilabheijaa
open Go.RowKit
set_option linter.unusedVariables false
namespace Q
def noth : List Int := [0, 0, 0, 0]
def grS (L S : List (List Int)) (t r : Nat) : Int := (amK (bstF L S r noth t) (okS S r) L.length).1
def lzS (L S : List (List Int)) (t r : Nat) : Int := if dst S r t = -1 then grS L S t r else (t : Int)
theorem noth_vals {n : Nat} (hn : n ≤ 4) : Vals n 0 noth := fun s hs => by
  match s, (show s < 4 by omega) with
  | 0, _ => exact ⟨0, rfl, by omega, by omega⟩
  | 1, _ => exact ⟨0, rfl, by omega, by omega⟩
  | 2, _ => exact ⟨0, rfl, by omega, by omega⟩
  | 3, _ => exact ⟨0, rfl, by omega, by omega⟩
theorem grS_in {L S : List (List Int)} (h : Pr L S) {t r : Nat} (hr : r < S.length) : 0 ≤ grS L S t r ∧ grS L S t r < L.length := by
  have h1 := amK_some (f := bstF L S r noth t) (ok := okS S r) L.length (okS_some h hr)
  obtain ⟨s, h2, _, h3, _⟩ := amK_at (f := bstF L S r noth t) (ok := okS S r) L.length h1
  unfold grS
  rw [h3]
  omega
end Q
theorem noth_row (W : World) (t : TypeId) : Law.Row (W.alloc (.cells #[.int .i64 0, .int .i64 0, .int .i64 0, .int .i64 0] t)) (some ⟨W.heap.size, 0, none⟩) (ivs Q.noth) := fun _ => by
  refine ⟨W.heap.size, 0, rfl, by simp, fun j u hu => ?_⟩
  have hj : j < 4 := by
    have := (List.getElem?_eq_some_iff.1 hu).1
    simpa [ivs, Q.noth] using this
  match j, hj with
  | 0, _ => simp [ivs, Q.noth] at hu; subst hu; simp
  | 1, _ => simp [ivs, Q.noth] at hu; subst hu; simp
  | 2, _ => simp [ivs, Q.noth] at hu; subst hu; simp
  | 3, _ => simp [ivs, Q.noth] at hu; subst hu; simp
section
variable (A : Option Addr) (c : Nat) (xs : List Value) (L : List (List Int)) (B : Option Addr) (d : Nat) (ys : List Value) (S : List (List Int)) (w : World)
end
end Go.Proofs.Ytjnniilabheijaa

/- Tables by a function of a state and a request; the function literals of the greedy and of the lazy algorithm. -/
namespace Go.Proofs.Ytjnniilabheijaa
open Go.RowKit
set_option linter.unusedVariables false
theorem NOwn.setBlk8 {w : World} {base : Nat} {xs : List Value} {L : List (List Int)} (h : NOwn w base xs L) (p : Addr) (hp : ∀ x ∈ xs, x.ownBlock ≠ some p.block) (u : Value) : NOwn (w.setCell p u) base xs L :=
  ⟨h.len, fun j x l h1 h2 => (h.own j x l h1 h2).kept (setBy w p u) (.inr (hp x (List.mem_of_getElem? h1))), h.apart⟩
theorem NOwn.nothere8 {w : World} {base : Nat} {xs : List Value} {L : List (List Int)} (h : NOwn w base xs L) : ∀ x ∈ xs, x.ownBlock ≠ some w.heap.size := by
  intro x hx e
  obtain ⟨j, hj, rfl⟩ := List.mem_iff_getElem.1 hx
  obtain ⟨l, hl⟩ := h.some_ (List.getElem?_eq_getElem hj)
  have := ((h.own j _ l (List.getElem?_eq_getElem hj) hl).lt _ e).2
  omega
namespace Q
def mdRow (g : Nat → Nat → Int) (m x : Nat) : List Int := (List.range m).map (g x)
def mdK (g : Nat → Nat → Int) (m : Nat) : Nat → List (List Int)
  | 0 => []
  | x + 1 => mdK g m x ++ [mdRow g m x]
theorem mdRow_len (g : Nat → Nat → Int) (m x : Nat) : (mdRow g m x).length = m := by simp [mdRow]
theorem mdK_len (g : Nat → Nat → Int) (m : Nat) : ∀ x, (mdK g m x).length = x
  | 0 => rfl
  | x + 1 => by rw [mdK, List.length_append, mdK_len g m x]; rfl
end Q
section
variable (b0 : Nat) (A : Option Addr) (c : Nat) (xs : List Value) (L : List (List Int)) (B : Option Addr) (d : Nat) (ys : List Value) (S : List (List Int)) (w : World)
end
end Go.Proofs.Ytjnniilabheijaa
