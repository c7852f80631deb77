/-
  Tables by a function of a state and a request; the function literals of the greedy and of the lazy algorithm.
-/
import Derived.Test.YtphmjpafebljaaaGr8
import Derived.Test.YtphmjpafebljaaaNil
namespace Go.Proofs.Ytphmjpafebljaaa
open Go.RowKit
set_option linter.unusedVariables false
theorem NOwn.setBlk8 {w : World} {base : Nat} {xs : List Value} {L : List (List Int)} (h : NOwn w base xs L) (p : Addr) (hp : ∀ x ∈ xs, x.ownBlock ≠ some p.block) (u : Value) : NOwn (w.setCell p u) base xs L :=
  ⟨h.len, fun j x l h1 h2 => (h.own j x l h1 h2).kept (setBy w p u) (.inr (hp x (List.mem_of_getElem? h1))), h.apart⟩
theorem NOwn.nothere8 {w : World} {base : Nat} {xs : List Value} {L : List (List Int)} (h : NOwn w base xs L) : ∀ x ∈ xs, x.ownBlock ≠ some w.heap.size := by
  intro x hx e
  obtain ⟨j, hj, rfl⟩ := List.mem_iff_getElem.1 hx
  obtain ⟨l, hl⟩ := h.some_ (List.getElem?_eq_getElem hj)
  have := ((h.own j _ l (List.getElem?_eq_getElem hj) hl).lt _ e).2
  omega
namespace Q
def mdRow (g : Nat → Nat → Int) (m x : Nat) : List Int := (List.range m).map (g x)
def mdK (g : Nat → Nat → Int) (m : Nat) : Nat → List (List Int)
  | 0 => []
  | x + 1 => mdK g m x ++ [mdRow g m x]
theorem mdRow_len (g : Nat → Nat → Int) (m x : Nat) : (mdRow g m x).length = m := by simp [mdRow]
theorem mdK_len (g : Nat → Nat → Int) (m : Nat) : ∀ x, (mdK g m x).length = x
  | 0 => rfl
  | x + 1 => by rw [mdK, List.length_append, mdK_len g m x]; rfl
end Q
section
variable (b0 : Nat) (A : Option Addr) (c : Nat) (xs : List Value) (L : List (List Int)) (B : Option Addr) (d : Nat) (ys : List Value) (S : List (List Int)) (w : World)
set_option maxHeartbeats 400000 in
theorem litG_any (hpr : Q.Pr L S) (t r : Nat) (ht : t < L.length) (hr : r < S.length) (h2 : Bk2 w b0 (.slice A L.length c) (.slice B S.length d)) (hL : NRow w A xs L) (hS : NRow w B ys S) :
    Calls Try.prog 81 #[.int .i64 (t : Int), .int .i64 (r : Int), .pointer (some ⟨b0, 0, none⟩)] w fun e w' => e = .returned (.int .i64 (Q.grS L S t r)) ∧ Below w.heap.size w w' := by
  have HN := Lib.hid (nearestServe_any A c xs L B d ys S w hpr t r ht hr hL hS)
  obtain ⟨p0, p1, _, _, _⟩ := h2
  generalize Q.grS L S t r = V at HN ⊢
  clear hL hS hpr
  go_enter Try.func81, Try.ntmps81
  go_wp2_with fail
  go_at_call 82
  refine HN.out.mono ?_
  rintro e w1 ⟨rfl, hb⟩
  have HB := Lib.hid hb
  clear hb p0 p1
  go_wp2
  go_ret
  exact ⟨rfl, HB.out⟩
set_option maxHeartbeats 800000 in
theorem litL_any (hpr : Q.Pr L S) (t r : Nat) (ht : t < L.length) (hr : r < S.length) (h2 : Bk2 w b0 (.slice A L.length c) (.slice B S.length d)) (hL : NRow w A xs L) (hS : NRow w B ys S) :
    Calls Try.prog 83 #[.int .i64 (t : Int), .int .i64 (r : Int), .pointer (some ⟨b0, 0, none⟩)] w fun e w' => e = .returned (.int .i64 (Q.lzS L S t r)) ∧ Below w.heap.size w w' := by
  obtain ⟨bB, oB, rfl⟩ := hS.some_ hpr.m1
  have HN := Lib.hid (nearestServe_any A c xs L (some ⟨bB, oB, none⟩) d ys S w hpr t r ht hr hL hS)
  obtain ⟨p0, p1, _, _, _⟩ := h2
  obtain ⟨b2, o2, d2, hc2, hv2⟩ := hS.tab hpr.rows hpr.n1 r hr
  have hv3 := hv2 t ht
  clear hv2
  have htI : (t : Int) < (L.length : Int) := by omega
  have hrI : (r : Int) < (S.length : Int) := by omega
  have HV : Hid (Q.lzS L S t r = if Q.dst S r t = -1 then Q.grS L S t r else (t : Int)) := rfl
  generalize Q.lzS L S t r = X at HV ⊢
  generalize Q.dst S r t = E at hv3 HV
  generalize Q.grS L S t r = V at HN HV
  clear hL hS hpr
  by_cases hE : E = -1
  · subst hE
    have HX : Hid (X = V) := by show _ = _; rw [HV.out]; simp
    clear HV
    go_enter Try.func83, Try.ntmps83
    go_wp2_with fail
    go_at_call 82
    refine HN.out.mono ?_
    rintro e w1 ⟨rfl, hb⟩
    have HB := Lib.hid hb
    clear hb p0 p1 hc2 hv3
    go_wp2
    go_ret
    exact ⟨by rw [HX.out]; rfl, HB.out⟩
  · have HX : Hid (X = (t : Int)) := by show _ = _; rw [HV.out, if_neg hE]
    have hEb : (E != -1) = true := by simpa using hE
    clear HV HN
    go_enter Try.func83, Try.ntmps83
    go_wp2
    go_ret
    exact ⟨by rw [HX.out]; rfl, Below.refl _ _⟩
end
end Go.Proofs.Ytphmjpafebljaaa
