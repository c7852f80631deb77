/-
  Rows of ints of a call's own: what a store does to them and to the others. Sequences: what a valid one is, item by item.
-/
import Derived.Test.YtammlkaclooohaaSeq
import Derived.Test.YtammlkaclooohaaSeqM
import Derived.Test.YtammlkaclooohaaRowS
namespace Go.Proofs.Ytammlkaclooohaa
open Go.RowKit
set_option linter.unusedVariables false
theorem setBy (w : World) (p : Addr) (u : Value) : w.grownBy (w.setCell p u) (some p.block) :=
  ⟨rfl, rfl, rfl, by simp, fun i hi hne => Below.heap_setCell w p u i (fun e => hne (by rw [e]))⟩
theorem own_set {w : World} {base g n c : Nat} {e : TypeId} {xs : List Value} (h : w.ownsRow base e 1 (.slice (some ⟨g, 0, none⟩) n c) n xs) (p : Addr) (hp : p.block ≠ g) (u : Value) :
    (w.setCell p u).ownsRow base e 1 (.slice (some ⟨g, 0, none⟩) n c) n xs := h.kept (setBy w p u) (by right; simp [Value.ownBlock]; exact fun e => hp e.symm)
/-- Made cells are nothing but zeros. -/
theorem made_ints (n : Nat) : (madeCells #[Value.int .i64 0] n).toList = ivs (List.replicate n 0) := by
  apply List.ext_getElem (by simp [size_madeCells])
  intro k h1 h2
  simp [madeCells, Nat.mod_one]
theorem made_own {w w1 : World} {base n : Nat} {e : TypeId} {v : Value} (h : w1.ownsRow base e 1 v n (madeCells #[Value.int .i64 0] n).toList) : w1.ownsRow base e 1 v n (ivs (List.replicate n 0)) := by
  rwa [made_ints] at h
theorem ivs_some {zs : List Int} {k : Nat} {x : Int} (h : zs[k]? = some x) : (ivs zs)[k]? = some (.int .i64 x) := by rw [List.getElem?_map, h]; rfl
theorem ivs_set (zs : List Int) (k : Nat) (x : Int) : (ivs zs).set k (.int .i64 x) = ivs (zs.set k x) := by simp [ivs, List.map_set]
theorem ivs_len (zs : List Int) : (ivs zs).length = zs.length := by simp [ivs]
/-- The row after a store of an int. -/
theorem own_put {w : World} {base g n c : Nat} {e : TypeId} {zs : List Int} (h : w.ownsRow base e 1 (.slice (some ⟨g, 0, none⟩) n c) n (ivs zs)) (k : Nat) (x : Int) :
    (w.setCell ⟨g, k, none⟩ (.int .i64 x)).ownsRow base e 1 (.slice (some ⟨g, 0, none⟩) n c) n (ivs (zs.set k x)) := by rw [← ivs_set]; exact (h.stored k _).1
theorem own_cell {w : World} {base g n c : Nat} {e : TypeId} {zs : List Int} (h : w.ownsRow base e 1 (.slice (some ⟨g, 0, none⟩) n c) n (ivs zs)) {k : Nat} {x : Int} (hx : zs[k]? = some x) : w.cell? ⟨g, k, none⟩ = some (.int .i64 x) := by
  have hk : k < zs.length := (List.getElem?_eq_some_iff.1 hx).1
  have hl : zs.length = n := by have := h.1; simpa using this
  exact (h.cellAt k (by omega)).trans (ivs_some hx)
theorem own_down {w : World} {base base' : Nat} {e : TypeId} {size : Nat} {v : Value} {n : Nat} {xs : List Value} (h : w.ownsRow base e size v n xs) (hb : base' ≤ base) : w.ownsRow base' e size v n xs := by
  refine ⟨h.1, ?_⟩
  rcases h.2 with h' | ⟨g, cap, cur, h1, h2, h3⟩
  · exact .inl h'
  · exact .inr ⟨g, cap, cur, h1, Nat.le_trans hb h2, h3⟩
theorem own_past {w w' : World} {base : Nat} {e : TypeId} {v : Value} {n size : Nat} {xs : List Value} (h : w.ownsRow base e size v n xs) (hb : Below w.heap.size w w') : w'.ownsRow base e size v n xs :=
  h.kept (row := none) ⟨hb.os, hb.tape, hb.output, hb.size, fun i hi _ => hb.block i hi⟩ (by cases hv : v.ownBlock <;> simp)
theorem new_cell (W : World) (u : Value) (t : TypeId) : (W.alloc (.cells #[u] t)).cell? ⟨W.heap.size, 0, none⟩ = some u := by simp
/-- What comes from 'make' has an address. -/
theorem own_some {w : World} {base n : Nat} {e : TypeId} {v : Value} {xs : List Value} (h : w.ownsRow base e 1 v n xs) (hn : 0 < n) : ∃ g c, v = .slice (some ⟨g, 0, none⟩) n c ∧ base ≤ g ∧ g < w.heap.size := by
  rcases h.2 with ⟨_, h0⟩ | ⟨g, cap, cur, hv, hb, hg, _⟩
  · omega
  · exact ⟨g, cap, hv, hb, (Array.getElem?_eq_some_iff.1 hg).1⟩
/-- What a call says that gives a new row of ints. -/
def rowSays1 (X : List Int) (w : World) (e : Ending) (w' : World) : Prop :=
  ∃ v, e = .returned v ∧ w'.ownsRow w.heap.size 3 1 v X.length (ivs X) ∧ Below w.heap.size w w'
namespace Q
theorem good_nat {n : Int} {zs : List Int} (h : good n zs = true) : ∃ N : Nat, n = N ∧ 1 ≤ N ∧ N ≤ 8 ∧ zs.length ≤ 60 ∧ ∀ k, k < zs.length → ∃ x : Nat, zs[k]? = some (x : Int) ∧ x < N := by
  obtain ⟨⟨h1, h2⟩, h3, h4⟩ := good_iff.1 h
  obtain ⟨N, rfl⟩ := Int.eq_ofNat_of_zero_le (show 0 ≤ n by omega)
  refine ⟨N, rfl, by omega, by omega, h3, fun k hk => ?_⟩
  have hb := h4 zs[k] (List.getElem_mem hk)
  obtain ⟨x, hx⟩ := Int.eq_ofNat_of_zero_le hb.1
  exact ⟨x, by rw [List.getElem?_eq_getElem hk, hx], by omega⟩
/-- An answer of a row and whether there is one, from a valid sequence. -/
def ifGood (n : Int) (zs : List Int) (out : List Int) : List Int × Bool := if good n zs then (out, true) else ([], false)
theorem ifGood_yes {n : Int} {zs out : List Int} (h : good n zs = true) : ifGood n zs out = (out, true) := if_pos h
theorem ifGood_no {n : Int} {zs out : List Int} (h : good n zs = false) : ifGood n zs out = ([], false) := if_neg (by simp [h])
theorem ifGood_len {n : Int} {zs out : List Int} (h : out.length ≤ 1048576) : (ifGood n zs out).1.length ≤ 1048576 := by
  unfold ifGood; split
  · exact h
  · simp
end Q
end Go.Proofs.Ytammlkaclooohaa
