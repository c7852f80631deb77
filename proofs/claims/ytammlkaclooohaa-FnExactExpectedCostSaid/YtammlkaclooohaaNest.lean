/-
  Rows of rows of ints of a call's own: the outer row's cells are slices, each one a row of its own, no two of which share a block.
-/
import Derived.Test.YtammlkaclooohaaOwn
namespace Go.Proofs.Ytammlkaclooohaa
open Go.RowKit
set_option linter.unusedVariables false
theorem infoII : (Try.prog.info? 25).map (fun i => (i.zero, i.size, i.bytes)) = some (some (.slice none 0 0), 1, 24) := by kernel_rfl
/-- Rows whose elements are of different types lie in different blocks. -/
theorem own_types {w : World} {b b' s s' n n' : Nat} {e e' : TypeId} {v v' : Value} {xs xs' : List Value} (hne : e ≠ e') (h : w.ownsRow b e s v n xs) (h' : w.ownsRow b' e' s' v' n' xs') : v.ownBlock = none ∨ v.ownBlock ≠ v'.ownBlock := by
  rcases h.2 with ⟨rfl, _⟩ | ⟨g, cap, cur, rfl, _, hg, _⟩
  · exact .inl rfl
  · rcases h'.2 with ⟨rfl, _⟩ | ⟨g', cap', cur', rfl, _, hg', _⟩
    · exact .inr (by simp [Value.ownBlock])
    · refine .inr fun e2 => hne ?_
      simp [Value.ownBlock] at e2
      subst e2
      rw [hg] at hg'
      injection hg' with h1
      injection h1 with _ h2 _
structure NOwn (w : World) (base : Nat) (xs : List Value) (L : List (List Int)) : Prop where
  len : xs.length = L.length
  own : ∀ (j : Nat) (x : Value) (l : List Int), xs[j]? = some x → L[j]? = some l → w.ownsRow base 3 1 x l.length (ivs l)
  apart : ∀ (i j : Nat) (x y : Value) (b : Nat), i < j → xs[i]? = some x → xs[j]? = some y → x.ownBlock = some b → y.ownBlock ≠ some b
theorem NOwn.nil (w : World) (base : Nat) : NOwn w base [] [] := ⟨rfl, fun _ _ _ h => by simp at h, fun _ _ _ _ _ _ h => by simp at h⟩
theorem NOwn.some_ {w : World} {base : Nat} {xs : List Value} {L : List (List Int)} (h : NOwn w base xs L) {j : Nat} {x : Value} (hx : xs[j]? = some x) : ∃ l, L[j]? = some l := by
  have := (List.getElem?_eq_some_iff.1 hx).1
  exact ⟨_, List.getElem?_eq_getElem (by rw [← h.len]; exact this)⟩
theorem NOwn.past {w w' : World} {base : Nat} {xs : List Value} {L : List (List Int)} (h : NOwn w base xs L) (hb : Below w.heap.size w w') : NOwn w' base xs L :=
  ⟨h.len, fun j x l h1 h2 => own_past (h.own j x l h1 h2) hb, h.apart⟩
theorem NOwn.alloc {w : World} {base : Nat} {xs : List Value} {L : List (List Int)} (h : NOwn w base xs L) (o : Obj) : NOwn (w.alloc o) base xs L :=
  ⟨h.len, fun j x l h1 h2 => (h.own j x l h1 h2).alloc o, h.apart⟩
theorem NOwn.drewN {w : World} {base : Nat} {xs : List Value} {L : List (List Int)} (h : NOwn w base xs L) (m : Nat) : NOwn (w.drewN m) base xs L := ⟨h.len, h.own, h.apart⟩
theorem NOwn.down {w : World} {base base' : Nat} {xs : List Value} {L : List (List Int)} (h : NOwn w base xs L) (hb : base' ≤ base) : NOwn w base' xs L :=
  ⟨h.len, fun j x l h1 h2 => own_down (h.own j x l h1 h2) hb, h.apart⟩
/-- A row of slices is written: the rows in it stay. -/
theorem NOwn.outer {w w' : World} {base b s n : Nat} {e : TypeId} {v : Value} {xs ys : List Value} {L : List (List Int)} (h : NOwn w base xs L) (hne : (3 : TypeId) ≠ e) (ho : w.ownsRow b e s v n ys) (hg : w.grownBy w' v.ownBlock) : NOwn w' base xs L :=
  ⟨h.len, fun j x l h1 h2 => (h.own j x l h1 h2).kept hg (own_types hne (h.own j x l h1 h2) ho), h.apart⟩
/-- One more row, in memory newer than all. -/
theorem NOwn.snoc {w0 w : World} {base : Nat} {xs : List Value} {L : List (List Int)} (h0 : NOwn w0 base xs L) (h : NOwn w base xs L) {x : Value} {l : List Int} (hx : w.ownsRow w0.heap.size 3 1 x l.length (ivs l)) (hb : base ≤ w0.heap.size) : NOwn w base (xs ++ [x]) (L ++ [l]) := by
  refine ⟨by simp [h.len], fun j y m h1 h2 => ?_, fun i j y z b hij h1 h2 h3 h4 => ?_⟩
  · rcases Nat.lt_or_ge j xs.length with hj | hj
    · rw [List.getElem?_append_left hj] at h1
      rw [List.getElem?_append_left (by rw [← h.len]; exact hj)] at h2
      exact h.own j y m h1 h2
    · have hj' : j = xs.length := by
        have := (List.getElem?_eq_some_iff.1 h1).1
        simp at this
        omega
      rw [hj', List.getElem?_append_right (Nat.le_refl _)] at h1
      rw [hj', List.getElem?_append_right (by rw [h.len]; exact Nat.le_refl _)] at h2
      simp at h1
      simp [h.len] at h2
      subst h1 h2
      exact own_down hx hb
  · have hj2 := (List.getElem?_eq_some_iff.1 h2).1
    simp at hj2
    rw [List.getElem?_append_left (by omega)] at h1
    rcases Nat.lt_or_ge j xs.length with hj | hj
    · rw [List.getElem?_append_left hj] at h2
      exact h.apart i j y z b hij h1 h2 h3 h4
    · rw [show j = xs.length by omega, List.getElem?_append_right (Nat.le_refl _)] at h2
      simp at h2
      subst h2
      obtain ⟨m, hm⟩ := h0.some_ h1
      have hy := ((h0.own i y m h1 hm).lt b h3).2
      have hz := (hx.lt b h4).1
      omega
/-- What a call says that gives new rows of ints and whether there are any. -/
def nestSays (X : List (List Int) × Bool) (w : World) (e : Ending) (w' : World) : Prop :=
  ∃ v xs, e = .returned (.tuple #[v, .bool X.2]) ∧ w'.ownsRow w.heap.size 25 1 v X.1.length xs ∧ NOwn w' w.heap.size xs X.1 ∧ Below w.heap.size w w'
end Go.Proofs.Ytammlkaclooohaa
