/-
  Rows of the call's own: stores of several cells, a length that grows into the capacity, one that shrinks; a new block as a row. Nothing of the program stands here.
-/
import Derived.Test.YtphfjhnmnehfkaaLaw
import Derived.Laws.AppendOwn
import Derived.Laws.OwnMore
import Derived.Laws.IdiomCopy
namespace Go.Proofs.Ytphfjhnmnehfkaa
open Go.RowKit
set_option linter.unusedVariables false
/-- Several elements stored from place o on. -/
def setM : List Value → Nat → List Value → List Value
  | xs, _, [] => xs
  | xs, o, v :: r => setM (xs.set o v) (o + 1) r
theorem setM_len : ∀ (vs : List Value) (xs : List Value) (o : Nat), (setM xs o vs).length = xs.length
  | [], _, _ => rfl
  | v :: r, xs, o => by rw [setM, setM_len r]; simp
theorem setM_eq : ∀ (vs : List Value) (xs : List Value) (o : Nat), o + vs.length ≤ xs.length → setM xs o vs = xs.take o ++ vs ++ xs.drop (o + vs.length)
  | [], xs, o, _ => by simp [setM]
  | v :: r, xs, o, h => by
    simp only [List.length_cons] at h
    rw [setM, setM_eq r _ _ (by simp; omega)]
    have h1 : (xs.set o v).take (o + 1) = xs.take o ++ [v] := by
      apply List.ext_getElem?
      intro i
      rw [List.getElem?_take, List.getElem?_append, List.length_take, Nat.min_eq_left (by omega), List.getElem?_take]
      by_cases hi : i < o
      · rw [if_pos (by omega), if_pos hi, if_pos hi, List.getElem?_set_ne (by omega)]
      · rw [if_neg hi]
        by_cases e : i = o
        · subst e
          rw [if_pos (by omega), List.getElem?_set_self (by omega)]
          simp
        · rw [if_neg (by omega), List.getElem?_eq_none (by simp; omega)]
    have h2 : (xs.set o v).drop (o + 1 + r.length) = xs.drop (o + (r.length + 1)) := by
      apply List.ext_getElem?
      intro i
      rw [List.getElem?_drop, List.getElem?_drop, List.getElem?_set_ne (by omega)]
      congr 1
      omega
    rw [h1, h2]
    simp
theorem gr_refl (w : World) (row : Option Nat) : w.grownBy w row := ⟨rfl, rfl, rfl, Nat.le_refl _, fun _ _ _ => rfl⟩
theorem gr_trans {a b c : World} {row : Option Nat} (h : a.grownBy b row) (k : b.grownBy c row) : a.grownBy c row :=
  ⟨k.os.trans h.os, k.tape.trans h.tape, k.output.trans h.output, Nat.le_trans h.size k.size, fun i hi hn => (k.block i (Nat.lt_of_lt_of_le hi h.size) hn).trans (h.block i hi hn)⟩
theorem gr_drewN (w : World) (q : Nat) (row : Option Nat) : w.grownBy (w.drewN q) row := ⟨rfl, rfl, rfl, Nat.le_refl _, fun _ _ _ => rfl⟩
section
variable {w : World} {base g n c : Nat} {e : TypeId} {xs : List Value}
theorem own_setCells : ∀ (vs : List Value) (o : Nat) {w : World} {xs : List Value}, w.ownsRow base e 1 (.slice (some ⟨g, 0, none⟩) n c) n xs →
    (w.setCells g o vs).ownsRow base e 1 (.slice (some ⟨g, 0, none⟩) n c) n (setM xs o vs) ∧ w.grownBy (w.setCells g o vs) (some g)
  | [], _, _, _, h => ⟨h, gr_refl _ _⟩
  | v :: r, o, w, xs, h => by
    obtain ⟨h1, h2⟩ := h.stored o v
    obtain ⟨h3, h4⟩ := own_setCells r (o + 1) h1
    exact ⟨h3, gr_trans h2 h4⟩
theorem own_block (h : w.ownsRow base e 1 (.slice (some ⟨g, 0, none⟩) n c) n xs) : ∃ cur : Array Value, base ≤ g ∧ w.heap[g]? = some (.cells cur e (0, 0)) ∧ n ≤ c ∧ c ≤ maxLen ∧ cur.size = c ∧ cur.toList.take n = xs := by
  rcases h.2 with ⟨h', _⟩ | ⟨g', cap', cur, h', hb, hg, hnc, hcm, hcs, htake⟩
  · simp at h'
  · simp only [Value.slice.injEq, Option.some.injEq, Addr.mk.injEq, and_true, true_and] at h'
    obtain ⟨rfl, rfl⟩ := h'
    exact ⟨cur, hb, hg, hnc, hcm, by simpa using hcs, by simpa using htake⟩
theorem own_made {m : Nat} {cur : Array Value} (hb : base ≤ g) (hg : w.heap[g]? = some (.cells cur e (0, 0))) (hm : m ≤ c) (hcm : c ≤ maxLen) (hs : cur.size = c) :
    w.ownsRow base e 1 (.slice (some ⟨g, 0, none⟩) m c) m (cur.toList.take m) :=
  ⟨by simp; omega, .inr ⟨g, c, cur, rfl, hb, hg, hm, hcm, by simpa using hs, by simp⟩⟩
/-- One element more, whatever it holds. -/
theorem own_widen (h : w.ownsRow base e 1 (.slice (some ⟨g, 0, none⟩) n c) n xs) (hn : n < c) : ∃ u, w.ownsRow base e 1 (.slice (some ⟨g, 0, none⟩) (n + 1) c) (n + 1) (xs ++ [u]) := by
  obtain ⟨cur, hb, hg, hnc, hcm, hs, ht⟩ := own_block h
  have hl : n < cur.toList.length := by simp; omega
  refine ⟨cur.toList[n], ?_⟩
  have h1 := own_made (m := n + 1) hb hg (by omega) hcm hs
  rwa [List.take_succ_eq_append_getElem hl, ht] at h1
theorem own_narrow (h : w.ownsRow base e 1 (.slice (some ⟨g, 0, none⟩) n c) n xs) {m : Nat} (hm : m ≤ n) : w.ownsRow base e 1 (.slice (some ⟨g, 0, none⟩) m c) m (xs.take m) := by
  obtain ⟨cur, hb, hg, hnc, hcm, hs, ht⟩ := own_block h
  have h1 := own_made (m := m) hb hg (by omega) hcm hs
  rw [← ht, List.take_take, Nat.min_eq_left hm]
  exact h1
theorem own_shape (h : w.ownsRow base e 1 (.slice (some ⟨g, 0, none⟩) n c) n xs) : w.shape? g = some (e, c) := by
  obtain ⟨cur, hb, hg, hnc, hcm, hs, ht⟩ := own_block h
  unfold World.shape?
  rw [hg]
  simp [hs]
theorem own_some_all (h : w.ownsRow base e 1 (.slice (some ⟨g, 0, none⟩) n c) n xs) {j : Nat} (hj : j < c) : (w.cell? ⟨g, j, none⟩).isSome = true := by
  obtain ⟨cur, hb, hg, hnc, hcm, hs, ht⟩ := own_block h
  unfold World.cell?
  simp [hg, hs, hj]
theorem own_lt (h : w.ownsRow base e 1 (.slice (some ⟨g, 0, none⟩) n c) n xs) : g < w.heap.size := by
  obtain ⟨cur, hb, hg, hnc, hcm, hs, ht⟩ := own_block h
  exact (Array.getElem?_eq_some_iff.1 hg).1
/-- A new block as a row. -/
theorem own_new (w : World) (cur : Array Value) (m : Nat) (hm : m ≤ cur.size) (hcm : cur.size ≤ maxLen) (hb : base ≤ w.heap.size) :
    (w.alloc (.cells cur e)).ownsRow base e 1 (.slice (some ⟨w.heap.size, 0, none⟩) m cur.size) m (cur.toList.take m) :=
  own_made hb (heap_alloc_new w _) hm hcm rfl
end
end Go.Proofs.Ytphfjhnmnehfkaa
