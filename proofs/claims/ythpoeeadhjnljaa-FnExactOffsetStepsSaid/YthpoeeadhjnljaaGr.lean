/-
  Worlds around a graph under way: blocks by what they hold, the marks of ranges over a function, rows of nodes, a map of nodes to their places.
-/
import Derived.Test.YthpoeeadhjnljaaGa
import Derived.Test.YthpoeeadhjnljaaNest
import Derived.Deep.RegionHeld
import Derived.Deep.AppendLies
import Derived.OrdersIn
import Derived.OneCell
import Derived.DeepKeys4
import Derived.Maps.Views
import Derived.RangeFuncNested
import Derived.RangeFuncBound
import Derived.RangeFuncCalls
import Derived.RangeFuncLeaves
import Derived.RangeFuncBox
namespace Go.Proofs.Ythpoeeadhjnljaa
open Go.RowKit Go.ChangeShapes Go.WideShapes Go.WideMaps
set_option linter.unusedVariables false
/-- Block k holds just these cells. -/
def Hb (w : World) (k : Nat) (cs : Array Value) (t : TypeId) : Prop := w.heap[k]? = some (.cells cs t)
theorem Hb.new (w : World) (cs : Array Value) (t : TypeId) : Hb (w.alloc (.cells cs t)) w.heap.size cs t := heap_alloc_new w _
theorem Hb.lt {w : World} {k : Nat} {cs : Array Value} {t : TypeId} (h : Hb w k cs t) : k < w.heap.size := (Array.getElem?_eq_some_iff.1 h).1
theorem Hb.cell {w : World} {k : Nat} {cs : Array Value} {t : TypeId} (h : Hb w k cs t) {i : Nat} {v : Value} (hi : cs[i]? = some v) : w.cell? ⟨k, i, none⟩ = some v := by
  unfold Hb at h
  simp [World.cell?, h, hi]
theorem Hb.frozen {w : World} {k : Nat} {cs : Array Value} {t : TypeId} (h : Hb w k cs t) (i : Nat) : w.frozen? ⟨k, i, none⟩ = false := by
  unfold Hb at h
  simp [World.frozen?, h]
theorem Hb.below {B : Nat} {w w' : World} {k : Nat} {cs : Array Value} {t : TypeId} (h : Hb w k cs t) (hb : Below B w w') (hk : k < B) : Hb w' k cs t := (hb.block k hk).trans h
theorem Hb.on {w w' : World} {k : Nat} {cs : Array Value} {t : TypeId} (h : Hb w k cs t) (hb : Below w.heap.size w w') : Hb w' k cs t := h.below hb h.lt
theorem Hb.alloc {w : World} {k : Nat} {cs : Array Value} {t : TypeId} (h : Hb w k cs t) (o : Obj) : Hb (w.alloc o) k cs t := h.on ((Below.refl _ _).alloc (Nat.le_refl _) o)
theorem Hb.grown {w w' : World} {k : Nat} {cs : Array Value} {t : TypeId} (h : Hb w k cs t) {r : Option Nat} (hg : w.grownBy w' r) (hr : r ≠ some k) : Hb w' k cs t := (hg.block k h.lt hr.symm).trans h
theorem Hb.other {w : World} {k : Nat} {cs : Array Value} {t : TypeId} (h : Hb w k cs t) (p : Addr) (hp : k ≠ p.block) (y : Value) : Hb (w.setCell p y) k cs t := (Below.heap_setCell w p y k hp).trans h
theorem Hb.set {w : World} {k : Nat} {cs : Array Value} {t : TypeId} (h : Hb w k cs t) (i : Nat) (y : Value) : Hb (w.setCell ⟨k, i, none⟩ y) k (cs.setIfInBounds i y) t := by
  obtain ⟨hlt, hk⟩ := Array.getElem?_eq_some_iff.1 h
  show (w.heap.modify k _)[k]? = _
  rw [Array.getElem?_eq_getElem (by rw [Array.size_modify]; exact hlt), Array.getElem_modify_self, hk]
  rfl
theorem Hb.not_row {w : World} {k : Nat} {cs : Array Value} {t e : TypeId} (h : Hb w k cs t) (he : e ≠ t) {b s n : Nat} {v : Value} {xs : List Value} (ho : w.ownsRow b e s v n xs) : v.ownBlock ≠ some k := by
  rcases ho.2 with ⟨rfl, _⟩ | ⟨g, cap, cur, rfl, _, hg, _⟩
  · simp [Value.ownBlock]
  · intro e2
    simp [Value.ownBlock] at e2
    subst e2
    rw [show w.heap[g]? = _ from h] at hg
    injection hg with hg
    injection hg with _ h2 _
    exact he h2.symm
/-- Behind W1 all stays but what is a map, and cells of the two types. -/
def Fine (T1 T2 : TypeId) : Obj → Prop
  | .cells _ t _ => t ≠ T1 ∧ t ≠ T2
  | .map _ _ => False
  | _ => True
structure Frm (T1 T2 : TypeId) (W1 W : World) : Prop where
  size : W1.heap.size ≤ W.heap.size
  same : ∀ (k : Nat) (o : Obj), W1.heap[k]? = some o → Fine T1 T2 o → W.heap[k]? = some o
theorem Frm.refl (T1 T2 : TypeId) (W : World) : Frm T1 T2 W W := ⟨Nat.le_refl _, fun _ _ h _ => h⟩
theorem Frm.grown {T1 T2 : TypeId} {W1 W W' : World} (h : Frm T1 T2 W1 W) {row : Option Nat} (hg : W.grownBy W' row) (hr : ∀ k o, row = some k → W.heap[k]? = some o → k < W1.heap.size → ¬ Fine T1 T2 o) : Frm T1 T2 W1 W' :=
  ⟨Nat.le_trans h.size hg.size, fun k o ho hf => by
    have h1 := h.same k o ho hf
    by_cases e : some k = row
    · exact absurd hf (hr k o e.symm h1 (Array.getElem?_eq_some_iff.1 ho).1)
    · exact (hg.block k (Array.getElem?_eq_some_iff.1 h1).1 e).trans h1⟩
theorem Frm.on {T1 T2 : TypeId} {W1 W W' : World} (h : Frm T1 T2 W1 W) (hb : Below W.heap.size W W') : Frm T1 T2 W1 W' :=
  ⟨Nat.le_trans h.size hb.size, fun k o ho hf => by
    have h1 := h.same k o ho hf
    exact (hb.block k (Array.getElem?_eq_some_iff.1 h1).1).trans h1⟩
/-- A store into a block of one of the two types, or into a new one. -/
theorem Frm.set {T1 T2 t : TypeId} {W1 W : World} (h : Frm T1 T2 W1 W) {k i : Nat} {cs : Array Value} (hk : Hb W k cs t) (ht : t = T1 ∨ t = T2 ∨ W1.heap.size ≤ k) (v : Value) : Frm T1 T2 W1 (W.setCell ⟨k, i, none⟩ v) := by
  refine h.grown (row := some k) (setBy W ⟨k, i, none⟩ v) fun k' o e ho hlt hf => ?_
  injection e with e
  subst e
  rw [show W.heap[k]? = _ from hk] at ho
  injection ho with ho
  subst ho
  have hf : t ≠ T1 ∧ t ≠ T2 := hf
  rcases ht with e | e | e
  · exact hf.1 e
  · exact hf.2 e
  · omega
/-- A row of one of the two types, or a new one, is written. -/
theorem Frm.row {T1 T2 e : TypeId} {W1 W W' : World} (h : Frm T1 T2 W1 W) {b s n : Nat} {v : Value} {xs : List Value} (ho : W.ownsRow b e s v n xs) (hg : W.grownBy W' v.ownBlock) (ht : e = T1 ∨ e = T2 ∨ W1.heap.size ≤ b) : Frm T1 T2 W1 W' := by
  refine h.grown hg fun k o ek hk hlt hf => ?_
  rcases ho.2 with ⟨rfl, _⟩ | ⟨g, cap, cur, rfl, hbg, hgg, _⟩
  · simp [Value.ownBlock] at ek
  · simp [Value.ownBlock] at ek
    subst ek
    rw [hgg] at hk
    injection hk with hk
    subst hk
    have hf : e ≠ T1 ∧ e ≠ T2 := hf
    rcases ht with e | e | e
    · exact hf.1 e
    · exact hf.2 e
    · omega
theorem own_same {W W' : World} {b s n : Nat} {e : TypeId} {v : Value} {xs : List Value} (h : W.ownsRow b e s v n xs) (hk : ∀ (k : Nat) (c : Array Value), W.heap[k]? = some (.cells c e (0, 0)) → W'.heap[k]? = some (.cells c e (0, 0))) : W'.ownsRow b e s v n xs := by
  refine ⟨h.1, ?_⟩
  rcases h.2 with h | ⟨g, cap, cur, h1, h2, h3, h4⟩
  · exact .inl h
  · exact .inr ⟨g, cap, cur, h1, h2, hk g cur h3, h4⟩
theorem Frm.own {T1 T2 e : TypeId} {W1 W : World} (h : Frm T1 T2 W1 W) {b s n : Nat} {v : Value} {xs : List Value} (ho : W1.ownsRow b e s v n xs) (h1 : e ≠ T1) (h2 : e ≠ T2) : W.ownsRow b e s v n xs :=
  own_same ho fun k c hk => h.same k _ hk ⟨h1, h2⟩
theorem Frm.hb {T1 T2 t : TypeId} {W1 W : World} (h : Frm T1 T2 W1 W) {k : Nat} {cs : Array Value} (hk : Hb W1 k cs t) (h1 : t ≠ T1) (h2 : t ≠ T2) : Hb W k cs t := h.same k _ hk ⟨h1, h2⟩
/-- The blocks for the deferred calls of ranges over a function that are over. -/
structure Marks (b : Nat) (w : World) (rs : List Nat) : Prop where
  nd : rs.Nodup
  at_ : ∀ r ∈ rs, b ≤ r ∧ w.heap[r]? = some (.deferred (some []))
abbrev mkD (r : Nat) : Deferred := { target := .collected r, args := #[] }
theorem Marks.nil (b : Nat) (w : World) : Marks b w [] := ⟨List.nodup_nil, fun _ h => by simp at h⟩
theorem Marks.cons {b : Nat} {w : World} {rs : List Nat} (h : Marks b w rs) {r : Nat} (hb : b ≤ r) (hr : w.heap[r]? = some (.deferred (some []))) (hn : ∀ x ∈ rs, x < r) : Marks b w (r :: rs) :=
  ⟨List.nodup_cons.2 ⟨fun h => Nat.lt_irrefl r (hn r h), h.nd⟩, fun x hx => by
    rcases List.mem_cons.1 hx with e | hx
    · subst e; exact ⟨hb, hr⟩
    · exact h.at_ x hx⟩
theorem Marks.frm {T1 T2 : TypeId} {b : Nat} {w w' : World} {rs : List Nat} (h : Marks b w rs) (f : Frm T1 T2 w w') : Marks b w' rs := ⟨h.nd, fun r hr => ⟨(h.at_ r hr).1, f.same r _ (h.at_ r hr).2 trivial⟩⟩
theorem Marks.on {b : Nat} {w w' : World} {rs : List Nat} (h : Marks b w rs) (hb : Below w.heap.size w w') : Marks b w' rs := ⟨h.nd, fun r hr => ⟨(h.at_ r hr).1, (hb.block r (Array.getElem?_eq_some_iff.1 (h.at_ r hr).2).1).trans (h.at_ r hr).2⟩⟩
theorem Marks.lt {b : Nat} {w : World} {rs : List Nat} (h : Marks b w rs) : ∀ r ∈ rs, r < w.heap.size := fun r hr => (Array.getElem?_eq_some_iff.1 (h.at_ r hr).2).1
theorem Marks.kept {b : Nat} {w w' : World} {rs : List Nat} (h : Marks b w rs) {row : Option Nat} (hg : w.grownBy w' row) (hr : ∀ r ∈ rs, some r ≠ row) : Marks b w' rs := ⟨h.nd, fun r hx => ⟨(h.at_ r hx).1, (hg.block r (h.lt r hx) (hr r hx)).trans (h.at_ r hx).2⟩⟩
/-- A function leaves with marks alone. -/
theorem leaves_marks {F : Fence} {n : Nat} {P : Program} {fn : Func} {tmps : Array Value} {R : Ending → World → Prop} {b : Nat} (Ψ : World → Prop)
    (hput : ∀ W r, Ψ W → b ≤ r → W.heap[r]? = some (.deferred (some [])) → Ψ (W.putObj r (.deferred none))) (hend : ∀ W, Ψ W → ∃ v, (results fn tmps).run P W = .ok v W ∧ R (.returned v) W) :
    ∀ rs w, Marks b w rs → Ψ w → LeavesInM F n P fn tmps R (rs.map mkD) .returning w
  | [], w, _, h => hend w h
  | r :: rs, w, hm, h => by
    obtain ⟨hb, hr⟩ := hm.at_ r (List.mem_cons_self ..)
    have hnd := List.nodup_cons.1 hm.nd
    refine ⟨by simp, .inl ⟨r, _, rfl, run_takeDeferred hr, ?_⟩⟩
    refine leaves_marks Ψ hput hend rs _ ?_ (hput w r h hb hr)
    have h2 : Marks b w rs := ⟨hnd.2, fun x hx => hm.at_ x (List.mem_cons_of_mem _ hx)⟩
    exact h2.kept (grownBy_putObj' w r _) fun x hx e => by
      injection e with e
      subst e
      exact hnd.1 hx
section
variable {α : Type} (cs : α → List Value)
def cvs (l : List α) : List Value := l.flatMap cs
end
section
variable {α : Type} {cs : α → List Value} {sz : Nat}
theorem cvs_snoc (l : List α) (x : α) : cvs cs (l ++ [x]) = cvs cs l ++ cs x := by simp [cvs]
theorem cvs_len (h : ∀ x, (cs x).length = sz) : ∀ l : List α, (cvs cs l).length = l.length * sz
  | [] => by simp [cvs]
  | x :: l => by
    have ih := cvs_len h l
    rw [cvs, List.flatMap_cons, List.length_append, h, ← cvs, ih, List.length_cons, Nat.succ_mul]
    omega
theorem cvs_at (h : ∀ x, (cs x).length = sz) : ∀ {l : List α} {k j : Nat} {x : α} {v : Value}, l[k]? = some x → (cs x)[j]? = some v → (cvs cs l)[k * sz + j]? = some v
  | [], k, j, x, v, hx, _ => by simp at hx
  | y :: l, 0, j, x, v, hx, hv => by
    simp only [List.getElem?_cons_zero, Option.some.injEq] at hx
    subst hx
    rw [cvs, List.flatMap_cons, Nat.zero_mul, Nat.zero_add, List.getElem?_append_left (List.getElem?_eq_some_iff.1 hv).1]
    exact hv
  | y :: l, k + 1, j, x, v, hx, hv => by
    have ih := cvs_at h (l := l) (k := k) (j := j) (by simpa using hx) hv
    rw [cvs, List.flatMap_cons, ← cvs, List.getElem?_append_right (by rw [h, Nat.succ_mul]; omega), h, show (k + 1) * sz + j - sz = k * sz + j by rw [Nat.succ_mul]; omega]
    exact ih
/-- Rows of rows of a call's own, whatever their elements. -/
structure NG (e : TypeId) (sz : Nat) (cs : α → List Value) (w : World) (base : Nat) (xs : List Value) (L : List (List α)) : Prop where
  len : xs.length = L.length
  own : ∀ (j : Nat) (x : Value) (l : List α), xs[j]? = some x → L[j]? = some l → w.ownsRow base e sz x l.length (cvs cs l)
  apart : ∀ (i j : Nat) (x y : Value) (b : Nat), i < j → xs[i]? = some x → xs[j]? = some y → x.ownBlock = some b → y.ownBlock ≠ some b
theorem NG.nil {e : TypeId} (w : World) (base : Nat) : NG e sz cs w base [] [] := ⟨rfl, fun _ _ _ h => by simp at h, fun _ _ _ _ _ _ h => by simp at h⟩
theorem NG.same {e : TypeId} {w w' : World} {base : Nat} {xs : List Value} {L : List (List α)} (h : NG e sz cs w base xs L) (hk : ∀ (k : Nat) (c : Array Value), w.heap[k]? = some (.cells c e (0, 0)) → w'.heap[k]? = some (.cells c e (0, 0))) : NG e sz cs w' base xs L :=
  ⟨h.len, fun j x l h1 h2 => own_same (h.own j x l h1 h2) hk, h.apart⟩
theorem NG.frm {T1 T2 e : TypeId} {w w' : World} {base : Nat} {xs : List Value} {L : List (List α)} (h : NG e sz cs w base xs L) (f : Frm T1 T2 w w') (h1 : e ≠ T1) (h2 : e ≠ T2) : NG e sz cs w' base xs L :=
  h.same fun k c hk => f.same k _ hk ⟨h1, h2⟩
theorem NG.on {e : TypeId} {w w' : World} {base : Nat} {xs : List Value} {L : List (List α)} (h : NG e sz cs w base xs L) (hb : Below w.heap.size w w') : NG e sz cs w' base xs L :=
  h.same fun k c hk => (hb.block k (Array.getElem?_eq_some_iff.1 hk).1).trans hk
theorem NG.some_ {e : TypeId} {w : World} {base : Nat} {xs : List Value} {L : List (List α)} (h : NG e sz cs w base xs L) {j : Nat} {x : Value} (hx : xs[j]? = some x) : ∃ l, L[j]? = some l := by
  have := (List.getElem?_eq_some_iff.1 hx).1
  exact ⟨_, List.getElem?_eq_getElem (by rw [← h.len]; exact this)⟩
theorem NG.blt {e : TypeId} {w : World} {base : Nat} {xs : List Value} {L : List (List α)} (h : NG e sz cs w base xs L) {j k : Nat} {x : Value} (hx : xs[j]? = some x) (hk : x.ownBlock = some k) : k < w.heap.size := by
  obtain ⟨l, hl⟩ := h.some_ hx
  exact ((h.own j x l hx hl).lt k hk).2
/-- A row of another type is written. -/
theorem NG.outer {e e2 : TypeId} {w w' : World} {base b s n : Nat} {v : Value} {xs ys : List Value} {L : List (List α)} (h : NG e sz cs w base xs L) (hne : e ≠ e2) (ho : w.ownsRow b e2 s v n ys) (hg : w.grownBy w' v.ownBlock) : NG e sz cs w' base xs L :=
  ⟨h.len, fun j x l h1 h2 => (h.own j x l h1 h2).kept hg (own_types hne (h.own j x l h1 h2) ho), h.apart⟩
/-- Another block is written. -/
theorem NG.block {e t : TypeId} {w w' : World} {base : Nat} {xs : List Value} {L : List (List α)} (h : NG e sz cs w base xs L) {k : Nat} {c : Array Value} (hk : Hb w k c t) (hne : e ≠ t) (hg : w.grownBy w' (some k)) : NG e sz cs w' base xs L :=
  ⟨h.len, fun j x l h1 h2 => (h.own j x l h1 h2).kept hg (.inr (hk.not_row hne (h.own j x l h1 h2))), h.apart⟩
/-- One more row, in memory newer than all. -/
theorem NG.snoc {e : TypeId} {w0 w : World} {base : Nat} {xs : List Value} {L : List (List α)} (h0 : NG e sz cs w0 base xs L) (h : NG e sz cs w base xs L) {x : Value} {l : List α} (hx : w.ownsRow w0.heap.size e sz x l.length (cvs cs l)) (hb : base ≤ w0.heap.size) : NG e sz cs w base (xs ++ [x]) (L ++ [l]) := by
  refine ⟨by simp [h.len], fun j y m h1 h2 => ?_, fun i j y z b hij h1 h2 h3 h4 => ?_⟩
  · rcases Nat.lt_or_ge j xs.length with hj | hj
    · rw [List.getElem?_append_left hj] at h1
      rw [List.getElem?_append_left (by rw [← h.len]; exact hj)] at h2
      exact h.own j y m h1 h2
    · have hj' : j = xs.length := by
        have := (List.getElem?_eq_some_iff.1 h1).1
        simp at this
        omega
      rw [hj', List.getElem?_append_right (Nat.le_refl _)] at h1
      rw [hj', List.getElem?_append_right (by rw [h.len]; exact Nat.le_refl _)] at h2
      simp at h1
      simp [h.len] at h2
      subst h1 h2
      exact own_down hx hb
  · have hj2 := (List.getElem?_eq_some_iff.1 h2).1
    simp at hj2
    rw [List.getElem?_append_left (by omega)] at h1
    rcases Nat.lt_or_ge j xs.length with hj | hj
    · rw [List.getElem?_append_left hj] at h2
      exact h.apart i j y z b hij h1 h2 h3 h4
    · rw [show j = xs.length by omega, List.getElem?_append_right (Nat.le_refl _)] at h2
      simp at h2
      subst h2
      obtain ⟨m, hm⟩ := h0.some_ h1
      have hy := ((h0.own i y m h1 hm).lt b h3).2
      have hz := (hx.lt b h4).1
      omega
end
/-- Block b is a map in which each of the nodes is found at its place. -/
structure MapN {N : Type} (tn : TypeId) (kv : N → Value) (OK : N → Prop) (w : World) (b : Nat) (ts : List N) : Prop where
  ex : ∃ D : DataW Unit, w.ownsMap Try.prog tn (plainElem Try.prog 3) b ts.length D ∧ Maps.IsMap D ∧ (∀ (i : Nat) (l : N) (kl : Lit) (zd : DataW Unit), ts[i]? = some l → keyOf Try.prog tn (kv l) = some kl → D.atKey kl zd = .lit (.int .i64 (i : Int))) ∧ (∀ (l : N) (kl : Lit) (zd : DataW Unit), OK l → l ∉ ts → keyOf Try.prog tn (kv l) = some kl → D.atKey kl zd = zd)
  all_ : ∀ l ∈ ts, OK l
section
variable {N : Type} {tn tm : TypeId} {kv : N → Value} {OK : N → Prop}
theorem MapN.made (w : World) : MapN tn kv OK (w.alloc (.map #[] 0)) w.heap.size [] :=
  ⟨⟨.map [], World.ownsMap_made w _ _ _, ⟨[], rfl⟩, fun i l kl zd h => by simp at h, fun l kl zd _ _ _ => rfl⟩, fun l h => by simp at h⟩
theorem MapN.kept {w w' : World} {b : Nat} {ts : List N} {row : Option Nat} (h : MapN tn kv OK w b ts) (hg : w.grownBy w' row) (hne : some b ≠ row) : MapN tn kv OK w' b ts := by
  obtain ⟨D, h1, h2, h3, h4⟩ := h.ex
  exact ⟨⟨D, h1.kept hg hne, h2, h3, h4⟩, h.all_⟩
theorem MapN.lt {w : World} {b : Nat} {ts : List N} (h : MapN tn kv OK w b ts) : b < w.heap.size := by
  obtain ⟨D, h1, _⟩ := h.ex
  exact h1.lt
theorem MapN.obj {w : World} {b : Nat} {ts : List N} (h : MapN tn kv OK w b ts) : ∃ es c, w.heap[b]? = some (.map es c) := by
  obtain ⟨D, ⟨es, c, hb, _⟩, _⟩ := h.ex
  exact ⟨es, c, hb⟩
theorem MapN.on {w w' : World} {b : Nat} {ts : List N} (h : MapN tn kv OK w b ts) (hb : Below w.heap.size w w') : MapN tn kv OK w' b ts :=
  h.kept (row := none) ⟨hb.os, hb.tape, hb.output, hb.size, fun k hk _ => hb.block k hk⟩ (by simp)
theorem MapN.not_row {w : World} {b : Nat} {ts : List N} (h : MapN tn kv OK w b ts) {g s n : Nat} {e : TypeId} {v : Value} {xs : List Value} (ho : w.ownsRow g e s v n xs) : some b ≠ v.ownBlock := by
  obtain ⟨es, c, hb⟩ := h.obj
  rcases ho.2 with ⟨rfl, _⟩ | ⟨g, cap, cur, rfl, _, hg, _⟩
  · simp [Value.ownBlock]
  · intro e2
    simp [Value.ownBlock] at e2
    subst e2
    rw [hg] at hb
    cases hb
theorem MapN.not_hb {w : World} {b : Nat} {ts : List N} (h : MapN tn kv OK w b ts) {k : Nat} {c : Array Value} {t : TypeId} (hk : Hb w k c t) : b ≠ k := fun e => by
  obtain ⟨es, q, hb⟩ := h.obj
  subst e
  rw [show w.heap[b]? = _ from hk] at hb
  cases hb
theorem nat_wf {n : Nat} (h : n ≤ 1000000) : (Lit.int .i64 (n : Int)).wf = true := by
  have h1 : IntKind.i64.min = -9223372036854775808 := by decide
  have h2 : IntKind.i64.max = 9223372036854775807 := by decide
  simp only [Lit.wf, h1, h2, Bool.and_eq_true, decide_eq_true_eq]
  omega
theorem MapN.store {w : World} {b : Nat} {ts : List N} {l : N} {kl : Lit} (K : Maps.Keyed Try.prog tn) (ht : Try.prog.underlying tm = some (.map tn 3)) (inj : ∀ a b, OK a → OK b → kv a = kv b → a = b) (h : MapN tn kv OK w b ts) (hl : OK l) (hn : l ∉ ts) (hs : ts.length ≤ 1000) (hkl : keyOf Try.prog tn (kv l) = some kl) :
    ∃ w', (Instr.mapUpdate tm (.map (some b)) (kv l) (.int .i64 (ts.length : Int))).run Try.prog w = .ok () w' ∧ MapN tn kv OK w' b (ts ++ [l]) ∧ w.grownBy w' (some b) := by
  obtain ⟨D, h1, h2, h3, h4⟩ := h.ex
  obtain ⟨w', hrun, ho, hg⟩ := h1.update K ht (by unfold maxLen; omega) hkl (plainElem_int Try.underlying3 (nat_wf (n := ts.length) (by omega)))
  refine ⟨w', hrun, ⟨⟨_, by rw [List.length_append]; exact ho, ?_, ?_, ?_⟩, ?_⟩, hg⟩
  · obtain ⟨es, rfl⟩ := h2
    exact ⟨_, DataW.put_eq _ _ _⟩
  · intro i m km zd hm hkm
    have hk := K.key hkl
    by_cases e : i < ts.length
    · rw [List.getElem?_append_left e] at hm
      have hne : km ≠ kl := fun e' => by
        subst e'
        have : m = l := inj m l (h.all_ m (List.mem_of_getElem? hm)) hl (K.inj hkm hkl)
        subst this
        exact hn (List.mem_of_getElem? hm)
      rw [Maps.atKey_put_other hne]
      exact h3 i m km zd hm hkm
    · have hlt := (List.getElem?_eq_some_iff.1 hm).1
      rw [List.length_append] at hlt
      have ei : i = ts.length := by simp at hlt; omega
      subst ei
      rw [List.getElem?_append_right (Nat.le_refl _), Nat.sub_self] at hm
      simp at hm
      subst hm
      have : km = kl := by
        have := hkm.symm.trans hkl
        simpa using this
      subst this
      exact Maps.atKey_put_same h2 hk _ _
  · intro m km zd hm hmn hkm
    have hne : km ≠ kl := fun e' => by
      subst e'
      have : m = l := inj m l hm hl (K.inj hkm hkl)
      subst this
      exact hmn (by simp)
    rw [Maps.atKey_put_other hne]
    exact h4 m km zd hm (fun h => hmn (by simp [h])) hkm
  · intro m hm
    rcases List.mem_append.1 hm with h' | h'
    · exact h.all_ m h'
    · obtain rfl := List.mem_singleton.1 h'
      exact hl
theorem zeroInt (w : World) : (zeroValue 3).run Try.prog w = .ok (.int .i64 0) w := by kernel_rfl
theorem MapN.find_yes {w : World} {b : Nat} {ts : List N} {l : N} {kl : Lit} {i : Nat} (K : Maps.Keyed Try.prog tn) (ht : Try.prog.underlying tm = some (.map tn 3)) (h : MapN tn kv OK w b ts) (hl : ts[i]? = some l) (hkl : keyOf Try.prog tn (kv l) = some kl) :
    (Instr.lookup tm (.map (some b)) (kv l) true).run Try.prog w = .ok (.tuple #[.int .i64 (i : Int), .bool true]) w := by
  obtain ⟨D, ⟨es, clock, hb, F, _, rfl⟩, h2, h3, h4⟩ := h.ex
  rcases Maps.fit_look true K ht (zeroInt w) hb F hkl with ⟨_, _, hat⟩ | ⟨e0, y, _, _, hrun, hRv, hat, _⟩
  · have := (hat .nil).symm.trans (h3 i l kl .nil hl hkl)
    cases this
  · obtain ⟨a, ha, hy, _⟩ := plainElem_int_inv Try.underlying3 hRv
    have h5 := (hat .nil).symm.trans (h3 i l kl .nil hl hkl)
    rw [hy] at h5
    simp at h5
    rw [hrun, ha, h5]
    rfl
theorem MapN.find_no {w : World} {b : Nat} {ts : List N} {l : N} {kl : Lit} (K : Maps.Keyed Try.prog tn) (ht : Try.prog.underlying tm = some (.map tn 3)) (h : MapN tn kv OK w b ts) (hl : OK l) (hn : l ∉ ts) (hkl : keyOf Try.prog tn (kv l) = some kl) :
    (Instr.lookup tm (.map (some b)) (kv l) true).run Try.prog w = .ok (.tuple #[.int .i64 0, .bool false]) w := by
  obtain ⟨D, ⟨es, clock, hb, F, _, rfl⟩, h2, h3, h4⟩ := h.ex
  rcases Maps.fit_look true K ht (zeroInt w) hb F hkl with ⟨hrun, _, _⟩ | ⟨e0, y, _, _, _, hRv, hat, _⟩
  · exact hrun
  · have h5 := (hat .nil).symm.trans (h4 l kl .nil hl hn hkl)
    have h6 := (hat (.lit (.bool true))).symm.trans (h4 l kl (.lit (.bool true)) hl hn hkl)
    rw [h5] at h6
    cases h6
end
/-- Each operation waits for earlier ones alone. -/
def inOrder (ops : Array Oper) : Bool := (List.range ops.size).all fun i => match ops[i]? with
  | none => true
  | some o => o.after.all fun e => decide (e.on < i)
/-- One more operation has come up. -/
def setb (b : Nat → Bool) (i : Nat) : Nat → Bool := fun j => if j = i then true else b j
theorem inOrder_spec {ops : Array Oper} (h : inOrder ops = true) {i : Nat} {o : Oper} (ho : ops[i]? = some o) : ∀ e ∈ o.after, e.on < i := fun e he => by
  have hi := (Array.getElem?_eq_some_iff.1 ho).1
  have h1 := List.all_eq_true.1 h i (List.mem_range.2 hi)
  rw [ho] at h1
  have h2 := (Array.all_eq_true'.1 h1) e he
  simpa using h2
theorem filter_set_lt {l : List Bool} {i : Nat} (hi : i < l.length) (h : l[i] = false) : ((l.set i true).filter (!·)).length < (l.filter (!·)).length := by
  induction l generalizing i with
  | nil => simp at hi
  | cons x l ih =>
    cases i with
    | zero =>
      simp at h
      subst h
      simp
    | succ i =>
      have := ih (i := i) (by simpa using hi) (by simpa using h)
      cases x <;> simp <;> exact this
/-- Whatever order is drawn: what holds behind whichever operations have come up is kept by each next one. -/
theorem wpAny_inv {P : Program} {ops : Array Oper} {Q : Exit → Act → World → Prop} (hord : inOrder ops = true) (Inv : (Nat → Bool) → Act → World → Prop)
    (hstep : ∀ (b : Nat → Bool) (a : Act) (w : World) (i : Nat) (o : Oper), Inv b a w → b i = false → ops[i]? = some o → (∀ e ∈ o.after, Region.binds .any e = true → b e.on = true) → wpOp P ops Q i (Inv (setb b i)) a w)
    (hdone : ∀ (b : Nat → Bool) (a : Act) (w : World), Inv b a w → (∀ i, i < ops.size → b i = true) → Q .normal a w) :
    ∀ (fuel : Nat) (listed : Array Bool) (a : Act) (w : World), listed.size = ops.size → (listed.toList.filter (!·)).length ≤ fuel → Inv (fun j => listed.getD j false) a w → wpAny P .any ops Q fuel listed a w := by
  have hall : ∀ listed : Array Bool, listed.size = ops.size → Region.ready .any ops listed = [] → ∀ i, i < ops.size → listed.getD i false = true := fun listed hs hr => by
    intro i
    induction i using Nat.strongRecOn with
    | _ i ih =>
      intro hi
      by_cases hl : listed.getD i false = true
      · exact hl
      · have hm : i ∈ Region.ready .any ops listed := mem_ready.2 ⟨by
          simp only [Array.getD_eq_getD_getElem?] at hl ⊢
          rw [Array.getElem?_eq_getElem (by omega)] at hl ⊢
          simpa using hl, ops[i], Array.getElem?_eq_getElem hi, fun e he _ => ih e.on (inOrder_spec hord (Array.getElem?_eq_getElem hi) e he) (by have := inOrder_spec hord (Array.getElem?_eq_getElem hi) e he; omega)⟩
        rw [hr] at hm
        cases hm
  intro fuel
  induction fuel with
  | zero =>
    intro listed a w hs hf hI
    have hr : Region.ready .any ops listed = [] := by
      rcases h : Region.ready .any ops listed with _ | ⟨i, t⟩
      · rfl
      · have hi := (mem_ready.1 (h ▸ List.mem_cons_self .. : i ∈ Region.ready .any ops listed)).1
        have hsz : i < listed.size := by
          rcases Nat.lt_or_ge i listed.size with h' | h'
          · exact h'
          · simp [Array.getD_eq_getD_getElem?, Array.getElem?_eq_none h'] at hi
        have hm : listed[i] ∈ listed.toList.filter (!·) := List.mem_filter.2 ⟨by simp, by
          rw [Array.getD_eq_getD_getElem?, Array.getElem?_eq_getElem hsz] at hi
          simpa using hi⟩
        have := List.length_pos_of_mem hm
        omega
    exact ⟨hr, hdone _ _ _ hI (hall listed hs hr)⟩
  | succ fuel ih =>
    intro listed a w hs hf hI
    refine ⟨fun hr => hdone _ _ _ hI (hall listed hs hr), fun i hi => ?_⟩
    obtain ⟨h0, o, ho, hpre⟩ := mem_ready.1 hi
    have hsz : i < listed.size := by have := (Array.getElem?_eq_some_iff.1 ho).1; omega
    have hun : listed.getD i false = false := by
      rw [Array.getD_eq_getD_getElem?, Array.getElem?_eq_getElem hsz] at h0 ⊢
      exact h0
    refine wpOp_mono (fun a' w' h' => ih (listed.setIfInBounds i true) a' w' (by simp [hs]) ?_ ?_) (hstep _ a w i o hI hun ho hpre)
    · rw [Array.toList_setIfInBounds]
      have hlen := filter_set_lt (l := listed.toList) (i := i) (by simpa using hsz) (by
        rw [Array.getD_eq_getD_getElem?, Array.getElem?_eq_getElem hsz] at hun
        simpa using hun)
      omega
    · have e : (fun j => (listed.setIfInBounds i true).getD j false) = setb (fun j => listed.getD j false) i := by
        funext j
        unfold setb
        by_cases hj : j = i
        · subst hj
          simp [Array.getD_eq_getD_getElem?, hsz]
        · rw [if_neg hj]
          show (listed.setIfInBounds i true).getD j false = listed.getD j false
          rw [Array.getD_eq_getD_getElem?, Array.getD_eq_getD_getElem?, Array.getElem?_setIfInBounds_ne (by omega)]
      rw [e]
      exact h'
/-- A region that draws its order, in a round of a range over a function: by the plain calculus, where no operation defers a call. -/
theorem wpAnyIn_round {P : Program} {ops : Array Oper} {Q : Exit → Act → World → Prop} {l n : Nat} (hd : ∀ (i : Nat) (o : Oper), ops[i]? = some o → ∀ c, o.op ≠ .defer c) (hQ : ¬ LetsOut Q) :
    ∀ (fuel : Nat) (listed : Array Bool) (a : Act) (w : World), wpAny P .any ops Q fuel listed a w → wpAnyIn (Fence.wide.inRound l) n P .any ops Q fuel listed a w
  | 0, _, _, _, h => h
  | fuel + 1, listed, a, w, h => by
    refine ⟨h.1, fun i hi => ?_⟩
    have h2 := wpOp_mono (K' := wpAnyIn (Fence.wide.inRound l) n P .any ops Q fuel (listed.setIfInBounds i true)) (fun a' w' h' => wpAnyIn_round hd hQ fuel _ a' w' h') (h.2 i hi)
    unfold wpOp at h2
    unfold wpOpIn
    split
    · simpa [*] using h2
    · rename_i o ho
      simp only [ho] at h2
      split
      · rename_i hw
        simp only [hw, if_true] at h2
        refine ⟨fun _ _ => trivial, ?_⟩
        have h3 := h2.resolve_right fun h => hQ h.2
        unfold Oper.wp at h3
        rw [Oper.semAt_eq _ _ _ (hd i o ho)]
        generalize (execOp a.eval o).run P w = r at h3 ⊢
        cases r with
        | ok x w' =>
          cases x <;> simp only [Oper.uponIn, Oper.upon] at h3 ⊢ <;> first
            | exact h3
            | exact ⟨fun e => (by cases e), callsIn_wide.2 h3⟩
            | exact ⟨fun e => (by cases e), fun c cs _ => let ⟨v, w'', r, s⟩ := h3 c cs; ⟨v, w'', r, stepsIn_wide.2 s⟩⟩
        | halt x w' => cases x <;> simp only [Oper.uponIn, Oper.upon] at h3 ⊢ <;> exact h3
      · rename_i hw
        simp only [hw] at h2
        exact ⟨fun _ _ => trivial, h2⟩
def endsIn (K : Act → World → Prop) : Exit → Act → World → Prop
  | .normal, a, w => K a w
  | _, _, _ => False
theorem endsIn_no (K : Act → World → Prop) : ¬ LetsOut (endsIn K) := fun ⟨_, _, h⟩ => h
theorem endsIn_to {K : Act → World → Prop} {Q : Exit → Act → World → Prop} (h : ∀ a w, K a w → Q .normal a w) (e : Exit) (a : Act) (w : World) (he : endsIn K e a w) : Q e a w := by
  cases e with
  | normal => exact h a w he
  | exit id => exact he.elim
  | goto l => exact he.elim
  | ret => exact he.elim
  | panic ch => exact he.elim
  | outgrown => exact he.elim
theorem none_listed (n : Nat) : (fun j => (Array.replicate n false).getD j false) = fun _ => false := by
  funext j
  rw [Array.getD_eq_getD_getElem?, Array.getElem?_replicate]
  split <;> rfl
theorem filter_none (n : Nat) : ((Array.replicate n false).toList.filter (!·)).length ≤ n := by
  refine Nat.le_trans (List.length_filter_le _ _) ?_
  simp
/-- A region that draws its order, by what holds behind whichever of its operations have come up. -/
theorem region_inv {P : Program} {ops : Array Oper} {Q : Exit → Act → World → Prop} {id : Nat} {a : Act} {w : World} (hm : P.follows .mixedOrders = true) (hord : inOrder ops = true) (Inv : (Nat → Bool) → Act → World → Prop)
    (h0 : Inv (fun _ => false) a w.drew)
    (hstep : ∀ (b : Nat → Bool) (a : Act) (w : World) (i : Nat) (o : Oper), Inv b a w → b i = false → ops[i]? = some o → (∀ e ∈ o.after, Region.binds .any e = true → b e.on = true) → wpOp P ops (endsIn (Q .normal)) i (Inv (setb b i)) a w)
    (hdone : ∀ (b : Nat → Bool) (a : Act) (w : World), Inv b a w → (∀ i, i < ops.size → b i = true) → Q .normal a w) : (Code.region id ops true).wp P Q a w :=
  wp_mono (wp_region_any hm (wpAny_inv hord Inv hstep hdone _ _ _ _ (by simp) (filter_none _) (by rw [none_listed]; exact h0))) (endsIn_to fun _ _ h => h)
theorem region_inv_round {P : Program} {ops : Array Oper} {Q : Exit → Act → World → Prop} {id l n : Nat} {a : Act} {w : World} (hm : P.follows .mixedOrders = true) (hord : inOrder ops = true) (hd : (ops.toList.all fun o => match o.op with | .defer _ => false | _ => true) = true) (Inv : (Nat → Bool) → Act → World → Prop)
    (h0 : Inv (fun _ => false) a w.drew)
    (hstep : ∀ (b : Nat → Bool) (a : Act) (w : World) (i : Nat) (o : Oper), Inv b a w → b i = false → ops[i]? = some o → (∀ e ∈ o.after, Region.binds .any e = true → b e.on = true) → wpOp P ops (endsIn (Q .normal)) i (Inv (setb b i)) a w)
    (hdone : ∀ (b : Nat → Bool) (a : Act) (w : World), Inv b a w → (∀ i, i < ops.size → b i = true) → Q .normal a w) : (Code.region id ops true).wpIn (Fence.wide.inRound l) n P Q a w :=
  Code.wpIn_mono (endsIn_to fun _ _ h => h) (wpIn_region_any hm (wpAnyIn_round (fun i o ho c e => by
    have h1 := List.all_eq_true.1 hd o (by rw [Array.mem_toList_iff]; exact Array.mem_of_getElem? ho)
    rw [e] at h1
    cases h1) (endsIn_no _) _ _ _ _ (wpAny_inv hord Inv hstep hdone _ _ _ _ (by simp) (filter_none _) (by rw [none_listed]; exact h0))))
/-- The same, where what the other temporaries hold is read off the activation. -/
theorem region_inv_u {P : Program} {ops : Array Oper} {Q : Exit → Act → World → Prop} {id : Nat} {a : Act} {w : World} (hm : P.follows .mixedOrders = true) (hord : inOrder ops = true) (Inv : (Nat → Value) → (Nat → Bool) → Act → World → Prop)
    (h0 : Inv (fun i => a.tmps.getD i undef) (fun _ => false) a w.drew)
    (hstep : ∀ (u : Nat → Value) (b : Nat → Bool) (a : Act) (w : World) (i : Nat) (o : Oper), Inv u b a w → b i = false → ops[i]? = some o → (∀ e ∈ o.after, Region.binds .any e = true → b e.on = true) → wpOp P ops (endsIn (Q .normal)) i (Inv u (setb b i)) a w)
    (hdone : ∀ (u : Nat → Value) (b : Nat → Bool) (a : Act) (w : World), Inv u b a w → (∀ i, i < ops.size → b i = true) → Q .normal a w) : (Code.region id ops true).wp P Q a w :=
  region_inv hm hord (Inv _) h0 (hstep _) (hdone _)
theorem region_inv_round_u {P : Program} {ops : Array Oper} {Q : Exit → Act → World → Prop} {id l n : Nat} {a : Act} {w : World} (hm : P.follows .mixedOrders = true) (hord : inOrder ops = true) (hd : (ops.toList.all fun o => match o.op with | .defer _ => false | _ => true) = true) (Inv : (Nat → Value) → (Nat → Bool) → Act → World → Prop)
    (h0 : Inv (fun i => a.tmps.getD i undef) (fun _ => false) a w.drew)
    (hstep : ∀ (u : Nat → Value) (b : Nat → Bool) (a : Act) (w : World) (i : Nat) (o : Oper), Inv u b a w → b i = false → ops[i]? = some o → (∀ e ∈ o.after, Region.binds .any e = true → b e.on = true) → wpOp P ops (endsIn (Q .normal)) i (Inv u (setb b i)) a w)
    (hdone : ∀ (u : Nat → Value) (b : Nat → Bool) (a : Act) (w : World), Inv u b a w → (∀ i, i < ops.size → b i = true) → Q .normal a w) : (Code.region id ops true).wpIn (Fence.wide.inRound l) n P Q a w :=
  region_inv_round hm hord hd (Inv _) h0 (hstep _) (hdone _)
/-- An append onto a row of the call's own, among operations that come up in whatever order. -/
theorem wpOp_append {P : Program} {ops : Array Oper} {Q : Exit → Act → World → Prop} {i : Nat} {o : Oper} {K : Act → World → Prop} {a : Act} (w : World) (hoi : ops[i]? = some o) (hgd : o.guard = none) (s x : Operand) (t : TypeId)
    (ho : o.op = .call { callee := .builtin .append, args := #[s, x], argTypes := #[t, t] })
    (base : Nat) (e : TypeId) (inf : TypeInfo) (z : Value) (size bytes : Nat) (ht : P.underlying t = some (.slice e)) (hi : P.info? e = some inf) (hz : inf.zero = some z)
    (hsize : inf.size = size) (hby : inf.bytes = bytes) (hzs : z.cells.size = size) (hsz : 0 < size)
    (v : Value) (n : Nat) (xs : List Value) (hs : a.eval s = v) (hown : w.ownsRow base e size v n xs)
    (ad : Addr) (m c : Nat) (news : List Value) (hx : a.eval x = .slice (some ad) m c) (hl : news.length = m * size) (hnews : ∀ j u, news[j]? = some u → w.cell? (ad.add j) = some u) (h1 : ∀ u ∈ news, u.oneCell' = true)
    (hm : 0 < m) (h63 : n + m ≤ maxLen) (hbytes : (n + m) * bytes ≤ 140737488355328) (hbase : base ≤ w.heap.size)
    (h : ∀ g cap w', w'.ownsRow base e size (.slice (some ⟨g, 0, none⟩) (n + m) cap) (n + m) (xs ++ news) → w.grownBy w' v.ownBlock → (v.ownBlock = some g ∨ g = w.heap.size) → g < w'.heap.size → K (a.put o.dst (.slice (some ⟨g, 0, none⟩) (n + m) cap)) w') : wpOp P ops Q i K a w :=
  wpOp_step hoi fun K' hK => step_append_lies w hgd s x t ho base e inf z size bytes ht hi hz hsize hby hzs hsz v n xs hs hown ad m c news hx hl hnews h1 hm h63 hbytes hbase w.heap.size rfl fun g cap w' a1 a2 a3 a4 => hK _ _ (h g cap w' a1 a2 a3 a4)
/-- The same inside a fence. -/
theorem wpAnyIn_inv {F : Fence} {n : Nat} {P : Program} {ops : Array Oper} {Q : Exit → Act → World → Prop} (hord : inOrder ops = true) (Inv : (Nat → Bool) → Act → World → Prop)
    (hstep : ∀ (b : Nat → Bool) (a : Act) (w : World) (i : Nat) (o : Oper), Inv b a w → b i = false → ops[i]? = some o → (∀ e ∈ o.after, Region.binds .any e = true → b e.on = true) → wpOpIn F n P ops Q i (Inv (setb b i)) a w)
    (hdone : ∀ (b : Nat → Bool) (a : Act) (w : World), Inv b a w → (∀ i, i < ops.size → b i = true) → Q .normal a w) :
    ∀ (fuel : Nat) (listed : Array Bool) (a : Act) (w : World), listed.size = ops.size → (listed.toList.filter (!·)).length ≤ fuel → Inv (fun j => listed.getD j false) a w → wpAnyIn F n P .any ops Q fuel listed a w := by
  have hall : ∀ listed : Array Bool, listed.size = ops.size → Region.ready .any ops listed = [] → ∀ i, i < ops.size → listed.getD i false = true := fun listed hs hr => by
    intro i
    induction i using Nat.strongRecOn with
    | _ i ih =>
      intro hi
      by_cases hl : listed.getD i false = true
      · exact hl
      · have hm : i ∈ Region.ready .any ops listed := mem_ready.2 ⟨by
          simp only [Array.getD_eq_getD_getElem?] at hl ⊢
          rw [Array.getElem?_eq_getElem (by omega)] at hl ⊢
          simpa using hl, ops[i], Array.getElem?_eq_getElem hi, fun e he _ => ih e.on (inOrder_spec hord (Array.getElem?_eq_getElem hi) e he) (by have := inOrder_spec hord (Array.getElem?_eq_getElem hi) e he; omega)⟩
        rw [hr] at hm
        cases hm
  intro fuel
  induction fuel with
  | zero =>
    intro listed a w hs hf hI
    have hr : Region.ready .any ops listed = [] := by
      rcases h : Region.ready .any ops listed with _ | ⟨i, t⟩
      · rfl
      · have hi := (mem_ready.1 (h ▸ List.mem_cons_self .. : i ∈ Region.ready .any ops listed)).1
        have hsz : i < listed.size := by
          rcases Nat.lt_or_ge i listed.size with h' | h'
          · exact h'
          · simp [Array.getD_eq_getD_getElem?, Array.getElem?_eq_none h'] at hi
        have hm : listed[i] ∈ listed.toList.filter (!·) := List.mem_filter.2 ⟨by simp, by
          rw [Array.getD_eq_getD_getElem?, Array.getElem?_eq_getElem hsz] at hi
          simpa using hi⟩
        have := List.length_pos_of_mem hm
        omega
    exact ⟨hr, hdone _ _ _ hI (hall listed hs hr)⟩
  | succ fuel ih =>
    intro listed a w hs hf hI
    refine ⟨fun hr => hdone _ _ _ hI (hall listed hs hr), fun i hi => ?_⟩
    obtain ⟨h0, o, ho, hpre⟩ := mem_ready.1 hi
    have hsz : i < listed.size := by have := (Array.getElem?_eq_some_iff.1 ho).1; omega
    have hun : listed.getD i false = false := by
      rw [Array.getD_eq_getD_getElem?, Array.getElem?_eq_getElem hsz] at h0 ⊢
      exact h0
    refine wpOpIn_mono (fun a' w' h' => ih (listed.setIfInBounds i true) a' w' (by simp [hs]) ?_ ?_) (hstep _ a w i o hI hun ho hpre)
    · rw [Array.toList_setIfInBounds]
      have hlen := filter_set_lt (l := listed.toList) (i := i) (by simpa using hsz) (by
        rw [Array.getD_eq_getD_getElem?, Array.getElem?_eq_getElem hsz] at hun
        simpa using hun)
      omega
    · have e : (fun j => (listed.setIfInBounds i true).getD j false) = setb (fun j => listed.getD j false) i := by
        funext j
        unfold setb
        by_cases hj : j = i
        · subst hj
          simp [Array.getD_eq_getD_getElem?, hsz]
        · rw [if_neg hj]
          show (listed.setIfInBounds i true).getD j false = listed.getD j false
          rw [Array.getD_eq_getD_getElem?, Array.getD_eq_getD_getElem?, Array.getElem?_setIfInBounds_ne (by omega)]
      rw [e]
      exact h'
theorem region_invIn_u {F : Fence} {n : Nat} {P : Program} {ops : Array Oper} {Q : Exit → Act → World → Prop} {id : Nat} {a : Act} {w : World} (hm : P.follows .mixedOrders = true) (hord : inOrder ops = true) (Inv : (Nat → Value) → (Nat → Bool) → Act → World → Prop)
    (h0 : Inv (fun i => a.tmps.getD i undef) (fun _ => false) a w.drew)
    (hstep : ∀ (u : Nat → Value) (b : Nat → Bool) (a : Act) (w : World) (i : Nat) (o : Oper), Inv u b a w → b i = false → ops[i]? = some o → (∀ e ∈ o.after, Region.binds .any e = true → b e.on = true) → wpOpIn F n P ops Q i (Inv u (setb b i)) a w)
    (hdone : ∀ (u : Nat → Value) (b : Nat → Bool) (a : Act) (w : World), Inv u b a w → (∀ i, i < ops.size → b i = true) → Q .normal a w) : (Code.region id ops true).wpIn F n P Q a w :=
  wpIn_region_any hm (wpAnyIn_inv hord (Inv _) (hstep _) (hdone _) _ _ _ _ (by simp) (filter_none _) (by rw [none_listed]; exact h0))
end Go.Proofs.Ythpoeeadhjnljaa
