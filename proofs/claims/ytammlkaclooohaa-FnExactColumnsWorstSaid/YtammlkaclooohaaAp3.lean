/-
  Rows of the call's own: stores of several cells, a length that grows into the capacity, one that shrinks; a new block as a row. Nothing of the program stands here. 'append' of one int onto a row of the call's own: the row stays in its block or goes to a new one. Two rows of a call's own that lie in different blocks.
-/
import Derived.Test.YtammlkaclooohaaLaw
import Derived.Laws.AppendOwn
import Derived.Laws.OwnMore
import Derived.Laws.IdiomCopy
import Derived.Test.YtammlkaclooohaaOwn
/- Rows of the call's own: stores of several cells, a length that grows into the capacity, one that shrinks; a new block as a row. Nothing of the program stands here. -/
namespace Go.Proofs.Ytammlkaclooohaa
open Go.RowKit
set_option linter.unusedVariables false
/-- Several elements stored from place o on. -/
def setM : List Value → Nat → List Value → List Value
  | xs, _, [] => xs
  | xs, o, v :: r => setM (xs.set o v) (o + 1) r
theorem setM_len : ∀ (vs : List Value) (xs : List Value) (o : Nat), (setM xs o vs).length = xs.length
  | [], _, _ => rfl
  | v :: r, xs, o => by rw [setM, setM_len r]; simp
theorem setM_eq : ∀ (vs : List Value) (xs : List Value) (o : Nat), o + vs.length ≤ xs.length → setM xs o vs = xs.take o ++ vs ++ xs.drop (o + vs.length)
  | [], xs, o, _ => by simp [setM]
  | v :: r, xs, o, h => by
    simp only [List.length_cons] at h
    rw [setM, setM_eq r _ _ (by simp; omega)]
    have h1 : (xs.set o v).take (o + 1) = xs.take o ++ [v] := by
      apply List.ext_getElem?
      intro i
      rw [List.getElem?_take, List.getElem?_append, List.length_take, Nat.min_eq_left (by omega), List.getElem?_take]
      by_cases hi : i < o
      · rw [if_pos (by omega), if_pos hi, if_pos hi, List.getElem?_set_ne (by omega)]
      · rw [if_neg hi]
        by_cases e : i = o
        · subst e
          rw [if_pos (by omega), List.getElem?_set_self (by omega)]
          simp
        · rw [if_neg (by omega), List.getElem?_eq_none (by simp; omega)]
    have h2 : (xs.set o v).drop (o + 1 + r.length) = xs.drop (o + (r.length + 1)) := by
      apply List.ext_getElem?
      intro i
      rw [List.getElem?_drop, List.getElem?_drop, List.getElem?_set_ne (by omega)]
      congr 1
      omega
    rw [h1, h2]
    simp
theorem gr_refl (w : World) (row : Option Nat) : w.grownBy w row := ⟨rfl, rfl, rfl, Nat.le_refl _, fun _ _ _ => rfl⟩
theorem gr_trans {a b c : World} {row : Option Nat} (h : a.grownBy b row) (k : b.grownBy c row) : a.grownBy c row :=
  ⟨k.os.trans h.os, k.tape.trans h.tape, k.output.trans h.output, Nat.le_trans h.size k.size, fun i hi hn => (k.block i (Nat.lt_of_lt_of_le hi h.size) hn).trans (h.block i hi hn)⟩
theorem gr_drewN (w : World) (q : Nat) (row : Option Nat) : w.grownBy (w.drewN q) row := ⟨rfl, rfl, rfl, Nat.le_refl _, fun _ _ _ => rfl⟩
section
variable {w : World} {base g n c : Nat} {e : TypeId} {xs : List Value}
theorem own_setCells : ∀ (vs : List Value) (o : Nat) {w : World} {xs : List Value}, w.ownsRow base e 1 (.slice (some ⟨g, 0, none⟩) n c) n xs →
    (w.setCells g o vs).ownsRow base e 1 (.slice (some ⟨g, 0, none⟩) n c) n (setM xs o vs) ∧ w.grownBy (w.setCells g o vs) (some g)
  | [], _, _, _, h => ⟨h, gr_refl _ _⟩
  | v :: r, o, w, xs, h => by
    obtain ⟨h1, h2⟩ := h.stored o v
    obtain ⟨h3, h4⟩ := own_setCells r (o + 1) h1
    exact ⟨h3, gr_trans h2 h4⟩
theorem own_block (h : w.ownsRow base e 1 (.slice (some ⟨g, 0, none⟩) n c) n xs) : ∃ cur : Array Value, base ≤ g ∧ w.heap[g]? = some (.cells cur e (0, 0)) ∧ n ≤ c ∧ c ≤ maxLen ∧ cur.size = c ∧ cur.toList.take n = xs := by
  rcases h.2 with ⟨h', _⟩ | ⟨g', cap', cur, h', hb, hg, hnc, hcm, hcs, htake⟩
  · simp at h'
  · simp only [Value.slice.injEq, Option.some.injEq, Addr.mk.injEq, and_true, true_and] at h'
    obtain ⟨rfl, rfl⟩ := h'
    exact ⟨cur, hb, hg, hnc, hcm, by simpa using hcs, by simpa using htake⟩
theorem own_made {m : Nat} {cur : Array Value} (hb : base ≤ g) (hg : w.heap[g]? = some (.cells cur e (0, 0))) (hm : m ≤ c) (hcm : c ≤ maxLen) (hs : cur.size = c) :
    w.ownsRow base e 1 (.slice (some ⟨g, 0, none⟩) m c) m (cur.toList.take m) :=
  ⟨by simp; omega, .inr ⟨g, c, cur, rfl, hb, hg, hm, hcm, by simpa using hs, by simp⟩⟩
/-- One element more, whatever it holds. -/
theorem own_widen (h : w.ownsRow base e 1 (.slice (some ⟨g, 0, none⟩) n c) n xs) (hn : n < c) : ∃ u, w.ownsRow base e 1 (.slice (some ⟨g, 0, none⟩) (n + 1) c) (n + 1) (xs ++ [u]) := by
  obtain ⟨cur, hb, hg, hnc, hcm, hs, ht⟩ := own_block h
  have hl : n < cur.toList.length := by simp; omega
  refine ⟨cur.toList[n], ?_⟩
  have h1 := own_made (m := n + 1) hb hg (by omega) hcm hs
  rwa [List.take_succ_eq_append_getElem hl, ht] at h1
theorem own_narrow (h : w.ownsRow base e 1 (.slice (some ⟨g, 0, none⟩) n c) n xs) {m : Nat} (hm : m ≤ n) : w.ownsRow base e 1 (.slice (some ⟨g, 0, none⟩) m c) m (xs.take m) := by
  obtain ⟨cur, hb, hg, hnc, hcm, hs, ht⟩ := own_block h
  have h1 := own_made (m := m) hb hg (by omega) hcm hs
  rw [← ht, List.take_take, Nat.min_eq_left hm]
  exact h1
theorem own_shape (h : w.ownsRow base e 1 (.slice (some ⟨g, 0, none⟩) n c) n xs) : w.shape? g = some (e, c) := by
  obtain ⟨cur, hb, hg, hnc, hcm, hs, ht⟩ := own_block h
  unfold World.shape?
  rw [hg]
  simp [hs]
theorem own_some_all (h : w.ownsRow base e 1 (.slice (some ⟨g, 0, none⟩) n c) n xs) {j : Nat} (hj : j < c) : (w.cell? ⟨g, j, none⟩).isSome = true := by
  obtain ⟨cur, hb, hg, hnc, hcm, hs, ht⟩ := own_block h
  unfold World.cell?
  simp [hg, hs, hj]
theorem own_lt (h : w.ownsRow base e 1 (.slice (some ⟨g, 0, none⟩) n c) n xs) : g < w.heap.size := by
  obtain ⟨cur, hb, hg, hnc, hcm, hs, ht⟩ := own_block h
  exact (Array.getElem?_eq_some_iff.1 hg).1
/-- A new block as a row. -/
theorem own_new (w : World) (cur : Array Value) (m : Nat) (hm : m ≤ cur.size) (hcm : cur.size ≤ maxLen) (hb : base ≤ w.heap.size) :
    (w.alloc (.cells cur e)).ownsRow base e 1 (.slice (some ⟨w.heap.size, 0, none⟩) m cur.size) m (cur.toList.take m) :=
  own_made hb (heap_alloc_new w _) hm hcm rfl
end
end Go.Proofs.Ytammlkaclooohaa

/- 'append' of one int onto a row of the call's own: the row stays in its block or goes to a new one. -/
namespace Go.Proofs.Ytammlkaclooohaa
open Go.RowKit
set_option linter.unusedVariables false
section
variable {P : Program} {w : World}
/-- Where the row lies. -/
def atOrNew (v : Value) (w : World) (v' : Value) : Prop := v'.ownBlock = v.ownBlock ∨ v'.ownBlock = some w.heap.size
theorem run_app1 {base : Nat} {t ty e : TypeId} {i : TypeInfo} (ht : P.underlying t = some (.slice e)) (hi : P.info? e = some i) (hz : i.zero = some (.int .i64 0)) (h1 : i.size = 1) (h8 : i.bytes = 8)
    {v : Value} {n : Nat} {xs : List Value} (hown : w.ownsRow base e 1 v n xs) {a : Addr} {c : Nat} {x : Int} (hx : w.cell? a = some (.int .i64 x)) (hn : n ≤ 1000000) (hbase : base ≤ w.heap.size) :
    ∃ v' w', (Builtin.append_ #[t, t] ty #[v, .slice (some a) 1 c]).run P w = .ok v' w' ∧ w'.ownsRow base e 1 v' (n + 1) (xs ++ [.int .i64 x]) ∧ w.grownBy w' v.ownBlock ∧ atOrNew v w v' := by
  have hnews : ∀ j u, [Value.int .i64 x][j]? = some u → w.cell? (a.add j) = some u := fun j u hj => by
    match j, hj with
    | 0, hj => simp at hj; subst hj; simpa [Addr.add] using hx
  have hone : ∀ u ∈ [Value.int .i64 x], u.oneCell' = true := fun u hu => by simp at hu; subst hu; rfl
  obtain ⟨v', w', hrun, h2, h3, _⟩ := run_append_own w base t ty e i (.int .i64 0) 1 8 ht hi hz h1 h8 rfl (by decide) v n xs hown a 1 c [.int .i64 x] rfl hnews hone (by unfold maxLen; omega) (by omega) hbase
  refine ⟨v', w', hrun, h2, h3, ?_⟩
  rcases hown.2 with ⟨rfl, rfl⟩ | ⟨g, cap, cur, rfl, hbg, hg, hnc, hcm, hcs, htake⟩
  · have hr := run_append_nil (P := P) w t ty e i (.int .i64 0) ht hi hz a 1 c [.int .i64 x] (by rw [h1]; rfl) hnews (by omega) (by omega) (by rw [h8]; omega)
    rw [hr] at hrun
    injection hrun with e1 _
    exact .inr (by rw [← e1]; rfl)
  · by_cases hroom : n + 1 ≤ cap
    · have hr := run_append_room (P := P) w t ty e i ht hi g n cap cur hg a 1 c [.int .i64 x] (by rw [h1]; rfl) hnews hone hroom (by rw [h1]; simp; omega)
      rw [hr] at hrun
      injection hrun with e1 _
      exact .inl (by rw [← e1]; rfl)
    · have holds : ∀ j u, xs[j]? = some u → w.cell? ((⟨g, 0, none⟩ : Addr).add j) = some u := hown.cells (g := g) rfl
      have hr := run_append_grow (P := P) w t ty e i (.int .i64 0) ht hi hz ⟨g, 0, none⟩ n cap xs (by rw [h1]; exact hown.1) holds a 1 c [.int .i64 x] (by rw [h1]; rfl) hnews (by omega) (by omega) (growslice_fits (by omega) (by rw [h8]; omega))
      rw [hr] at hrun
      injection hrun with e1 _
      exact .inr (by rw [← e1]; rfl)
theorem list_app1 {ops : Array Oper} {rest : List Oper} {o : Oper} {a : Act} {Q : Exit → Act → World → Prop} (hgd : o.guard = none) (s x : Operand) (t : TypeId)
    (ho : o.op = .call { callee := .builtin .append, args := #[s, x], argTypes := #[t, t] })
    {base : Nat} {e : TypeId} {i : TypeInfo} (ht : P.underlying t = some (.slice e)) (hi : P.info? e = some i) (hz : i.zero = some (.int .i64 0)) (h1 : i.size = 1) (h8 : i.bytes = 8)
    {v : Value} {n : Nat} {xs : List Value} (hs : a.eval s = v) (hown : w.ownsRow base e 1 v n xs) {ad : Addr} {c : Nat} {z : Int} (hx : a.eval x = .slice (some ad) 1 c) (hc : w.cell? ad = some (.int .i64 z)) (hn : n ≤ 1000000) (hbase : base ≤ w.heap.size)
    (h : ∀ v' w', w'.ownsRow base e 1 v' (n + 1) (xs ++ [.int .i64 z]) → w.grownBy w' v.ownBlock → atOrNew v w v' → wpList P ops Q rest (a.put o.dst v') w') : wpList P ops Q (o :: rest) a w := by
  refine wpList_plain hgd fun _ hK => ?_
  obtain ⟨v', w', hrun, h2, h3, h4⟩ := run_app1 (P := P) (ty := o.type) (c := c) ht hi hz h1 h8 hown hc hn hbase
  unfold Oper.wp execOp
  simp only [ho, resolve, invoke, builtin, Sem.run_bind, Sem.run_pure, Result.andThen_ok, List.map_toArray, List.map_cons, List.map_nil, hs, hx, hrun]
  exact hK _ _ (h v' w' h2 h3 h4)
end
/-- A row lies in block q alone, or at and behind block b. -/
def AtOr (q b : Nat) (v : Value) : Prop := ∀ g, v.ownBlock = some g → g = q ∨ b ≤ g
theorem AtOr.next {q b : Nat} {v v' : Value} {w : World} (h : AtOr q b v) (hn : atOrNew v w v') (hb : b ≤ w.heap.size) : AtOr q b v' := fun g hg => by
  rcases hn with e | e
  · exact h g (e ▸ hg)
  · rw [e] at hg; injection hg with hg; exact .inr (by omega)
/-- A row elsewhere stays while one is written that lies in q or behind b. -/
theorem Law.Row.apart {w w' : World} {A : Option Addr} {v : Value} {q lo b : Nat} {xs : List Value} (h : Law.Row w A xs) (hA : ∀ a, A = some a → lo ≤ a.block ∧ a.block < b) (hg : w.grownBy w' v.ownBlock) (hv : AtOr q b v) (hq : q < lo) : Law.Row w' A xs := fun hx => by
  obtain ⟨k, off, rfl, hb, hc⟩ := h hx
  have hk := hA _ rfl
  refine ⟨k, off, rfl, Nat.lt_of_lt_of_le hb hg.size, fun j u hu => ?_⟩
  exact (World.cell?_of_block (a := ⟨k, off + j, none⟩) (hg.block k hb (fun e => by
    rcases hv k e.symm with h' | h'
    · have := hk.1; simp only [] at this; omega
    · have := hk.2; simp only [] at this; omega))).trans (hc j u hu)
end Go.Proofs.Ytammlkaclooohaa

/- Two rows of a call's own that lie in different blocks. -/
namespace Go.Proofs.Ytammlkaclooohaa
open Go.RowKit
set_option linter.unusedVariables false
/-- Two rows of a call's own lie in different blocks. -/
def Apart (s v : Value) : Prop := ∀ b, s.ownBlock = some b → v.ownBlock ≠ some b
theorem Apart.new {w w' : World} {base n m e e' s s' : Nat} {x v : Value} {xs ys : List Value} (hx : w'.ownsRow w.heap.size e s x n xs) (hv : w.ownsRow base e' s' v m ys) : Apart x v := fun b hb hvb => by
  have h1 := (hx.lt b hb).1
  have h2 := (hv.lt b hvb).2
  omega
theorem Apart.next {w : World} {base n e s : Nat} {x v v' : Value} {xs : List Value} (h : Apart x v) (ha : atOrNew v w v') (hx : w.ownsRow base e s x n xs) : Apart x v' := fun b hb hvb => by
  rcases ha with e | e
  · exact h b hb (e ▸ hvb)
  · rw [e] at hvb
    injection hvb with hvb
    have := (hx.lt b hb).2
    omega
theorem Apart.kept {w w' : World} {base n e s : Nat} {x v : Value} {xs : List Value} (h : Apart x v) (hx : w.ownsRow base e s x n xs) (hg : w.grownBy w' v.ownBlock) : w'.ownsRow base e s x n xs := hx.kept hg (by
  cases hb : x.ownBlock with
  | none => exact .inl rfl
  | some b => exact .inr (fun e => h b hb e.symm))
end Go.Proofs.Ytammlkaclooohaa
