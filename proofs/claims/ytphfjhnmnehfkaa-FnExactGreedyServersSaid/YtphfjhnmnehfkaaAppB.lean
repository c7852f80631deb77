/-
  'append' of one int onto a row of the call's own: the row stays in its block or goes to a new one.
-/
import Derived.Test.YtphfjhnmnehfkaaRowW
import Derived.Test.YtphfjhnmnehfkaaOwn
namespace Go.Proofs.Ytphfjhnmnehfkaa
open Go.RowKit
set_option linter.unusedVariables false
section
variable {P : Program} {w : World}
/-- Where the row lies. -/
def atOrNew (v : Value) (w : World) (v' : Value) : Prop := v'.ownBlock = v.ownBlock ∨ v'.ownBlock = some w.heap.size
theorem run_app1 {base : Nat} {t ty e : TypeId} {i : TypeInfo} (ht : P.underlying t = some (.slice e)) (hi : P.info? e = some i) (hz : i.zero = some (.int .i64 0)) (h1 : i.size = 1) (h8 : i.bytes = 8)
    {v : Value} {n : Nat} {xs : List Value} (hown : w.ownsRow base e 1 v n xs) {a : Addr} {c : Nat} {x : Int} (hx : w.cell? a = some (.int .i64 x)) (hn : n ≤ 1000000) (hbase : base ≤ w.heap.size) :
    ∃ v' w', (Builtin.append_ #[t, t] ty #[v, .slice (some a) 1 c]).run P w = .ok v' w' ∧ w'.ownsRow base e 1 v' (n + 1) (xs ++ [.int .i64 x]) ∧ w.grownBy w' v.ownBlock ∧ atOrNew v w v' := by
  have hnews : ∀ j u, [Value.int .i64 x][j]? = some u → w.cell? (a.add j) = some u := fun j u hj => by
    match j, hj with
    | 0, hj => simp at hj; subst hj; simpa [Addr.add] using hx
  have hone : ∀ u ∈ [Value.int .i64 x], u.oneCell' = true := fun u hu => by simp at hu; subst hu; rfl
  obtain ⟨v', w', hrun, h2, h3, _⟩ := run_append_own w base t ty e i (.int .i64 0) 1 8 ht hi hz h1 h8 rfl (by decide) v n xs hown a 1 c [.int .i64 x] rfl hnews hone (by unfold maxLen; omega) (by omega) hbase
  refine ⟨v', w', hrun, h2, h3, ?_⟩
  rcases hown.2 with ⟨rfl, rfl⟩ | ⟨g, cap, cur, rfl, hbg, hg, hnc, hcm, hcs, htake⟩
  · have hr := run_append_nil (P := P) w t ty e i (.int .i64 0) ht hi hz a 1 c [.int .i64 x] (by rw [h1]; rfl) hnews (by omega) (by omega) (by rw [h8]; omega)
    rw [hr] at hrun
    injection hrun with e1 _
    exact .inr (by rw [← e1]; rfl)
  · by_cases hroom : n + 1 ≤ cap
    · have hr := run_append_room (P := P) w t ty e i ht hi g n cap cur hg a 1 c [.int .i64 x] (by rw [h1]; rfl) hnews hone hroom (by rw [h1]; simp; omega)
      rw [hr] at hrun
      injection hrun with e1 _
      exact .inl (by rw [← e1]; rfl)
    · have holds : ∀ j u, xs[j]? = some u → w.cell? ((⟨g, 0, none⟩ : Addr).add j) = some u := hown.cells (g := g) rfl
      have hr := run_append_grow (P := P) w t ty e i (.int .i64 0) ht hi hz ⟨g, 0, none⟩ n cap xs (by rw [h1]; exact hown.1) holds a 1 c [.int .i64 x] (by rw [h1]; rfl) hnews (by omega) (by omega) (growslice_fits (by omega) (by rw [h8]; omega))
      rw [hr] at hrun
      injection hrun with e1 _
      exact .inr (by rw [← e1]; rfl)
theorem list_app1 {ops : Array Oper} {rest : List Oper} {o : Oper} {a : Act} {Q : Exit → Act → World → Prop} (hgd : o.guard = none) (s x : Operand) (t : TypeId)
    (ho : o.op = .call { callee := .builtin .append, args := #[s, x], argTypes := #[t, t] })
    {base : Nat} {e : TypeId} {i : TypeInfo} (ht : P.underlying t = some (.slice e)) (hi : P.info? e = some i) (hz : i.zero = some (.int .i64 0)) (h1 : i.size = 1) (h8 : i.bytes = 8)
    {v : Value} {n : Nat} {xs : List Value} (hs : a.eval s = v) (hown : w.ownsRow base e 1 v n xs) {ad : Addr} {c : Nat} {z : Int} (hx : a.eval x = .slice (some ad) 1 c) (hc : w.cell? ad = some (.int .i64 z)) (hn : n ≤ 1000000) (hbase : base ≤ w.heap.size)
    (h : ∀ v' w', w'.ownsRow base e 1 v' (n + 1) (xs ++ [.int .i64 z]) → w.grownBy w' v.ownBlock → atOrNew v w v' → wpList P ops Q rest (a.put o.dst v') w') : wpList P ops Q (o :: rest) a w := by
  refine wpList_plain hgd fun _ hK => ?_
  obtain ⟨v', w', hrun, h2, h3, h4⟩ := run_app1 (P := P) (ty := o.type) (c := c) ht hi hz h1 h8 hown hc hn hbase
  unfold Oper.wp execOp
  simp only [ho, resolve, invoke, builtin, Sem.run_bind, Sem.run_pure, Result.andThen_ok, List.map_toArray, List.map_cons, List.map_nil, hs, hx, hrun]
  exact hK _ _ (h v' w' h2 h3 h4)
end
/-- A row lies in block q alone, or at and behind block b. -/
def AtOr (q b : Nat) (v : Value) : Prop := ∀ g, v.ownBlock = some g → g = q ∨ b ≤ g
theorem AtOr.next {q b : Nat} {v v' : Value} {w : World} (h : AtOr q b v) (hn : atOrNew v w v') (hb : b ≤ w.heap.size) : AtOr q b v' := fun g hg => by
  rcases hn with e | e
  · exact h g (e ▸ hg)
  · rw [e] at hg; injection hg with hg; exact .inr (by omega)
/-- A row elsewhere stays while one is written that lies in q or behind b. -/
theorem Law.Row.apart {w w' : World} {A : Option Addr} {v : Value} {q lo b : Nat} {xs : List Value} (h : Law.Row w A xs) (hA : ∀ a, A = some a → lo ≤ a.block ∧ a.block < b) (hg : w.grownBy w' v.ownBlock) (hv : AtOr q b v) (hq : q < lo) : Law.Row w' A xs := fun hx => by
  obtain ⟨k, off, rfl, hb, hc⟩ := h hx
  have hk := hA _ rfl
  refine ⟨k, off, rfl, Nat.lt_of_lt_of_le hb hg.size, fun j u hu => ?_⟩
  exact (World.cell?_of_block (a := ⟨k, off + j, none⟩) (hg.block k hb (fun e => by
    rcases hv k e.symm with h' | h'
    · have := hk.1; simp only [] at this; omega
    · have := hk.2; simp only [] at this; omega))).trans (hc j u hu)
end Go.Proofs.Ytphfjhnmnehfkaa
