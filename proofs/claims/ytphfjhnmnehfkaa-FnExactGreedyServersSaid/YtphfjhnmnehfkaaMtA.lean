/-
  'append' of one int onto a row of the call's own whose old value goes on being read: the old row stays as it was, also behind a call that may write behind the new one.
-/
import Derived.Test.YtphfjhnmnehfkaaApp
import Derived.Test.YtphfjhnmnehfkaaAppB
import Derived.Test.YtphfjhnmnehfkaaApt
import Derived.Test.YtphfjhnmnehfkaaMet
namespace Go.Proofs.Ytphfjhnmnehfkaa
open Go.RowKit
set_option linter.unusedVariables false
section
variable {P : Program} {w : World}
theorem run_app2 {base : Nat} {t ty e : TypeId} {i : TypeInfo} (ht : P.underlying t = some (.slice e)) (hi : P.info? e = some i) (hz : i.zero = some (.int .i64 0)) (h1 : i.size = 1) (h8 : i.bytes = 8)
    {v : Value} {n : Nat} {xs : List Value} (hown : w.ownsRow base e 1 v n xs) {a : Addr} {c : Nat} {x : Int} (hx : w.cell? a = some (.int .i64 x)) (hn : n ≤ 1000000) (hbase : base ≤ w.heap.size) :
    ∃ v' w', (Builtin.append_ #[t, t] ty #[v, .slice (some a) 1 c]).run P w = .ok v' w' ∧ w'.ownsRow base e 1 v' (n + 1) (xs ++ [.int .i64 x]) ∧ w.grownBy w' v.ownBlock ∧ atOrNew v w v' ∧ w'.ownsRow base e 1 v n xs := by
  have hnews : ∀ j u, [Value.int .i64 x][j]? = some u → w.cell? (a.add j) = some u := fun j u hj => by
    match j, hj with
    | 0, hj => simp at hj; subst hj; simpa [Addr.add] using hx
  have hone : ∀ u ∈ [Value.int .i64 x], u.oneCell' = true := fun u hu => by simp at hu; subst hu; rfl
  obtain ⟨v', w', hrun, h2, h3, h4⟩ := run_app1 (P := P) (ty := ty) (c := c) ht hi hz h1 h8 hown hx hn hbase
  refine ⟨v', w', hrun, h2, h3, h4, ?_⟩
  rcases hown.2 with ⟨rfl, rfl⟩ | ⟨g, cap, cur, rfl, hbg, hg, hnc, hcm, hcs, htake⟩
  · have hx0 : xs = [] := List.eq_nil_of_length_eq_zero (by simpa using hown.1)
    subst hx0
    exact World.ownsRow_nil _ _ _ _
  · by_cases hroom : n + 1 ≤ cap
    · have hr := run_append_room (P := P) w t ty e i ht hi g n cap cur hg a 1 c [.int .i64 x] (by rw [h1]; rfl) hnews hone hroom (by rw [h1]; simp; omega)
      rw [hr] at hrun
      injection hrun with e1 e2
      subst e1
      rcases h2.2 with ⟨h, _⟩ | ⟨g', cap', cur', e3, hbg', hg', hnc', hcm', hcs', htake'⟩
      · cases h
      · injection e3 with e3 e4 e5
        injection e3 with e3
        injection e3 with e3
        subst e3 e5
        refine ⟨hown.1, .inr ⟨g, cap, cur', rfl, hbg, hg', hnc, hcm, hcs', ?_⟩⟩
        have hl : xs.length = n := by simpa using hown.1
        have := congrArg (List.take n) htake'
        rw [List.take_take] at this
        simp only [Nat.mul_one] at this ⊢
        rw [Nat.min_eq_left (by omega)] at this
        rw [this, ← hl, List.take_left]
    · have holds : ∀ j u, xs[j]? = some u → w.cell? ((⟨g, 0, none⟩ : Addr).add j) = some u := hown.cells (g := g) rfl
      have hr := run_append_grow (P := P) w t ty e i (.int .i64 0) ht hi hz ⟨g, 0, none⟩ n cap xs (by rw [h1]; exact hown.1) holds a 1 c [.int .i64 x] (by rw [h1]; rfl) hnews (by omega) (by omega) (growslice_fits (by omega) (by rw [h8]; omega))
      rw [hr] at hrun
      injection hrun with e1 e2
      rw [← e2]
      have hd : w.drew.ownsRow base e 1 (.slice (some ⟨g, 0, none⟩) n cap) n xs := hown
      exact hd.alloc _
theorem wp_app2 {o : Oper} {a : Act} {K : Act → World → Prop} {Q : Exit → Act → World → Prop} (s x : Operand) (t : TypeId)
    (ho : o.op = .call { callee := .builtin .append, args := #[s, x], argTypes := #[t, t] })
    {base : Nat} {e : TypeId} {i : TypeInfo} (ht : P.underlying t = some (.slice e)) (hi : P.info? e = some i) (hz : i.zero = some (.int .i64 0)) (h1 : i.size = 1) (h8 : i.bytes = 8)
    {v : Value} {n : Nat} {xs : List Value} (hs : a.eval s = v) (hown : w.ownsRow base e 1 v n xs) {ad : Addr} {c : Nat} {z : Int} (hx : a.eval x = .slice (some ad) 1 c) (hc : w.cell? ad = some (.int .i64 z)) (hn : n ≤ 1000000) (hbase : base ≤ w.heap.size)
    (h : ∀ v' w', w'.ownsRow base e 1 v' (n + 1) (xs ++ [.int .i64 z]) → w.grownBy w' v.ownBlock → atOrNew v w v' → w'.ownsRow base e 1 v n xs → K (a.put o.dst v') w') : o.wp P a w K Q := by
  obtain ⟨v', w', hrun, h2, h3, h4, h5⟩ := run_app2 (P := P) (ty := o.type) (c := c) ht hi hz h1 h8 hown hc hn hbase
  unfold Oper.wp execOp
  simp only [ho, resolve, invoke, builtin, Sem.run_bind, Sem.run_pure, Result.andThen_ok, List.map_toArray, List.map_cons, List.map_nil, hs, hx, hrun]
  exact h v' w' h2 h3 h4 h5
theorem step_app2 {ops : Array Oper} {o : Oper} {a : Act} {K : Act → World → Prop} {Q : Exit → Act → World → Prop} {E : Prop} (hgd : o.guard = none) (s x : Operand) (t : TypeId)
    (ho : o.op = .call { callee := .builtin .append, args := #[s, x], argTypes := #[t, t] })
    {base : Nat} {e : TypeId} {i : TypeInfo} (ht : P.underlying t = some (.slice e)) (hi : P.info? e = some i) (hz : i.zero = some (.int .i64 0)) (h1 : i.size = 1) (h8 : i.bytes = 8)
    {v : Value} {n : Nat} {xs : List Value} (hs : a.eval s = v) (hown : w.ownsRow base e 1 v n xs) {ad : Addr} {c : Nat} {z : Int} (hx : a.eval x = .slice (some ad) 1 c) (hc : w.cell? ad = some (.int .i64 z)) (hn : n ≤ 1000000) (hbase : base ≤ w.heap.size)
    (h : ∀ v' w', w'.ownsRow base e 1 v' (n + 1) (xs ++ [.int .i64 z]) → w.grownBy w' v.ownBlock → atOrNew v w v' → w'.ownsRow base e 1 v n xs → K (a.put o.dst v') w') :
    if Region.wanted o (yielded ops a.tmps) = true then Oper.wp P o a w K Q else E := by
  rw [if_pos (by simp [Region.wanted, hgd])]
  exact wp_app2 s x t ho ht hi hz h1 h8 hs hown hx hc hn hbase h
end
/-- Behind a call that kept the longer row and wrote into its block alone, the shorter one stays. -/
theorem own_back {w w' : World} {base base' e : Nat} {v v' : Value} {n : Nat} {xs : List Value} {u : Value} (h1 : w.ownsRow base e 1 v n xs) (h2 : w.ownsRow base' e 1 v' (n + 1) (xs ++ [u])) (h3 : w'.ownsRow base' e 1 v' (n + 1) (xs ++ [u])) (hg : w.grownBy w' v'.ownBlock) : w'.ownsRow base e 1 v n xs := by
  by_cases hb : v.ownBlock = v'.ownBlock
  · rcases h1.2 with ⟨rfl, rfl⟩ | ⟨g, cap, cur, rfl, hbg, hgg, hnc, hcm, hcs, htake⟩
    · have hx0 : xs = [] := List.eq_nil_of_length_eq_zero (by simpa using h1.1)
      subst hx0
      exact World.ownsRow_nil _ _ _ _
    · rcases h2.2 with ⟨_, h⟩ | ⟨g', cap', cur', rfl, hbg', hg', hnc', hcm', hcs', htake'⟩
      · omega
      · have eg : g = g' := by simpa [Value.ownBlock] using hb
        subst eg
        rw [hgg] at hg'
        injection hg' with hg'
        injection hg' with hg' _ _
        subst hg'
        have hcc : cap = cap' := by omega
        subst hcc
        rcases h3.2 with ⟨h, _⟩ | ⟨g3, cap3, cur3, e3, hbg3, hg3, hnc3, hcm3, hcs3, htake3⟩
        · cases h
        · injection e3 with e3 e4 e5
          injection e3 with e3
          injection e3 with e3
          subst e3 e5
          refine ⟨h1.1, .inr ⟨g, cap, cur3, rfl, hbg, hg3, hnc, hcm, hcs3, ?_⟩⟩
          have hl : xs.length = n := by simpa using h1.1
          have := congrArg (List.take n) htake3
          rw [List.take_take] at this
          simp only [Nat.mul_one] at this ⊢
          rw [Nat.min_eq_left (by omega)] at this
          rw [this, ← hl, List.take_left]
  · exact h1.kept hg (.inr hb)
theorem grownBy_trans {a b c : World} {r : Option Nat} {r' : Option Nat} (h : a.grownBy b r) (k : b.grownBy c r') (hr : r' = r ∨ ∀ g, r' = some g → a.heap.size ≤ g) : a.grownBy c r :=
  ⟨k.os.trans h.os, k.tape.trans h.tape, k.output.trans h.output, Nat.le_trans h.size k.size, fun i hi hne => by
    rw [k.block i (Nat.lt_of_lt_of_le hi h.size) (fun e => by
      rcases hr with hr | hr
      · exact hne (e.trans hr)
      · have := hr i e.symm; omega)]
    exact h.block i hi hne⟩
theorem grownBy_refl (a : World) (r : Option Nat) : a.grownBy a r := ⟨rfl, rfl, rfl, Nat.le_refl _, fun _ _ _ => rfl⟩
theorem grownBy_of {w w' : World} (h : Below w.heap.size w w') (r : Option Nat) : w.grownBy w' r := ⟨h.os, h.tape, h.output, h.size, fun i hi _ => h.block i hi⟩
theorem Bk1.grown {w w' : World} {b : Nat} {x : Value} {r : Option Nat} (h : Bk1 w b x) (hg : w.grownBy w' r) (hr : r ≠ some b) : Bk1 w' b x := by
  have hb := hg.block b h.lt (fun e => hr e.symm)
  exact ⟨(World.cell?_of_block (a := ⟨b, 0, none⟩) hb).trans h.c0, (World.frozen?_of_block (a := ⟨b, 0, none⟩) hb).trans h.f0, Nat.lt_of_lt_of_le h.lt hg.size⟩
end Go.Proofs.Ytphfjhnmnehfkaa
