/-
  'append' of a whole row of ints onto a row of the call's own, the source empty or not: at a plain operation and at a step of a region that draws its order. Cuts of a row.
-/
import Derived.Test.YtammlkaclooohaaOwn
import Derived.Deep.AppendLies
namespace Go.Proofs.Ytammlkaclooohaa
open Go.RowKit
set_option linter.unusedVariables false
section
variable {P : Program} {w : World}
theorem run_app {base : Nat} {t ty e : TypeId} {i : TypeInfo} (ht : P.underlying t = some (.slice e)) (hi : P.info? e = some i) (hz : i.zero = some (.int .i64 0)) (h1 : i.size = 1) (h8 : i.bytes = 8)
    {v : Value} {n : Nat} {zs : List Int} (hown : w.ownsRow base e 1 v n (ivs zs)) {A : Option Addr} {m c : Nat} {ns : List Int} (hm : ns.length = m) (hr : Law.Row w A (ivs ns)) (hbase : base ≤ w.heap.size) (hsmall : n + m ≤ 1048576) :
    ∃ v' w', (Builtin.append_ #[t, t] ty #[v, .slice A m c]).run P w = .ok v' w' ∧ w'.ownsRow base e 1 v' (n + m) (ivs (zs ++ ns)) ∧ w.grownBy w' v.ownBlock := by
  rcases A with _ | ad
  · have h0 : ns = [] := by
      rcases Classical.em (ns = []) with h | h
      · exact h
      · obtain ⟨b, off, e, _⟩ := hr (by simpa [ivs] using h)
        cases e
    subst h0
    obtain rfl : m = 0 := hm.symm
    refine ⟨v, w, ?_, by simpa using hown, ⟨rfl, rfl, rfl, Nat.le_refl _, fun _ _ _ => rfl⟩⟩
    rcases hown.2 with ⟨rfl, rfl⟩ | ⟨g, cap, cur, rfl, _, _, hnc, _⟩
    · simp [Builtin.append_, run_underlying ht, sizeOf, typeInfo, hi, Builtin.lenOf, Builtin.firstCells]
    · simp [Builtin.append_, run_underlying ht, sizeOf, typeInfo, hi, Builtin.lenOf, Builtin.firstCells, hnc, storeCells]
  · have hnews : ∀ j u, (ivs ns)[j]? = some u → w.cell? (ad.add j) = some u := fun j u hu => by
      obtain ⟨b, off, e, _, hc⟩ := hr (fun h => by rw [h] at hu; simp at hu)
      injection e with e
      subst e
      rw [Law.add_plain]
      exact hc j u hu
    obtain ⟨v', w', hrun, ho, hg, _⟩ := run_append_own w base t ty e i (.int .i64 0) 1 8 ht hi hz h1 h8 rfl (by decide) v n (ivs zs) hown ad m c (ivs ns) (by simp [ivs, hm]) hnews
      (fun u hu => by obtain ⟨x, _, rfl⟩ := List.mem_map.1 hu; rfl) (by unfold maxLen; omega) (by omega) hbase
    exact ⟨v', w', hrun, by rw [show ivs (zs ++ ns) = ivs zs ++ ivs ns from by simp [ivs]]; exact ho, hg⟩
theorem wp_app {o : Oper} {a : Act} {K : Act → World → Prop} {Q : Exit → Act → World → Prop} (s x : Operand) (t : TypeId)
    (ho : o.op = .call { callee := .builtin .append, args := #[s, x], argTypes := #[t, t] })
    {base : Nat} {e : TypeId} {i : TypeInfo} (ht : P.underlying t = some (.slice e)) (hi : P.info? e = some i) (hz : i.zero = some (.int .i64 0)) (h1 : i.size = 1) (h8 : i.bytes = 8)
    {v : Value} {n : Nat} {zs : List Int} (hs : a.eval s = v) (hown : w.ownsRow base e 1 v n (ivs zs)) {A : Option Addr} {m c : Nat} {ns : List Int} (hx : a.eval x = .slice A m c) (hm : ns.length = m) (hr : Law.Row w A (ivs ns)) (hbase : base ≤ w.heap.size) (hsmall : n + m ≤ 1048576)
    (h : ∀ v' w', w'.ownsRow base e 1 v' (n + m) (ivs (zs ++ ns)) → w.grownBy w' v.ownBlock → K (a.put o.dst v') w') : o.wp P a w K Q := by
  obtain ⟨v', w', hrun, h2, h3⟩ := run_app (P := P) (ty := o.type) (c := c) ht hi hz h1 h8 hown hm hr hbase hsmall
  unfold Oper.wp execOp
  simp only [ho, resolve, invoke, builtin, Sem.run_bind, Sem.run_pure, Result.andThen_ok, List.map_toArray, List.map_cons, List.map_nil, hs, hx, hrun]
  exact h v' w' h2 h3
theorem list_app {ops : Array Oper} {rest : List Oper} {o : Oper} {a : Act} {Q : Exit → Act → World → Prop} (hgd : o.guard = none) (s x : Operand) (t : TypeId)
    (ho : o.op = .call { callee := .builtin .append, args := #[s, x], argTypes := #[t, t] })
    {base : Nat} {e : TypeId} {i : TypeInfo} (ht : P.underlying t = some (.slice e)) (hi : P.info? e = some i) (hz : i.zero = some (.int .i64 0)) (h1 : i.size = 1) (h8 : i.bytes = 8)
    {v : Value} {n : Nat} {zs : List Int} (hs : a.eval s = v) (hown : w.ownsRow base e 1 v n (ivs zs)) {A : Option Addr} {m c : Nat} {ns : List Int} (hx : a.eval x = .slice A m c) (hm : ns.length = m) (hr : Law.Row w A (ivs ns)) (hbase : base ≤ w.heap.size) (hsmall : n + m ≤ 1048576)
    (h : ∀ v' w', w'.ownsRow base e 1 v' (n + m) (ivs (zs ++ ns)) → w.grownBy w' v.ownBlock → wpList P ops Q rest (a.put o.dst v') w') : wpList P ops Q (o :: rest) a w :=
  wpList_plain hgd fun _ hK => wp_app s x t ho ht hi hz h1 h8 hs hown hx hm hr hbase hsmall fun v' w' h2 h3 => hK _ _ (h v' w' h2 h3)
theorem step_app {ops : Array Oper} {o : Oper} {a : Act} {K : Act → World → Prop} {Q : Exit → Act → World → Prop} {E : Prop} (hgd : o.guard = none) (s x : Operand) (t : TypeId)
    (ho : o.op = .call { callee := .builtin .append, args := #[s, x], argTypes := #[t, t] })
    {base : Nat} {e : TypeId} {i : TypeInfo} (ht : P.underlying t = some (.slice e)) (hi : P.info? e = some i) (hz : i.zero = some (.int .i64 0)) (h1 : i.size = 1) (h8 : i.bytes = 8)
    {v : Value} {n : Nat} {zs : List Int} (hs : a.eval s = v) (hown : w.ownsRow base e 1 v n (ivs zs)) {A : Option Addr} {m c : Nat} {ns : List Int} (hx : a.eval x = .slice A m c) (hm : ns.length = m) (hr : Law.Row w A (ivs ns)) (hbase : base ≤ w.heap.size) (hsmall : n + m ≤ 1048576)
    (h : ∀ v' w', w'.ownsRow base e 1 v' (n + m) (ivs (zs ++ ns)) → w.grownBy w' v.ownBlock → K (a.put o.dst v') w') :
    if Region.wanted o (yielded ops a.tmps) = true then Oper.wp P o a w K Q else E := by
  rw [if_pos (by simp [Region.wanted, hgd])]
  exact wp_app s x t ho ht hi hz h1 h8 hs hown hx hm hr hbase hsmall h
end
/-- A cut from place k on: where k is the capacity the address stays. -/
theorem row_drop {w : World} {A : Option Addr} {zs : List Int} (h : Law.Row w A (ivs zs)) (k c : Nat) (hc : zs.length ≤ c) : Law.Row w (if c = k then A else A.map (·.add k)) (ivs (zs.drop k)) := fun hx => by
  have hne : zs.drop k ≠ [] := fun e => hx (by rw [e]; rfl)
  have hk : k < zs.length := by
    rcases Nat.lt_or_ge k zs.length with h | h
    · exact h
    · exact absurd (List.drop_of_length_le h) hne
  obtain ⟨b, off, rfl, hb, hcell⟩ := h (fun e => by
    have h0 : zs = [] := (by simpa [ivs] using e)
    rw [h0] at hk
    simp at hk)
  refine ⟨b, off + k, by rw [if_neg (by omega)]; simp [Law.add_plain], hb, fun j u hu => ?_⟩
  rw [show off + k + j = off + (k + j) by omega]
  refine hcell _ u ?_
  rw [← hu]
  simp [ivs, List.getElem?_drop]
theorem row_take {w : World} {A : Option Addr} {zs : List Int} (h : Law.Row w A (ivs zs)) (k : Nat) : Law.Row w A (ivs (zs.take k)) := fun hx => by
  have hz : ivs zs ≠ [] := fun e => hx (by have : zs = [] := by simpa [ivs] using e
                                           simp [this])
  obtain ⟨b, off, rfl, hb, hcell⟩ := h hz
  refine ⟨b, off, rfl, hb, fun j u hu => hcell j u ?_⟩
  simp only [ivs, List.map_take] at hu
  rw [List.getElem?_take] at hu
  split at hu
  · exact hu
  · cases hu
end Go.Proofs.Ytammlkaclooohaa
