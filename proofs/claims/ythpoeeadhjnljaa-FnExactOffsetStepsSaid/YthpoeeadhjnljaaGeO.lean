/-
  graphFrom at one of its instances (O): what holds while a graph is made.
-/
import Derived.Test.YthpoeeadhjnljaaGx
import Derived.Deep.AppendLies
namespace Go.Proofs.Ythpoeeadhjnljaa
open Go.RowKit
set_option linter.unusedVariables false
/-- What a call has made: the nodes, the next ones, what is told of the steps. -/
structure GOutO (b : Nat) (w : World) (nv xv sv : Value) (xsx xss : List Value) (ns : List (List Int)) (nx : List (List Nat)) (ss : List (List (Int))) : Prop where
  no : w.ownsRow b 98 5 nv ns.length (cvs csO ns)
  xo : w.ownsRow b 35 1 xv nx.length xsx
  xn : NG 3 1 csI w b xsx nx
  so : w.ownsRow b 35 1 sv ss.length xss
  sn : NG 3 1 csZ w b xss ss
  ap : xv.ownBlock = none ∨ xv.ownBlock ≠ sv.ownBlock
  cr : ∀ (i j : Nat) (x y : Value) (k : Nat), xsx[i]? = some x → xss[j]? = some y → x.ownBlock = some k → y.ownBlock ≠ some k
/-- A block that is no cells is turned. -/
theorem GOutO.put {b : Nat} {w : World} {nv xv sv : Value} {xsx xss : List Value} {ns : List (List Int)} {nx : List (List Nat)} {ss : List (List (Int))} (h : GOutO b w nv xv sv xsx xss ns nx ss) {r : Nat} (hr : w.heap[r]? = some (.deferred (some []))) (o : Obj) : GOutO b (w.putObj r o) nv xv sv xsx xss ns nx ss := by
  have hk : ∀ (e : TypeId) (k : Nat) (c : Array Value), w.heap[k]? = some (.cells c e (0, 0)) → (w.putObj r o).heap[k]? = some (.cells c e (0, 0)) := fun e k c hc =>
    ((grownBy_putObj' w r o).block k (Array.getElem?_eq_some_iff.1 hc).1 (fun e2 => by
      injection e2 with e2
      subst e2
      rw [hr] at hc
      cases hc)).trans hc
  exact ⟨own_same h.no (hk _), own_same h.xo (hk _), h.xn.same (hk _), own_same h.so (hk _), h.sn.same (hk _), h.ap, h.cr⟩
theorem GOutO.set {b : Nat} {w : World} {nv xv sv : Value} {xsx xss : List Value} {ns : List (List Int)} {nx : List (List Nat)} {ss : List (List (Int))} (h : GOutO b w nv xv sv xsx xss ns nx ss) {k : Nat} {c : Array Value} (hk : Hb w k c 93) (i : Nat) (v : Value) : GOutO b (w.setCell ⟨k, i, none⟩ v) nv xv sv xsx xss ns nx ss := by
  have hs : ∀ (e : TypeId), e ≠ 93 → ∀ (q : Nat) (a : Array Value), w.heap[q]? = some (.cells a e (0, 0)) → (w.setCell ⟨k, i, none⟩ v).heap[q]? = some (.cells a e (0, 0)) := fun e he q a hq =>
    (Below.heap_setCell w ⟨k, i, none⟩ v q (fun e2 => by
      have e2 : q = k := e2
      subst e2
      rw [show w.heap[q]? = _ from hk] at hq
      injection hq with hq
      injection hq with _ h2 _
      exact he h2.symm)).trans hq
  exact ⟨own_same h.no (hs _ (by decide)), own_same h.xo (hs _ (by decide)), h.xn.same (hs _ (by decide)), own_same h.so (hs _ (by decide)), h.sn.same (hs _ (by decide)), h.ap, h.cr⟩
/-- Between two rounds. -/
structure GIO (n : Nat) (w0 : World) (b6 b8 b9 mb : Nat) (An : Option Addr) (cn : Nat) (Ax : Option Addr) (cx : Nat) (As : Option Addr) (cz : Nat) (xsx xss : List Value) (rs : List Nat) (ns : List (List Int)) (nx : List (List Nat)) (ss : List (List (Int))) (w : World) : Prop where
  out : GOutO w0.heap.size w (.slice An ns.length cn) (.slice Ax nx.length cx) (.slice As ss.length cz) xsx xss ns nx ss
  g6 : Hb w b6 nil3 93
  g8 : Hb w b8 #[.slice An ns.length cn, .slice Ax nx.length cx, .slice As ss.length cz] 93
  g9 : Hb w b9 #[.map (some mb)] 133
  hm : MapN 98 kvO (Q.OkO n) w mb ns
  ms : Marks w0.heap.size w rs
  bl : Below w0.heap.size w0 w
  l6 : w0.heap.size ≤ b6
  l8 : w0.heap.size ≤ b8 ∧ b6 ≠ b8
  l9 : w0.heap.size ≤ b9
  lm : w0.heap.size ≤ mb
theorem GIO.on {n : Nat} {w0 : World} {b6 b8 b9 mb : Nat} {An : Option Addr} {cn : Nat} {Ax : Option Addr} {cx : Nat} {As : Option Addr} {cz : Nat} {xsx xss : List Value} {rs : List Nat} {ns : List (List Int)} {nx : List (List Nat)} {ss : List (List (Int))} {w w' : World} (h : GIO n w0 b6 b8 b9 mb An cn Ax cx As cz xsx xss rs ns nx ss w) (hb : Below w.heap.size w w') : GIO n w0 b6 b8 b9 mb An cn Ax cx As cz xsx xss rs ns nx ss w' :=
  ⟨⟨own_past h.out.no hb, own_past h.out.xo hb, h.out.xn.on hb, own_past h.out.so hb, h.out.sn.on hb, h.out.ap, h.out.cr⟩, h.g6.on hb, h.g8.on hb, h.g9.on hb, h.hm.on hb, h.ms.on hb, h.bl.trans (hb.mono h.bl.size), h.l6, h.l8, h.l9, h.lm⟩
/-- In a round, around its two rows. -/
structure CIO (n : Nat) (w0 W1 W2 : World) (B b6 b8 mb : Nat) (Ax : Option Addr) (nx cx : Nat) (As : Option Addr) (nz cz : Nat) (ns : List (List Int)) (w : World) : Prop where
  fr : Frm 93 98 W1 w
  g6 : Hb w b6 nil3 93
  g8 : ∃ An cn, Hb w b8 #[.slice An ns.length cn, .slice Ax nx cx, .slice As nz cz] 93 ∧ w.ownsRow w0.heap.size 98 5 (.slice An ns.length cn) ns.length (cvs csO ns) ∧ (Value.slice An ns.length cn).ownBlock ≠ some B
  hm : MapN 98 kvO (Q.OkO n) w mb ns
  hB : w.heap[B]? = W2.heap[B]?
  bl : Below w0.heap.size w0 w
  l6 : w0.heap.size ≤ b6 ∧ b6 < W1.heap.size
  l8 : w0.heap.size ≤ b8 ∧ b8 < W1.heap.size ∧ b6 ≠ b8
  lm : w0.heap.size ≤ mb ∧ mb < W1.heap.size
  lB : W1.heap.size ≤ B ∧ B < w.heap.size
  l0 : w0.heap.size ≤ W1.heap.size
section
variable {n : Nat} {w0 W1 W2 w w' : World} {B b6 b8 mb : Nat} {Ax : Option Addr} {nx cx : Nat} {As : Option Addr} {nz cz : Nat} {ns : List (List Int)}
theorem CIO.grown (h : CIO n w0 W1 W2 B b6 b8 mb Ax nx cx As nz cz ns w) {row : Option Nat} (hg : w.grownBy w' row) (hr : ∀ k, row = some k → W1.heap.size ≤ k ∧ k ≠ B ∧ ∀ c, w.heap[k]? ≠ some (.cells c 98 (0, 0))) : CIO n w0 W1 W2 B b6 b8 mb Ax nx cx As nz cz ns w' := by
  have hne : ∀ k, k < W1.heap.size → row ≠ some k := fun k hk e => by have := (hr k e).1; omega
  obtain ⟨An, cn, h1, h2, h3⟩ := h.g8
  refine ⟨h.fr.grown hg fun k o e _ hk => (hne k hk e).elim, h.g6.grown hg (hne _ h.l6.2), ⟨An, cn, h1.grown hg (hne _ h.l8.2.1), h2.kept hg ?_, h3⟩, h.hm.kept hg (hne _ h.lm.2).symm, ?_, h.bl.grown hg h.bl.size (fun k e => by have := (hr k e).1; have := h.l0; omega), h.l6, h.l8, h.lm, ⟨h.lB.1, by have := hg.size; have := h.lB.2; omega⟩, h.l0⟩
  · rcases h2.2 with ⟨e, _⟩ | ⟨g, cap, cur, e, _, hgg, _⟩
    · rw [e]; exact .inl rfl
    · rw [e]
      refine .inr fun e2 => ?_
      simp [Value.ownBlock] at e2
      exact (hr g e2.symm).2.2 cur hgg
  · rw [hg.block B h.lB.2 (fun e => (hr B e.symm).2.1 rfl)]
    exact h.hB
theorem CIO.alloc (h : CIO n w0 W1 W2 B b6 b8 mb Ax nx cx As nz cz ns w) (o : Obj) : CIO n w0 W1 W2 B b6 b8 mb Ax nx cx As nz cz ns (w.alloc o) := h.grown (World.grownBy_alloc w o none) fun k e => by cases e
theorem CIO.row (h : CIO n w0 W1 W2 B b6 b8 mb Ax nx cx As nz cz ns w) {e : TypeId} (he : e ≠ 98) {s m : Nat} {v : Value} {xs : List Value} (ho : w.ownsRow W1.heap.size e s v m xs) (hB : v.ownBlock ≠ some B) (hg : w.grownBy w' v.ownBlock) : CIO n w0 W1 W2 B b6 b8 mb Ax nx cx As nz cz ns w' :=
  h.grown hg fun k ek => by
    rcases ho.2 with ⟨rfl, _⟩ | ⟨g, cap, cur, rfl, hb, hgg, _⟩
    · simp [Value.ownBlock] at ek
    · simp [Value.ownBlock] at ek
      subst ek
      refine ⟨hb, fun e => hB (by rw [e]; rfl), fun c hc => ?_⟩
      rw [hgg] at hc
      injection hc with hc
      injection hc with _ h2 _
      exact he h2
theorem CIO.set (h : CIO n w0 W1 W2 B b6 b8 mb Ax nx cx As nz cz ns w) {k i : Nat} {c : Array Value} {t : TypeId} (hk : Hb w k c t) (ht : t ≠ 98) (hl : W1.heap.size ≤ k) (hB : k ≠ B) (v : Value) : CIO n w0 W1 W2 B b6 b8 mb Ax nx cx As nz cz ns (w.setCell ⟨k, i, none⟩ v) :=
  h.grown (setBy w ⟨k, i, none⟩ v) fun k' e => by
    injection e with e
    subst e
    refine ⟨hl, hB, fun c' hc => ?_⟩
    rw [show w.heap[k]? = _ from hk] at hc
    injection hc with hc
    injection hc with _ h2 _
    exact ht h2
theorem CIO.drew (h : CIO n w0 W1 W2 B b6 b8 mb Ax nx cx As nz cz ns w) : CIO n w0 W1 W2 B b6 b8 mb Ax nx cx As nz cz ns w.drew :=
  h.grown ⟨rfl, rfl, rfl, Nat.le_refl _, fun _ _ _ => rfl⟩ (row := none) fun k e => by cases e
/-- A block that is no cells is turned. -/
theorem CIO.turn (h : CIO n w0 W1 W2 B b6 b8 mb Ax nx cx As nz cz ns w) {row : Option Nat} (hg : w.grownBy w' row) (hW : W1.heap.size ≤ W2.heap.size) (hB : B < W2.heap.size) (hr : ∀ r, row = some r → W2.heap.size ≤ r ∧ ∃ o : Obj, w.heap[r]? = some o ∧ o.isCells = false) : CIO n w0 W1 W2 B b6 b8 mb Ax nx cx As nz cz ns w' :=
  h.grown hg fun k e => by
    obtain ⟨h1, o, h2, h3⟩ := hr k e
    refine ⟨by omega, by omega, fun c hc => ?_⟩
    rw [h2] at hc
    injection hc with hc
    subst hc
    cases h3
end
/-- The two rows of a round: the places of the next nodes, what is told of the steps. -/
structure R2O (W1 : World) (B b11 b12 g11 c11 g12 c12 : Nat) (idx : List Nat) (sts : List (Int)) (w : World) : Prop where
  x11 : Hb w b11 #[sl g11 idx.length c11] 35
  x12 : Hb w b12 #[sl g12 sts.length c12] 35
  r11 : w.ownsRow W1.heap.size 3 1 (sl g11 idx.length c11) idx.length (cvs csI idx)
  r12 : w.ownsRow W1.heap.size 3 1 (sl g12 sts.length c12) sts.length (cvs csZ sts)
  ap : g11 ≠ g12
  nB : g11 ≠ B ∧ g12 ≠ B
  lb : W1.heap.size ≤ b11 ∧ W1.heap.size ≤ b12 ∧ b11 ≠ b12 ∧ b11 ≠ B ∧ b12 ≠ B
theorem R2O.kept {W1 w w' : World} {B b11 b12 g11 c11 g12 c12 : Nat} {idx : List Nat} {sts : List (Int)} (h : R2O W1 B b11 b12 g11 c11 g12 c12 idx sts w) {row : Option Nat} (hg : w.grownBy w' row) (hr : ∀ k, row = some k → ∀ c t, w.heap[k]? = some (.cells c t (0, 0)) → t ≠ 3 ∧ t ≠ 3 ∧ t ≠ 35 ∧ t ≠ 35) : R2O W1 B b11 b12 g11 c11 g12 c12 idx sts w' := by
  have hs : ∀ (e : TypeId), (e = 3 ∨ e = 3 ∨ e = 35 ∨ e = 35) → ∀ (k : Nat) (c : Array Value), w.heap[k]? = some (.cells c e (0, 0)) → w'.heap[k]? = some (.cells c e (0, 0)) := fun e he k c hk => by
    refine (hg.block k (Array.getElem?_eq_some_iff.1 hk).1 fun e2 => ?_).trans hk
    obtain ⟨h1, h2, h3, h4⟩ := hr k e2.symm c e hk
    rcases he with e | e | e | e
    · exact h1 e
    · exact h2 e
    · exact h3 e
    · exact h4 e
  exact ⟨hs _ (.inr (.inr (.inl rfl))) _ _ h.x11, hs _ (.inr (.inr (.inr rfl))) _ _ h.x12, own_same h.r11 (hs _ (.inl rfl)), own_same h.r12 (hs _ (.inr (.inl rfl))), h.ap, h.nB, h.lb⟩
theorem R2O.on {W1 w w' : World} {B b11 b12 g11 c11 g12 c12 : Nat} {idx : List Nat} {sts : List (Int)} (h : R2O W1 B b11 b12 g11 c11 g12 c12 idx sts w) (hb : Below w.heap.size w w') : R2O W1 B b11 b12 g11 c11 g12 c12 idx sts w' :=
  h.kept (row := none) ⟨hb.os, hb.tape, hb.output, hb.size, fun k hk _ => hb.block k hk⟩ fun k e => by cases e
section
variable {n : Nat} {w0 W1 W2 w w1 w3 : World} {B b6 b8 mb : Nat} {Ax : Option Addr} {nx cx : Nat} {As : Option Addr} {nz cz : Nat} {ns : List (List Int)} {e : List Int} {An : Option Addr} {cn g' cap' : Nat} {c : Array Value}
/-- A new node: into the map, behind the others, and the slice into the graph. -/
theorem CIO.put (h : CIO n w0 W1 W2 B b6 b8 mb Ax nx cx As nz cz ns w) (h8 : Hb w b8 #[.slice An ns.length cn, .slice Ax nx cx, .slice As nz cz] 93) (hno : w.ownsRow w0.heap.size 98 5 (.slice An ns.length cn) ns.length (cvs csO ns)) (hnB : (Value.slice An ns.length cn).ownBlock ≠ some B)
    (hg1 : w.grownBy w1 (some mb)) (hm1 : MapN 98 kvO (Q.OkO n) w1 mb (ns ++ [e])) (hown : w3.ownsRow w0.heap.size 98 5 (sl g' (ns.length + 1) cap') (ns.length + 1) (cvs csO ns ++ csO e)) (hgr : (w1.alloc (.cells c 98)).grownBy w3 (Value.slice An ns.length cn).ownBlock)
    (hloc : (sl g' (ns.length + 1) cap').ownBlock = (Value.slice An ns.length cn).ownBlock ∨ (sl g' (ns.length + 1) cap').ownBlock = some (w1.alloc (.cells c 98)).heap.size) : CIO n w0 W1 W2 B b6 b8 mb Ax nx cx As nz cz (ns ++ [e]) (w3.setCell ⟨b8, 0, none⟩ (sl g' (ns.length + 1) cap')) := by
  have hmb : ∀ (k : Nat) (a : Array Value) (t : TypeId), Hb w k a t → some mb ≠ some k := fun k a t hk e => by injection e with e; exact h.hm.not_hb hk e
  have hBw := h.lB.2
  have hBs : B < w1.heap.size := Nat.lt_of_lt_of_le hBw hg1.size
  have a8 := (h8.grown hg1 (hmb _ _ _ h8)).alloc (.cells c 98)
  have a6 := (h.g6.grown hg1 (hmb _ _ _ h.g6)).alloc (.cells c 98)
  have aN : (w1.alloc (.cells c 98)).ownsRow w0.heap.size 98 5 (.slice An ns.length cn) ns.length (cvs csO ns) := (hno.kept hg1 (.inr (fun e => h.hm.not_row hno e.symm))).alloc _
  have q8 := a8.grown hgr (a8.not_row (by decide) aN)
  have q6 := a6.grown hgr (a6.not_row (by decide) aN)
  have qm := (hm1.on ((Below.refl _ _).alloc (Nat.le_refl _) (.cells c 98))).kept hgr ((hm1.on ((Below.refl _ _).alloc (Nat.le_refl _) (.cells c 98))).not_row aN)
  have hF : Frm 93 98 W1 w3 := by
    refine Frm.row (Frm.on (h.fr.grown hg1 fun k o ek ho hlt => ?_) ((Below.refl _ _).alloc (Nat.le_refl _) (.cells c 98))) aN hgr (.inr (.inl rfl))
    injection ek with ek
    subst ek
    obtain ⟨es, q, hb⟩ := h.hm.obj
    rw [hb] at ho
    injection ho with ho
    subst ho
    exact fun hf => hf
  have hgN : g' ≠ B := by
    rcases hloc with e | e
    · intro e2
      subst e2
      exact hnB (e.symm.trans rfl)
    · intro e2
      injection e with e
      simp at e
      omega
  have hb3 : w3.heap[B]? = W2.heap[B]? := by
    rw [hgr.block B (by simp; omega) (fun e => hnB e.symm), Below.heap_alloc _ _ _ hBs, hg1.block B hBw (fun e => by injection e with e; have := h.lm.2; have := h.lB.1; omega)]
    exact h.hB
  refine ⟨hF.set q8 (.inl rfl) _, q6.other _ h.l8.2.2 _, ⟨some ⟨g', 0, none⟩, cap', ?_, ?_, fun e => ?_⟩, qm.kept (setBy w3 _ _) (fun e => ?_), ?_, ?_, h.l6, h.l8, h.lm, ⟨h.lB.1, ?_⟩, h.l0⟩
  · have := q8.set 0 (sl g' (ns.length + 1) cap')
    rw [List.length_append]
    exact this
  · rw [List.length_append, cvs_snoc]
    exact hown.kept (setBy w3 _ _) (.inr (q8.not_row (by decide) hown))
  · injection e with e
    exact hgN e
  · injection e with e
    exact qm.not_hb q8 e
  · rw [Below.heap_setCell _ _ _ _ (by show B ≠ b8; have := h.l8.2.1; have := h.lB.1; omega)]
    exact hb3
  · have b1 := h.bl.grown hg1 h.bl.size (fun k e => by injection e with e; have := h.lm.1; omega)
    have b2 := b1.alloc b1.size (.cells c 98)
    have b3 := b2.grown hgr b2.size (fun k e => (aN.lt k e).1)
    exact b3.grown (setBy w3 _ _) b3.size (fun k e => by injection e with e; simp at e; have := h.l8.1; omega)
  · have := hgr.size
    simp at this
    show B < (World.setCell _ _ _).heap.size
    simp
    omega
theorem R2O.put {b11 b12 g11 c11 g12 c12 : Nat} {idx : List Nat} {sts : List (Int)} (h2 : R2O W1 B b11 b12 g11 c11 g12 c12 idx sts w) (h : CIO n w0 W1 W2 B b6 b8 mb Ax nx cx As nz cz ns w) (h8 : Hb w b8 #[.slice An ns.length cn, .slice Ax nx cx, .slice As nz cz] 93) (hno : w.ownsRow w0.heap.size 98 5 (.slice An ns.length cn) ns.length (cvs csO ns))
    (hg1 : w.grownBy w1 (some mb)) (hgr : (w1.alloc (.cells c 98)).grownBy w3 (Value.slice An ns.length cn).ownBlock) (v : Value) : R2O W1 B b11 b12 g11 c11 g12 c12 idx sts (w3.setCell ⟨b8, 0, none⟩ v) := by
  have hmb : ∀ (k : Nat) (a : Array Value) (t : TypeId), Hb w k a t → some mb ≠ some k := fun k a t hk e => by injection e with e; exact h.hm.not_hb hk e
  have a8 := (h8.grown hg1 (hmb _ _ _ h8)).alloc (.cells c 98)
  have aN : (w1.alloc (.cells c 98)).ownsRow w0.heap.size 98 5 (.slice An ns.length cn) ns.length (cvs csO ns) := (hno.kept hg1 (.inr (fun e => h.hm.not_row hno e.symm))).alloc _
  have q8 := a8.grown hgr (a8.not_row (by decide) aN)
  refine (((h2.kept hg1 fun k e a t hk => ?_).on ((Below.refl _ _).alloc (Nat.le_refl _) (.cells c 98))).kept hgr fun k e a t hk => ?_).kept (setBy w3 _ v) fun k e a t hk => ?_
  · injection e with e
    subst e
    obtain ⟨es, q, hb⟩ := h.hm.obj
    rw [hb] at hk
    cases hk
  · rcases aN.2 with ⟨e2, _⟩ | ⟨g, cap, cur, e2, _, hgg, _⟩
    · rw [e2] at e; simp [Value.ownBlock] at e
    · rw [e2] at e
      simp [Value.ownBlock] at e
      subst e
      rw [hgg] at hk
      injection hk with hk
      injection hk with _ ht _
      subst ht
      exact ⟨by decide, by decide, by decide, by decide⟩
  · injection e with e
    simp at e
    subst e
    rw [show w3.heap[b8]? = _ from q8] at hk
    injection hk with hk
    injection hk with _ ht _
    subst ht
    exact ⟨by decide, by decide, by decide, by decide⟩
theorem kfO_put {B0 : Nat} (hm : mb < B0) (hno : w1.ownsRow w0.heap.size 98 5 (.slice An ns.length cn) ns.length (cvs csO ns)) (hg1 : w.grownBy w1 (some mb)) (hgr : (w1.alloc (.cells c 98)).grownBy w3 (Value.slice An ns.length cn).ownBlock) (v : Value) : KeepsFrom B0 w (w3.setCell ⟨b8, 0, none⟩ v) := by
  refine (KeepsFrom.of_grownBy hg1 (fun j e => by injection e with e; omega)).trans (((KeepsOthers.alloc _ _).from _).trans (((KeepsOthers.of_grownBy hgr fun j o ej ho => ?_).from _).trans ((KeepsOthers.setCell _ _ _).from _)))
  have aN := hno.alloc (.cells c 98)
  rcases aN.2 with ⟨e2, _⟩ | ⟨g, cap, cur, e2, _, hgg, _⟩
  · rw [e2] at ej; simp [Value.ownBlock] at ej
  · rw [e2] at ej
    simp [Value.ownBlock] at ej
    subst ej
    rw [hgg] at ho
    injection ho with ho
    subst ho
    rfl
/-- What an iterator asks of a round, read off what holds ahead of it and behind it. -/
theorem CIO.keeps {w' : World} {ns' : List (List Int)} (h : CIO n w0 W1 W2 B b6 b8 mb Ax nx cx As nz cz ns w) (h' : CIO n w0 W1 W2 B b6 b8 mb Ax nx cx As nz cz ns' w') (hs : w.heap.size ≤ w'.heap.size) : Below w0.heap.size w w' ∧ ∀ o, w.heap[B]? = some o → w'.heap[B]? = some o :=
  ⟨⟨h'.bl.os.trans h.bl.os.symm, h'.bl.tape.trans h.bl.tape.symm, h'.bl.output.trans h.bl.output.symm, hs, fun k hk => (h'.bl.block k hk).trans (h.bl.block k hk).symm⟩, fun o ho => h'.hB.trans (h.hB.symm.trans ho)⟩
end
/-- Behind whichever operations of region 1 have come up. -/
structure I1O (n : Nat) (w0 : World) (x0 : List Int) (b1 b2 b3 b5 b6 b7 b8 b9 b10 : Bool) (g mb p8 p9 : Nat) (c8 c9 : Array Value) (w : World) : Prop where
  bl : Below w0.heap.size w0 w
  k3 : Hb w w0.heap.size (csO x0).toArray 98
  k6 : Hb w (w0.heap.size + 1) nil3 93
  hg : b1 = true → w0.heap.size + 1 < g ∧ Hb w g (csO x0).toArray 98
  hm : b3 = true → w0.heap.size + 1 < mb ∧ MapN 98 kvO (Q.OkO n) w mb (pk b5 [x0] [])
  h8 : b7 = true → w0.heap.size + 1 < p8 ∧ Hb w p8 c8 93
  h9 : b8 = true → w0.heap.size + 1 < p9 ∧ Hb w p9 c9 133
  d9 : b9 = true → b1 = true
  d10 : b10 = true → b3 = true
  d5 : b5 = true → b3 = true
  d2 : b2 = true → b1 = true
  d6 : b6 = true → b3 = true
  d97 : b9 = true → b7 = true
  d108 : b10 = true → b8 = true
section
variable {n : Nat} {w0 : World} {x0 : List Int} {b1 b2 b3 b5 b6 b7 b8 b9 b10 : Bool} {g mb p8 p9 : Nat} {c8 c9 : Array Value} {w w' : World}
theorem I1O.on (h : I1O n w0 x0 b1 b2 b3 b5 b6 b7 b8 b9 b10 g mb p8 p9 c8 c9 w) (hb : Below w.heap.size w w') : I1O n w0 x0 b1 b2 b3 b5 b6 b7 b8 b9 b10 g mb p8 p9 c8 c9 w' :=
  ⟨h.bl.trans (hb.mono h.bl.size), h.k3.on hb, h.k6.on hb, fun e => ⟨(h.hg e).1, (h.hg e).2.on hb⟩, fun e => ⟨(h.hm e).1, (h.hm e).2.on hb⟩, fun e => ⟨(h.h8 e).1, (h.h8 e).2.on hb⟩, fun e => ⟨(h.h9 e).1, (h.h9 e).2.on hb⟩, h.d9, h.d10, h.d5, h.d2, h.d6, h.d97, h.d108⟩
theorem I1O.al (h : I1O n w0 x0 b1 b2 b3 b5 b6 b7 b8 b9 b10 g mb p8 p9 c8 c9 w) (o : Obj) : I1O n w0 x0 b1 b2 b3 b5 b6 b7 b8 b9 b10 g mb p8 p9 c8 c9 (w.alloc o) := h.on ((Below.refl _ _).alloc (Nat.le_refl _) o)
theorem I1O.set8 (h : I1O n w0 x0 b1 b2 b3 b5 b6 b7 b8 b9 b10 g mb p8 p9 c8 c9 w) (e7 : b7 = true) (i : Nat) (v : Value) : I1O n w0 x0 b1 b2 b3 b5 b6 b7 b8 b9 b10 g mb p8 p9 (c8.setIfInBounds i v) c9 (w.setCell ⟨p8, i, none⟩ v) := by
  obtain ⟨hl, hk⟩ := h.h8 e7
  have hg := setBy w ⟨p8, i, none⟩ v
  refine ⟨h.bl.grown hg h.bl.size (fun k e => by injection e with e; simp at e; omega), h.k3.other _ (by show _ ≠ p8; omega) _, h.k6.other _ (by show _ ≠ p8; omega) _, fun e => ⟨(h.hg e).1, (h.hg e).2.other _ (fun e2 => ?_) _⟩, fun e => ⟨(h.hm e).1, (h.hm e).2.kept hg (fun e2 => ?_)⟩, fun e => ⟨hl, hk.set i v⟩, fun e => ⟨(h.h9 e).1, (h.h9 e).2.other _ (fun e2 => ?_) _⟩, h.d9, h.d10, h.d5, h.d2, h.d6, h.d97, h.d108⟩
  · have e2 : g = p8 := e2
    have h1 : w.heap[g]? = _ := (h.hg e).2
    rw [e2, show w.heap[p8]? = _ from hk] at h1
    injection h1 with h1
    injection h1 with _ h2 _
    exact absurd h2 (by decide)
  · injection e2 with e2
    exact (h.hm e).2.not_hb hk e2
  · have e2 : p9 = p8 := e2
    have h1 : w.heap[p9]? = _ := (h.h9 e).2
    rw [e2, show w.heap[p8]? = _ from hk] at h1
    injection h1 with h1
    injection h1 with _ h2 _
    exact absurd h2 (by decide)
theorem I1O.set9 (h : I1O n w0 x0 b1 b2 b3 b5 b6 b7 b8 b9 b10 g mb p8 p9 c8 c9 w) (e8 : b8 = true) (i : Nat) (v : Value) : I1O n w0 x0 b1 b2 b3 b5 b6 b7 b8 b9 b10 g mb p8 p9 c8 (c9.setIfInBounds i v) (w.setCell ⟨p9, i, none⟩ v) := by
  obtain ⟨hl, hk⟩ := h.h9 e8
  have hg := setBy w ⟨p9, i, none⟩ v
  refine ⟨h.bl.grown hg h.bl.size (fun k e => by injection e with e; simp at e; omega), h.k3.other _ (by show _ ≠ p9; omega) _, h.k6.other _ (by show _ ≠ p9; omega) _, fun e => ⟨(h.hg e).1, (h.hg e).2.other _ (fun e2 => ?_) _⟩, fun e => ⟨(h.hm e).1, (h.hm e).2.kept hg (fun e2 => ?_)⟩, fun e => ⟨(h.h8 e).1, (h.h8 e).2.other _ (fun e2 => ?_) _⟩, fun e => ⟨hl, hk.set i v⟩, h.d9, h.d10, h.d5, h.d2, h.d6, h.d97, h.d108⟩
  · have e2 : g = p9 := e2
    have h1 : w.heap[g]? = _ := (h.hg e).2
    rw [e2, show w.heap[p9]? = _ from hk] at h1
    injection h1 with h1
    injection h1 with _ h2 _
    exact absurd h2 (by decide)
  · injection e2 with e2
    exact (h.hm e).2.not_hb hk e2
  · have e2 : p8 = p9 := e2
    have h1 : w.heap[p8]? = _ := (h.h8 e).2
    rw [e2, show w.heap[p9]? = _ from hk] at h1
    injection h1 with h1
    injection h1 with _ h2 _
    exact absurd h2 (by decide)
theorem I1O.lt (h : I1O n w0 x0 b1 b2 b3 b5 b6 b7 b8 b9 b10 g mb p8 p9 c8 c9 w) : w0.heap.size + 1 < w.heap.size := h.k6.lt
end
def J1O (n most : Nat) (fA : Value) (w0 : World) (x0 : List Int) (b0 b1 b2 b3 b4 b5 b6 b7 b8 b9 b10 : Bool) (a : Act) (w : World) : Prop :=
  ∃ g mb p8 p9 : Nat, a = { tmps := (List.toArray ((kvO x0) :: (.int .i64 (most : Int)) :: (fA) :: (.pointer (some ⟨w0.heap.size, 0, none⟩)) :: (undef) :: (undef) :: (.pointer (some ⟨w0.heap.size + 1, 0, none⟩)) :: (.bool false) :: (pk b7 (.pointer (some ⟨p8, 0, none⟩)) undef) :: (pk b8 (.pointer (some ⟨p9, 0, none⟩)) undef) :: (undef) :: (undef) :: (undef) :: (undef) :: (undef) :: (undef) :: (undef) :: (pk b0 (kvO x0) undef) :: (pk b1 (sl g 1 1) undef) :: (pk b2 (.agg #[sl g 1 1, .slice none 0 0, .slice none 0 0]) undef) :: (pk b3 (.map (some mb)) undef) :: (pk b4 (kvO x0) undef) :: (pk b6 (.map (some mb)) undef) :: (undef) :: (undef) :: (undef) :: (undef) :: (undef) :: (undef) :: (undef) :: (undef) :: (undef) :: (undef) :: (undef) :: (undef) :: (undef) :: (undef) :: (undef) :: (undef) :: (undef) :: (undef) :: (undef) :: (undef) :: (undef) :: (undef) :: (undef) :: (undef) :: (undef) :: (undef) :: (undef) :: (undef) :: (undef) :: (undef) :: (undef) :: (undef) :: (undef) :: (undef) :: (undef) :: (undef) :: (undef) :: (undef) :: (undef) :: (undef) :: (undef) :: (undef) :: (undef) :: (undef) :: (undef) :: (undef) :: (undef) :: (undef) :: (undef) :: (undef) :: (undef) :: (undef) :: (undef) :: (undef) :: (undef) :: (undef) :: (undef) :: (undef) :: (undef) :: (undef) :: (undef) :: (undef) :: (undef) :: (undef) :: (undef) :: [])), defers := [] } ∧ I1O n w0 x0 b1 b2 b3 b5 b6 b7 b8 b9 b10 g mb p8 p9 (pk b9 #[sl g 1 1, .slice none 0 0, .slice none 0 0] nil3) (pk b10 #[.map (some mb)] #[.map none]) w
/-- Behind whichever operations of region 14 have come up: one more place and one more step. -/
structure I14O (n : Nat) (w0 W1 W2 Ws : World) (B b6 b8 mb : Nat) (Ax : Option Addr) (nx cx : Nat) (As : Option Addr) (nz cz : Nat) (ns : List (List Int)) (b11 b12 : Nat) (idx : List Nat) (sts : List (Int)) (p : Nat) (s : Int) (g11 c11 g12 c12 : Nat) (b0 b2 b3 b4 b6' b7 b8' b9 : Bool) (p63 g11' c11' p67 g12' c12' : Nat) (w : World) : Prop where
  core : CIO n w0 W1 W2 B b6 b8 mb Ax nx cx As nz cz ns w
  x11 : Hb w b11 #[pk b8' (sl g11' (idx.length + 1) c11') (sl g11 idx.length c11)] 35
  x12 : Hb w b12 #[pk b9 (sl g12' (sts.length + 1) c12') (sl g12 sts.length c12)] 35
  r11 : w.ownsRow W1.heap.size 3 1 (pk b3 (sl g11' (idx.length + 1) c11') (sl g11 idx.length c11)) (pk b3 (idx.length + 1) idx.length) (cvs csI (pk b3 (idx ++ [p]) idx))
  r12 : w.ownsRow W1.heap.size 3 1 (pk b7 (sl g12' (sts.length + 1) c12') (sl g12 sts.length c12)) (pk b7 (sts.length + 1) sts.length) (cvs csZ (pk b7 (sts ++ [s]) sts))
  ap : pk b3 g11' g11 ≠ pk b7 g12' g12
  nB : pk b3 g11' g11 ≠ B ∧ pk b7 g12' g12 ≠ B
  q63 : b2 = true → b3 = false → Hb w p63 (csI p).toArray 3 ∧ p63 ≠ g11 ∧ p63 ≠ pk b7 g12' g12
  q67 : b6' = true → b7 = false → Hb w p67 (csZ s).toArray 3 ∧ p67 ≠ pk b3 g11' g11 ∧ p67 ≠ g12
  d8 : b8' = true → b3 = true
  d9 : b9 = true → b7 = true
  d80 : b8' = true → b0 = true
  d94 : b9 = true → b4 = true
  kf : KeepsFrom W2.heap.size Ws w
  lb : W1.heap.size ≤ b11 ∧ W1.heap.size ≤ b12 ∧ b11 ≠ b12 ∧ b11 ≠ B ∧ b12 ≠ B
def J14O (u : Nat → Value) (n : Nat) (w0 W1 W2 Ws : World) (B b6 b8 mb : Nat) (Ax : Option Addr) (nx cx : Nat) (As : Option Addr) (nz cz : Nat) (ns : List (List Int)) (b11 b12 : Nat) (idx : List Nat) (sts : List (Int)) (p : Nat) (s : Int) (g11 c11 g12 c12 : Nat) (b0 b1 b2 b3 b4 b5 b6' b7 b8' b9 : Bool) (a : Act) (w : World) : Prop :=
  ∃ p63 g11' c11' p67 g12' c12' : Nat, a = { tmps := (List.toArray ((u 0) :: (u 1) :: (u 2) :: (u 3) :: (u 4) :: (u 5) :: (u 6) :: (u 7) :: (u 8) :: (u 9) :: (u 10) :: (.pointer (some ⟨b11, 0, none⟩)) :: (.pointer (some ⟨b12, 0, none⟩)) :: (u 13) :: (vZ s) :: (.int .i64 (p : Int)) :: (u 16) :: (u 17) :: (u 18) :: (u 19) :: (u 20) :: (u 21) :: (u 22) :: (u 23) :: (u 24) :: (u 25) :: (u 26) :: (u 27) :: (u 28) :: (u 29) :: (u 30) :: (u 31) :: (u 32) :: (u 33) :: (u 34) :: (u 35) :: (u 36) :: (u 37) :: (u 38) :: (u 39) :: (u 40) :: (u 41) :: (u 42) :: (u 43) :: (u 44) :: (u 45) :: (u 46) :: (u 47) :: (u 48) :: (u 49) :: (u 50) :: (u 51) :: (u 52) :: (u 53) :: (u 54) :: (u 55) :: (u 56) :: (u 57) :: (u 58) :: (u 59) :: (u 60) :: (pk b0 (sl g11 idx.length c11) (u 61)) :: (pk b1 (.int .i64 (p : Int)) (u 62)) :: (pk b2 (sl p63 1 1) (u 63)) :: (pk b3 (sl g11' (idx.length + 1) c11') (u 64)) :: (pk b4 (sl g12 sts.length c12) (u 65)) :: (pk b5 (vZ s) (u 66)) :: (pk b6' (sl p67 1 1) (u 67)) :: (pk b7 (sl g12' (sts.length + 1) c12') (u 68)) :: (u 69) :: (u 70) :: (u 71) :: (u 72) :: (u 73) :: (u 74) :: (u 75) :: (u 76) :: (u 77) :: (u 78) :: (u 79) :: (u 80) :: (u 81) :: (u 82) :: (u 83) :: (u 84) :: (u 85) :: (u 86) :: (u 87) :: [])), defers := [] } ∧ I14O n w0 W1 W2 Ws B b6 b8 mb Ax nx cx As nz cz ns b11 b12 idx sts p s g11 c11 g12 c12 b0 b2 b3 b4 b6' b7 b8' b9 p63 g11' c11' p67 g12' c12' w
section
variable {n : Nat} {w0 W1 W2 Ws w w' : World} {B b6 b8 mb : Nat} {Ax : Option Addr} {nx cx : Nat} {As : Option Addr} {nz cz : Nat} {ns : List (List Int)} {b11 b12 : Nat} {idx : List Nat} {sts : List (Int)} {p : Nat} {s : Int} {g11 c11 g12 c12 : Nat} {b0 b2 b3 b4 b6' b7 b8' b9 : Bool} {p63 g11' c11' p67 g12' c12' g cap : Nat}
theorem kf_row {W2 Ws w w' : World} {b s n : Nat} {e : TypeId} {v : Value} {xs : List Value} (h : KeepsFrom W2.heap.size Ws w) (ho : w.ownsRow b e s v n xs) (hg : w.grownBy w' v.ownBlock) : KeepsFrom W2.heap.size Ws w' :=
  h.trans ((KeepsOthers.of_grownBy hg fun j o ej hj => by
    rcases ho.2 with ⟨e2, _⟩ | ⟨g, cap, cur, e2, _, hgg, _⟩
    · rw [e2] at ej; simp [Value.ownBlock] at ej
    · rw [e2] at ej
      simp [Value.ownBlock] at ej
      subst ej
      rw [hgg] at hj
      injection hj with hj
      subst hj
      rfl).from _)
theorem I14O.l1 (h : I14O n w0 W1 W2 Ws B b6 b8 mb Ax nx cx As nz cz ns b11 b12 idx sts p s g11 c11 g12 c12 b0 b2 b3 b4 b6' b7 b8' b9 p63 g11' c11' p67 g12' c12' w) : pk b3 g11' g11 < w.heap.size := by
  have := h.r11
  cases b3 <;> exact (this.lt _ rfl).2
theorem I14O.l2 (h : I14O n w0 W1 W2 Ws B b6 b8 mb Ax nx cx As nz cz ns b11 b12 idx sts p s g11 c11 g12 c12 b0 b2 b3 b4 b6' b7 b8' b9 p63 g11' c11' p67 g12' c12' w) : pk b7 g12' g12 < w.heap.size := by
  have := h.r12
  cases b7 <;> exact (this.lt _ rfl).2
theorem I14O.o2 (h : I14O n w0 W1 W2 Ws B b6 b8 mb Ax nx cx As nz cz ns b11 b12 idx sts p s g11 c11 g12 c12 b0 false b3 b4 b6' b7 b8' b9 p63 g11' c11' p67 g12' c12' w) : I14O n w0 W1 W2 Ws B b6 b8 mb Ax nx cx As nz cz ns b11 b12 idx sts p s g11 c11 g12 c12 b0 true b3 b4 b6' b7 b8' b9 w.heap.size g11' c11' p67 g12' c12' (w.alloc (.cells (csI p).toArray 3)) :=
  ⟨h.core.alloc _, h.x11.alloc _, h.x12.alloc _, h.r11.alloc _, h.r12.alloc _, h.ap, h.nB, fun _ e => ⟨Hb.new _ _ _, by
    have := h.l1
    subst e
    exact Nat.ne_of_gt this, Nat.ne_of_gt h.l2⟩, fun e1 e2 => ⟨(h.q67 e1 e2).1.alloc _, (h.q67 e1 e2).2⟩, h.d8, h.d9, h.d80, h.d94, h.kf.trans ((KeepsOthers.alloc _ _).from _), h.lb⟩
theorem I14O.o6 (h : I14O n w0 W1 W2 Ws B b6 b8 mb Ax nx cx As nz cz ns b11 b12 idx sts p s g11 c11 g12 c12 b0 b2 b3 b4 false b7 b8' b9 p63 g11' c11' p67 g12' c12' w) : I14O n w0 W1 W2 Ws B b6 b8 mb Ax nx cx As nz cz ns b11 b12 idx sts p s g11 c11 g12 c12 b0 b2 b3 b4 true b7 b8' b9 p63 g11' c11' w.heap.size g12' c12' (w.alloc (.cells (csZ s).toArray 3)) :=
  ⟨h.core.alloc _, h.x11.alloc _, h.x12.alloc _, h.r11.alloc _, h.r12.alloc _, h.ap, h.nB, fun e1 e2 => ⟨(h.q63 e1 e2).1.alloc _, (h.q63 e1 e2).2⟩, fun _ e => ⟨Hb.new _ _ _, Nat.ne_of_gt h.l1, by
    have := h.l2
    subst e
    exact Nat.ne_of_gt this⟩, h.d8, h.d9, h.d80, h.d94, h.kf.trans ((KeepsOthers.alloc _ _).from _), h.lb⟩
theorem I14O.o3 (h : I14O n w0 W1 W2 Ws B b6 b8 mb Ax nx cx As nz cz ns b11 b12 idx sts p s g11 c11 g12 c12 b0 b2 false b4 b6' b7 false b9 p63 g11' c11' p67 g12' c12' w) (ho : w'.ownsRow W1.heap.size 3 1 (sl g (idx.length + 1) cap) (idx.length + 1) (cvs csI idx ++ csI p)) (hg : w.grownBy w' (sl g11 idx.length c11).ownBlock) (hloc : (sl g11 idx.length c11).ownBlock = some g ∨ g = w.heap.size) :
    I14O n w0 W1 W2 Ws B b6 b8 mb Ax nx cx As nz cz ns b11 b12 idx sts p s g11 c11 g12 c12 b0 b2 true b4 b6' b7 false b9 p63 g cap p67 g12' c12' w' := by
  have r11 : w.ownsRow W1.heap.size 3 1 (sl g11 idx.length c11) idx.length (cvs csI idx) := h.r11
  have hg' : w.grownBy w' (some g11) := hg
  have hloc' : g = g11 ∨ g = w.heap.size := hloc.imp (fun e => by injection e with e; exact e.symm) id
  have l2 := h.l2
  have l1 : g11 < w.heap.size := h.l1
  have hB := h.core.lB.2
  have hap : g11 ≠ pk b7 g12' g12 := h.ap
  have hnB : g11 ≠ B ∧ pk b7 g12' g12 ≠ B := h.nB
  refine ⟨h.core.row (by decide) r11 (fun e => by injection e with e; exact hnB.1 e) hg, h.x11.grown hg (h.x11.not_row (by decide) r11), h.x12.grown hg (h.x12.not_row (by decide) r11), ?_, h.r12.kept hg (.inr ?_), ?_, ⟨?_, hnB.2⟩, fun _ e => (by cases e), fun e1 e2 => ?_, fun e => (by cases e), h.d9, h.d80, h.d94, kf_row h.kf r11 hg, h.lb⟩
  · show w'.ownsRow _ _ 1 (sl g (idx.length + 1) cap) (idx.length + 1) (cvs csI (idx ++ [p]))
    rw [cvs_snoc]
    exact ho
  · intro e
    cases b7 <;> (injection e with e; exact hap e.symm)
  · show g ≠ _
    rcases hloc' with e | e
    · rw [e]; exact hap
    · omega
  · show g ≠ B
    rcases hloc' with e | e
    · rw [e]; exact hnB.1
    · omega
  · obtain ⟨q1, q2, q3⟩ := h.q67 e1 e2
    have q2 : p67 ≠ g11 := q2
    refine ⟨q1.grown hg' (fun e => by injection e with e; exact q2 e.symm), ?_, q3⟩
    show p67 ≠ g
    have := q1.lt
    rcases hloc' with e | e <;> omega
theorem I14O.o7 (h : I14O n w0 W1 W2 Ws B b6 b8 mb Ax nx cx As nz cz ns b11 b12 idx sts p s g11 c11 g12 c12 b0 b2 true b4 b6' false b8' false p63 g11' c11' p67 g12' c12' w) (ho : w'.ownsRow W1.heap.size 3 1 (sl g (sts.length + 1) cap) (sts.length + 1) (cvs csZ sts ++ csZ s)) (hg : w.grownBy w' (sl g12 sts.length c12).ownBlock) (hloc : (sl g12 sts.length c12).ownBlock = some g ∨ g = w.heap.size) :
    I14O n w0 W1 W2 Ws B b6 b8 mb Ax nx cx As nz cz ns b11 b12 idx sts p s g11 c11 g12 c12 b0 b2 true b4 b6' true b8' false p63 g11' c11' p67 g cap w' := by
  have r12 : w.ownsRow W1.heap.size 3 1 (sl g12 sts.length c12) sts.length (cvs csZ sts) := h.r12
  have hg' : w.grownBy w' (some g12) := hg
  have hloc' : g = g12 ∨ g = w.heap.size := hloc.imp (fun e => by injection e with e; exact e.symm) id
  have l1 : g11' < w.heap.size := h.l1
  have hB := h.core.lB.2
  have hap : g11' ≠ g12 := h.ap
  have hnB : g11' ≠ B ∧ g12 ≠ B := h.nB
  refine ⟨h.core.row (by decide) r12 (fun e => by injection e with e; exact hnB.2 e) hg, h.x11.grown hg (h.x11.not_row (by decide) r12), h.x12.grown hg (h.x12.not_row (by decide) r12), h.r11.kept hg (.inr ?_), ?_, ?_, ⟨hnB.1, ?_⟩, fun _ e => (by cases e), fun _ e => (by cases e), h.d8, fun e => (by cases e), h.d80, h.d94, kf_row h.kf r12 hg, h.lb⟩
  · intro e
    injection e with e
    exact hap e
  · show w'.ownsRow _ _ _ (sl g (sts.length + 1) cap) (sts.length + 1) (cvs csZ (sts ++ [s]))
    rw [cvs_snoc]
    exact ho
  · show g11' ≠ g
    rcases hloc' with e | e
    · rw [e]; exact hap
    · omega
  · show g ≠ B
    rcases hloc' with e | e
    · rw [e]; exact hnB.2
    · omega
theorem I14O.o8 (h : I14O n w0 W1 W2 Ws B b6 b8 mb Ax nx cx As nz cz ns b11 b12 idx sts p s g11 c11 g12 c12 b0 b2 true b4 b6' true false b9 p63 g11' c11' p67 g12' c12' w) (e0 : b0 = true) : I14O n w0 W1 W2 Ws B b6 b8 mb Ax nx cx As nz cz ns b11 b12 idx sts p s g11 c11 g12 c12 b0 b2 true b4 b6' true true b9 p63 g11' c11' p67 g12' c12' (w.setCell ⟨b11, 0, none⟩ (sl g11' (idx.length + 1) c11')) :=
  ⟨h.core.set h.x11 (by decide) h.lb.1 h.lb.2.2.2.1 _, h.x11.set 0 _, h.x12.other _ (fun e => h.lb.2.2.1 e.symm) _, h.r11.kept (setBy w _ _) (.inr (h.x11.not_row (by decide) h.r11)), h.r12.kept (setBy w _ _) (.inr (h.x11.not_row (by decide) h.r12)), h.ap, h.nB, fun _ e => (by cases e), fun _ e => (by cases e), fun _ => rfl, h.d9, fun _ => e0, h.d94, h.kf.trans ((KeepsOthers.setCell _ _ _).from _), h.lb⟩
theorem I14O.o9 (h : I14O n w0 W1 W2 Ws B b6 b8 mb Ax nx cx As nz cz ns b11 b12 idx sts p s g11 c11 g12 c12 b0 b2 true b4 b6' true b8' false p63 g11' c11' p67 g12' c12' w) (e4 : b4 = true) : I14O n w0 W1 W2 Ws B b6 b8 mb Ax nx cx As nz cz ns b11 b12 idx sts p s g11 c11 g12 c12 b0 b2 true b4 b6' true b8' true p63 g11' c11' p67 g12' c12' (w.setCell ⟨b12, 0, none⟩ (sl g12' (sts.length + 1) c12')) :=
  ⟨h.core.set h.x12 (by decide) h.lb.2.1 h.lb.2.2.2.2 _, h.x11.other _ h.lb.2.2.1 _, h.x12.set 0 _, h.r11.kept (setBy w _ _) (.inr (h.x12.not_row (by decide) h.r11)), h.r12.kept (setBy w _ _) (.inr (h.x12.not_row (by decide) h.r12)), h.ap, h.nB, fun _ e => (by cases e), fun _ e => (by cases e), h.d8, fun _ => rfl, h.d80, fun _ => e4, h.kf.trans ((KeepsOthers.setCell _ _ _).from _), h.lb⟩
end
/-- What region 17 leaves alone. -/
structure C17O (n : Nat) (w0 W1 : World) (b6 b9 mb : Nat) (An : Option Addr) (cn : Nat) (xsx xss : List Value) (rs : List Nat) (ns : List (List Int)) (nx : List (List Nat)) (ss : List (List (Int))) (g11 c11 g12 c12 : Nat) (idx : List Nat) (sts : List (Int)) (w : World) : Prop where
  no : w.ownsRow w0.heap.size 98 5 (.slice An ns.length cn) ns.length (cvs csO ns)
  xn : NG 3 1 csI w w0.heap.size xsx nx
  sn : NG 3 1 csZ w w0.heap.size xss ss
  g6 : Hb w b6 nil3 93
  g9 : Hb w b9 #[.map (some mb)] 133
  hm : MapN 98 kvO (Q.OkO n) w mb ns
  ms : Marks w0.heap.size w rs
  bl : Below w0.heap.size w0 w
  r11 : w.ownsRow W1.heap.size 3 1 (sl g11 idx.length c11) idx.length (cvs csI idx)
  r12 : w.ownsRow W1.heap.size 3 1 (sl g12 sts.length c12) sts.length (cvs csZ sts)
section
variable {n : Nat} {w0 W1 : World} {b6 b9 mb : Nat} {An : Option Addr} {cn : Nat} {xsx xss : List Value} {rs : List Nat} {ns : List (List Int)} {nx : List (List Nat)} {ss : List (List (Int))} {g11 c11 g12 c12 : Nat} {idx : List Nat} {sts : List (Int)} {w w' : World}
/-- A block is turned that is none of these. -/
theorem C17O.grown (h : C17O n w0 W1 b6 b9 mb An cn xsx xss rs ns nx ss g11 c11 g12 c12 idx sts w) {row : Option Nat} (hg : w.grownBy w' row) (hr : ∀ k, row = some k → w0.heap.size ≤ k ∧ k ≠ b6 ∧ ∃ c t, w.heap[k]? = some (.cells c t (0, 0)) ∧ t ≠ 3 ∧ t ≠ 98 ∧ t ≠ 3 ∧ t ≠ 133) : C17O n w0 W1 b6 b9 mb An cn xsx xss rs ns nx ss g11 c11 g12 c12 idx sts w' := by
  have hs : ∀ (e : TypeId), (e = 3 ∨ e = 98 ∨ e = 3 ∨ e = 133) → ∀ (k : Nat) (c : Array Value), w.heap[k]? = some (.cells c e (0, 0)) → w'.heap[k]? = some (.cells c e (0, 0)) := fun e he k c hk => by
    refine (hg.block k (Array.getElem?_eq_some_iff.1 hk).1 fun e2 => ?_).trans hk
    obtain ⟨_, _, c', t, h1, h2, h3, h4, h5⟩ := hr k e2.symm
    rw [hk] at h1
    injection h1 with h1
    injection h1 with _ h6 _
    subst h6
    rcases he with e | e | e | e
    · exact h2 e
    · exact h3 e
    · exact h4 e
    · exact h5 e
  have ho : ∀ (k : Nat) (o : Obj), w.heap[k]? = some o → (∀ c t f, o ≠ .cells c t f) → some k ≠ row := fun k o hk hn e2 => by
    obtain ⟨_, _, c', t, h1, _⟩ := hr k e2.symm
    rw [hk] at h1
    injection h1 with h1
    exact hn _ _ _ h1
  exact ⟨own_same h.no (hs _ (.inr (.inl rfl))), h.xn.same (hs _ (.inl rfl)), h.sn.same (hs _ (.inr (.inr (.inl rfl)))), h.g6.grown hg (fun e => (hr b6 e).2.1 rfl), hs _ (.inr (.inr (.inr rfl))) b9 _ h.g9, h.hm.kept hg (by
      obtain ⟨es, c, hb⟩ := h.hm.obj
      exact ho mb _ hb (by intros; simp)), h.ms.kept hg (fun r hx => ho r _ (h.ms.at_ r hx).2 (by intros; simp)), h.bl.grown hg h.bl.size (fun k e => (hr k e).1), own_same h.r11 (hs _ (.inl rfl)), own_same h.r12 (hs _ (.inr (.inr (.inl rfl))))⟩
theorem C17O.alloc (h : C17O n w0 W1 b6 b9 mb An cn xsx xss rs ns nx ss g11 c11 g12 c12 idx sts w) (o : Obj) : C17O n w0 W1 b6 b9 mb An cn xsx xss rs ns nx ss g11 c11 g12 c12 idx sts (w.alloc o) := h.grown (World.grownBy_alloc w o none) fun k e => by cases e
theorem C17O.drew (h : C17O n w0 W1 b6 b9 mb An cn xsx xss rs ns nx ss g11 c11 g12 c12 idx sts w) : C17O n w0 W1 b6 b9 mb An cn xsx xss rs ns nx ss g11 c11 g12 c12 idx sts w.drew := h.grown (row := none) ⟨rfl, rfl, rfl, Nat.le_refl _, fun _ _ _ => rfl⟩ fun k e => by cases e
theorem C17O.row (h : C17O n w0 W1 b6 b9 mb An cn xsx xss rs ns nx ss g11 c11 g12 c12 idx sts w) {e : TypeId} (he : e ≠ 3 ∧ e ≠ 98 ∧ e ≠ 3 ∧ e ≠ 133 ∧ e ≠ 93) {s m : Nat} {v : Value} {xs : List Value} (ho : w.ownsRow w0.heap.size e s v m xs) (hg : w.grownBy w' v.ownBlock) : C17O n w0 W1 b6 b9 mb An cn xsx xss rs ns nx ss g11 c11 g12 c12 idx sts w' :=
  h.grown hg fun k ek => by
    rcases ho.2 with ⟨rfl, _⟩ | ⟨g, cap, cur, rfl, hb, hgg, _⟩
    · simp [Value.ownBlock] at ek
    · simp [Value.ownBlock] at ek
      subst ek
      refine ⟨hb, fun e2 => ?_, cur, e, hgg, he.1, he.2.1, he.2.2.1, he.2.2.2.1⟩
      subst e2
      have h6 : w.heap[g]? = _ := h.g6
      rw [hgg] at h6
      injection h6 with h6
      injection h6 with _ h7 _
      exact he.2.2.2.2 h7
theorem C17O.set (h : C17O n w0 W1 b6 b9 mb An cn xsx xss rs ns nx ss g11 c11 g12 c12 idx sts w) {k i : Nat} {c : Array Value} (hk : Hb w k c 93) (hl : w0.heap.size ≤ k) (h6 : k ≠ b6) (v : Value) : C17O n w0 W1 b6 b9 mb An cn xsx xss rs ns nx ss g11 c11 g12 c12 idx sts (w.setCell ⟨k, i, none⟩ v) :=
  h.grown (setBy w ⟨k, i, none⟩ v) fun k' e => by
    injection e with e
    subst e
    exact ⟨hl, h6, c, 93, hk, by decide, by decide, by decide, by decide⟩
end
/-- Behind whichever operations of region 17 have come up: one more row on both sides. -/
structure I17O (n : Nat) (w0 W1 : World) (b6 b8 b9 mb : Nat) (An : Option Addr) (cn : Nat) (Ax : Option Addr) (cx : Nat) (As : Option Addr) (cz : Nat) (xsx xss : List Value) (rs : List Nat) (ns : List (List Int)) (nx : List (List Nat)) (ss : List (List (Int))) (b11 b12 g11 c11 g12 c12 : Nat) (idx : List Nat) (sts : List (Int)) (t1 t2 t3 t4 t6 t7 t8 t9 t11 t13 : Bool) (p78 : Nat) (gx cx' : Nat) (p83 : Nat) (gs cz' : Nat) (w : World) : Prop where
  core : C17O n w0 W1 b6 b9 mb An cn xsx xss rs ns nx ss g11 c11 g12 c12 idx sts w
  g8 : Hb w b8 #[.slice An ns.length cn, pk t11 (sl gx (nx.length + 1) cx') (.slice Ax nx.length cx), pk t13 (sl gs (ss.length + 1) cz') (.slice As ss.length cz)] 93
  xo : w.ownsRow w0.heap.size 35 1 (pk t4 (sl gx (nx.length + 1) cx') (.slice Ax nx.length cx)) (pk t4 (nx.length + 1) nx.length) (pk t4 (xsx ++ [sl g11 idx.length c11]) xsx)
  so : w.ownsRow w0.heap.size 35 1 (pk t9 (sl gs (ss.length + 1) cz') (.slice As ss.length cz)) (pk t9 (ss.length + 1) ss.length) (pk t9 (xss ++ [sl g12 sts.length c12]) xss)
  ap : (pk t4 (sl gx (nx.length + 1) cx') (.slice Ax nx.length cx)).ownBlock = none ∨ (pk t4 (sl gx (nx.length + 1) cx') (.slice Ax nx.length cx)).ownBlock ≠ (pk t9 (sl gs (ss.length + 1) cz') (.slice As ss.length cz)).ownBlock
  x11 : t4 = false → t9 = false → Hb w b11 #[sl g11 idx.length c11] 35 ∧ (Value.slice Ax nx.length cx).ownBlock ≠ some b11
  x12 : t9 = false → Hb w b12 #[sl g12 sts.length c12] 35 ∧ (t4 = false → (Value.slice Ax nx.length cx).ownBlock ≠ some b12)
  q78 : t3 = true → t4 = false → Hb w p78 #[sl g11 idx.length c11] 35
  q83 : t8 = true → t9 = false → Hb w p83 #[sl g12 sts.length c12] 35 ∧ (t4 = false → (Value.slice Ax nx.length cx).ownBlock ≠ some p83)
  d11 : t11 = true → t4 = true
  d13 : t13 = true → t9 = true
  d9 : t9 = true → t4 = true
  d111 : t11 = true → t1 = true
  d42 : t4 = true → t2 = true
  d136 : t13 = true → t6 = true
  d97 : t9 = true → t7 = true
  d32 : t3 = true → t2 = true
  d87 : t8 = true → t7 = true
  lb : w0.heap.size ≤ b8 ∧ b8 ≠ b6
theorem Marks.set {b : Nat} {w : World} {rs : List Nat} (h : Marks b w rs) {k i : Nat} {c : Array Value} {t : TypeId} (hk : Hb w k c t) (v : Value) : Marks b (w.setCell ⟨k, i, none⟩ v) rs :=
  h.kept (setBy w _ v) fun r hr e => by
    injection e with e
    subst e
    have := (h.at_ _ hr).2
    rw [show w.heap[_]? = _ from hk] at this
    cases this
section
variable {n : Nat} {w0 W1 w w' : World} {b6 b8 b9 mb : Nat} {An : Option Addr} {cn : Nat} {Ax : Option Addr} {cx : Nat} {As : Option Addr} {cz : Nat} {xsx xss : List Value} {rs : List Nat} {ns : List (List Int)} {nx : List (List Nat)} {ss : List (List (Int))} {b11 b12 g11 c11 g12 c12 : Nat} {idx : List Nat} {sts : List (Int)} {t1 t2 t3 t4 t6 t7 t8 t9 t11 t13 : Bool} {p78 gx cx' p83 gs cz' g cap : Nat}
theorem I17O.o3 (h : I17O n w0 W1 b6 b8 b9 mb An cn Ax cx As cz xsx xss rs ns nx ss b11 b12 g11 c11 g12 c12 idx sts t1 true false t4 t6 t7 t8 t9 t11 t13 p78 gx cx' p83 gs cz' w) : I17O n w0 W1 b6 b8 b9 mb An cn Ax cx As cz xsx xss rs ns nx ss b11 b12 g11 c11 g12 c12 idx sts t1 true true t4 t6 t7 t8 t9 t11 t13 w.heap.size gx cx' p83 gs cz' (w.alloc (.cells #[sl g11 idx.length c11] 35)) :=
  ⟨h.core.alloc _, h.g8.alloc _, h.xo.alloc _, h.so.alloc _, h.ap, fun e1 e2 => ⟨(h.x11 e1 e2).1.alloc _, (h.x11 e1 e2).2⟩, fun e => ⟨(h.x12 e).1.alloc _, (h.x12 e).2⟩, fun _ _ => Hb.new _ _ _, fun e1 e2 => ⟨(h.q83 e1 e2).1.alloc _, (h.q83 e1 e2).2⟩, h.d11, h.d13, h.d9, h.d111, h.d42, h.d136, h.d97, fun _ => rfl, h.d87, h.lb⟩
theorem I17O.o8 (h : I17O n w0 W1 b6 b8 b9 mb An cn Ax cx As cz xsx xss rs ns nx ss b11 b12 g11 c11 g12 c12 idx sts t1 t2 t3 t4 t6 true false t9 t11 t13 p78 gx cx' p83 gs cz' w) : I17O n w0 W1 b6 b8 b9 mb An cn Ax cx As cz xsx xss rs ns nx ss b11 b12 g11 c11 g12 c12 idx sts t1 t2 t3 t4 t6 true true t9 t11 t13 p78 gx cx' w.heap.size gs cz' (w.alloc (.cells #[sl g12 sts.length c12] 35)) :=
  ⟨h.core.alloc _, h.g8.alloc _, h.xo.alloc _, h.so.alloc _, h.ap, fun e1 e2 => ⟨(h.x11 e1 e2).1.alloc _, (h.x11 e1 e2).2⟩, fun e => ⟨(h.x12 e).1.alloc _, (h.x12 e).2⟩, fun e1 e2 => (h.q78 e1 e2).alloc _, fun _ _ => ⟨Hb.new _ _ _, fun e4 e => by
    have := h.xo
    subst e4
    exact Nat.lt_irrefl _ (this.lt _ e).2⟩, h.d11, h.d13, h.d9, h.d111, h.d42, h.d136, h.d97, h.d32, fun _ => rfl, h.lb⟩
theorem I17O.o4 (h : I17O n w0 W1 b6 b8 b9 mb An cn Ax cx As cz xsx xss rs ns nx ss b11 b12 g11 c11 g12 c12 idx sts t1 t2 true false t6 t7 t8 false false t13 p78 gx cx' p83 gs cz' w) (ho : w'.ownsRow w0.heap.size 35 1 (sl g (nx.length + 1) cap) (nx.length + 1) (xsx ++ [sl g11 idx.length c11])) (hg : w.grownBy w' (Value.slice Ax nx.length cx).ownBlock) (hloc : (Value.slice Ax nx.length cx).ownBlock = some g ∨ g = w.heap.size) :
    I17O n w0 W1 b6 b8 b9 mb An cn Ax cx As cz xsx xss rs ns nx ss b11 b12 g11 c11 g12 c12 idx sts t1 t2 true true t6 t7 t8 false false t13 p78 g cap p83 gs cz' w' := by
  have xo : w.ownsRow w0.heap.size 35 1 (.slice Ax nx.length cx) nx.length xsx := h.xo
  have so : w.ownsRow w0.heap.size 35 1 (.slice As ss.length cz) ss.length xss := h.so
  have ap : (Value.slice Ax nx.length cx).ownBlock = none ∨ (Value.slice Ax nx.length cx).ownBlock ≠ (Value.slice As ss.length cz).ownBlock := h.ap
  refine ⟨h.core.row ⟨by decide, by decide, by decide, by decide, by decide⟩ xo hg, h.g8.grown hg (h.g8.not_row (by decide) xo), ho, so.kept hg ?_, .inr ?_, fun e => (by cases e), fun e => ⟨(h.x12 e).1.grown hg ((h.x12 e).2 rfl), fun e => (by cases e)⟩, fun _ e => (by cases e), fun e1 e2 => ⟨(h.q83 e1 e2).1.grown hg ((h.q83 e1 e2).2 rfl), fun e => (by cases e)⟩, fun e => (by cases e), h.d13, fun _ => rfl, fun e => (by cases e), fun _ => h.d32 rfl, h.d136, h.d97, h.d32, h.d87, h.lb⟩
  · rcases ap with e | e
    · rw [e]
      cases (Value.slice As ss.length cz).ownBlock
      · exact .inl rfl
      · exact .inr (by simp)
    · exact .inr e.symm
  · show some g ≠ (Value.slice As ss.length cz).ownBlock
    intro e
    rcases hloc with e1 | e1
    · rcases ap with e2 | e2
      · rw [e1] at e2; cases e2
      · exact e2 (e1.trans e)
    · have := (so.lt g e.symm).2
      omega
theorem I17O.o9 (h : I17O n w0 W1 b6 b8 b9 mb An cn Ax cx As cz xsx xss rs ns nx ss b11 b12 g11 c11 g12 c12 idx sts t1 t2 t3 true t6 t7 true false t11 false p78 gx cx' p83 gs cz' w) (ho : w'.ownsRow w0.heap.size 35 1 (sl g (ss.length + 1) cap) (ss.length + 1) (xss ++ [sl g12 sts.length c12])) (hg : w.grownBy w' (Value.slice As ss.length cz).ownBlock) (hloc : (Value.slice As ss.length cz).ownBlock = some g ∨ g = w.heap.size) :
    I17O n w0 W1 b6 b8 b9 mb An cn Ax cx As cz xsx xss rs ns nx ss b11 b12 g11 c11 g12 c12 idx sts t1 t2 t3 true t6 t7 true true t11 false p78 gx cx' p83 g cap w' := by
  have xo : w.ownsRow w0.heap.size 35 1 (sl gx (nx.length + 1) cx') (nx.length + 1) (xsx ++ [sl g11 idx.length c11]) := h.xo
  have so : w.ownsRow w0.heap.size 35 1 (.slice As ss.length cz) ss.length xss := h.so
  have ap : (sl gx (nx.length + 1) cx').ownBlock ≠ (Value.slice As ss.length cz).ownBlock := by
    rcases h.ap with e | e
    · cases e
    · exact e
  refine ⟨h.core.row ⟨by decide, by decide, by decide, by decide, by decide⟩ so hg, h.g8.grown hg (h.g8.not_row (by decide) so), xo.kept hg (.inr ap), ho, .inr ?_, fun e => (by cases e), fun e => (by cases e), fun _ e => (by cases e), fun _ e => (by cases e), h.d11, fun e => (by cases e), fun _ => rfl, h.d111, h.d42, fun e => (by cases e), fun _ => h.d87 rfl, h.d32, h.d87, h.lb⟩
  show some gx ≠ some g
  intro e
  injection e with e
  rcases hloc with e1 | e1
  · exact ap (by rw [e1, e]; rfl)
  · have := (xo.lt gx rfl).2
    omega
theorem I17O.o11 (h : I17O n w0 W1 b6 b8 b9 mb An cn Ax cx As cz xsx xss rs ns nx ss b11 b12 g11 c11 g12 c12 idx sts true t2 t3 true t6 t7 t8 true false t13 p78 gx cx' p83 gs cz' w) : I17O n w0 W1 b6 b8 b9 mb An cn Ax cx As cz xsx xss rs ns nx ss b11 b12 g11 c11 g12 c12 idx sts true t2 t3 true t6 t7 t8 true true t13 p78 gx cx' p83 gs cz' (w.setCell ⟨b8, 1, none⟩ (sl gx (nx.length + 1) cx')) :=
  ⟨h.core.set h.g8 h.lb.1 h.lb.2 _, h.g8.set 1 _, h.xo.kept (setBy w _ _) (.inr (h.g8.not_row (by decide) h.xo)), h.so.kept (setBy w _ _) (.inr (h.g8.not_row (by decide) h.so)), h.ap, fun e => (by cases e), fun e => (by cases e), fun _ e => (by cases e), fun _ e => (by cases e), fun _ => rfl, h.d13, h.d9, fun _ => rfl, h.d42, h.d136, h.d97, h.d32, h.d87, h.lb⟩
theorem I17O.o13 (h : I17O n w0 W1 b6 b8 b9 mb An cn Ax cx As cz xsx xss rs ns nx ss b11 b12 g11 c11 g12 c12 idx sts t1 t2 t3 true true t7 t8 true true false p78 gx cx' p83 gs cz' w) : I17O n w0 W1 b6 b8 b9 mb An cn Ax cx As cz xsx xss rs ns nx ss b11 b12 g11 c11 g12 c12 idx sts t1 t2 t3 true true t7 t8 true true true p78 gx cx' p83 gs cz' (w.setCell ⟨b8, 2, none⟩ (sl gs (ss.length + 1) cz')) :=
  ⟨h.core.set h.g8 h.lb.1 h.lb.2 _, h.g8.set 2 _, h.xo.kept (setBy w _ _) (.inr (h.g8.not_row (by decide) h.xo)), h.so.kept (setBy w _ _) (.inr (h.g8.not_row (by decide) h.so)), h.ap, fun e => (by cases e), fun e => (by cases e), fun _ e => (by cases e), fun _ e => (by cases e), h.d11, fun _ => rfl, h.d9, h.d111, h.d42, fun _ => rfl, h.d97, h.d32, h.d87, h.lb⟩
end
def J17O (u : Nat → Value) (ds : List Deferred) (n : Nat) (w0 W1 : World) (b6 b8 b9 mb : Nat) (An : Option Addr) (cn : Nat) (Ax : Option Addr) (cx : Nat) (As : Option Addr) (cz : Nat) (xsx xss : List Value) (rs : List Nat) (ns : List (List Int)) (nx : List (List Nat)) (ss : List (List (Int))) (b11 b12 g11 c11 g12 c12 : Nat) (idx : List Nat) (sts : List (Int)) (t0 t1 t2 t3 t4 t5 t6 t7 t8 t9 t10 t11 t12 t13 : Bool) (a : Act) (w : World) : Prop :=
  ∃ p78 gx cx' p83 gs cz' : Nat, a = { tmps := (List.toArray ((u 0) :: (u 1) :: (u 2) :: (u 3) :: (u 4) :: (u 5) :: (u 6) :: (u 7) :: (.pointer (some ⟨b8, 0, none⟩)) :: (u 9) :: (u 10) :: (.pointer (some ⟨b11, 0, none⟩)) :: (.pointer (some ⟨b12, 0, none⟩)) :: (u 13) :: (u 14) :: (u 15) :: (u 16) :: (u 17) :: (u 18) :: (u 19) :: (u 20) :: (u 21) :: (u 22) :: (u 23) :: (u 24) :: (u 25) :: (u 26) :: (u 27) :: (u 28) :: (u 29) :: (u 30) :: (u 31) :: (u 32) :: (u 33) :: (u 34) :: (u 35) :: (u 36) :: (u 37) :: (u 38) :: (u 39) :: (u 40) :: (u 41) :: (u 42) :: (u 43) :: (u 44) :: (u 45) :: (u 46) :: (u 47) :: (u 48) :: (u 49) :: (u 50) :: (u 51) :: (u 52) :: (u 53) :: (u 54) :: (u 55) :: (u 56) :: (u 57) :: (u 58) :: (u 59) :: (u 60) :: (u 61) :: (u 62) :: (u 63) :: (u 64) :: (u 65) :: (u 66) :: (u 67) :: (u 68) :: (u 69) :: (u 70) :: (u 71) :: (u 72) :: (u 73) :: (u 74) :: (pk t0 (.pointer (some ⟨b8, 1, none⟩)) (u 75)) :: (pk t1 (.slice Ax nx.length cx) (u 76)) :: (pk t2 (sl g11 idx.length c11) (u 77)) :: (pk t3 (sl p78 1 1) (u 78)) :: (pk t4 (sl gx (nx.length + 1) cx') (u 79)) :: (pk t5 (.pointer (some ⟨b8, 2, none⟩)) (u 80)) :: (pk t6 (.slice As ss.length cz) (u 81)) :: (pk t7 (sl g12 sts.length c12) (u 82)) :: (pk t8 (sl p83 1 1) (u 83)) :: (pk t9 (sl gs (ss.length + 1) cz') (u 84)) :: (pk t10 (.pointer (some ⟨b8, 1, none⟩)) (u 85)) :: (pk t12 (.pointer (some ⟨b8, 2, none⟩)) (u 86)) :: (u 87) :: [])), defers := ds } ∧ I17O n w0 W1 b6 b8 b9 mb An cn Ax cx As cz xsx xss rs ns nx ss b11 b12 g11 c11 g12 c12 idx sts t1 t2 t3 t4 t6 t7 t8 t9 t11 t13 p78 gx cx' p83 gs cz' w
end Go.Proofs.Ythpoeeadhjnljaa
