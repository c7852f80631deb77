/-
  All that is found from a first node on, in the order in which it is found: the mathematics of a graph. Offsets of a finite problem: the mathematics.
-/
import Derived.Lib.Hide
import Derived.Test.YthpoeeadhjnljaaBs8
/- All that is found from a first node on, in the order in which it is found: the mathematics of a graph. -/
namespace Go.Proofs.Ythpoeeadhjnljaa
set_option linter.unusedVariables false
namespace Q
section
variable {N S : Type} [DecidableEq N]
/-- One more step: its node is put behind the others if it is new; its place; what is told of it. -/
def addG (g : List N × List Nat × List S) (e : N × S) : List N × List Nat × List S := (if e.1 ∈ g.1 then g.1 else g.1 ++ [e.1], g.2.1 ++ [g.1.idxOf e.1], g.2.2 ++ [e.2])
def place (ns : List N) (x : N) : Nat := ns.idxOf x
def grow (ns : List N) (x : N) : List N := if x ∈ ns then ns else ns ++ [x]
theorem addG_eq (g : List N × List Nat × List S) (e : N × S) : addG g e = (grow g.1 e.1, g.2.1 ++ [place g.1 e.1], g.2.2 ++ [e.2]) := rfl
theorem place_yes {ns : List N} {x : N} (h : x ∈ ns) : ns[place ns x]? = some x := by
  have hl := List.idxOf_lt_length_of_mem h
  rw [place, List.getElem?_eq_getElem hl]
  exact congrArg some (List.getElem_idxOf hl)
theorem place_first {ns : List N} {x : N} {j : Nat} (h : ns[j]? = some x) : place ns x ≤ j := by
  rcases Nat.lt_or_ge j (place ns x) with hlt | hge
  · have := List.not_of_lt_findIdx (p := (· == x)) (xs := ns) (i := j) hlt
    obtain ⟨hj, e⟩ := List.getElem?_eq_some_iff.1 h
    simp [e] at this
  · exact hge
theorem place_no {ns : List N} {x : N} (h : x ∉ ns) : place ns x = ns.length := List.idxOf_eq_length h
theorem grow_yes {ns : List N} {x : N} (h : x ∈ ns) : grow ns x = ns := if_pos h
theorem grow_no {ns : List N} {x : N} (h : x ∉ ns) : grow ns x = ns ++ [x] := if_neg h
def rowG (ns : List N) (es : List (N × S)) : List N × List Nat × List S := es.foldl addG (ns, [], [])
def goG (stp : N → List (N × S)) (most : Nat) : Nat → Nat → List N → List (List Nat) → List (List S) → Option (List N × List (List Nat) × List (List S))
  | 0, _, _, _, _ => none
  | f + 1, k, ns, nx, ss => match ns[k]? with
    | none => some (ns, nx, ss)
    | some x => if most < (rowG ns (stp x)).1.length then none else goG stp most f (k + 1) (rowG ns (stp x)).1 (nx ++ [(rowG ns (stp x)).2.1]) (ss ++ [(rowG ns (stp x)).2.2])
theorem goG_end {stp : N → List (N × S)} {most f k : Nat} {ns : List N} {nx : List (List Nat)} {ss : List (List S)} (h : ns.length ≤ k) : goG stp most (f + 1) k ns nx ss = some (ns, nx, ss) := by
  rw [goG, List.getElem?_eq_none h]
theorem goG_big {stp : N → List (N × S)} {most f k : Nat} {ns : List N} {nx : List (List Nat)} {ss : List (List S)} {x : N} (h : ns[k]? = some x) (hb : most < (rowG ns (stp x)).1.length) : goG stp most (f + 1) k ns nx ss = none := by
  rw [goG, h]
  exact if_pos hb
theorem goG_step {stp : N → List (N × S)} {most f k : Nat} {ns : List N} {nx : List (List Nat)} {ss : List (List S)} {x : N} (h : ns[k]? = some x) (hb : ¬ most < (rowG ns (stp x)).1.length) : goG stp most (f + 1) k ns nx ss = goG stp most f (k + 1) (rowG ns (stp x)).1 (nx ++ [(rowG ns (stp x)).2.1]) (ss ++ [(rowG ns (stp x)).2.2]) := by
  rw [goG, h]
  exact if_neg hb
theorem rowG_snoc (ns : List N) (es : List (N × S)) (e : N × S) : rowG ns (es ++ [e]) = addG (rowG ns es) e := by
  unfold rowG; rw [List.foldl_append]; rfl
theorem rowG_nil (ns : List N) : rowG ns ([] : List (N × S)) = (ns, [], []) := rfl
/-- What a row is, whatever has come. -/
structure RowI (P : N → Prop) (ns : List N) (es : List (N × S)) (g : List N × List Nat × List S) : Prop where
  l1 : g.2.1.length = es.length
  s2 : g.2.2 = es.map (·.2)
  lo : ns.length ≤ g.1.length
  hi : g.1.length ≤ ns.length + es.length
  old : ∀ (i : Nat) (x : N), ns[i]? = some x → g.1[i]? = some x
  nd : g.1.Nodup
  all : ∀ x ∈ g.1, P x
  pl : ∀ (r : Nat) (y : N) (s : S), es[r]? = some (y, s) → ∃ j : Nat, g.2.1[r]? = some j ∧ g.1[j]? = some y
omit [DecidableEq N] in
theorem RowI.start {P : N → Prop} {ns : List N} (hn : ns.Nodup) (ha : ∀ x ∈ ns, P x) : RowI P ns ([] : List (N × S)) (ns, [], []) :=
  ⟨rfl, rfl, Nat.le_refl _, Nat.le_refl _, fun i x h => h, hn, ha, fun r y s h => by simp at h⟩
theorem RowI.add {P : N → Prop} {ns : List N} {es : List (N × S)} {g : List N × List Nat × List S} (h : RowI P ns es g) (e : N × S) (he : P e.1) : RowI P ns (es ++ [e]) (addG g e) := by
  obtain ⟨l1, s2, lo, hi, old, nd, all, pl⟩ := h
  have hput : ∀ (i : Nat) (x : N), g.1[i]? = some x → (addG g e).1[i]? = some x := fun i x hx => by
    show (if e.1 ∈ g.1 then g.1 else g.1 ++ [e.1])[i]? = some x
    have hl := (List.getElem?_eq_some_iff.1 hx).1
    split
    · exact hx
    · rw [List.getElem?_append_left hl]; exact hx
  refine ⟨by simp [addG, l1], by simp [addG, s2], ?_, ?_, fun i x hx => hput i x (old i x hx), ?_, ?_, ?_⟩
  · show ns.length ≤ (if e.1 ∈ g.1 then g.1 else g.1 ++ [e.1]).length
    split
    · exact lo
    · simp; omega
  · show (if e.1 ∈ g.1 then g.1 else g.1 ++ [e.1]).length ≤ _
    rw [List.length_append, List.length_singleton]
    split
    · omega
    · simp; omega
  · show (if e.1 ∈ g.1 then g.1 else g.1 ++ [e.1]).Nodup
    split
    · exact nd
    · rename_i hm
      rw [List.nodup_append]
      exact ⟨nd, by simp, fun a ha b hb => by
        obtain rfl := List.mem_singleton.1 hb
        exact fun h => hm (h ▸ ha)⟩
  · intro x hx
    have hx : x ∈ (if e.1 ∈ g.1 then g.1 else g.1 ++ [e.1]) := hx
    split at hx
    · exact all x hx
    · rcases List.mem_append.1 hx with h | h
      · exact all x h
      · obtain rfl := List.mem_singleton.1 h
        exact he
  · intro r y s hr
    by_cases hlt : r < es.length
    · rw [List.getElem?_append_left hlt] at hr
      obtain ⟨j, h1, h2⟩ := pl r y s hr
      refine ⟨j, ?_, hput j y h2⟩
      show (g.2.1 ++ [g.1.idxOf e.1])[r]? = some j
      rw [List.getElem?_append_left (by omega)]
      exact h1
    · have hl := (List.getElem?_eq_some_iff.1 hr).1
      rw [List.length_append, List.length_singleton] at hl
      obtain rfl : r = es.length := by omega
      rw [List.getElem?_append_right (Nat.le_refl _), Nat.sub_self] at hr
      have e1 : e = (y, s) := by simpa using hr
      subst e1
      refine ⟨g.1.idxOf y, ?_, ?_⟩
      · show (g.2.1 ++ [g.1.idxOf y])[es.length]? = _
        rw [List.getElem?_append_right (by omega), l1, Nat.sub_self]
        rfl
      · show (if y ∈ g.1 then g.1 else g.1 ++ [y])[g.1.idxOf y]? = some y
        split
        · rename_i hm
          have hlt' := List.idxOf_lt_length_of_mem hm
          rw [List.getElem?_eq_getElem hlt']
          exact congrArg some (List.getElem_idxOf hlt')
        · rename_i hm
          rw [List.idxOf_eq_length hm, List.getElem?_append_right (Nat.le_refl _), Nat.sub_self]
          rfl
theorem RowI.of {P : N → Prop} {ns : List N} (hn : ns.Nodup) (ha : ∀ x ∈ ns, P x) (es : List (N × S)) (he : ∀ e ∈ es, P e.1) : RowI P ns es (rowG ns es) := by
  have h : ∀ m, m ≤ es.length → RowI P ns (es.take m) (rowG ns (es.take m)) := fun m => by
    induction m with
    | zero => exact fun _ => by rw [List.take_zero]; exact RowI.start hn ha
    | succ m ih =>
      intro hm
      rw [List.take_succ_eq_append_getElem (by omega), rowG_snoc]
      exact (ih (by omega)).add _ (he _ (List.getElem_mem _))
  have := h es.length (Nat.le_refl _)
  rwa [List.take_length] at this
/-- What is found when the rounds of the first k nodes are over. -/
structure GrI (P : N → Prop) (stp : N → List (N × S)) (most : Nat) (x0 : N) (k : Nat) (ns : List N) (nx : List (List Nat)) (ss : List (List S)) : Prop where
  z : ns[0]? = some x0
  k1 : nx.length = k
  k2 : ss.length = k
  kl : k ≤ ns.length
  mo : ns.length ≤ most
  nd : ns.Nodup
  all : ∀ x ∈ ns, P x
  row : ∀ (i : Nat) (x : N), i < k → ns[i]? = some x → ∃ a : List Nat, nx[i]? = some a ∧ a.length = (stp x).length ∧ ss[i]? = some ((stp x).map (·.2)) ∧ ∀ (r : Nat) (y : N) (s : S), (stp x)[r]? = some (y, s) → ∃ j : Nat, a[r]? = some j ∧ ns[j]? = some y
omit [DecidableEq N] in
theorem GrI.start {P : N → Prop} {stp : N → List (N × S)} {most : Nat} {x0 : N} (h0 : P x0) (hm : 1 ≤ most) : GrI P stp most x0 0 [x0] [] [] :=
  ⟨rfl, rfl, rfl, Nat.zero_le _, hm, by simp, fun x h => by obtain rfl := List.mem_singleton.1 h; exact h0, fun i x h => by omega⟩
theorem GrI.rowI {P : N → Prop} {stp : N → List (N × S)} {most : Nat} {x0 : N} {k : Nat} {ns : List N} {nx : List (List Nat)} {ss : List (List S)} (h : GrI P stp most x0 k ns nx ss) (hs : ∀ x, P x → ∀ e ∈ stp x, P e.1) {x : N} (hx : ns[k]? = some x) : RowI P ns (stp x) (rowG ns (stp x)) :=
  RowI.of h.nd h.all _ (hs x (h.all x (List.mem_of_getElem? hx)))
theorem GrI.step {P : N → Prop} {stp : N → List (N × S)} {most : Nat} {x0 : N} {k : Nat} {ns : List N} {nx : List (List Nat)} {ss : List (List S)} (h : GrI P stp most x0 k ns nx ss) (hs : ∀ x, P x → ∀ e ∈ stp x, P e.1) {x : N} (hx : ns[k]? = some x) (hb : ¬ most < (rowG ns (stp x)).1.length) :
    GrI P stp most x0 (k + 1) (rowG ns (stp x)).1 (nx ++ [(rowG ns (stp x)).2.1]) (ss ++ [(rowG ns (stp x)).2.2]) := by
  have hr := h.rowI hs hx
  have hk := (List.getElem?_eq_some_iff.1 hx).1
  have hlo := hr.lo
  refine ⟨hr.old 0 x0 h.z, by simp [h.k1], by simp [h.k2], by omega, by omega, hr.nd, hr.all, fun i y hi hy => ?_⟩
  by_cases e : i < k
  · obtain ⟨a, a1, a2, a3, a4⟩ := h.row i (ns[i]'(by omega)) e (List.getElem?_eq_getElem _)
    have ey : y = ns[i]'(by omega) := by
      have := hr.old i _ (List.getElem?_eq_getElem (l := ns) (i := i) (by omega))
      rw [hy] at this
      simpa using this
    subst ey
    refine ⟨a, by rw [List.getElem?_append_left (by rw [h.k1]; exact e)]; exact a1, a2, by rw [List.getElem?_append_left (by rw [h.k2]; exact e)]; exact a3, fun r y s hq => ?_⟩
    obtain ⟨j, j1, j2⟩ := a4 r y s hq
    exact ⟨j, j1, hr.old j y j2⟩
  · obtain rfl : i = k := by omega
    have ey : y = x := by
      have := hr.old i x hx
      rw [hy] at this
      simpa using this
    subst ey
    refine ⟨(rowG ns (stp y)).2.1, by rw [List.getElem?_append_right (by rw [h.k1]; exact Nat.le_refl _), h.k1, Nat.sub_self]; rfl, hr.l1, by rw [List.getElem?_append_right (by rw [h.k2]; exact Nat.le_refl _), h.k2, Nat.sub_self, hr.s2]; rfl, hr.pl⟩
theorem goG_gr {P : N → Prop} {stp : N → List (N × S)} {most : Nat} {x0 : N} (hs : ∀ x, P x → ∀ e ∈ stp x, P e.1) : ∀ f k ns nx ss, GrI P stp most x0 k ns nx ss → ∀ a b c, goG stp most f k ns nx ss = some (a, b, c) → GrI P stp most x0 a.length a b c
  | 0, k, ns, nx, ss, _, a, b, c, h => by simp [goG] at h
  | f + 1, k, ns, nx, ss, hg, a, b, c, h => by
    rcases hx : ns[k]? with _ | x
    · rw [goG_end (List.getElem?_eq_none_iff.1 hx)] at h
      have hk : k = ns.length := by have := hg.kl; have := List.getElem?_eq_none_iff.1 hx; omega
      simp only [Option.some.injEq, Prod.mk.injEq] at h
      obtain ⟨rfl, rfl, rfl⟩ := h
      rw [← hk]
      exact hg
    · by_cases hb : most < (rowG ns (stp x)).1.length
      · rw [goG_big hx hb] at h
        cases h
      · rw [goG_step hx hb] at h
        exact goG_gr hs f _ _ _ _ (hg.step hs hx hb) a b c h
def graph (stp : N → List (N × S)) (most : Nat) (x0 : N) : Option (List N × List (List Nat) × List (List S)) := goG stp most (most + 1) 0 [x0] [] []
theorem graph_gr {P : N → Prop} {stp : N → List (N × S)} {most : Nat} {x0 : N} (h0 : P x0) (hm : 1 ≤ most) (hs : ∀ x, P x → ∀ e ∈ stp x, P e.1) {a : List N} {b : List (List Nat)} {c : List (List S)} (h : graph stp most x0 = some (a, b, c)) : GrI P stp most x0 a.length a b c :=
  goG_gr hs _ _ _ _ _ (GrI.start h0 hm) a b c h
end
end Q
end Go.Proofs.Ythpoeeadhjnljaa

/- Offsets of a finite problem: the mathematics. -/
namespace Go.Proofs.Ythpoeeadhjnljaa
set_option linter.unusedVariables false
namespace Q
/-- A list less its least number. -/
def offL (v : List Int) : List Int := v.map fun z => z - leastK v v.length
def offP (v : List Int) : List Int × Int := (offL v, leastK v v.length)
/-- What is next to an offset by the requests 0, 1, .., and what the least value grows by. -/
def stpO (L S : List (List Int)) (v : List Int) : List (List Int × Int) := (List.range S.length).map fun r => offP (nextQ L S v r)
theorem offL_len (v : List Int) : (offL v).length = v.length := by simp [offL]
/-- An offset's form: a number in 0..99 for each state. -/
structure OkO (n : Nat) (v : List Int) : Prop where
  len : v.length = n
  vals : Vals n 99 v
theorem off_ok {L S : List (List Int)} (h : Pr L S) {w : List Int} (hl : w.length = L.length) (hw : Lip L w) : OkO L.length (offL w) := by
  refine ⟨by rw [offL_len, hl], fun s hs => ?_⟩
  have e : (offL w)[s]? = some (w[s]'(by omega) - leastK w w.length) := by simp [offL, List.getElem?_eq_getElem (show s < w.length by omega)]
  have g : ∀ t (ht : t < w.length), w.getD t 0 = w[t] := fun t ht => by rw [List.getD_eq_getElem?_getD, List.getElem?_eq_getElem ht]; rfl
  refine ⟨_, e, ?_, ?_⟩
  · have := (leastK_le (l := w) w.length).2 s (by omega)
    rw [g s (by omega)] at this
    omega
  · obtain ⟨t, ht, e2⟩ := List.mem_iff_getElem.1 (leastK_mem (l := w) (by have := h.n1; omega) w.length (Nat.le_refl _))
    have h1 := hw t s (by omega) hs
    rw [g t ht, g s (by omega), e2] at h1
    have h2 := (h.dst (x := t) (y := s) (by omega) hs).2.1
    omega
theorem least_bd {L S : List (List Int)} (h : Pr L S) {w : List Int} {M : Int} (hl : w.length = L.length) (hv : Vals L.length M w) : 0 ≤ leastK w w.length ∧ leastK w w.length ≤ M := by
  obtain ⟨t, ht, e⟩ := List.mem_iff_getElem.1 (leastK_mem (l := w) (by have := h.n1; omega) w.length (Nat.le_refl _))
  obtain ⟨z, hz, h0, h1⟩ := hv t (by omega)
  rw [List.getElem?_eq_getElem ht, e] at hz
  simp only [Option.some.injEq] at hz
  subst hz
  exact ⟨h0, h1⟩
theorem row_lip {L S : List (List Int)} (h : Pr L S) {s : Nat} (hs : s < L.length) : Lip L (L.getD s []) := fun a b ha hb => h.tri hs ha hb
theorem row_get {L : List (List Int)} {s : Nat} (hs : s < L.length) : L.getD s [] = L[s] := by rw [List.getD_eq_getElem?_getD, List.getElem?_eq_getElem hs]; rfl
theorem row_ok {L S : List (List Int)} (h : Pr L S) {s : Nat} (hs : s < L.length) : (L.getD s []).length = L.length ∧ Vals L.length 99 (L.getD s []) := by
  have e := row_get hs
  have hl : L[s].length = L.length := h.sq _ (List.getElem_mem hs)
  refine ⟨by rw [e, hl], fun t ht => ?_⟩
  have d := h.dst hs ht
  refine ⟨Q.dst L s t, ?_, d.1, d.2.1⟩
  unfold Q.dst
  rw [e, List.getD_eq_getElem?_getD, List.getElem?_eq_getElem (by omega)]
  rfl
theorem first_ok {L S : List (List Int)} (h : Pr L S) {s : Nat} (hs : s < L.length) : OkO L.length (offL (L.getD s [])) := off_ok h (row_ok h hs).1 (row_lip h hs)
theorem next_ok {L S : List (List Int)} (h : Pr L S) {v : List Int} (hv : OkO L.length v) {r : Nat} (hr : r < S.length) : OkO L.length (offL (nextQ L S v r)) ∧ 0 ≤ leastK (nextQ L S v r) (nextQ L S v r).length ∧ leastK (nextQ L S v r) (nextQ L S v r).length ≤ 218 :=
  ⟨off_ok h (nextQ_len _ _ _ _) (next_lip h hr), least_bd h (nextQ_len _ _ _ _) ((nextQ_vals h hr hv.vals).wide (by omega))⟩
theorem stpO_len (L S : List (List Int)) (v : List Int) : (stpO L S v).length = S.length := by simp [stpO]
theorem stpO_at {L S : List (List Int)} {v : List Int} {r : Nat} (hr : r < S.length) : (stpO L S v)[r]? = some (offP (nextQ L S v r)) := by simp [stpO, hr]
theorem stpO_ok {L S : List (List Int)} (h : Pr L S) : ∀ v, OkO L.length v → ∀ e ∈ stpO L S v, OkO L.length e.1 := fun v hv e he => by
  obtain ⟨r, hr, rfl⟩ := List.mem_map.1 he
  exact (next_ok h hv (List.mem_range.1 hr)).1
theorem stpO_grow {L S : List (List Int)} (h : Pr L S) {v : List Int} (hv : OkO L.length v) : ∀ e ∈ stpO L S v, 0 ≤ e.2 ∧ e.2 ≤ 218 := fun e he => by
  obtain ⟨r, hr, rfl⟩ := List.mem_map.1 he
  exact (next_ok h hv (List.mem_range.1 hr)).2
/-- All offsets of a start state, with the steps between them; none if they are too many. -/
def offG (L S : List (List Int)) (s0 : Nat) : Option (List (List Int) × List (List Nat) × List (List Int)) := graph (stpO L S) 400 (offL (L.getD s0 []))
theorem offG_gr {L S : List (List Int)} (h : Pr L S) {s0 : Nat} (h0 : s0 < L.length) {a b c} (hg : offG L S s0 = some (a, b, c)) : GrI (OkO L.length) (stpO L S) 400 (offL (L.getD s0 [])) a.length a b c :=
  graph_gr (first_ok h h0) (by omega) (stpO_ok h) hg
end Q
end Go.Proofs.Ythpoeeadhjnljaa
