/-
  Caches as step machines: what a request does, policy by policy. Nothing of the program stands here. Caches as step machines: a request leads from a valid cache to a valid one. Nothing of the program stands here. Runs of a cache over a sequence: the cache after k requests, the places of the faults. Nothing of the program stands here.
-/
import Derived.Test.YtdjafooabpcbmaaBa
/- Caches as step machines: what a request does, policy by policy. Nothing of the program stands here. -/
namespace Go.Proofs.Ytdjafooabpcbmaa
/-- A cache: policy, size, pages, marks, hand. (z: blocks of the heap that a walk wants kept; no part of the cache.) -/
structure Ca where
  p : Int
  s : Int
  ps : List Int
  ms : List Int
  h : Int
  z : Nat → Option Obj := fun _ => none
namespace Q
/-- Cells a .. b - 1 made 0. -/
def clr (ms : List Int) (a b : Nat) : List Int := ms.mapIdx fun i z => if a ≤ i ∧ i < b then 0 else z
theorem clr_len (ms : List Int) (a b : Nat) : (clr ms a b).length = ms.length := by simp [clr]
theorem clr_at (ms : List Int) (a b i : Nat) : (clr ms a b)[i]? = (ms[i]?).map fun z => if a ≤ i ∧ i < b then 0 else z := by simp [clr]
theorem clr_none (ms : List Int) (a : Nat) : clr ms a a = ms := by
  apply List.ext_getElem?
  intro i
  rw [clr_at]
  cases ms[i]? with
  | none => rfl
  | some z => simp; omega
/-- The first place of 0 in a list, or its length. -/
def z0 : List Int → Nat
  | [] => 0
  | x :: xs => if x = 0 then 0 else z0 xs + 1
theorem z0_le : ∀ l, z0 l ≤ l.length
  | [] => Nat.le_refl _
  | x :: xs => by have := z0_le xs; unfold z0; split <;> simp <;> omega
theorem z0_lt : ∀ {l : List Int}, (0 : Int) ∈ l → z0 l < l.length
  | x :: xs, h => by
    unfold z0
    split
    · simp
    · rename_i hx
      have := z0_lt (l := xs) (by simpa [Ne.symm hx, eq_comm] using h)
      simp; omega
theorem z0_no : ∀ {l : List Int}, (0 : Int) ∉ l → z0 l = l.length
  | [], _ => rfl
  | x :: xs, h => by
    simp at h
    unfold z0
    rw [if_neg (fun e => h.1 e.symm), z0_no h.2]
    rfl
theorem z0_at : ∀ {l : List Int}, (0 : Int) ∈ l → l[z0 l]? = some 0
  | x :: xs, h => by
    unfold z0
    split
    · rename_i e; simp [e]
    · rename_i hx
      simpa using z0_at (l := xs) (by simpa [Ne.symm hx, eq_comm] using h)
theorem z0_before : ∀ {l : List Int} {k : Nat} {y : Int}, k < z0 l → l[k]? = some y → y ≠ 0
  | x :: xs, k, y, hk, hy => by
    unfold z0 at hk
    split at hk
    · omega
    · rename_i hx
      cases k with
      | zero => simp at hy; omega
      | succ k => exact z0_before (l := xs) (k := k) (by omega) (by simpa using hy)
/-- The search of the clock: the place found, and the marks behind it. -/
def pass (ms : List Int) (h : Nat) : Nat × List Int :=
  if (0 : Int) ∈ ms.drop h then (h + z0 (ms.drop h), clr ms h (h + z0 (ms.drop h)))
  else (z0 (clr ms h ms.length), clr (clr ms h ms.length) 0 (z0 (clr ms h ms.length)))
theorem drop_at' {ms : List Int} {h : Nat} {x : Int} (hx : ms[h]? = some x) : ms.drop h = x :: ms.drop (h + 1) := by
  obtain ⟨hl, rfl⟩ := List.getElem?_eq_some_iff.1 hx
  exact List.drop_eq_getElem_cons hl
theorem pass_here {ms : List Int} {h : Nat} (hx : ms[h]? = some 0) : pass ms h = (h, ms) := by
  unfold pass
  rw [drop_at' hx, if_pos (by simp)]
  simp [z0, clr_none]
theorem set_drop (ms : List Int) (h : Nat) (x : Int) : (ms.set h x).drop (h + 1) = ms.drop (h + 1) := by
  apply List.ext_getElem?
  intro i
  rw [List.getElem?_drop, List.getElem?_drop, List.getElem?_set_ne (by omega)]
theorem clr_step {ms : List Int} {h b : Nat} (hb : h < b) : clr (ms.set h 0) (h + 1) b = clr ms h b := by
  apply List.ext_getElem?
  intro i
  rw [clr_at, clr_at]
  by_cases e : i = h
  · subst e
    by_cases hl : i < ms.length
    · rw [List.getElem?_set_self hl, List.getElem?_eq_getElem hl]
      simp; intro; omega
    · rw [List.getElem?_eq_none (by simp; omega), List.getElem?_eq_none (by omega)]; rfl
  · rw [List.getElem?_set_ne (fun x => e x.symm)]
    cases ms[i]? with
    | none => rfl
    | some z =>
      have : (h + 1 ≤ i ∧ i < b) ↔ (h ≤ i ∧ i < b) := by omega
      simp [this]
theorem clr_last {ms : List Int} {h : Nat} (hh : h + 1 = ms.length) : clr ms h ms.length = ms.set h 0 := by
  rw [← clr_step (by omega), ← hh]
  exact clr_none _ _
theorem pass_on {ms : List Int} {h : Nat} (hx : ms[h]? = some 1) : pass ms h = pass (ms.set h 0) ((h + 1) % ms.length) := by
  have hl : h < ms.length := (List.getElem?_eq_some_iff.1 hx).1
  by_cases e : h + 1 = ms.length
  · rw [e, Nat.mod_self]
    have hd : ms.drop h = [1] := by rw [drop_at' hx, e, List.drop_length]
    have hm : (0 : Int) ∈ ms.set h 0 := List.mem_of_getElem? (List.getElem?_set_self hl)
    unfold pass
    rw [if_neg (by rw [hd]; simp), List.drop_zero, if_pos hm, clr_last e]
    simp
  · rw [Nat.mod_eq_of_lt (by omega)]
    unfold pass
    rw [set_drop, List.length_set]
    have hd := drop_at' hx
    by_cases h0 : (0 : Int) ∈ ms.drop (h + 1)
    · rw [if_pos (by rw [hd]; simp [h0]), if_pos h0, hd]
      have hz : z0 (1 :: ms.drop (h + 1)) = z0 (ms.drop (h + 1)) + 1 := by rw [z0, if_neg (by decide)]
      rw [hz, clr_step (by omega)]
      have : h + (z0 (ms.drop (h + 1)) + 1) = h + 1 + z0 (ms.drop (h + 1)) := by omega
      rw [this]
    · rw [if_neg (by rw [hd]; simpa using h0), if_neg h0, clr_step (by omega)]
theorem pass_len (ms : List Int) (h : Nat) : (pass ms h).2.length = ms.length := by
  unfold pass; split <;> simp [clr_len]
theorem clr_mem {ms : List Int} {a b : Nat} {z : Int} (h : z ∈ clr ms a b) : z = 0 ∨ z ∈ ms := by
  obtain ⟨i, hi⟩ := List.getElem?_of_mem h
  rw [clr_at] at hi
  cases hm : ms[i]? with
  | none => rw [hm] at hi; cases hi
  | some y =>
    rw [hm] at hi
    simp at hi
    split at hi
    · exact .inl hi.symm
    · exact .inr (hi ▸ List.mem_of_getElem? hm)
theorem pass_lt {ms : List Int} {h : Nat} (hh : h < ms.length) : (pass ms h).1 < ms.length := by
  unfold pass
  split
  · rename_i h0
    have := z0_lt h0
    rw [List.length_drop] at this
    show h + z0 (ms.drop h) < _
    omega
  · have hm : (0 : Int) ∈ clr ms h ms.length := List.mem_of_getElem? (i := h) (by rw [clr_at, List.getElem?_eq_getElem hh]; simp [hh])
    have := z0_lt hm
    rw [clr_len] at this
    exact this
/-- How many marks are 1: what each turn of the hand takes one of. -/
theorem ones_set {ms : List Int} {h : Nat} (hx : ms[h]? = some 1) : (ms.set h 0).count 1 + 1 = ms.count 1 := by
  obtain ⟨hl, e⟩ := List.getElem?_eq_some_iff.1 hx
  have h1 : ms = ms.take h ++ 1 :: ms.drop (h + 1) := by
    conv => lhs; rw [← List.take_append_drop h ms]
    rw [drop_at' hx]
  have h2 : ms.set h 0 = ms.take h ++ 0 :: ms.drop (h + 1) := by
    rw [List.set_eq_take_append_cons_drop, if_pos hl]
  rw [h2]
  conv => rhs; rw [h1]
  simp
  omega
/-- The place of the last one of the least marks among the first k. -/
def rareK (ms : List Int) : Nat → Nat
  | 0 => 0
  | k + 1 => if ms.getD k 0 ≤ ms.getD (rareK ms k) 0 then k else rareK ms k
theorem rareK_lt (ms : List Int) : ∀ k, 0 < k → rareK ms k < k
  | 1, _ => by simp [rareK]
  | k + 2, _ => by
    have := rareK_lt ms (k + 1) (by omega)
    rw [rareK]
    split <;> omega
theorem rareK_one (ms : List Int) : rareK ms 1 = 0 := by simp [rareK]
def rare (ms : List Int) : Nat := rareK ms ms.length
theorem rare_lt {ms : List Int} (h : 0 < ms.length) : rare ms < ms.length := rareK_lt ms _ h
/-- The place of a page, or the number of pages. -/
def pos (x : Int) : List Int → Nat
  | [] => 0
  | y :: ys => if y = x then 0 else pos x ys + 1
theorem pos_le (x : Int) : ∀ l, pos x l ≤ l.length
  | [] => Nat.le_refl _
  | y :: ys => by have := pos_le x ys; unfold pos; split <;> simp <;> omega
theorem pos_lt {x : Int} : ∀ {l : List Int}, x ∈ l → pos x l < l.length
  | y :: ys, h => by
    unfold pos
    split
    · simp
    · rename_i hx
      have := pos_lt (x := x) (l := ys) (by
        rcases List.mem_cons.1 h with e | e
        · exact absurd e.symm hx
        · exact e)
      simp; omega
theorem pos_no {x : Int} : ∀ {l : List Int}, x ∉ l → pos x l = l.length
  | [], _ => rfl
  | y :: ys, h => by
    simp at h
    unfold pos
    rw [if_neg (fun e => h.1 e.symm), pos_no h.2]
    rfl
theorem pos_at {x : Int} : ∀ {l : List Int}, x ∈ l → l[pos x l]? = some x
  | y :: ys, h => by
    unfold pos
    split
    · rename_i e; simp [e]
    · rename_i hx
      simpa using pos_at (x := x) (l := ys) (by
        rcases List.mem_cons.1 h with e | e
        · exact absurd e.symm hx
        · exact e)
theorem pos_of {x : Int} : ∀ {l : List Int} {k : Nat}, l[k]? = some x → (∀ j y, j < k → l[j]? = some y → y ≠ x) → pos x l = k
  | [], k, h, _ => by simp at h
  | y :: ys, 0, h, _ => by simp at h; simp [pos, h]
  | y :: ys, k + 1, h, hb => by
    unfold pos
    rw [if_neg (hb 0 y (by omega) (by simp)), pos_of (l := ys) (k := k) (by simpa using h) (fun j z hj hz => hb (j + 1) z (by omega) (by simpa using hz))]
/-- A hit of the page with an index. -/
def hitC (c : Ca) (k : Nat) : Ca :=
  if c.p = 1 ∨ c.p = 7 then { c with ps := c.ps.getD k 0 :: c.ps.eraseIdx k }
  else if c.p = 5 then { c with ms := c.ms.set k (min (c.ms.getD k 0 + 1) 60) }
  else if c.p = 6 then { c with ms := c.ms.set k 1 }
  else c
/-- What a fault of a full cache, no clock, takes out. -/
def roomC (c : Ca) : Ca :=
  if c.p = 4 then { c with ps := [] }
  else if c.p = 5 then { c with ps := c.ps.eraseIdx (rare c.ms), ms := c.ms.eraseIdx (rare c.ms) }
  else if c.p = 3 ∨ c.p = 7 then { c with ps := c.ps.eraseIdx 0 }
  else { c with ps := c.ps.eraseIdx (c.ps.length - 1) }
def faultC (c : Ca) (x : Int) : Ca :=
  if c.p = 6 then
    if (c.ps.length : Int) < c.s then { c with ps := c.ps ++ [x], ms := c.ms ++ [1] }
    else { c with ps := c.ps.set (pass c.ms c.h.toNat).1 x, ms := (pass c.ms c.h.toNat).2.set (pass c.ms c.h.toNat).1 1, h := (((pass c.ms c.h.toNat).1 + 1) % c.s.toNat : Nat) }
  else
    let d := if (c.ps.length : Int) < c.s then c else roomC c
    { d with ps := x :: d.ps, ms := if c.p = 5 then 1 :: d.ms else d.ms }
def stepC (c : Ca) (x : Int) : Ca := if x ∈ c.ps then hitC c (pos x c.ps) else faultC c x
/-- What a valid cache is. -/
def okC (n : Int) (c : Ca) : Prop :=
  (1 ≤ n ∧ n ≤ 8) ∧ (1 ≤ c.p ∧ c.p ≤ 7) ∧ (1 ≤ c.s ∧ c.s ≤ 6) ∧ (c.ps.length : Int) ≤ c.s ∧ (∀ z ∈ c.ps, 0 ≤ z ∧ z ≤ n - 1) ∧ c.ps.Nodup ∧
  (if c.p = 5 then c.ms.length = c.ps.length ∧ ∀ z ∈ c.ms, 1 ≤ z ∧ z ≤ 60 else if c.p = 6 then c.ms.length = c.ps.length ∧ ∀ z ∈ c.ms, 0 ≤ z ∧ z ≤ 1 else c.ms = []) ∧
  (if c.p = 6 ∧ (c.ps.length : Int) = c.s then 0 ≤ c.h ∧ c.h < c.s else c.h = 0)
end Q
end Go.Proofs.Ytdjafooabpcbmaa

/- Caches as step machines: a request leads from a valid cache to a valid one. Nothing of the program stands here. -/
namespace Go.Proofs.Ytdjafooabpcbmaa
namespace Q
theorem erase_perm {l : List Int} {k : Nat} {x : Int} (h : l[k]? = some x) : (x :: l.eraseIdx k).Perm l := by
  obtain ⟨hl, e⟩ := List.getElem?_eq_some_iff.1 h
  have h1 : l = l.take k ++ x :: l.drop (k + 1) := by
    conv => lhs; rw [← List.take_append_drop k l, List.drop_eq_getElem_cons hl, e]
  rw [List.eraseIdx_eq_take_drop_succ]
  conv => rhs; rw [h1]
  exact List.perm_middle.symm
theorem erase_mem {l : List Int} {k : Nat} {z : Int} (h : z ∈ l.eraseIdx k) : z ∈ l := List.mem_of_mem_eraseIdx h
theorem erase_nodup {l : List Int} (k : Nat) (h : l.Nodup) : (l.eraseIdx k).Nodup := h.sublist (List.eraseIdx_sublist _ _)
theorem set_nodup {l : List Int} {k : Nat} {x : Int} (h : l.Nodup) (hx : x ∉ l) : (l.set k x).Nodup := by
  by_cases hk : k < l.length
  · rw [List.set_eq_take_append_cons_drop, if_pos hk]
    have hp : (l.take k ++ x :: l.drop (k + 1)).Perm (x :: (l.take k ++ l.drop (k + 1))) := List.perm_middle
    rw [hp.nodup_iff, List.nodup_cons]
    refine ⟨fun hm => ?_, ?_⟩
    · rcases List.mem_append.1 hm with h' | h'
      · exact hx (List.mem_of_mem_take h')
      · exact hx (List.mem_of_mem_drop h')
    · rw [← List.eraseIdx_eq_take_drop_succ]
      exact erase_nodup k h
  · rwa [List.set_eq_of_length_le (by omega)]
theorem hit_ok {n : Int} {c : Ca} (h : okC n c) {x : Int} (hx : x ∈ c.ps) : okC n (hitC c (pos x c.ps)) := by
  obtain ⟨p, s, ps, ms, hd, zz⟩ := c
  obtain ⟨h1, h2, h3, h4, h5, h6, h7, h8⟩ := h
  simp only at h1 h2 h3 h4 h5 h6 h7 h8 hx
  have hk := pos_lt hx
  have hat := pos_at hx
  unfold hitC
  simp only []
  split
  · rename_i hp
    have hgd : ps.getD (pos x ps) 0 = x := by rw [List.getD_eq_getElem?_getD, hat]; rfl
    have hpm := erase_perm hat
    rw [hgd]
    have hlen : (x :: ps.eraseIdx (pos x ps)).length = ps.length := hpm.length_eq
    refine ⟨h1, h2, h3, by simp only []; omega, fun z hz => h5 z (hpm.mem_iff.1 hz), hpm.nodup_iff.2 h6, ?_, ?_⟩
    · rw [if_neg (by omega), if_neg (by omega)] at h7
      show if p = 5 then _ else if p = 6 then _ else ms = []
      rw [if_neg (by omega), if_neg (by omega)]
      exact h7
    · rw [if_neg (by omega)] at h8
      show if p = 6 ∧ _ then _ else hd = 0
      rw [if_neg (by omega)]
      exact h8
  · split
    · rename_i hp
      subst hp
      simp only [if_true] at h7
      refine ⟨h1, h2, h3, h4, h5, h6, ?_, h8⟩
      simp only [if_true, List.length_set]
      refine ⟨h7.1, fun z hz => ?_⟩
      rcases List.mem_or_eq_of_mem_set hz with e | e
      · exact h7.2 z e
      · have hm : 1 ≤ ms.getD (pos x ps) 0 := by
          have hl : pos x ps < ms.length := by omega
          rw [List.getD_eq_getElem?_getD, List.getElem?_eq_getElem hl]
          exact (h7.2 _ (List.getElem_mem hl)).1
        omega
    · split
      · rename_i hp
        subst hp
        simp only [if_true] at h7
        refine ⟨h1, h2, h3, h4, h5, h6, ?_, h8⟩
        simp only [if_true, List.length_set]
        refine ⟨h7.1, fun z hz => ?_⟩
        rcases List.mem_or_eq_of_mem_set hz with e | e
        · exact h7.2 z e
        · omega
      · exact ⟨h1, h2, h3, h4, h5, h6, h7, h8⟩
theorem fault_ok {n : Int} {c : Ca} (h : okC n c) {x : Int} (hx : x ∉ c.ps) (hx0 : 0 ≤ x ∧ x ≤ n - 1) : okC n (faultC c x) := by
  obtain ⟨p, s, ps, ms, hd, zz⟩ := c
  obtain ⟨h1, h2, h3, h4, h5, h6, h7, h8⟩ := h
  simp only at h1 h2 h3 h4 h5 h6 h7 h8 hx
  unfold faultC
  simp only []
  by_cases hp : p = 6
  · subst hp
    rw [if_neg (by decide), if_pos rfl] at h7
    rw [if_pos rfl]
    by_cases hf : (ps.length : Int) < s
    · rw [if_pos hf]
      simp [show ¬ ((ps.length : Int) = s) by omega] at h8
      subst h8
      refine ⟨h1, h2, h3, by simp; omega, fun z hz => ?_, ?_, ?_, ?_⟩
      · rcases List.mem_append.1 hz with e | e
        · exact h5 z e
        · simp at e; omega
      · rw [(List.perm_append_comm).nodup_iff]
        simpa using ⟨hx, h6⟩
      · simp
        refine ⟨h7.1, fun z hz => ?_⟩
        rcases hz with e | e
        · exact h7.2 z e
        · omega
      · simp
        omega
    · rw [if_neg hf]
      have hfull : (ps.length : Int) = s := by omega
      simp [hfull] at h8
      have h7a := h7.1
      have hlt : hd.toNat < ms.length := by omega
      have hpl := pass_lt hlt
      refine ⟨h1, h2, h3, by simp; omega, fun z hz => ?_, set_nodup h6 hx, ?_, ?_⟩
      · rcases List.mem_or_eq_of_mem_set hz with e | e
        · exact h5 z e
        · omega
      · simp [pass_len]
        refine ⟨h7.1, fun z hz => ?_⟩
        rcases List.mem_or_eq_of_mem_set hz with e | e
        · have : z = 0 ∨ z ∈ ms := by
            unfold pass at e
            split at e
            · exact clr_mem e
            · rcases clr_mem e with e | e
              · exact .inl e
              · exact clr_mem e
          rcases this with e | e
          · omega
          · exact h7.2 z e
        · omega
      · simp [hfull]
        have hm := Nat.mod_lt ((pass ms hd.toNat).1 + 1) (show 0 < s.toNat by omega)
        have e : ((((pass ms hd.toNat).1 + 1) % s.toNat : Nat) : Int) = ((pass ms hd.toNat).1 + 1 : Int) % max s 0 := by
          rw [Int.natCast_emod, Int.natCast_add, Int.ofNat_toNat]; rfl
        rw [← e]
        omega
  · rw [if_neg hp]
    have h8' : hd = 0 := by rw [if_neg (by omega)] at h8; exact h8
    subst h8'
    -- what stands before the item is put in
    have key : ∀ d : Ca, d.p = p → d.s = s → d.h = 0 → (d.ps.length : Int) < s → (∀ z ∈ d.ps, z ∈ ps) → d.ps.Nodup → (if p = 5 then d.ms.length = d.ps.length ∧ ∀ z ∈ d.ms, z ∈ ms else d.ms = []) →
        okC n { d with ps := x :: d.ps, ms := if p = 5 then 1 :: d.ms else d.ms } := by
      intro d e1 e2 e3 e4 e5 e6 e7
      obtain ⟨dp, ds, dps, dms, dh⟩ := d
      simp only [] at e1 e2 e3 e4 e5 e6 e7
      subst e1 e2 e3
      refine ⟨h1, h2, h3, by simp; omega, fun z hz => ?_, ?_, ?_, ?_⟩
      · rcases List.mem_cons.1 hz with e | e
        · omega
        · exact h5 z (e5 z e)
      · exact List.nodup_cons.2 ⟨fun e => hx (e5 x e), e6⟩
      · simp only []
        by_cases h5' : dp = 5
        · rw [if_pos h5'] at e7 h7 ⊢
          rw [if_pos h5']
          refine ⟨by simp [e7.1], fun z hz => ?_⟩
          rcases List.mem_cons.1 hz with e | e
          · omega
          · exact h7.2 z (e7.2 z e)
        · rw [if_neg h5'] at e7 ⊢
          rw [if_neg hp, if_neg h5']
          exact e7
      · simp only []
        rw [if_neg (by omega)]
        trivial
    by_cases hf : (ps.length : Int) < s
    · rw [if_pos hf]
      refine key ⟨p, s, ps, ms, 0, zz⟩ rfl rfl rfl hf (fun z hz => hz) h6 ?_
      by_cases h5' : p = 5
      · rw [if_pos h5'] at h7 ⊢; exact ⟨h7.1, fun z hz => hz⟩
      · rw [if_neg h5', if_neg hp] at h7; rw [if_neg h5']; exact h7
    · rw [if_neg hf]
      have hfull : (ps.length : Int) = s := by omega
      have hpos : 0 < ps.length := by omega
      have hms : p ≠ 5 → ms = [] := fun e => by rwa [if_neg e, if_neg hp] at h7
      have one : ∀ k, k < ps.length → ((ps.eraseIdx k).length : Int) < s := fun k hk => by rw [List.length_eraseIdx, if_pos hk]; omega
      have hE : ∀ d : Ca, d = roomC ⟨p, s, ps, ms, 0, zz⟩ → d.p = p ∧ okC n { d with ps := x :: d.ps, ms := if p = 5 then 1 :: d.ms else d.ms } := by
        intro d hd
        unfold roomC at hd
        simp only [] at hd
        split at hd
        · subst hd
          rename_i e
          exact ⟨rfl, key ⟨p, s, [], ms, 0, zz⟩ rfl rfl rfl (by simp; omega) (fun z hz => by simp at hz) List.nodup_nil (by rw [if_neg (by omega)]; exact hms (by omega))⟩
        · split at hd
          · subst hd
            rename_i e
            rw [if_pos e] at h7
            have hr : rare ms < ms.length := rare_lt (by omega)
            refine ⟨rfl, key ⟨p, s, ps.eraseIdx (rare ms), ms.eraseIdx (rare ms), 0, zz⟩ rfl rfl rfl (one _ (by omega)) (fun z hz => erase_mem hz) (erase_nodup _ h6) ?_⟩
            rw [if_pos e]
            refine ⟨?_, fun z hz => erase_mem hz⟩
            simp only [List.length_eraseIdx]
            rw [if_pos hr, if_pos (by omega)]
            omega
          · split at hd
            · subst hd
              rename_i e5 e
              exact ⟨rfl, key ⟨p, s, ps.eraseIdx 0, ms, 0, zz⟩ rfl rfl rfl (one _ (by omega)) (fun z hz => erase_mem hz) (erase_nodup _ h6) (by rw [if_neg e5]; exact hms e5)⟩
            · subst hd
              rename_i e5 e
              exact ⟨rfl, key ⟨p, s, ps.eraseIdx (ps.length - 1), ms, 0, zz⟩ rfl rfl rfl (one _ (by omega)) (fun z hz => erase_mem hz) (erase_nodup _ h6) (by rw [if_neg e5]; exact hms e5)⟩
      exact (hE _ rfl).2
theorem step_ok {n : Int} {c : Ca} (h : okC n c) {x : Int} (hx : 0 ≤ x ∧ x ≤ n - 1) : okC n (stepC c x) := by
  unfold stepC
  split
  · rename_i hm; exact hit_ok h hm
  · rename_i hm; exact fault_ok h hm hx
end Q
end Go.Proofs.Ytdjafooabpcbmaa

/- Runs of a cache over a sequence: the cache after k requests, the places of the faults. Nothing of the program stands here. -/
namespace Go.Proofs.Ytdjafooabpcbmaa
namespace Q
def runK (c : Ca) (zs : List Int) (k : Nat) : Ca := (zs.take k).foldl stepC c
theorem runK_zero (c : Ca) (zs : List Int) : runK c zs 0 = c := rfl
theorem runK_succ (c : Ca) {zs : List Int} {k : Nat} {x : Int} (hx : zs[k]? = some x) : runK c zs (k + 1) = stepC (runK c zs k) x := by
  unfold runK
  rw [List.take_add_one, hx, List.foldl_append]
  rfl
def runAll (c : Ca) (zs : List Int) : Ca := runK c zs zs.length
def fltK (c : Ca) (zs : List Int) : Nat → List Int
  | 0 => []
  | k + 1 => if zs.getD k 0 ∈ (runK c zs k).ps then fltK c zs k else fltK c zs k ++ [(k : Int)]
theorem fltK_hit (c : Ca) {zs : List Int} {k : Nat} {x : Int} (hx : zs[k]? = some x) (h : x ∈ (runK c zs k).ps) : fltK c zs (k + 1) = fltK c zs k := by
  have e : zs.getD k 0 = x := by rw [List.getD_eq_getElem?_getD, hx]; rfl
  rw [fltK, e, if_pos h]
theorem fltK_no (c : Ca) {zs : List Int} {k : Nat} {x : Int} (hx : zs[k]? = some x) (h : x ∉ (runK c zs k).ps) : fltK c zs (k + 1) = fltK c zs k ++ [(k : Int)] := by
  have e : zs.getD k 0 = x := by rw [List.getD_eq_getElem?_getD, hx]; rfl
  rw [fltK, e, if_neg h]
theorem fltK_len (c : Ca) (zs : List Int) : ∀ k, (fltK c zs k).length ≤ k
  | 0 => Nat.le_refl _
  | k + 1 => by
    have := fltK_len c zs k
    rw [fltK]
    split
    · omega
    · simp; omega
def flt (c : Ca) (zs : List Int) : List Int := fltK c zs zs.length
theorem run_ok {n : Int} {c : Ca} {zs : List Int} (h : okC n c) (hz : ∀ z ∈ zs, 0 ≤ z ∧ z ≤ n - 1) : ∀ k, okC n (runK c zs k)
  | 0 => h
  | k + 1 => by
    have ih := run_ok h hz k
    cases hx : zs[k]? with
    | none =>
      have e : runK c zs (k + 1) = runK c zs k := by
        unfold runK
        rw [List.take_add_one, hx]
        simp
      rw [e]; exact ih
    | some x =>
      rw [runK_succ c hx]
      exact step_ok ih (hz x (List.mem_of_getElem? hx))
/-- The empty cache of a policy and a size. -/
def newC (p s : Int) : Ca := { p := p, s := s, ps := [], ms := [], h := 0 }
theorem new_ok {n p s : Int} (hn : 1 ≤ n ∧ n ≤ 8) (hp : 1 ≤ p ∧ p ≤ 7) (hs : 1 ≤ s ∧ s ≤ 6) : okC n (newC p s) := by
  refine ⟨hn, hp, hs, by simp [newC]; omega, by simp [newC], by simp [newC], ?_, ?_⟩
  · simp [newC]
  · rw [if_neg (by simp [newC]; omega)]; rfl
def sizes (p s : Int) : Bool := decide ((1 ≤ p ∧ p ≤ 7) ∧ 1 ≤ s ∧ s ≤ 6)
/-- What FaultPlaces answers. -/
def fpl (n p s : Int) (zs : List Int) : List Int × Bool := if good n zs && sizes p s then (flt (newC p s) zs, true) else ([], false)
theorem fpl_yes {n p s : Int} {zs : List Int} (h : good n zs = true) (h' : sizes p s = true) : fpl n p s zs = (flt (newC p s) zs, true) := by simp [fpl, h, h']
theorem fpl_no {n p s : Int} {zs : List Int} (h : good n zs = false ∨ sizes p s = false) : fpl n p s zs = ([], false) := by rcases h with h | h <;> simp [fpl, h]
/-- What is kept plays no part. -/
theorem stepC_z (c : Ca) (Z : Nat → Option Obj) (x : Int) : stepC { c with z := Z } x = { stepC c x with z := Z } := by
  unfold stepC
  simp only []
  split
  · unfold hitC; simp only []; split; rfl; split; rfl; split <;> rfl
  · unfold faultC; simp only []; split
    · split <;> rfl
    · split
      · rfl
      · unfold roomC; simp only []; split; rfl; split; rfl; split <;> rfl
end Q
end Go.Proofs.Ytdjafooabpcbmaa
