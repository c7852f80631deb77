/-
  FaultyPart: the mathematics. The first place at which a part with at most s different items and more than s faults ends, and the last one at which such a part with this end begins, are two faults of which the one is the s-th ahead of the other.
-/
import Derived.Test.YtdjafooabpcbmaaBa
namespace Go.Proofs.Ytdjafooabpcbmaa
set_option linter.unusedVariables false
namespace Q
theorem snocRec {α : Type} {P : List α → Prop} (nil : P []) (snoc : ∀ l x, P l → P (l ++ [x])) (l : List α) : P l := by
  have h : ∀ r : List α, P r.reverse := fun r => by
    induction r with
    | nil => exact nil
    | cons x r ih => rw [List.reverse_cons]; exact snoc _ _ ih
  have := h l.reverse
  rwa [List.reverse_reverse] at this
theorem dif_cons (x : Int) (l : List Int) : dif (x :: l) = dif l + if x ∈ l then 0 else 1 := by
  induction l using snocRec with
  | nil => simp [dif, difR]
  | snoc l y ih =>
    rw [show x :: (l ++ [y]) = (x :: l) ++ [y] from rfl, dif_snoc, dif_snoc, ih]
    by_cases hxy : y = x
    · subst hxy
      by_cases h : y ∈ l <;> simp [h]
    · have hyx : ¬ x = y := fun e => hxy e.symm
      by_cases h : x ∈ l <;> by_cases h2 : y ∈ l <;> simp [h, h2, hxy, hyx]
theorem dif_left (X l : List Int) : dif l ≤ dif (X ++ l) := by
  induction X with
  | nil => exact Nat.le_refl _
  | cons x X ih => rw [List.cons_append, dif_cons]; omega
theorem dif_right (l : List Int) : ∀ Y, dif l ≤ dif (l ++ Y)
  | [] => by simp
  | y :: Y => by
    have h1 := dif_right (l ++ [y]) Y
    rw [dif_snoc, List.append_assoc] at h1
    simp only [List.singleton_append] at h1
    omega
theorem win_app (zs : List Int) {a b c : Nat} (h1 : a ≤ b) (h2 : b ≤ c) : win zs a c = win zs a b ++ win zs b c := by
  unfold win
  rw [show c - a = (b - a) + (c - b) by omega, List.take_add, List.drop_drop, show a + (b - a) = b by omega]
theorem win_dif (zs : List Int) {a b a' b' : Nat} (h1 : a' ≤ a) (h2 : a ≤ b) (h3 : b ≤ b') : dif (win zs a b) ≤ dif (win zs a' b') := by
  rw [win_app zs h1 (Nat.le_trans h2 h3), win_app zs h2 h3]
  exact Nat.le_trans (dif_right _ _) (dif_left _ _)
def btw (fs : List Int) (a t : Int) : Nat := fs.countP fun f => decide (a ≤ f) && decide (f ≤ t)
/-- Many that are not below a: the one that stands so far ahead of the end is none of those below a. -/
theorem many_from {a : Int} : ∀ (s : Nat) (l : List Int), l.Pairwise (· < ·) → s < l.countP (fun f => decide (a ≤ f)) → s < l.length ∧ ∀ x, l[l.length - 1 - s]? = some x → a ≤ x := by
  intro s l hp h
  induction l using snocRec generalizing s with
  | nil => simp at h
  | snoc l y ih =>
    have hp2 := List.pairwise_append.1 hp
    rw [List.countP_append] at h
    have h1 : [y].countP (fun f => decide (a ≤ f)) ≤ 1 := List.countP_le_length
    match s with
    | 0 =>
      refine ⟨by simp, fun x hx => ?_⟩
      simp at hx
      subst hx
      rcases Nat.lt_or_ge 0 (l.countP fun f => decide (a ≤ f)) with h2 | h2
      · obtain ⟨z, hz, hz2⟩ := List.countP_pos_iff.1 h2
        have := hp2.2.2 z hz y (by simp)
        simp at hz2
        omega
      · have h3 : 0 < [y].countP (fun f => decide (a ≤ f)) := by omega
        obtain ⟨z, hz, hz2⟩ := List.countP_pos_iff.1 h3
        simp at hz hz2
        omega
    | s + 1 =>
      obtain ⟨hl, hx⟩ := ih s hp2.1 (by omega)
      refine ⟨by simp; omega, fun x hxx => hx x ?_⟩
      rw [show (l ++ [y]).length - 1 - (s + 1) = l.length - 1 - s by simp; omega, List.getElem?_append_left (by omega)] at hxx
      exact hxx
theorem many_btw {a t : Int} : ∀ (s : Nat) (l : List Int), l.Pairwise (· < ·) → s < btw l a t → ∃ j x y, s ≤ j ∧ l[j - s]? = some x ∧ l[j]? = some y ∧ a ≤ x ∧ y ≤ t := by
  intro s l hp h
  induction l using snocRec with
  | nil => simp [btw] at h
  | snoc l y ih =>
    have hp2 := List.pairwise_append.1 hp
    by_cases hy : y ≤ t
    · have h1 : s < (l ++ [y]).countP (fun f => decide (a ≤ f)) := Nat.lt_of_lt_of_le h (List.countP_mono_left (fun x _ hx => by simp at hx ⊢; exact hx.1))
      obtain ⟨hl, hx⟩ := many_from s _ hp h1
      have hlen : (l ++ [y]).length = l.length + 1 := by simp
      have hlt : (l ++ [y]).length - 1 - s < (l ++ [y]).length := by omega
      refine ⟨(l ++ [y]).length - 1, (l ++ [y])[(l ++ [y]).length - 1 - s]'hlt, y, by omega, List.getElem?_eq_getElem hlt, by simp, hx _ (List.getElem?_eq_getElem hlt), hy⟩
    · have h1 : btw (l ++ [y]) a t = btw l a t := by
        unfold btw
        rw [List.countP_append]
        simp [hy]
      rw [h1] at h
      obtain ⟨j, x, z, hj, hx, hz, h3, h4⟩ := ih hp2.1 h
      have hjl := (List.getElem?_eq_some_iff.1 hz).1
      exact ⟨j, x, z, hj, by rw [List.getElem?_append_left (by omega)]; exact hx, by rw [List.getElem?_append_left hjl]; exact hz, h3, h4⟩
theorem asc_le {l : List Int} (hp : l.Pairwise (· < ·)) {i j : Nat} {x y : Int} (hx : l[i]? = some x) (hy : l[j]? = some y) (h : i ≤ j) : x ≤ y := by
  obtain ⟨h1, rfl⟩ := List.getElem?_eq_some_iff.1 hx
  obtain ⟨h2, rfl⟩ := List.getElem?_eq_some_iff.1 hy
  rcases Nat.lt_or_eq_of_le h with h3 | h3
  · exact Int.le_of_lt (List.pairwise_iff_getElem.1 hp i j h1 h2 h3)
  · subst h3; exact Int.le_refl _
theorem asc_lt {l : List Int} (hp : l.Pairwise (· < ·)) {i j : Nat} {x y : Int} (hx : l[i]? = some x) (hy : l[j]? = some y) (h : x < y) : i < j := by
  rcases Nat.lt_or_ge i j with h1 | h1
  · exact h1
  · have := asc_le hp hy hx h1
    omega
theorem asc_idx {l : List Int} (hp : l.Pairwise (· < ·)) {i j : Nat} {x y : Int} (hx : l[i]? = some x) (hy : l[j]? = some y) (h : x ≤ y) : i ≤ j := by
  rcases Nat.lt_or_ge j i with h1 | h1
  · obtain ⟨h2, rfl⟩ := List.getElem?_eq_some_iff.1 hx
    obtain ⟨h3, rfl⟩ := List.getElem?_eq_some_iff.1 hy
    have := List.pairwise_iff_getElem.1 hp j i h3 h2 h1
    omega
  · exact h1
theorem btw_at {l : List Int} (hp : l.Pairwise (· < ·)) {s j : Nat} {x y : Int} (hj : s ≤ j) (hx : l[j - s]? = some x) (hy : l[j]? = some y) : s < btw l x y := by
  have hjl := (List.getElem?_eq_some_iff.1 hy).1
  have hsub : ((l.drop (j - s)).take (s + 1)).Sublist l := (List.take_sublist _ _).trans (List.drop_sublist _ _)
  have h1 := hsub.countP_le (p := fun f => decide (x ≤ f) && decide (f ≤ y))
  have h2 : ((l.drop (j - s)).take (s + 1)).countP (fun f => decide (x ≤ f) && decide (f ≤ y)) = ((l.drop (j - s)).take (s + 1)).length := by
    refine List.countP_eq_length.2 fun z hz => ?_
    obtain ⟨k, hk⟩ := List.mem_iff_getElem?.1 hz
    have hks := (List.getElem?_eq_some_iff.1 hk).1
    simp at hks
    rw [List.getElem?_take_of_lt (by omega), List.getElem?_drop] at hk
    simp
    exact ⟨asc_le hp hx hk (by omega), asc_le hp hk hy (by omega)⟩
  have h3 : ((l.drop (j - s)).take (s + 1)).length = s + 1 := by simp; omega
  show s < l.countP _
  omega
def Fp (zs fs : List Int) (s a t : Nat) : Prop := a ≤ t ∧ t < zs.length ∧ dif (win zs a (t + 1)) ≤ s ∧ s < btw fs a t
def Best (zs fs : List Int) (s a t : Nat) : Prop := Fp zs fs s a t ∧ (∀ a' t', t' < t → ¬ Fp zs fs s a' t') ∧ ∀ a', a < a' → ¬ Fp zs fs s a' t
theorem best_one {zs fs : List Int} {s a t a' t' : Nat} (h : Best zs fs s a t) (k : Best zs fs s a' t') : a = a' ∧ t = t' := by
  have ht : t = t' := by
    rcases Nat.lt_trichotomy t t' with h1 | h1 | h1
    · exact absurd h.1 (k.2.1 _ _ h1)
    · exact h1
    · exact absurd k.1 (h.2.1 _ _ h1)
  subst ht
  refine ⟨?_, rfl⟩
  rcases Nat.lt_trichotomy a a' with h1 | h1 | h1
  · exact absurd k.1 (h.2.2 _ h1)
  · exact h1
  · exact absurd h.1 (k.2.2 _ h1)
open Classical in
noncomputable def fptX (zs fs : List Int) (s : Nat) : (Int × Int) × Bool := if h : ∃ r : Nat × Nat, Best zs fs s r.1 r.2 then ((((Classical.choose h).1 : Int), ((Classical.choose h).2 : Int)), true) else ((0, 0), false)
theorem fptX_yes {zs fs : List Int} {s a t : Nat} (h : Best zs fs s a t) : fptX zs fs s = (((a : Int), (t : Int)), true) := by
  have hx : ∃ r : Nat × Nat, Best zs fs s r.1 r.2 := ⟨(a, t), h⟩
  have hc := best_one (Classical.choose_spec hx) h
  unfold fptX
  rw [dif_pos hx, hc.1, hc.2]
theorem fptX_no {zs fs : List Int} {s : Nat} (h : ∀ a t, ¬ Fp zs fs s a t) : fptX zs fs s = ((0, 0), false) := by
  unfold fptX
  rw [dif_neg (fun ⟨r, hr⟩ => h _ _ hr.1)]
/-- What the code's search has passed over. -/
def Past (zs fs : List Int) (s i : Nat) : Prop := ∀ j a t : Nat, s ≤ j → j < i → fs[j - s]? = some (a : Int) → fs[j]? = some (t : Int) → s < dif (win zs a (t + 1))
section
variable {zs fs : List Int} {s : Nat}
theorem fp_at (hp : fs.Pairwise (· < ·)) (h0 : ∀ f ∈ fs, 0 ≤ f) {a t : Nat} (h : Fp zs fs s a t) : ∃ j a' t' : Nat, s ≤ j ∧ fs[j - s]? = some (a' : Int) ∧ fs[j]? = some (t' : Int) ∧ a ≤ a' ∧ t' ≤ t ∧ a' ≤ t' ∧ dif (win zs a' (t' + 1)) ≤ s := by
  obtain ⟨j, x, y, hj, hx, hy, h1, h2⟩ := many_btw s fs hp h.2.2.2
  have hx0 := h0 x (List.mem_iff_getElem?.2 ⟨_, hx⟩)
  have hy0 := h0 y (List.mem_iff_getElem?.2 ⟨_, hy⟩)
  have hxy := asc_le hp hx hy (by omega)
  obtain ⟨a', rfl⟩ : ∃ a' : Nat, x = (a' : Int) := ⟨x.toNat, by omega⟩
  obtain ⟨t', rfl⟩ : ∃ t' : Nat, y = (t' : Int) := ⟨y.toNat, by omega⟩
  exact ⟨j, a', t', hj, hx, hy, by omega, by omega, by omega, Nat.le_trans (win_dif zs (by omega) (by omega) (by omega)) h.2.2.1⟩
theorem code_yes (hp : fs.Pairwise (· < ·)) (h0 : ∀ f ∈ fs, 0 ≤ f) {i a t : Nat} (hi : s ≤ i) (ha : fs[i - s]? = some (a : Int)) (ht : fs[i]? = some (t : Int)) (hl : t < zs.length) (hD : dif (win zs a (t + 1)) ≤ s) (hno : Past zs fs s i) : fptX zs fs s = (((a : Int), (t : Int)), true) := by
  have hat := asc_le hp ha ht (by omega)
  refine fptX_yes ⟨⟨by omega, hl, hD, btw_at hp hi ha ht⟩, fun a' t' hlt h => ?_, fun a' hlt h => ?_⟩
  · obtain ⟨j, x, y, hj, hx, hy, h1, h2, h3, h4⟩ := fp_at hp h0 h
    have hji : j < i := asc_lt hp hy ht (by omega)
    have := hno j x y hj hji hx hy
    omega
  · obtain ⟨j, x, y, hj, hx, hy, h1, h2, h3, h4⟩ := fp_at hp h0 h
    have hji : j ≤ i := asc_idx hp hy ht (by omega)
    have := asc_le hp hx ha (by omega)
    omega
theorem code_no (hp : fs.Pairwise (· < ·)) (h0 : ∀ f ∈ fs, 0 ≤ f) {i : Nat} (hi : fs.length ≤ i) (hno : Past zs fs s i) : fptX zs fs s = ((0, 0), false) := by
  refine fptX_no fun a t h => ?_
  obtain ⟨j, x, y, hj, hx, hy, h1, h2, h3, h4⟩ := fp_at hp h0 h
  have hjl := (List.getElem?_eq_some_iff.1 hy).1
  have := hno j x y hj (by omega) hx hy
  omega
theorem Past.start : Past zs fs s s := fun j a t h1 h2 => by omega
theorem Past.next {i a t : Nat} (h : Past zs fs s i) (ha : fs[i - s]? = some (a : Int)) (ht : fs[i]? = some (t : Int)) (hD : ¬ dif (win zs a (t + 1)) ≤ s) : Past zs fs s (i + 1) := fun j a' t' h1 h2 h3 h4 => by
  rcases Nat.lt_or_ge j i with h5 | h5
  · exact h j a' t' h1 h5 h3 h4
  · obtain rfl : j = i := by omega
    rw [h3] at ha
    rw [h4] at ht
    simp at ha ht
    obtain rfl : a' = a := by omega
    obtain rfl : t' = t := by omega
    omega
/-- What the model's two loops have passed over. -/
def NoT (zs fs : List Int) (s t : Nat) : Prop := ∀ a' t', t' < t → ¬ Fp zs fs s a' t'
def NoA (zs fs : List Int) (s t k : Nat) : Prop := ∀ a', k ≤ a' → ¬ Fp zs fs s a' t
theorem NoT.zero : NoT zs fs s 0 := fun _ _ h => by omega
theorem NoA.start {t : Nat} : NoA zs fs s t (t + 1) := fun a' h h2 => by have := h2.1; omega
theorem model_yes {t k : Nat} (h : NoT zs fs s t) (h2 : NoA zs fs s t (k + 1)) (hk : k ≤ t) (ht : t < zs.length) (hD : dif (win zs k (t + 1)) ≤ s) (hb : s < btw fs k t) : fptX zs fs s = (((k : Int), (t : Int)), true) :=
  fptX_yes ⟨⟨hk, ht, hD, hb⟩, h, fun a' ha => h2 a' ha⟩
theorem NoA.next {t k : Nat} (h2 : NoA zs fs s t (k + 1)) (hb : ¬ s < btw fs k t) : NoA zs fs s t k := fun a' ha h => by
  rcases Nat.lt_or_eq_of_le ha with h3 | h3
  · exact h2 a' h3 h
  · subst h3; exact hb h.2.2.2
theorem NoT.over {t k : Nat} (h : NoT zs fs s t) (h2 : NoA zs fs s t (k + 1)) (hk : k ≤ t) (hD : ¬ dif (win zs k (t + 1)) ≤ s) : NoT zs fs s (t + 1) := fun a' t' ht hF => by
  rcases Nat.lt_or_ge t' t with h3 | h3
  · exact h a' t' h3 hF
  · obtain rfl : t' = t := by omega
    rcases Nat.lt_or_ge k a' with h4 | h4
    · exact h2 a' h4 hF
    · have := win_dif zs h4 (by omega : k ≤ t' + 1) (Nat.le_refl (t' + 1))
      have := hF.2.2.1
      omega
theorem NoT.done {t : Nat} (h : NoT zs fs s t) (h2 : NoA zs fs s t 0) : NoT zs fs s (t + 1) := fun a' t' ht hF => by
  rcases Nat.lt_or_ge t' t with h3 | h3
  · exact h a' t' h3 hF
  · obtain rfl : t' = t := by omega
    exact h2 a' (Nat.zero_le _) hF
theorem model_no {t : Nat} (h : NoT zs fs s t) (ht : zs.length ≤ t) : fptX zs fs s = ((0, 0), false) := fptX_no fun a' t' hF => h a' t' (by have := hF.2.1; omega) hF
end
end Q
end Go.Proofs.Ytdjafooabpcbmaa
