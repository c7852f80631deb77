/-
  DiameterOf: both sides; the library's Grow and Concat of rows of ints.
-/
import Derived.Test.YthpoeeadhjnljaaMtS
import Derived.Test.YthpoeeadhjnljaaApp
import Derived.Lib.AppendZeros
namespace Go.Proofs.Ythpoeeadhjnljaa
open Go.RowKit
set_option linter.unusedVariables false
namespace Q
theorem met_sqr {L : List (List Int)} (h : metQ L = true) : tabQ false L = true ∧ (1 ≤ L.length ∧ L.length ≤ 6) ∧ (∀ l ∈ L, l.length = L.length) := by
  simp only [metQ, Bool.and_eq_true] at h
  have h2 := sqr_iff.1 (tab_iff.1 h.1).1
  exact ⟨h.1, h2.1, h2.2⟩
theorem fold_le : ∀ (l : List Int) (a : Int), a ≤ l.foldl max a ∧ ∀ z ∈ l, z ≤ l.foldl max a
  | [], a => ⟨Int.le_refl _, fun z h => by simp at h⟩
  | y :: l, a => by
    obtain ⟨h1, h2⟩ := fold_le l (max a y)
    refine ⟨?_, fun z hz => ?_⟩
    · show a ≤ l.foldl max (max a y)
      omega
    · show z ≤ l.foldl max (max a y)
      rcases List.mem_cons.1 hz with e | hz
      · omega
      · exact h2 z hz
theorem fold_mem : ∀ (l : List Int) (a : Int), l.foldl max a = a ∨ l.foldl max a ∈ l
  | [], a => .inl rfl
  | y :: l, a => by
    show l.foldl max (max a y) = a ∨ l.foldl max (max a y) ∈ y :: l
    rcases fold_mem l (max a y) with h | h
    · rw [h]
      by_cases e : a ≤ y
      · exact .inr (by rw [show max a y = y by omega]; exact List.mem_cons_self ..)
      · exact .inl (by omega)
    · exact .inr (List.mem_cons_of_mem _ h)
theorem max_mem {l : List Int} (h : l ≠ []) : Lib.maxOf l ∈ l ∧ ∀ z ∈ l, z ≤ Lib.maxOf l := by
  cases l with
  | nil => exact absurd rfl h
  | cons y l =>
    refine ⟨?_, fun z hz => ?_⟩
    · rcases fold_mem (y :: l) y with e | e
      · show (y :: l).foldl max y ∈ y :: l
        rw [e]
        exact List.mem_cons_self ..
      · exact e
    · exact (fold_le (y :: l) y).2 z hz
noncomputable def diaQ (L : List (List Int)) : Int × Bool := if metQ L then (Lib.maxOf L.flatten, true) else (0, false)
theorem dia_no {L : List (List Int)} (h : metQ L = false) : diaQ L = (0, false) := if_neg (by simp [h])
theorem dia_yes {L : List (List Int)} (h : metQ L = true) : diaQ L = (Lib.maxOf L.flatten, true) := if_pos h
theorem flat_mem {L : List (List Int)} (hs : ∀ l ∈ L, l.length = L.length) {d : Int} : d ∈ L.flatten ↔ ∃ x y, x < L.length ∧ y < L.length ∧ d = dst L x y := by
  rw [List.mem_flatten]
  constructor
  · rintro ⟨l, hl, hd⟩
    obtain ⟨x, hx, rfl⟩ := List.mem_iff_getElem.1 hl
    obtain ⟨y, hy, rfl⟩ := List.mem_iff_getElem.1 hd
    have hlen := hs _ (List.getElem_mem hx)
    refine ⟨x, y, hx, by omega, ?_⟩
    rw [dst, List.getD_eq_getElem?_getD (l := L), List.getElem?_eq_getElem hx]
    simp [List.getElem?_eq_getElem hy]
  · rintro ⟨x, y, hx, hy, rfl⟩
    obtain ⟨l, h1, h2, h3⟩ := sqr_at hs hx hy
    exact ⟨l, List.mem_of_getElem? h1, List.mem_of_getElem? h3⟩
theorem max_is {L : List (List Int)} (hs : ∀ l ∈ L, l.length = L.length) (hn : 1 ≤ L.length) {M : Int} (h1 : ∀ x y, x < L.length → y < L.length → dst L x y ≤ M) (h2 : ∃ x y, x < L.length ∧ y < L.length ∧ M = dst L x y) : Lib.maxOf L.flatten = M := by
  have hne : L.flatten ≠ [] := fun e => by
    have := (flat_mem hs (d := dst L 0 0)).2 ⟨0, 0, by omega, by omega, rfl⟩
    rw [e] at this
    simp at this
  obtain ⟨g1, g2⟩ := max_mem hne
  obtain ⟨x, y, hx, hy, e⟩ := (flat_mem hs).1 g1
  have a := h1 x y hx hy
  have b := g2 M ((flat_mem hs).2 h2)
  omega
end Q
theorem tot_by (m : Nat) : ∀ (L : List (List Int)), (∀ l ∈ L, l.length ≤ m) → totL L ≤ m * L.length
  | [], _ => by simp [totL]
  | l :: L, h => by
    have ih := tot_by m L fun m hm => h m (List.mem_cons_of_mem _ hm)
    have := h l (List.mem_cons_self ..)
    simp only [totL, List.map_cons, List.sum_cons, List.length_cons, Nat.mul_succ] at ih ⊢
    omega
theorem max_row {w : World} {A : Option Addr} {c : Nat} {zs : List Int} (hr : Law.Row w A (ivs zs)) (h1 : 1 ≤ zs.length) (hn : zs.length ≤ 1048576) :
    Calls Try.prog 98 #[.slice A zs.length c] w fun e w' => e = .returned (.int .i64 (Lib.maxOf zs)) ∧ w' = w := by
  obtain ⟨b, off, rfl, _, hc⟩ := hr (by intro e; have : zs.length = 0 := by have := congrArg List.length e; simpa [ivs] using this
                                        omega)
  have h := Try.slices_Max_int b off zs.length c zs w (by omega) (Nat.le_refl _) (by omega) (fun j hj => hc j _ (by rw [ivs, List.getElem?_map, List.getElem?_eq_getElem hj, List.getD_eq_getElem?_getD, List.getElem?_eq_getElem hj]; rfl))
  rw [List.take_length] at h
  exact h
theorem flat_take {L : List (List Int)} {k : Nat} {l : List Int} (h : L[k]? = some l) : (L.take (k + 1)).flatten = (L.take k).flatten ++ l := by
  obtain ⟨hl, e⟩ := List.getElem?_eq_some_iff.1 h
  rw [List.take_succ_eq_append_getElem hl, e, List.flatten_append]
  simp
theorem flat_len (L : List (List Int)) : L.flatten.length = totL L := by rw [List.length_flatten]; rfl
end Go.Proofs.Ythpoeeadhjnljaa
