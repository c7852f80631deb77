/-
  ConfigsOf, the mathematics: all configurations, one server more at a time.
-/
import Derived.Test.YtphfjhnmnehfkaaNil
namespace Go.Proofs.Ytphfjhnmnehfkaa
open Go.RowKit
set_option linter.unusedVariables false
namespace Q
def lastC (l : List Int) : Int := l.getD (l.length - 1) 0
/-- A row with one point more: t points from f on. -/
def extK (l : List Int) (f : Nat) : Nat → List (List Int)
  | 0 => []
  | t + 1 => extK l f t ++ [l ++ [((f + t : Nat) : Int)]]
def extN (n : Nat) (l : List Int) : List (List Int) := extK l (lastC l).toNat (n - (lastC l).toNat)
def lvlK (n : Nat) (L : List (List Int)) : Nat → List (List Int)
  | 0 => []
  | j + 1 => lvlK n L j ++ extN n (L.getD j [])
def cfg (n : Nat) : Nat → List (List Int)
  | 0 => [[]]
  | i + 1 => lvlK n (cfg n i) (cfg n i).length
theorem extK_len (l : List Int) (f : Nat) : ∀ t, (extK l f t).length = t
  | 0 => rfl
  | t + 1 => by rw [extK, List.length_append, extK_len l f t]; rfl
theorem extN_len (n : Nat) (l : List Int) : (extN n l).length ≤ n := by rw [extN, extK_len]; omega
theorem lvlK_len (n : Nat) (L : List (List Int)) : ∀ j, (lvlK n L j).length ≤ n * j
  | 0 => by simp [lvlK]
  | j + 1 => by
    have := lvlK_len n L j
    have := extN_len n (L.getD j [])
    rw [lvlK, List.length_append, Nat.mul_succ]
    omega
theorem lvl_next {n : Nat} {L : List (List Int)} {j : Nat} {l : List Int} (h : L[j]? = some l) : lvlK n L (j + 1) = lvlK n L j ++ extN n l := by
  rw [lvlK, List.getD_eq_getElem?_getD, h]
  rfl
/-- A list of points whose last one is a point. -/
def OkC (n i : Nat) (l : List Int) : Prop := l.length = i ∧ ∃ f : Nat, lastC l = (f : Int) ∧ f < n
theorem ext_ok {n i : Nat} {l : List Int} (hl : l.length = i) (f : Nat) : ∀ t, f + t ≤ n → ∀ m ∈ extK l f t, OkC n (i + 1) m
  | 0, _, m, hm => by simp [extK] at hm
  | t + 1, ht, m, hm => by
    rw [extK] at hm
    rcases List.mem_append.1 hm with h | h
    · exact ext_ok hl f t (by omega) m h
    · obtain rfl := List.mem_singleton.1 h
      refine ⟨by simp [hl], f + t, ?_, by omega⟩
      simp [lastC]
theorem lvl_ok {n i : Nat} {L : List (List Int)} (h : ∀ l ∈ L, OkC n i l) : ∀ j, j ≤ L.length → ∀ m ∈ lvlK n L j, OkC n (i + 1) m
  | 0, _, m, hm => by simp [lvlK] at hm
  | j + 1, hj, m, hm => by
    have hx : L[j]? = some L[j] := List.getElem?_eq_getElem (by omega)
    rw [lvl_next hx] at hm
    rcases List.mem_append.1 hm with h1 | h1
    · exact lvl_ok h j (by omega) m h1
    · obtain ⟨hl, f, hf, hfn⟩ := h _ (List.getElem_mem (show j < L.length by omega))
      rw [extN, hf] at h1
      exact ext_ok hl _ _ (by omega) m h1
theorem cfg_ok {n : Nat} (hn : 1 ≤ n) : ∀ i, ∀ l ∈ cfg n i, OkC n i l
  | 0, l, hl => by
    simp [cfg] at hl
    subst hl
    exact ⟨rfl, 0, rfl, hn⟩
  | i + 1, l, hl => lvl_ok (cfg_ok hn i) _ (Nat.le_refl _) l hl
theorem cfg_len {n : Nat} (hn : n ≤ 6) : (cfg n 0).length ≤ 1 ∧ (cfg n 1).length ≤ 6 ∧ (cfg n 2).length ≤ 36 ∧ (cfg n 3).length ≤ 216 := by
  have h0 : (cfg n 0).length ≤ 1 := by simp [cfg]
  have h1 : (cfg n 1).length ≤ n * (cfg n 0).length := lvlK_len _ _ _
  have h2 : (cfg n 2).length ≤ n * (cfg n 1).length := lvlK_len _ _ _
  have h3 : (cfg n 3).length ≤ n * (cfg n 2).length := lvlK_len _ _ _
  have g1 : (cfg n 1).length ≤ 6 := Nat.le_trans h1 (Nat.le_trans (Nat.mul_le_mul hn h0) (by decide))
  have g2 : (cfg n 2).length ≤ 36 := Nat.le_trans h2 (Nat.le_trans (Nat.mul_le_mul hn g1) (by decide))
  have g3 : (cfg n 3).length ≤ 216 := Nat.le_trans h3 (Nat.le_trans (Nat.mul_le_mul hn g2) (by decide))
  exact ⟨h0, g1, g2, g3⟩
theorem cfg_few {n i : Nat} (hn : n ≤ 6) (hi : i ≤ 3) : (cfg n i).length ≤ 216 := by
  obtain ⟨h0, h1, h2, h3⟩ := cfg_len hn
  rcases (show i = 0 ∨ i = 1 ∨ i = 2 ∨ i = 3 by omega) with rfl | rfl | rfl | rfl <;> omega
def cfgOk (n k : Int) : Bool := (decide (1 ≤ n) && decide (n ≤ 6)) && (decide (1 ≤ k) && decide (k ≤ 3))
def cfgQ (n k : Int) : List (List Int) × Bool := if cfgOk n k then (cfg n.toNat k.toNat, true) else ([], false)
theorem cfgOk_iff {n k : Int} : cfgOk n k = true ↔ (1 ≤ n ∧ n ≤ 6) ∧ 1 ≤ k ∧ k ≤ 3 := by simp [cfgOk]
end Q
theorem tot_by (m : Nat) : ∀ (L : List (List Int)), (∀ l ∈ L, l.length ≤ m) → totL L ≤ m * L.length
  | [], _ => by simp [totL]
  | l :: L, h => by
    have ih := tot_by m L fun m hm => h m (List.mem_cons_of_mem _ hm)
    have := h l (List.mem_cons_self ..)
    simp only [totL, List.map_cons, List.sum_cons, List.length_cons, Nat.mul_succ] at ih ⊢
    omega
namespace LConfigsOf
theorem lenX (n k : Int) : (Q.cfgQ n k).1.length ≤ 1048576 ∧ (∀ l ∈ (Q.cfgQ n k).1, l.length ≤ 1048576) ∧ totL (Q.cfgQ n k).1 ≤ 1048576 := by
  unfold Q.cfgQ
  split
  · rename_i h
    obtain ⟨⟨h1, h2⟩, h3, h4⟩ := Q.cfgOk_iff.1 h
    have hf := Q.cfg_few (n := n.toNat) (i := k.toNat) (by omega) (by omega)
    have ho := Q.cfg_ok (n := n.toNat) (by omega) k.toNat
    have h3' : ∀ l ∈ Q.cfg n.toNat k.toNat, l.length ≤ 3 := fun l hl => by have := (ho l hl).1; omega
    have ht := tot_by 3 _ h3'
    refine ⟨?_, fun l hl => ?_, ?_⟩
    · show (Q.cfg n.toNat k.toNat).length ≤ _
      omega
    · have := h3' l hl
      omega
    · show totL (Q.cfg n.toNat k.toNat) ≤ _
      omega
  · exact ⟨by simp, fun l hl => by simp at hl, by simp [totL]⟩
end LConfigsOf
/-- A literal of one value. -/
theorem own_lit1 (w : World) (x : Value) (t : TypeId) : (w.alloc (.cells #[x] t)).ownsRow w.heap.size t 1 (.slice (some ⟨w.heap.size, 0, none⟩) 1 1) 1 [x] :=
  ⟨rfl, .inr ⟨w.heap.size, 1, #[x], rfl, Nat.le_refl _, heap_alloc_new w _, Nat.le_refl _, by unfold maxLen; omega, rfl, rfl⟩⟩
end Go.Proofs.Ytphfjhnmnehfkaa
