/-
  Work functions of a finite problem: the mathematics.
-/
import Derived.Test.YtammlkaclooohaaAsk8
namespace Go.Proofs.Ytammlkaclooohaa
open Go.RowKit
set_option linter.unusedVariables false
namespace Q
/-- The first of the least f among the k first that are ok, and its f; -1 and 0 where there is none. -/
def amK (f : Nat → Int) (ok : Nat → Bool) : Nat → Int × Int
  | 0 => (-1, 0)
  | k + 1 => if ok k && (decide ((amK f ok k).1 < 0) || decide (f k < (amK f ok k).2)) then ((k : Int), f k) else amK f ok k
theorem amK_bd {f : Nat → Int} {ok : Nat → Bool} {M : Int} (hM : 0 ≤ M) : ∀ k, (∀ s, s < k → ok s = true → 0 ≤ f s ∧ f s ≤ M) → -1 ≤ (amK f ok k).1 ∧ (amK f ok k).1 < (k : Int) ∧ 0 ≤ (amK f ok k).2 ∧ (amK f ok k).2 ≤ M
  | 0, _ => ⟨by show (-1 : Int) ≤ -1; omega, by show (-1 : Int) < 0; omega, by show (0 : Int) ≤ 0; omega, hM⟩
  | k + 1, h => by
    obtain ⟨i1, i2, i3, i4⟩ := amK_bd hM k fun s hs => h s (by omega)
    unfold amK
    split
    · rename_i hc
      simp only [Bool.and_eq_true] at hc
      obtain ⟨h1, h2⟩ := h k (by omega) hc.1
      exact ⟨by show (-1 : Int) ≤ (k : Int); omega, by show (k : Int) < ((k + 1 : Nat) : Int); omega, h1, h2⟩
    · exact ⟨i1, by omega, i3, i4⟩
theorem amK_some {f : Nat → Int} {ok : Nat → Bool} : ∀ k, (∃ s, s < k ∧ ok s = true) → 0 ≤ (amK f ok k).1
  | 0, ⟨s, hs, _⟩ => by omega
  | k + 1, ⟨s, hs, h⟩ => by
    unfold amK
    split
    · show (0 : Int) ≤ (k : Int)
      omega
    · rename_i hc
      by_cases hneg : (amK f ok k).1 < 0
      · by_cases e : s = k
        · subst e
          exact absurd (by simp [h, hneg]) hc
        · have := amK_some (f := f) k ⟨s, by omega, h⟩
          omega
      · omega
theorem amK_none {f : Nat → Int} {ok : Nat → Bool} : ∀ k, (amK f ok k).1 < 0 → (amK f ok k).2 = 0
  | 0, _ => rfl
  | k + 1, h => by
    unfold amK at h ⊢
    split at h
    · exact absurd h (by show ¬ (k : Int) < 0; omega)
    · rename_i hc
      rw [if_neg hc]
      exact amK_none k h
theorem amK_at {f : Nat → Int} {ok : Nat → Bool} : ∀ k, 0 ≤ (amK f ok k).1 → ∃ s : Nat, s < k ∧ ok s = true ∧ (amK f ok k).1 = s ∧ (amK f ok k).2 = f s
  | 0, h => absurd h (by show ¬ (0 : Int) ≤ -1; omega)
  | k + 1, h => by
    unfold amK at h ⊢
    split at h
    · rename_i hc
      rw [if_pos hc]
      simp only [Bool.and_eq_true] at hc
      exact ⟨k, by omega, hc.1, rfl, rfl⟩
    · rename_i hc
      rw [if_neg hc]
      obtain ⟨s, h1, h2, h3, h4⟩ := amK_at k h
      exact ⟨s, by omega, h2, h3, h4⟩
theorem amK_congr {f g : Nat → Int} {ok : Nat → Bool} : ∀ k, (∀ s, s < k → ok s = true → f s = g s) → amK f ok k = amK g ok k
  | 0, _ => rfl
  | k + 1, h => by
    have ih := amK_congr (f := f) (g := g) (ok := ok) k fun s hs => h s (by omega)
    unfold amK
    rw [ih]
    cases ho : ok k
    · simp
    · rw [h k (by omega) ho]
def okS (S : List (List Int)) (r s : Nat) : Bool := decide (dst S r s ≠ -1)
def bstF (L S : List (List Int)) (r : Nat) (v : List Int) (t s : Nat) : Int := dst L t s + dst S r s + v.getD s 0
def nextQ (L S : List (List Int)) (v : List Int) (r : Nat) : List Int := (List.range L.length).map fun t => (amK (bstF L S r v t) (okS S r) L.length).2
theorem nextQ_len (L S : List (List Int)) (v : List Int) (r : Nat) : (nextQ L S v r).length = L.length := by simp [nextQ]
/-- The first n of v are numbers up to M. -/
def Vals (n : Nat) (M : Int) (v : List Int) : Prop := ∀ s, s < n → ∃ z, v[s]? = some z ∧ 0 ≤ z ∧ z ≤ M
theorem bstF_at {L S : List (List Int)} {r : Nat} {v : List Int} {t s : Nat} {z : Int} (h : v[s]? = some z) : bstF L S r v t s = dst L t s + dst S r s + z := by
  rw [bstF, List.getD_eq_getElem?_getD, h]
  rfl
theorem bstF_bd {L S : List (List Int)} (h : Pr L S) {r t : Nat} {v : List Int} {M : Int} (hr : r < S.length) (ht : t < L.length) (hv : Vals L.length M v) : ∀ s, s < L.length → okS S r s = true → 0 ≤ bstF L S r v t s ∧ bstF L S r v t s ≤ M + 119 := fun s hs ho => by
  obtain ⟨z, hz, h0, h1⟩ := hv s hs
  rw [bstF_at hz]
  have a := h.dst ht hs
  have b := h.srv hr hs
  have c : dst S r s ≠ -1 := by simpa [okS] using ho
  omega
theorem Vals.wide {n : Nat} {M M' : Int} {v : List Int} (h : Vals n M v) (hM : M ≤ M') : Vals n M' v := fun s hs => by
  obtain ⟨z, h1, h2, h3⟩ := h s hs
  exact ⟨z, h1, h2, by omega⟩
theorem Vals.pos {n : Nat} {M : Int} {v : List Int} (h : Vals n M v) (hn : 1 ≤ n) : 0 ≤ M := by
  obtain ⟨z, _, h2, h3⟩ := h 0 (by omega)
  omega
theorem nextQ_at {L S : List (List Int)} {v : List Int} {r t : Nat} (ht : t < L.length) : (nextQ L S v r)[t]? = some (amK (bstF L S r v t) (okS S r) L.length).2 := by
  simp [nextQ, ht]
theorem nextQ_vals {L S : List (List Int)} (h : Pr L S) {r : Nat} {v : List Int} {M : Int} (hr : r < S.length) (hv : Vals L.length M v) : Vals L.length (M + 119) (nextQ L S v r) := fun t ht => by
  have hM := hv.pos h.n1
  obtain ⟨_, _, h3, h4⟩ := amK_bd (f := bstF L S r v t) (ok := okS S r) (M := M + 119) (by omega) L.length fun s hs ho => bstF_bd h hr ht hv s hs ho
  exact ⟨_, nextQ_at ht, h3, h4⟩
theorem okS_some {L S : List (List Int)} (h : Pr L S) {r : Nat} (hr : r < S.length) : ∃ s, s < L.length ∧ okS S r s = true := by
  obtain ⟨s, h1, h2⟩ := h.can hr
  exact ⟨s, h1, by simp [okS]; omega⟩
/-- A list that is filled up to place k. -/
def fillK (f : Nat → Int) (n k : Nat) : List Int := (List.range n).map fun j => if j < k then f j else 0
theorem fill_zero (f : Nat → Int) (n : Nat) : fillK f n 0 = List.replicate n 0 := by simp [fillK, List.map_const']
theorem fill_end (f : Nat → Int) (n : Nat) : fillK f n n = (List.range n).map f := by
  unfold fillK
  refine List.map_congr_left fun j hj => ?_
  rw [if_pos (List.mem_range.1 hj)]
theorem fill_at {f : Nat → Int} {n k : Nat} (hk : k < n) : (fillK f n k)[k]? = some 0 := by simp [fillK, hk]
theorem fill_set {f : Nat → Int} {n k : Nat} : (fillK f n k).set k (f k) = fillK f n (k + 1) := by
  apply List.ext_getElem (by simp [fillK])
  intro j h1 h2
  simp [fillK] at h1
  rw [List.getElem_set]
  simp only [fillK, List.getElem_map, List.getElem_range]
  by_cases e : k = j
  · subst e; simp
  · rw [if_neg e]
    by_cases hj : j < k
    · rw [if_pos hj, if_pos (by omega)]
    · rw [if_neg hj, if_neg (by omega)]
theorem fill_len (f : Nat → Int) (n k : Nat) : (fillK f n k).length = n := by simp [fillK]
/-- The work function behind the first k requests. -/
def workK (L S : List (List Int)) (s0 : Nat) (reqs : List Int) : Nat → List Int
  | 0 => L.getD s0 []
  | k + 1 => nextQ L S (workK L S s0 reqs k) (reqs.getD k 0).toNat
theorem workK_succ {L S : List (List Int)} {s0 : Nat} {reqs : List Int} {k x : Nat} (h : reqs[k]? = some (x : Int)) : workK L S s0 reqs (k + 1) = nextQ L S (workK L S s0 reqs k) x := by
  rw [workK, List.getD_eq_getElem?_getD, h]
  rfl
theorem workK_vals {L S : List (List Int)} (h : Pr L S) {s0 : Nat} (h0 : s0 < L.length) {reqs : List Int} (hr : ∀ k, k < reqs.length → ∃ x : Nat, reqs[k]? = some (x : Int) ∧ x < S.length) : ∀ k, k ≤ reqs.length → (workK L S s0 reqs k).length = L.length ∧ Vals L.length (119 * (k : Int) + 119) (workK L S s0 reqs k)
  | 0, _ => by
    have e : L.getD s0 [] = L[s0] := by rw [List.getD_eq_getElem?_getD, List.getElem?_eq_getElem h0]; rfl
    have hl : L[s0].length = L.length := h.sq _ (List.getElem_mem h0)
    refine ⟨by rw [workK, e, hl], fun s hs => ?_⟩
    have d := h.dst h0 hs
    refine ⟨Q.dst L s0 s, ?_, by omega, by omega⟩
    rw [workK, e]
    unfold Q.dst
    rw [e, List.getD_eq_getElem?_getD, List.getElem?_eq_getElem (by omega)]
    rfl
  | k + 1, hk => by
    obtain ⟨i1, i2⟩ := workK_vals h h0 hr k (by omega)
    obtain ⟨x, hx, hxm⟩ := hr k (by omega)
    rw [workK_succ hx]
    exact ⟨nextQ_len _ _ _ _, (nextQ_vals h hxm i2).wide (by omega)⟩
end Q
end Go.Proofs.Ytammlkaclooohaa
