/-
  Rows filled from the left and from the right. Nothing of the program stands here.
-/
namespace Go.Proofs.Ytndjpkeenbbgiaa
namespace Q
/-- A row filled from the left with f 0, f 1, .. -/
def part (f : Nat → Int) (n k : Nat) : List Int := (List.range n).map fun i => if i < k then f i else 0
theorem part_zero (f : Nat → Int) (n : Nat) : part f n 0 = List.replicate n 0 := by simp [part, List.map_const']
theorem part_all (f : Nat → Int) (n : Nat) : part f n n = (List.range n).map f := by
  unfold part
  refine List.map_congr_left fun i hi => ?_
  rw [if_pos (by simpa using hi)]
theorem part_len (f : Nat → Int) (n k : Nat) : (part f n k).length = n := by simp [part]
theorem part_at (f : Nat → Int) {n k : Nat} (h : k < n) : (part f n k)[k]? = some 0 := by simp [part, h]
theorem part_old (f : Nat → Int) {n k j : Nat} (h : k ≤ n) (hj : j < k) : (part f n k)[j]? = some (f j) := by simp [part, show j < n from by omega, hj]
theorem part_set (f : Nat → Int) {n k : Nat} (h : k < n) : (part f n k).set k (f k) = part f n (k + 1) := by
  apply List.ext_getElem?
  intro j
  by_cases hj : j < n
  · by_cases e : k = j
    · subst e; simp [part, h]
    · rw [List.getElem?_set_ne e]
      simp only [part, List.getElem?_map, List.getElem?_range hj, Option.map_some]
      by_cases hk : j < k
      · rw [if_pos hk, if_pos (by omega)]
      · rw [if_neg hk, if_neg (by omega)]
  · rw [List.getElem?_eq_none (by simp [part]; omega), List.getElem?_eq_none (by simp [part]; omega)]
/-- A row filled from the right. -/
def tailP (f : Nat → Int) (n k : Nat) : List Int := (List.range n).map fun i => if i < k then 0 else f i
theorem tailP_len (f : Nat → Int) (n k : Nat) : (tailP f n k).length = n := by simp [tailP]
theorem tailP_zero (f : Nat → Int) (n : Nat) : tailP f n 0 = (List.range n).map f := by simp [tailP]
theorem tailP_end (f : Nat → Int) (n : Nat) : tailP f n n = List.replicate n 0 := by
  apply List.ext_getElem (by simp [tailP])
  intro j h1 h2
  simp at h2
  simp [tailP, h2]
theorem tailP_at (f : Nat → Int) {n k : Nat} (h : k < n) : (tailP f n (k + 1))[k]? = some 0 := by simp [tailP, h]
theorem tailP_set (f : Nat → Int) {n k : Nat} (h : k < n) : (tailP f n (k + 1)).set k (f k) = tailP f n k := by
  apply List.ext_getElem?
  intro j
  by_cases hj : j < n
  · by_cases e : k = j
    · subst e; simp [tailP, h]
    · rw [List.getElem?_set_ne e]
      simp only [tailP, List.getElem?_map, List.getElem?_range hj, Option.map_some]
      by_cases hk : j < k
      · rw [if_pos hk, if_pos (by omega)]
      · rw [if_neg hk, if_neg (by omega)]
  · rw [List.getElem?_eq_none (by simp [tailP]; omega), List.getElem?_eq_none (by simp [tailP]; omega)]
end Q
end Go.Proofs.Ytndjpkeenbbgiaa
