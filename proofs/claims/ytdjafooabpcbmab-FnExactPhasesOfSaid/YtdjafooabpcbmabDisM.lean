/-
  Stack distances, their counts, the curve, phases. Nothing of the program stands here.
-/
import Derived.Test.YtdjafooabpcbmabPut
import Derived.Test.YtdjafooabpcbmabPart
namespace Go.Proofs.Ytdjafooabpcbmab
namespace Q
/-- The stack distance of place i. -/
def disF (zs : List Int) (i : Nat) : Int := if lastOf zs i < 0 then 0 else ((dif (win zs (lastOf zs i).toNat i) : Nat) : Int)
def disL (zs : List Int) (k : Nat) : List Int := (List.range k).map (disF zs)
theorem disL_len (zs : List Int) (k : Nat) : (disL zs k).length = k := by simp [disL]
theorem disL_succ (zs : List Int) (k : Nat) : disL zs (k + 1) = disL zs k ++ [disF zs k] := by simp [disL, List.range_succ]
theorem part_skip (f : Nat → Int) (n k : Nat) (h : f k = 0) : part f n (k + 1) = part f n k := by
  unfold part
  refine List.map_congr_left fun i _ => ?_
  by_cases e : i < k
  · rw [if_pos e, if_pos (by omega)]
  · rw [if_neg e]
    by_cases e' : i = k
    · subst e'; rw [if_pos (by omega), h]
    · rw [if_neg (by omega)]
theorem lastL_at (zs : List Int) {n k : Nat} (h : k < n) : (lastL zs n)[k]? = some (lastOf zs k) := by simp [lastL, h]
theorem lastOf_lt (zs : List Int) (k : Nat) : -1 ≤ lastOf zs k ∧ lastOf zs k < k := dn_bd zs _ k
theorem dif_mem_le {n : Nat} {l : List Int} (h : ∀ z ∈ l, 0 ≤ z ∧ z < n) : dif l ≤ n := by
  obtain ⟨hs, hm, hl⟩ := diffs_ok l
  rw [← hl]
  have key : ∀ (m : Nat) (lo : Int) (d : List Int), Srt d → (∀ z ∈ d, lo ≤ z ∧ z < lo + m) → d.length ≤ m := by
    intro m
    induction m with
    | zero =>
      intro lo d _ h
      match d, h with
      | [], _ => simp
      | x :: xs, h => have := h x (by simp); omega
    | succ m ih =>
      intro lo d hs h
      match d, hs, h with
      | [], _, _ => simp
      | x :: xs, hs, h =>
        have hp := List.pairwise_cons.1 hs
        have := ih (lo + 1) xs hp.2 (fun z hz => by
          have h1 := h z (by simp [hz])
          have h2 := hp.1 z hz
          have h3 := h x (by simp)
          omega)
        simp; omega
  exact key n 0 (diffs l) hs (fun z hz => by have := h z ((hm z).1 hz); omega)
theorem win_mem {zs : List Int} {a b : Nat} {z : Int} (h : z ∈ win zs a b) : z ∈ zs := List.mem_of_mem_drop (List.mem_of_mem_take h)
theorem disF_bd {n : Nat} {zs : List Int} (h : ∀ z ∈ zs, 0 ≤ z ∧ z < n) (i : Nat) : 0 ≤ disF zs i ∧ disF zs i ≤ n := by
  unfold disF
  split
  · omega
  · have := dif_mem_le (n := n) (l := win zs (lastOf zs i).toNat i) (fun z hz => h z (win_mem hz))
    omega
theorem disL_ok {n : Nat} {zs : List Int} (h : ∀ z ∈ zs, 0 ≤ z ∧ z < n) {m : Nat} : ∀ k, k < (disL zs m).length → ∃ x : Nat, (disL zs m)[k]? = some (x : Int) ∧ x < n + 1 := fun k hk => by
  rw [disL_len] at hk
  obtain ⟨h1, h2⟩ := disF_bd h k
  refine ⟨(disF zs k).toNat, ?_, by omega⟩
  rw [Int.toNat_of_nonneg h1]
  simp [disL, hk]
/-- How many distances are 0 or greater than i + 1. -/
def cuv (ds : List Int) (i : Nat) : Nat := ds.countP fun d => decide (d = 0) || decide ((i : Int) + 1 < d)
theorem cuv_snoc (ds : List Int) (d : Int) (i : Nat) : cuv (ds ++ [d]) i = cuv ds i + if d = 0 ∨ (i : Int) + 1 < d then 1 else 0 := by
  unfold cuv
  rw [List.countP_append]
  by_cases h : d = 0 ∨ (i : Int) + 1 < d
  · rw [if_pos h]
    have : (decide (d = 0) || decide ((i : Int) + 1 < d)) = true := by simpa using h
    simp [this]
  · rw [if_neg h]
    have : (decide (d = 0) || decide ((i : Int) + 1 < d)) = false := by rw [Bool.eq_false_iff]; simpa using h
    simp [this]
theorem cuv_le (ds : List Int) (i : Nat) : cuv ds i ≤ ds.length := List.countP_le_length
def cuvL (ds : List Int) (k : Nat) : List Int := (List.range k).map fun i => ((cuv ds i : Nat) : Int)
theorem cuvL_succ (ds : List Int) (k : Nat) : cuvL ds (k + 1) = cuvL ds k ++ [((cuv ds k : Nat) : Int)] := by simp [cuvL, List.range_succ]
/-- In the midst of a round over the sizes: i of them have seen one distance more. -/
def cuvM (ds : List Int) (d : Int) (j : Nat) : List Int := (List.range 6).map fun i => ((cuv (if i < j then ds ++ [d] else ds) i : Nat) : Int)
theorem cuvM_zero (ds : List Int) (d : Int) : cuvM ds d 0 = cuvL ds 6 := by simp [cuvM, cuvL]
theorem cuvM_end (ds : List Int) (d : Int) : cuvM ds d 6 = cuvL (ds ++ [d]) 6 := by
  unfold cuvM cuvL
  refine List.map_congr_left fun i hi => ?_
  rw [if_pos (by simpa using hi)]
theorem cuvM_at (ds : List Int) (d : Int) {j : Nat} (h : j < 6) : (cuvM ds d j)[j]? = some ((cuv ds j : Nat) : Int) := by simp [cuvM, h]
theorem cuvM_skip (ds : List Int) (d : Int) {j : Nat} (h : ¬ (d = 0 ∨ (j : Int) + 1 < d)) : cuvM ds d (j + 1) = cuvM ds d j := by
  unfold cuvM
  refine List.map_congr_left fun i _ => ?_
  by_cases e : i < j
  · rw [if_pos e, if_pos (by omega)]
  · rw [if_neg e]
    by_cases e' : i = j
    · subst e'; rw [if_pos (by omega), cuv_snoc, if_neg h]; rfl
    · rw [if_neg (by omega)]
theorem cuvM_set (ds : List Int) (d : Int) {j : Nat} (hj : j < 6) (h : d = 0 ∨ (j : Int) + 1 < d) : (cuvM ds d j).set j (((cuv ds j : Nat) : Int) + 1) = cuvM ds d (j + 1) := by
  apply List.ext_getElem?
  intro i
  by_cases hi : i < 6
  · by_cases e : j = i
    · subst e
      have : j < (cuvM ds d j).length := by simp [cuvM, hj]
      rw [List.getElem?_set_self this]
      simp [cuvM, hj, cuv_snoc, h]
    · rw [List.getElem?_set_ne e]
      simp only [cuvM, List.getElem?_map, List.getElem?_range hi, Option.map_some]
      by_cases hk : i < j
      · rw [if_pos hk, if_pos (by omega)]
      · rw [if_neg hk, if_neg (by omega)]
  · rw [List.getElem?_eq_none (by simp [cuvM]; omega), List.getElem?_eq_none (by simp [cuvM]; omega)]
theorem cuvL_nil (k : Nat) : cuvL [] k = List.replicate k 0 := by simp [cuvL, cuv, List.map_const']
/-- The first place of the phase in which place k lies (k places seen), and the first places of all phases so far. -/
def phase (m : Int) (zs : List Int) : Nat → Nat × List Int
  | 0 => (0, [])
  | k + 1 => if k = 0 ∨ m < ((dif (win zs (phase m zs k).1 (k + 1)) : Nat) : Int) then (k, (phase m zs k).2 ++ [(k : Int)]) else phase m zs k
theorem phase_le (m : Int) (zs : List Int) : ∀ k, (phase m zs k).1 ≤ k ∧ ((phase m zs k).2).length ≤ k
  | 0 => by simp [phase]
  | k + 1 => by
    have := phase_le m zs k
    unfold phase
    split
    · simp; omega
    · omega
theorem phase_in (m : Int) (zs : List Int) : ∀ k, 0 < k → (phase m zs k).1 < k
  | k + 1, _ => by
    have := phase_le m zs k
    unfold phase
    split
    · simp
    · omega
theorem phase_new {m : Int} {zs : List Int} {k : Nat} (h : k = 0 ∨ m < ((dif (win zs (phase m zs k).1 (k + 1)) : Nat) : Int)) : phase m zs (k + 1) = (k, (phase m zs k).2 ++ [(k : Int)]) := if_pos h
theorem phase_old {m : Int} {zs : List Int} {k : Nat} (h : ¬ (k = 0 ∨ m < ((dif (win zs (phase m zs k).1 (k + 1)) : Nat) : Int))) : phase m zs (k + 1) = phase m zs k := if_neg h
theorem win_snoc {zs : List Int} {a k : Nat} {x : Int} (h : zs[k]? = some x) (ha : a ≤ k) : win zs a (k + 1) = win zs a k ++ [x] := by
  unfold win
  rw [show k + 1 - a = (k - a) + 1 by omega, List.take_add_one, List.getElem?_drop, show a + (k - a) = k by omega, h]
  rfl
theorem win_one {zs : List Int} {k : Nat} {x : Int} (h : zs[k]? = some x) : win zs k (k + 1) = [x] := by
  rw [win_snoc h (Nat.le_refl k)]; simp [win]
theorem dif_one (x : Int) : dif [x] = 1 := by simp [dif, difR]
end Q
end Go.Proofs.Ytdjafooabpcbmab
