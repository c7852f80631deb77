/-
  Sequences of requests: last and next uses, counts, different numbers, weaving, projecting, runs. Nothing of the program stands here.
-/
namespace Go.Proofs.Ytammlkaclooohaa
namespace Q
/-- The greatest k below j with zs[k] = x, or -1. -/
def dn (zs : List Int) (x : Int) : Nat → Int
  | 0 => -1
  | j + 1 => if zs[j]? = some x then (j : Int) else dn zs x j
/-- The least place of x in the list, counted from k on, or -1. -/
def up (x : Int) : List Int → Nat → Int
  | [], _ => -1
  | y :: ys, k => if y = x then (k : Int) else up x ys (k + 1)
def lastOf (zs : List Int) (i : Nat) : Int := dn zs (zs.getD i 0) i
def nextOf (zs : List Int) (i : Nat) : Int := up (zs.getD i 0) (zs.drop (i + 1)) (i + 1)
def lastL (zs : List Int) (k : Nat) : List Int := (List.range k).map (lastOf zs)
def nextL (zs : List Int) (k : Nat) : List Int := (List.range k).map (nextOf zs)
theorem map_succ (f : Nat → Int) (k : Nat) : (List.range (k + 1)).map f = (List.range k).map f ++ [f k] := by simp [List.range_succ]
/-- What the code keeps for each item ahead of place p. -/
def latestL (n : Nat) (zs : List Int) (p : Nat) : List Int := (List.range n).map fun (x : Nat) => dn zs (x : Int) p
def nearestL (n : Nat) (zs : List Int) (p : Nat) : List Int := (List.range n).map fun (x : Nat) => up (x : Int) (zs.drop p) p
theorem set_map {n : Nat} (f g : Nat → Int) (i : Nat) (u : Int) (h : ∀ x, x < n → g x = if x = i then u else f x) : ((List.range n).map f).set i u = (List.range n).map g := by
  apply List.ext_getElem (by simp)
  intro k h1 h2
  simp at h1
  rw [List.getElem_set]
  simp [h k h1]
  by_cases e : i = k
  · simp [e]
  · rw [if_neg e, if_neg (fun x => e x.symm)]
theorem latest_succ {n : Nat} {zs : List Int} {p : Nat} {x : Nat} (h : zs[p]? = some (x : Int)) : (latestL n zs p).set x (p : Int) = latestL n zs (p + 1) := by
  refine set_map _ _ _ _ fun y _ => ?_
  show (if zs[p]? = some (y : Int) then (p : Int) else dn zs y p) = _
  rw [h]
  by_cases e : y = x
  · subst e; simp
  · rw [if_neg (by simp; omega), if_neg e]
theorem drop_at {zs : List Int} {p : Nat} {x : Int} (h : zs[p]? = some x) : zs.drop p = x :: zs.drop (p + 1) := by
  obtain ⟨hl, rfl⟩ := List.getElem?_eq_some_iff.1 h
  exact List.drop_eq_getElem_cons hl
theorem nearest_pred {n : Nat} {zs : List Int} {p : Nat} {x : Nat} (h : zs[p]? = some (x : Int)) : (nearestL n zs (p + 1)).set x (p : Int) = nearestL n zs p := by
  refine set_map _ _ _ _ fun y _ => ?_
  rw [drop_at h]
  show (if (x : Int) = (y : Int) then (p : Int) else up y (zs.drop (p + 1)) (p + 1)) = _
  by_cases e : y = x
  · subst e; simp
  · rw [if_neg (by omega), if_neg e]
theorem latest_at {n : Nat} {zs : List Int} {p x : Nat} (h : x < n) : (latestL n zs p)[x]? = some (dn zs x p) := by simp [latestL, h]
theorem nearest_at {n : Nat} {zs : List Int} {p x : Nat} (h : x < n) : (nearestL n zs p)[x]? = some (up x (zs.drop p) p) := by simp [nearestL, h]
theorem latest_zero (n : Nat) (zs : List Int) : latestL n zs 0 = List.replicate n (-1) := by simp [latestL, dn, List.map_const']
theorem nearest_end (n : Nat) (zs : List Int) : nearestL n zs zs.length = List.replicate n (-1) := by simp [nearestL, up, List.map_const']
theorem dn_bd (zs : List Int) (x : Int) : ∀ p, -1 ≤ dn zs x p ∧ dn zs x p < p
  | 0 => by simp [dn]
  | p + 1 => by
    have := dn_bd zs x p
    unfold dn
    split <;> omega
theorem up_bd (x : Int) : ∀ (zs : List Int) (p : Nat), -1 ≤ up x zs p ∧ up x zs p < (p + zs.length : Nat)
  | [], p => by simp [up]; omega
  | y :: ys, p => by
    have := up_bd x ys (p + 1)
    unfold up
    simp only [List.length_cons]
    split <;> omega
/-- Counts. -/
def countL (n : Nat) (zs : List Int) : List Int := (List.range n).map fun (x : Nat) => ((zs.count (x : Int) : Nat) : Int)
theorem count_snoc {n : Nat} {zs : List Int} {x : Nat} : (countL n zs).set x (((zs.count (x : Int) : Nat) : Int) + 1) = countL n (zs ++ [(x : Int)]) := by
  refine set_map _ _ _ _ fun y _ => ?_
  rw [List.count_append]
  by_cases e : y = x
  · subst e; simp
  · rw [if_neg e, List.count_cons_of_ne (by omega)]; simp
theorem count_at {n : Nat} {zs : List Int} {x : Nat} (h : x < n) : (countL n zs)[x]? = some ((zs.count (x : Int) : Nat) : Int) := by simp [countL, h]
theorem count_nil (n : Nat) : countL n [] = List.replicate n 0 := by simp [countL, List.map_const']
theorem take_snoc {zs : List Int} {k : Nat} {x : Int} (h : zs[k]? = some x) : zs.take (k + 1) = zs.take k ++ [x] := by
  obtain ⟨hl, rfl⟩ := List.getElem?_eq_some_iff.1 h
  exact List.take_succ_eq_append_getElem hl
/-- How many different numbers a list holds. -/
def difR : List Int → Nat
  | [] => 0
  | x :: xs => difR xs + if x ∈ xs then 0 else 1
def dif (l : List Int) : Nat := difR l.reverse
theorem dif_snoc (l : List Int) (x : Int) : dif (l ++ [x]) = dif l + if x ∈ l then 0 else 1 := by simp [dif, difR]
theorem difR_le : ∀ l, difR l ≤ l.length
  | [] => Nat.le_refl _
  | x :: xs => by have := difR_le xs; unfold difR; simp only [List.length_cons]; split <;> omega
theorem dif_le (l : List Int) : dif l ≤ l.length := by have := difR_le l.reverse; simpa [dif] using this
end Q
namespace Q
/-- Weaving: the places 0 .. k - 1 of both. -/
def weaveK (a b : List Int) (k : Nat) : List Int := (List.range k).flatMap fun i => a[i]?.toList ++ b[i]?.toList
theorem weaveK_succ (a b : List Int) (k : Nat) : weaveK a b (k + 1) = weaveK a b k ++ a[k]?.toList ++ b[k]?.toList := by simp [weaveK, List.range_succ]
def weave (a b : List Int) : List Int := weaveK a b (max a.length b.length)
theorem take_opt (l : List Int) (k j : Nat) : (l.drop k).take (j + 1) = (l.drop k).take j ++ l[k + j]?.toList := by
  rw [List.take_add_one, List.getElem?_drop]
theorem weave_rest (a b : List Int) (k : Nat) (h : a.length ≤ k ∨ b.length ≤ k) : ∀ j, weaveK a b (k + j) = weaveK a b k ++ ((a.drop k).take j ++ (b.drop k).take j)
  | 0 => by simp
  | j + 1 => by
    rw [← Nat.add_assoc, weaveK_succ, weave_rest a b k h j, take_opt, take_opt]
    rcases h with h | h
    · have e : a.drop k = [] := List.drop_of_length_le h
      have e' : a[k + j]? = none := List.getElem?_eq_none (by omega)
      simp [e, e']
    · have e : b.drop k = [] := List.drop_of_length_le h
      have e' : b[k + j]? = none := List.getElem?_eq_none (by omega)
      simp [e, e']
theorem weave_min (a b : List Int) : weave a b = weaveK a b (min a.length b.length) ++ a.drop (min a.length b.length) ++ b.drop (min a.length b.length) := by
  unfold weave
  have e : max a.length b.length = min a.length b.length + (max a.length b.length - min a.length b.length) := by omega
  rw [e, weave_rest a b _ (by omega), List.append_assoc]
  congr 2
  · rw [List.take_of_length_le]; simp; omega
  · rw [List.take_of_length_le]; simp; omega
theorem weaveK_len (a b : List Int) (k : Nat) (h : k ≤ a.length) (h' : k ≤ b.length) : (weaveK a b k).length = k + k := by
  induction k with
  | zero => rfl
  | succ k ih =>
    rw [weaveK_succ, List.length_append, List.length_append, ih (by omega) (by omega), List.getElem?_eq_getElem (by omega), List.getElem?_eq_getElem (by omega)]
    simp; omega
theorem weave_len (a b : List Int) : (weave a b).length = a.length + b.length := by
  rw [weave_min, List.length_append, List.length_append, weaveK_len _ _ _ (by omega) (by omega)]
  simp; omega
theorem weaveK_le (a b : List Int) (k : Nat) : (weaveK a b k).length ≤ k + k := by
  induction k with
  | zero => simp [weaveK]
  | succ k ih =>
    rw [weaveK_succ, List.length_append, List.length_append]
    have h1 : (a[k]?.toList).length ≤ 1 := by cases a[k]? <;> simp
    have h2 : (b[k]?.toList).length ≤ 1 := by cases b[k]? <;> simp
    omega
def projL (items zs : List Int) : List Int := zs.filter fun z => decide (z ∈ items)
theorem proj_snoc (items zs : List Int) (x : Int) : projL items (zs ++ [x]) = projL items zs ++ (if x ∈ items then [x] else []) := by
  simp only [projL, List.filter_append]
  by_cases h : x ∈ items <;> simp [h]
theorem proj_len (items zs : List Int) : (projL items zs).length ≤ zs.length := List.length_filter_le _ _
def renL (to zs : List Int) : List Int := zs.map fun z => to.getD z.toNat 0
theorem ren_snoc (to zs : List Int) (x : Int) : renL to (zs ++ [x]) = renL to zs ++ [to.getD x.toNat 0] := by simp [renL]
/-- Runs of the first k places: item and number. -/
def bump (l : List (Int × Int)) : List (Int × Int) := l.set (l.length - 1) ((l.getD (l.length - 1) (0, 0)).1, (l.getD (l.length - 1) (0, 0)).2 + 1)
theorem bump_len (l : List (Int × Int)) : (bump l).length = l.length := by simp [bump]
def runsK (zs : List Int) : Nat → List (Int × Int)
  | 0 => []
  | k + 1 => if 0 < k ∧ zs[k]? = zs[k - 1]? then bump (runsK zs k) else runsK zs k ++ [(zs.getD k 0, 1)]
theorem runsK_pos (zs : List Int) : ∀ k, 0 < k → 0 < (runsK zs k).length
  | k + 1, _ => by
    unfold runsK
    split
    · rename_i h; rw [bump_len]; exact runsK_pos zs k h.1
    · simp
theorem runsK_le (zs : List Int) : ∀ k, (runsK zs k).length ≤ k
  | 0 => Nat.le_refl _
  | k + 1 => by
    have := runsK_le zs k
    unfold runsK
    split
    · rw [bump_len]; omega
    · simp; omega
/-- The sequence of some runs, if it is one. -/
def fromK (n : Int) : List (Int × Int) → List Int → Option (List Int)
  | [], acc => some acc
  | r :: rs, acc => if (0 ≤ r.1 ∧ r.1 ≤ n - 1) ∧ 1 ≤ r.2 ∧ r.2 ≤ 60 - (acc.length : Int) then fromK n rs (acc ++ List.replicate r.2.toNat r.1) else none
theorem fromK_len {n : Int} : ∀ {rs : List (Int × Int)} {acc out : List Int}, acc.length ≤ 60 → fromK n rs acc = some out → out.length ≤ 60
  | [], acc, out, h, e => by injection e with e; rw [← e]; exact h
  | r :: rs, acc, out, h, e => by
    unfold fromK at e
    split at e
    · rename_i hh
      exact fromK_len (by simp; omega) e
    · cases e
theorem fromK_many {n : Int} : ∀ {rs : List (Int × Int)} {acc out : List Int}, fromK n rs acc = some out → acc.length + rs.length ≤ out.length
  | [], acc, out, e => by injection e with e; subst e; simp
  | r :: rs, acc, out, e => by
    unfold fromK at e
    split at e
    · rename_i hh
      have := fromK_many e
      simp at this ⊢
      omega
    · cases e
theorem fromK_step {n : Int} {r : Int × Int} {rs : List (Int × Int)} {acc : List Int} (h : (0 ≤ r.1 ∧ r.1 ≤ n - 1) ∧ 1 ≤ r.2 ∧ r.2 ≤ 60 - (acc.length : Int)) : fromK n (r :: rs) acc = fromK n rs (acc ++ List.replicate r.2.toNat r.1) := if_pos h
theorem fromK_stop {n : Int} {r : Int × Int} {rs : List (Int × Int)} {acc : List Int} (h : ¬ ((0 ≤ r.1 ∧ r.1 ≤ n - 1) ∧ 1 ≤ r.2 ∧ r.2 ≤ 60 - (acc.length : Int))) : fromK n (r :: rs) acc = none := if_neg h
/-- A strictly rising list of items. -/
def rising (lo hi : Int) : List Int → Bool
  | [] => true
  | x :: xs => (decide (lo ≤ x) && decide (x ≤ hi)) && rising (x + 1) hi xs
end Q
end Go.Proofs.Ytammlkaclooohaa
