/-
  Matchings, the mathematics: the first matching with the least cost; by one server after the other, and over all lists in order.
-/
import Derived.Test.YtphfjhnmnehfkaaFlo2
namespace Go.Proofs.Ytphfjhnmnehfkaa
set_option linter.unusedVariables false
namespace Q
abbrev Mt := List Int × Int
def st (acc x : Mt) : Mt := if x.2 < acc.2 then x else acc
def top : Mt := ([], 594)
def sh (x : Mt) (c : Int) : Mt := (x.1, x.2 + c)
theorem st_top {x : Mt} (h : x.2 < 594) : st top x = x := if_pos h
theorem st_assoc (x y z : Mt) : st (st x y) z = st x (st y z) := by
  unfold st
  by_cases h1 : y.2 < x.2
  · by_cases h2 : z.2 < y.2
    · rw [if_pos h1, if_pos h2, if_pos (by omega : z.2 < x.2)]
    · rw [if_pos h1, if_neg h2, if_pos h1]
  · by_cases h2 : z.2 < y.2
    · rw [if_neg h1, if_pos h2]
    · rw [if_neg h1, if_neg h2, if_neg (by omega : ¬ z.2 < x.2), if_neg h1]
theorem st_sh (x y : Mt) (c : Int) : sh (st x y) c = st (sh x c) (sh y c) := by
  unfold st sh
  by_cases h : y.2 < x.2
  · rw [if_pos h, if_pos (by show y.2 + c < x.2 + c; omega)]
  · rw [if_neg h, if_neg (by show ¬ y.2 + c < x.2 + c; omega)]
theorem st_in {x y : Mt} {B : Int} (hx : 0 ≤ x.2 ∧ x.2 ≤ B) (hy : 0 ≤ y.2) : 0 ≤ (st x y).2 ∧ (st x y).2 ≤ B := by
  unfold st
  split
  · omega
  · exact hx
/-- The best of the places below j that are not taken yet. -/
def bmK (rec : List Int → Mt) (g : Nat → Int) (p : List Int) : Nat → Mt
  | 0 => top
  | j + 1 => if (j : Int) ∈ p then bmK rec g p j else st (bmK rec g p j) (sh (rec (p ++ [(j : Int)])) (g j))
def bm (g : Nat → Nat → Int) (k : Nat) : Nat → List Int → Mt
  | 0, p => (p, 0)
  | f + 1, p => bmK (bm g k f) (g p.length) p k
theorem bmK_in {rec : List Int → Mt} {g : Nat → Int} {p : List Int} : ∀ (j : Nat), (∀ i, i < j → 0 ≤ g i ∧ 0 ≤ (rec (p ++ [(i : Int)])).2) → 0 ≤ (bmK rec g p j).2 ∧ (bmK rec g p j).2 ≤ 594
  | 0, _ => by simp [bmK, top]
  | j + 1, h => by
    have ih := bmK_in (rec := rec) (g := g) (p := p) j fun i hi => h i (by omega)
    unfold bmK
    split
    · exact ih
    · have := h j (by omega)
      exact st_in ih (by show 0 ≤ _ + _; omega)
theorem bm_in {g : Nat → Nat → Int} {k : Nat} (hg : ∀ i j, i < k → j < k → 0 ≤ g i j) : ∀ (f : Nat) (p : List Int), p.length + f = k → 0 ≤ (bm g k f p).2 ∧ (bm g k f p).2 ≤ 594
  | 0, p, _ => by simp [bm]
  | f + 1, p, h => by
    refine bmK_in k fun i hi => ⟨hg _ _ (by omega) hi, (bm_in hg f _ ?_).1⟩
    simp
    omega
theorem bmK_len {rec : List Int → Mt} {g : Nat → Int} {p : List Int} {B : Nat} (hr : ∀ i : Nat, (rec (p ++ [(i : Int)])).1.length ≤ B) : ∀ (j : Nat), (bmK rec g p j).1.length ≤ B
  | 0 => by simp [bmK, top]
  | j + 1 => by
    have ih := bmK_len (g := g) hr j
    unfold bmK
    split
    · exact ih
    · unfold st
      split
      · exact hr j
      · exact ih
theorem bm_len {g : Nat → Nat → Int} {k : Nat} : ∀ (f : Nat) (p : List Int), (bm g k f p).1.length ≤ p.length + f
  | 0, p => by simp [bm]
  | f + 1, p => bmK_len (fun i => by have := bm_len (g := g) (k := k) f (p ++ [(i : Int)]); simp at this; omega) k
/-- All lists of different numbers below k, one longer at a time. -/
def pxK (l : List Int) : Nat → List (List Int)
  | 0 => []
  | x + 1 => if (x : Int) ∈ l then pxK l x else pxK l x ++ [l ++ [(x : Int)]]
def plK (k : Nat) (L : List (List Int)) : Nat → List (List Int)
  | 0 => []
  | j + 1 => plK k L j ++ pxK (L.getD j []) k
def prm (k : Nat) : Nat → List (List Int)
  | 0 => [[]]
  | i + 1 => plK k (prm k i) (prm k i).length
theorem pxK_len (l : List Int) : ∀ x, (pxK l x).length ≤ x
  | 0 => by simp [pxK]
  | x + 1 => by
    have := pxK_len l x
    unfold pxK
    split
    · omega
    · simp; omega
theorem plK_len (k : Nat) (L : List (List Int)) : ∀ j, (plK k L j).length ≤ k * j
  | 0 => by simp [plK]
  | j + 1 => by
    have := plK_len k L j
    have := pxK_len (L.getD j []) k
    rw [plK, List.length_append, Nat.mul_succ]
    omega
theorem pl_next {k : Nat} {L : List (List Int)} {j : Nat} {l : List Int} (h : L[j]? = some l) : plK k L (j + 1) = plK k L j ++ pxK l k := by
  rw [plK, List.getD_eq_getElem?_getD, h]
  rfl
def allLen (i : Nat) (L : List (List Int)) : Prop := ∀ l ∈ L, l.length = i
theorem px_all {l : List Int} {i : Nat} (h : l.length = i) : ∀ x, allLen (i + 1) (pxK l x)
  | 0 => fun m hm => by simp [pxK] at hm
  | x + 1 => fun m hm => by
    unfold pxK at hm
    split at hm
    · exact px_all h x m hm
    · rcases List.mem_append.1 hm with h1 | h1
      · exact px_all h x m h1
      · obtain rfl := List.mem_singleton.1 h1
        simp [h]
theorem pl_all {k i : Nat} {L : List (List Int)} (h : allLen i L) : ∀ j, j ≤ L.length → allLen (i + 1) (plK k L j)
  | 0, _ => fun m hm => by simp [plK] at hm
  | j + 1, hj => fun m hm => by
    have hx : L[j]? = some L[j] := List.getElem?_eq_getElem (by omega)
    rw [pl_next hx] at hm
    rcases List.mem_append.1 hm with h1 | h1
    · exact pl_all h j (by omega) m h1
    · exact px_all (h _ (List.getElem_mem (by omega))) k m h1
theorem prm_all (k : Nat) : ∀ i, allLen i (prm k i)
  | 0 => fun l hl => by simp [prm] at hl; simp [hl]
  | i + 1 => pl_all (prm_all k i) _ (Nat.le_refl _)
theorem prm_few {k : Nat} (hk : k ≤ 3) : ∀ i, i ≤ 3 → (prm k i).length ≤ 27
  | 0, _ => by simp [prm]
  | 1, _ => Nat.le_trans (plK_len _ _ _) (Nat.le_trans (Nat.mul_le_mul hk (show (prm k 0).length ≤ 1 by simp [prm])) (by decide))
  | 2, _ => Nat.le_trans (plK_len _ _ _) (Nat.le_trans (Nat.mul_le_mul hk (Nat.le_trans (plK_len _ _ _) (Nat.mul_le_mul hk (show (prm k 0).length ≤ 1 by simp [prm])))) (by decide))
  | 3, _ => Nat.le_trans (plK_len _ _ _) (Nat.le_trans (Nat.mul_le_mul hk (Nat.le_trans (plK_len _ _ _) (Nat.mul_le_mul hk (Nat.le_trans (plK_len _ _ _) (Nat.mul_le_mul hk (show (prm k 0).length ≤ 1 by simp [prm])))))) (by decide))
  | i + 4, h => by omega
/-- The sum of a list's distances, and the first list with the least. -/
def psf (g : Nat → Nat → Int) (row : List Int) (j : Nat) : Int := g j (row.getD j 0).toNat
def psum (g : Nat → Nat → Int) (k : Nat) (row : List Int) : Int := csum (psf g row) k
def mtK (g : Nat → Nat → Int) (k : Nat) (L : List (List Int)) : Nat → Mt
  | 0 => ([], -1)
  | i + 1 => if (mtK g k L i).2 < 0 ∨ psum g k (L.getD i []) < (mtK g k L i).2 then (L.getD i [], psum g k (L.getD i [])) else mtK g k L i
def mt (g : Nat → Nat → Int) (k : Nat) : Mt := mtK g k (prm k k) (prm k k).length
theorem mtK_st {g : Nat → Nat → Int} {k : Nat} {L : List (List Int)} {i : Nat} (h : 0 ≤ (mtK g k L i).2) : mtK g k L (i + 1) = st (mtK g k L i) (L.getD i [], psum g k (L.getD i [])) := by
  rw [mtK]
  unfold st
  by_cases h2 : psum g k (L.getD i []) < (mtK g k L i).2
  · rw [if_pos (.inr h2), if_pos h2]
  · rw [if_neg (by omega), if_neg h2]
theorem mtK_one {g : Nat → Nat → Int} {k : Nat} {L : List (List Int)} : mtK g k L 1 = (L.getD 0 [], psum g k (L.getD 0 [])) := by
  rw [mtK, if_pos (.inl (by simp [mtK]))]
theorem prm1 : prm 1 1 = [[0]] := by decide
theorem prm2 : prm 2 2 = [[0, 1], [1, 0]] := by decide
theorem prm3 : prm 3 3 = [[0, 1, 2], [0, 2, 1], [1, 0, 2], [1, 2, 0], [2, 0, 1], [2, 1, 0]] := by decide
theorem mt_bm1 (g : Nat → Nat → Int) (h00 : 0 ≤ g 0 0 ∧ g 0 0 ≤ 99) : mt g 1 = bm g 1 1 [] := by
  rw [mt, prm1]
  show mtK g 1 [[0]] 1 = _
  rw [mtK_one]
  simp [bm, bmK, psum, csum, psf]
  rw [st_top (by simp [sh]; omega)]
  simp [sh]
theorem mt_bm2 (g : Nat → Nat → Int) (hg : ∀ i j, i < 2 → j < 2 → 0 ≤ g i j ∧ g i j ≤ 99) : mt g 2 = bm g 2 2 [] := by
  have a00 := hg 0 0 (by decide) (by decide)
  have a01 := hg 0 1 (by decide) (by decide)
  have a10 := hg 1 0 (by decide) (by decide)
  have a11 := hg 1 1 (by decide) (by decide)
  rw [mt, prm2]
  show mtK g 2 [[0, 1], [1, 0]] 2 = _
  rw [mtK_st (by rw [mtK_one]; simp [psum, csum, psf]; omega), mtK_one]
  simp [bm, bmK, psum, csum, psf]
  rw [st_top (x := sh ([0, 1], 0) (g 1 1)) (by simp [sh]; omega), st_top (x := sh ([1, 0], 0) (g 1 0)) (by simp [sh]; omega), st_top (by simp [sh]; omega)]
  simp [sh]
  rw [Int.add_comm (g 0 0), Int.add_comm (g 0 1)]
theorem mt_bm3 (g : Nat → Nat → Int) (hg : ∀ i j, i < 3 → j < 3 → 0 ≤ g i j ∧ g i j ≤ 99) : mt g 3 = bm g 3 3 [] := by
  have a00 := hg 0 0 (by decide) (by decide)
  have a01 := hg 0 1 (by decide) (by decide)
  have a02 := hg 0 2 (by decide) (by decide)
  have a10 := hg 1 0 (by decide) (by decide)
  have a11 := hg 1 1 (by decide) (by decide)
  have a12 := hg 1 2 (by decide) (by decide)
  have a20 := hg 2 0 (by decide) (by decide)
  have a21 := hg 2 1 (by decide) (by decide)
  have a22 := hg 2 2 (by decide) (by decide)
  have p0 : psum g 3 [0, 1, 2] = g 2 2 + g 1 1 + g 0 0 := by simp [psum, csum, psf]; omega
  have p1 : psum g 3 [0, 2, 1] = g 2 1 + g 1 2 + g 0 0 := by simp [psum, csum, psf]; omega
  have p2 : psum g 3 [1, 0, 2] = g 2 2 + g 1 0 + g 0 1 := by simp [psum, csum, psf]; omega
  have p3 : psum g 3 [1, 2, 0] = g 2 0 + g 1 2 + g 0 1 := by simp [psum, csum, psf]; omega
  have p4 : psum g 3 [2, 0, 1] = g 2 1 + g 1 0 + g 0 2 := by simp [psum, csum, psf]; omega
  have p5 : psum g 3 [2, 1, 0] = g 2 0 + g 1 1 + g 0 2 := by simp [psum, csum, psf]; omega
  have hE : mt g 3 = st (st (st (st (st ([0, 1, 2], g 2 2 + g 1 1 + g 0 0) ([0, 2, 1], g 2 1 + g 1 2 + g 0 0)) ([1, 0, 2], g 2 2 + g 1 0 + g 0 1)) ([1, 2, 0], g 2 0 + g 1 2 + g 0 1)) ([2, 0, 1], g 2 1 + g 1 0 + g 0 2)) ([2, 1, 0], g 2 0 + g 1 1 + g 0 2) := by
    rw [mt, prm3]
    show mtK g 3 [[0, 1, 2], [0, 2, 1], [1, 0, 2], [1, 2, 0], [2, 0, 1], [2, 1, 0]] 6 = _
    have e1 : mtK g 3 [[0, 1, 2], [0, 2, 1], [1, 0, 2], [1, 2, 0], [2, 0, 1], [2, 1, 0]] 1 = ([0, 1, 2], g 2 2 + g 1 1 + g 0 0) := by rw [mtK_one, ← p0]; rfl
    have i1 : 0 ≤ (mtK g 3 [[0, 1, 2], [0, 2, 1], [1, 0, 2], [1, 2, 0], [2, 0, 1], [2, 1, 0]] 1).2 ∧ (mtK g 3 [[0, 1, 2], [0, 2, 1], [1, 0, 2], [1, 2, 0], [2, 0, 1], [2, 1, 0]] 1).2 ≤ 594 := by rw [e1]; simp only; omega
    have e2 := mtK_st i1.1
    have q1 : 0 ≤ psum g 3 [0, 2, 1] := by omega
    have i2 : 0 ≤ (mtK g 3 [[0, 1, 2], [0, 2, 1], [1, 0, 2], [1, 2, 0], [2, 0, 1], [2, 1, 0]] 2).2 ∧ (mtK g 3 [[0, 1, 2], [0, 2, 1], [1, 0, 2], [1, 2, 0], [2, 0, 1], [2, 1, 0]] 2).2 ≤ 594 := by rw [e2]; exact st_in i1 q1
    have e3 := mtK_st i2.1
    have q2 : 0 ≤ psum g 3 [1, 0, 2] := by omega
    have i3 : 0 ≤ (mtK g 3 [[0, 1, 2], [0, 2, 1], [1, 0, 2], [1, 2, 0], [2, 0, 1], [2, 1, 0]] 3).2 ∧ (mtK g 3 [[0, 1, 2], [0, 2, 1], [1, 0, 2], [1, 2, 0], [2, 0, 1], [2, 1, 0]] 3).2 ≤ 594 := by rw [e3]; exact st_in i2 q2
    have e4 := mtK_st i3.1
    have q3 : 0 ≤ psum g 3 [1, 2, 0] := by omega
    have i4 : 0 ≤ (mtK g 3 [[0, 1, 2], [0, 2, 1], [1, 0, 2], [1, 2, 0], [2, 0, 1], [2, 1, 0]] 4).2 ∧ (mtK g 3 [[0, 1, 2], [0, 2, 1], [1, 0, 2], [1, 2, 0], [2, 0, 1], [2, 1, 0]] 4).2 ≤ 594 := by rw [e4]; exact st_in i3 q3
    have e5 := mtK_st i4.1
    have q4 : 0 ≤ psum g 3 [2, 0, 1] := by omega
    have i5 : 0 ≤ (mtK g 3 [[0, 1, 2], [0, 2, 1], [1, 0, 2], [1, 2, 0], [2, 0, 1], [2, 1, 0]] 5).2 ∧ (mtK g 3 [[0, 1, 2], [0, 2, 1], [1, 0, 2], [1, 2, 0], [2, 0, 1], [2, 1, 0]] 5).2 ≤ 594 := by rw [e5]; exact st_in i4 q4
    rw [mtK_st i5.1, e5, e4, e3, e2, e1, ← p1, ← p2, ← p3, ← p4, ← p5]
    rfl
  rw [hE]
  simp [bm, bmK]
  rw [st_top (x := sh ([0, 1, 2], 0) (g 2 2)) (by simp [sh]; omega), st_top (x := sh ([0, 2, 1], 0) (g 2 1)) (by simp [sh]; omega), st_top (x := sh ([1, 0, 2], 0) (g 2 2)) (by simp [sh]; omega), st_top (x := sh ([1, 2, 0], 0) (g 2 0)) (by simp [sh]; omega), st_top (x := sh ([2, 0, 1], 0) (g 2 1)) (by simp [sh]; omega), st_top (x := sh ([2, 1, 0], 0) (g 2 0)) (by simp [sh]; omega)]
  rw [st_top (x := sh (sh ([0, 1, 2], 0) (g 2 2)) (g 1 1)) (by simp [sh]; omega), st_top (x := sh (sh ([1, 0, 2], 0) (g 2 2)) (g 1 0)) (by simp [sh]; omega), st_top (x := sh (sh ([2, 0, 1], 0) (g 2 1)) (g 1 0)) (by simp [sh]; omega)]
  rw [st_sh, st_sh, st_sh, ← st_assoc top, st_top (x := sh (sh (sh ([0, 1, 2], 0) (g 2 2)) (g 1 1)) (g 0 0)) (by simp [sh]; omega)]
  simp only [← st_assoc, sh, Int.zero_add]
end Q
end Go.Proofs.Ytphfjhnmnehfkaa
