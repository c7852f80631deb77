/-
  A metric of a call's own that is filled cell by cell: the mathematics, and a store in it.
-/
import Derived.Test.YtndjpkeenbbgiaaMof
namespace Go.Proofs.Ytndjpkeenbbgiaa
open Go.RowKit
set_option linter.unusedVariables false
namespace Q
theorem dst_set {M : List (List Int)} {row : List Int} {n x y i j : Nat} {v : Int} (hr : M[x]? = some row) (hn : row.length = n) (hy : y < n) (hi : i < M.length) :
    dst (M.set x (row.set y v)) i j = if i = x ∧ j = y then v else dst M i j := by
  have hx : x < M.length := (List.getElem?_eq_some_iff.1 hr).1
  unfold dst
  simp only [List.getD_eq_getElem?_getD]
  by_cases e : i = x
  · subst e
    rw [List.getElem?_set_self hx, hr, Option.getD_some, Option.getD_some]
    by_cases e2 : j = y
    · subst e2
      rw [List.getElem?_set_self (by omega), if_pos ⟨rfl, rfl⟩, Option.getD_some]
    · rw [List.getElem?_set_ne (fun h => e2 h.symm), if_neg (fun h => e2 h.2)]
  · rw [List.getElem?_set_ne (fun h => e h.symm), if_neg (fun h => e h.1)]
/-- Filled up to the point (x, y). -/
def fil (g : Nat → Nat → Int) (n x y : Nat) (M : List (List Int)) : Prop :=
  M.length = n ∧ (∀ l ∈ M, l.length = n) ∧ ∀ i j, i < n → j < n → dst M i j = if i < x ∨ i = x ∧ j < y then (if i = j then 0 else g i j) else 0
theorem fil_start (g : Nat → Nat → Int) (n : Nat) : fil g n 0 0 (uniK n 0 n) := by
  rw [uniK_tab]
  refine ⟨tabK_len _ _ _, fun l h => tabK_mem h, fun i j hi hj => ?_⟩
  rw [tab_dst hi hj, if_neg (show ¬ (i < 0 ∨ i = 0 ∧ j < 0) by omega)]
  split <;> rfl
theorem fil_set {g : Nat → Nat → Int} {n x y : Nat} {M : List (List Int)} {row : List Int} {v : Int} (h : fil g n x y M) (hr : M[x]? = some row) (hy : y < n) (hv : v = if x = y then 0 else g x y) : fil g n x (y + 1) (M.set x (row.set y v)) := by
  obtain ⟨h1, h2, h3⟩ := h
  have hrl := h2 row (List.mem_of_getElem? hr)
  refine ⟨by simpa using h1, fun l hl => ?_, fun i j hi hj => ?_⟩
  · rcases List.mem_or_eq_of_mem_set hl with h | rfl
    · exact h2 l h
    · simpa using hrl
  · rw [dst_set hr hrl hy (by omega), h3 i j hi hj]
    by_cases e : i = x ∧ j = y
    · rw [if_pos e, if_pos (show i < x ∨ i = x ∧ j < y + 1 by omega), hv, e.1, e.2]
    · rw [if_neg e]
      by_cases e2 : i < x ∨ i = x ∧ j < y
      · rw [if_pos e2, if_pos (show i < x ∨ i = x ∧ j < y + 1 by omega)]
      · rw [if_neg e2, if_neg (show ¬ (i < x ∨ i = x ∧ j < y + 1) by omega)]
theorem fil_skip {g : Nat → Nat → Int} {n x y : Nat} {M : List (List Int)} (h : fil g n x y M) (hxy : x = y) : fil g n x (y + 1) M := by
  obtain ⟨h1, h2, h3⟩ := h
  refine ⟨h1, h2, fun i j hi hj => ?_⟩
  rw [h3 i j hi hj]
  by_cases e : i = x ∧ j = y
  · rw [if_neg (show ¬ (i < x ∨ i = x ∧ j < y) by omega), if_pos (show i < x ∨ i = x ∧ j < y + 1 by omega), if_pos (show i = j by omega)]
  · by_cases e2 : i < x ∨ i = x ∧ j < y
    · rw [if_pos e2, if_pos (show i < x ∨ i = x ∧ j < y + 1 by omega)]
    · rw [if_neg e2, if_neg (show ¬ (i < x ∨ i = x ∧ j < y + 1) by omega)]
theorem fil_row {g : Nat → Nat → Int} {n x : Nat} {M : List (List Int)} (h : fil g n x n M) : fil g n (x + 1) 0 M := by
  obtain ⟨h1, h2, h3⟩ := h
  refine ⟨h1, h2, fun i j hi hj => ?_⟩
  rw [h3 i j hi hj]
  by_cases e2 : i < x ∨ i = x ∧ j < n
  · rw [if_pos e2, if_pos (show i < x + 1 ∨ i = x + 1 ∧ j < 0 by omega)]
  · rw [if_neg e2, if_neg (show ¬ (i < x + 1 ∨ i = x + 1 ∧ j < 0) by omega)]
theorem fil_end {g : Nat → Nat → Int} {n : Nat} {M : List (List Int)} (h : fil g n n 0 M) : M = tabK g n n := by
  obtain ⟨h1, h2, h3⟩ := h
  have hl := tabK_len g n n
  refine List.ext_getElem (by omega) fun i hi hi' => ?_
  have hm1 := h2 _ (List.getElem_mem hi)
  have hm2 : (tabK g n n)[i].length = n := tabK_mem (List.getElem_mem hi')
  refine List.ext_getElem (by omega) fun j hj hj' => ?_
  have hin : i < n := by omega
  have hjn : j < n := by omega
  have e1 := h3 i j hin hjn
  have e2 := tab_dst (g := g) hin hjn
  rw [if_pos (.inl hin)] at e1
  rw [← e2] at e1
  simpa [dst, List.getD_eq_getElem?_getD, List.getElem?_eq_getElem hi, List.getElem?_eq_getElem hi', List.getElem?_eq_getElem hj, List.getElem?_eq_getElem hj'] using e1
end Q
/-- The metric of a call's own in the block bm, and the call's result, which is not yet set. -/
structure FilIn (w wr : World) (base bm : Nat) (A : Option Addr) (n c : Nat) (ys : List Value) (M : List (List Int)) : Prop where
  box : MBox wr bm (.slice A n c)
  own : wr.ownsRow base 22 1 (.slice A n c) n ys
  rows : NOwn wr base ys M
  res : MBox wr w.heap.size (.slice none 0 0)
  bl : Below w.heap.size w wr
theorem FilIn.drewN {w wr : World} {base bm : Nat} {A : Option Addr} {n c : Nat} {ys : List Value} {M : List (List Int)} (h : FilIn w wr base bm A n c ys M) (k : Nat) : FilIn w (wr.drewN k) base bm A n c ys M :=
  ⟨h.box, h.own, h.rows.drewN k, h.res, Law.up h.bl k⟩
theorem FilIn.at_ {w wr : World} {base bm : Nat} {A : Option Addr} {n c : Nat} {ys : List Value} {M : List (List Int)} (h : FilIn w wr base bm A n c ys M) (hb : w.heap.size ≤ base) (hl : M.length = n) (hs : ∀ l ∈ M, l.length = n) {x y : Nat} (hx : x < n) (hy : y < n) :
    ∃ g gx cx row, A = some ⟨g, 0, none⟩ ∧ wr.cell? ⟨g, x, none⟩ = some (.slice (some ⟨gx, 0, none⟩) n cx) ∧ wr.cell? ⟨gx, y, none⟩ = some (.int .i64 (Q.dst M x y)) ∧ wr.frozen? ⟨gx, y, none⟩ = false ∧ M[x]? = some row ∧
      ∀ v : Int, FilIn w (wr.setCell ⟨gx, y, none⟩ (.int .i64 v)) base bm A n c ys (M.set x (row.set y v)) := by
  obtain ⟨g, c', e, _, _⟩ := own_some h.own (by omega)
  injection e with e1 e2 e3
  subst e1 e3
  have hyl : ys.length = n := by rw [h.rows.len, hl]
  obtain ⟨row, hrow⟩ : ∃ row, M[x]? = some row := ⟨_, List.getElem?_eq_getElem (by omega)⟩
  have hrl := hs row (List.mem_of_getElem? hrow)
  obtain ⟨v, hv⟩ : ∃ v, ys[x]? = some v := ⟨_, List.getElem?_eq_getElem (by omega)⟩
  have hro := h.rows.own x v row hv hrow
  rw [hrl] at hro
  obtain ⟨gx, cx, rfl, hgb, _⟩ := own_some hro (by omega)
  have hd : row[y]? = some (Q.dst M x y) := by
    unfold Q.dst
    simp only [List.getD_eq_getElem?_getD]
    rw [hrow, Option.getD_some, List.getElem?_eq_getElem (show y < row.length by omega), Option.getD_some]
  have hbx := h.box.ne (by decide : (3 : TypeId) ≠ 43) hro
  have hrs := h.res.ne (by decide : (3 : TypeId) ≠ 43) hro
  refine ⟨g, gx, cx, row, rfl, (h.own.cellAt x (by omega)).trans hv, own_cell hro hd, hro.frozenAt y, hrow, fun z => ?_⟩
  refine ⟨h.box.other ⟨gx, y, none⟩ (fun e => hbx (by simp [Value.ownBlock]; exact e.symm)) _, h.own.kept (setBy wr ⟨gx, y, none⟩ _) ?_, h.rows.write hv hrow (setBy wr ⟨gx, y, none⟩ _) (by rw [List.length_set, hrl]; exact own_put hro y z), h.res.other ⟨gx, y, none⟩ (fun e => hrs (by simp [Value.ownBlock]; exact e.symm)) _, h.bl.setCell (p := ⟨gx, y, none⟩) (Nat.le_trans hb hgb) _⟩
  rcases own_types (fun e => absurd e (by decide : (22 : TypeId) ≠ 3)) h.own hro with q | q
  · exact .inl q
  · exact .inr q
end Go.Proofs.Ytndjpkeenbbgiaa
