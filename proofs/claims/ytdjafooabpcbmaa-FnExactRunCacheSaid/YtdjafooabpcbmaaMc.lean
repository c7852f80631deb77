/-
  The library's slices.Delete of one element, slices.Insert of one, slices.Clone, at rows of the call's own; slices.Index and slices.Contains at any row of ints. A cache in a block of the call's own: its five cells, the rows of its pages and marks, and what stores and calls do to them. The code's steps of a cache: takeOut, the tests, the rules' ways to make room and to tell a hit. The code's ways to make room: the last page, the first, all, the rarest. The code's clock: the search for a page to be taken out, and its way to make room. The code's clock makes room. The code's ways to tell a cache of a hit. The code's ways to tell a cache of a hit: the mark that grows, the page that goes to the front. The rule of a policy. The code's request: what it is built of.
-/
import Derived.Test.YtdjafooabpcbmaaBa
import Derived.Test.YtdjafooabpcbmaaShelf
import Derived.Test.YtdjafooabpcbmaaCm
import Derived.Test.YtdjafooabpcbmaaMsa
import Derived.Lib.SliceRun
import Derived.StillTailTactics
import Derived.Shelf.Spec.SlicesInsert
/- The library's slices.Delete of one element, slices.Insert of one, slices.Clone, at rows of the call's own; slices.Index and slices.Contains at any row of ints. -/
namespace Go.Proofs.Ytdjafooabpcbmaa
open Go.RowKit
set_option linter.unusedVariables false
theorem own_unmap {w : World} {base : Nat} {e : TypeId} {v : Value} {n : Nat} {zs : List Int} (h : w.ownsRow base e 1 v n (ivs zs)) : zs.length = n := by have := h.1; simpa [ivs] using this
theorem setM_all (xs vs : List Value) (h : xs.length = vs.length) : setM xs 0 vs = vs := by
  rw [setM_eq _ _ _ (by omega)]; simp [← h]
theorem setM_ins (L P D : List Value) (u : Value) (i n : Nat) (hL : L.length = n + 1) (hP : L.take i = P) (hi : i ≤ n) (hD : D.length = n - i) : setM (setM L i [u]) (i + 1) D = P ++ u :: D := by
  have h1 : setM L i [u] = P ++ [u] ++ L.drop (i + 1) := by rw [setM_eq _ _ _ (by simp; omega), hP]; rfl
  have hp : P.length = i := by rw [← hP, List.length_take]; omega
  rw [h1, setM_eq _ _ _ (by simp; omega)]
  have h2 : (P ++ [u] ++ L.drop (i + 1)).take (i + 1) = P ++ [u] := by
    rw [List.take_append_of_le_length (by simp; omega), List.take_of_length_le (by simp; omega)]
  have h3 : (P ++ [u] ++ L.drop (i + 1)).drop (i + 1 + D.length) = [] := List.drop_of_length_le (by simp; omega)
  rw [h2, h3]
  simp
theorem setM_shift (Z : List Value) (u x : Value) (i : Nat) (hi : i ≤ Z.length) : setM (setM (Z ++ [u]) (i + 1) (Z.drop i)) i [x] = Z.take i ++ x :: Z.drop i := by
  obtain ⟨D, hD⟩ : ∃ D, D = Z.drop i := ⟨_, rfl⟩
  have hl : D.length = Z.length - i := by rw [hD, List.length_drop]
  rw [← hD]
  have h1 : setM (Z ++ [u]) (i + 1) D = (Z ++ [u]).take (i + 1) ++ D := by
    rw [setM_eq _ _ _ (by simp; omega)]
    rw [show (Z ++ [u]).drop (i + 1 + D.length) = [] from List.drop_of_length_le (by simp; omega), List.append_nil]
  have ht : ((Z ++ [u]).take (i + 1)).length = i + 1 := by simp; omega
  rw [h1, setM_eq _ _ _ (by simp; omega)]
  have h2 : ((Z ++ [u]).take (i + 1) ++ D).take i = Z.take i := by
    rw [List.take_append_of_le_length (by omega), List.take_take, Nat.min_eq_left (by omega), List.take_append_of_le_length (by omega)]
  have h3 : ((Z ++ [u]).take (i + 1) ++ D).drop (i + [x].length) = D := by
    rw [List.drop_append, show ((Z ++ [u]).take (i + 1)).drop (i + [x].length) = [] from List.drop_of_length_le (by rw [ht]; simp), ht]
    simp
  rw [h2, h3]
  simp
theorem del_own {w : World} {base g n c i : Nat} {zs : List Int} (h : w.ownsRow base 3 1 (.slice (some ⟨g, 0, none⟩) n c) n (ivs zs)) (hi : i < n) :
    Calls Try.prog 183 #[.slice (some ⟨g, 0, none⟩) n c, .int .i64 (i : Int), .int .i64 ((i : Int) + 1)] w fun e w' =>
      e = .returned (.slice (some ⟨g, 0, none⟩) (n - 1) c) ∧ w'.ownsRow base 3 1 (.slice (some ⟨g, 0, none⟩) (n - 1) c) (n - 1) (ivs (zs.eraseIdx i)) ∧ w.grownBy w' (some g) := by
  have hl := own_unmap h
  obtain ⟨cur, hb, hg, hnc, hcm, hs, ht⟩ := own_block h
  have hD := Try.slices_Delete_int_cells g 0 n c i (i + 1) zs w (by omega) hnc (by unfold maxLen at hcm; omega) (by omega) (by omega)
    (fun j hj => by rw [Nat.zero_add]; exact (h.cellAt j (by omega)).trans (by rw [ivs, List.getElem?_map, List.getElem?_eq_getElem hj, List.getD_eq_getElem?_getD, List.getElem?_eq_getElem hj]; rfl))
    (fun j hj => by rw [Nat.zero_add]; exact h.frozenAt j)
  rw [Int.natCast_add, Int.natCast_one] at hD
  refine hD.mono ?_
  rintro e w' ⟨rfl, q, rfl⟩
  have hzt : zs.take n = zs := List.take_of_length_le (by omega)
  have h0 : (w.drewN q).ownsRow base 3 1 (.slice (some ⟨g, 0, none⟩) n c) n (ivs zs) := h
  obtain ⟨h1, h2⟩ := own_setCells (((zs.take n).take i ++ (zs.take n).drop (i + 1) ++ List.replicate (i + 1 - i) 0).map (Value.int .i64)) 0 h0
  have h3 := own_narrow h1 (m := n - 1) (by omega)
  have e1 : (setM (ivs zs) 0 (((zs.take n).take i ++ (zs.take n).drop (i + 1) ++ List.replicate (i + 1 - i) 0).map (Value.int .i64))).take (n - 1) = ivs (zs.eraseIdx i) := by
    rw [setM_all _ _ (by simp [ivs]; omega), hzt, List.map_append, List.take_append_of_le_length (by simp; omega), ← List.eraseIdx_eq_take_drop_succ]
    rw [List.take_of_length_le (by rw [List.length_map, List.length_eraseIdx, if_pos (by omega)]; omega)]
  rw [e1] at h3
  exact ⟨by rw [show n - (i + 1 - i) = n - 1 by omega], h3, gr_trans (gr_drewN w q _) h2⟩
/-- What slices.Insert gives: a row, in the same block or in a new one. -/
def insSays (base : Nat) (v : Value) (zs : List Int) (w : World) (e : Ending) (w' : World) : Prop :=
  ∃ v', e = .returned v' ∧ w'.ownsRow base 3 1 v' zs.length (ivs zs) ∧ w.grownBy w' v.ownBlock ∧ (v'.ownBlock = v.ownBlock ∨ ∃ g, v'.ownBlock = some g ∧ w.heap.size ≤ g)
theorem ivs_one {zs : List Int} : ∀ v ∈ ivs zs, v.oneCell' = true := fun v hv => by obtain ⟨x, _, rfl⟩ := List.mem_map.1 hv; rfl
theorem ins_grow {w : World} {base g n c i vb : Nat} {zs : List Int} {x : Int} (h : w.ownsRow base 3 1 (.slice (some ⟨g, 0, none⟩) n c) n (ivs zs)) (hi : i < n) (hc : n = c) (hn : n ≤ 1000) (hb : base ≤ w.heap.size) (hvb : w.cell? ⟨vb, 0, none⟩ = some (.int .i64 x)) :
    Calls Try.prog 112 #[.slice (some ⟨g, 0, none⟩) n c, .int .i64 (i : Int), .slice (some ⟨vb, 0, none⟩) 1 1] w (insSays base (.slice (some ⟨g, 0, none⟩) n c) (zs.take i ++ x :: zs.drop i) w) := by
  have hl := own_unmap h
  have hI := Try.slices_Insert_int_grow g 0 n c i vb 0 1 1 (ivs zs) (ivs [x]) w hi (by omega) (by omega) (by omega) (by omega) (by simp [ivs]; omega) rfl
    (fun j v hj => by rw [Nat.zero_add]; exact (h.cellAt j (by have := (List.getElem?_eq_some_iff.1 hj).1; simp [ivs] at this; omega)).trans hj)
    (fun j v hj => by match j, hj with | 0, hj => simp [ivs] at hj; subst hj; simpa using hvb) ivs_one ivs_one
  refine hI.mono ?_
  rintro e w' ⟨rfl, rfl⟩
  obtain ⟨G, hG⟩ : ∃ G, G = grownCap w (n + 1) c 3 := ⟨_, rfl⟩
  have hge : n + 1 ≤ G := by rw [hG]; exact grownCap_ge _ _ _ _
  have hle : G ≤ maxLen := by rw [hG]; exact grownCap_le_maxLen _ _ _ _ (by unfold maxLen; omega)
  rw [← hG]
  obtain ⟨cur, hcur⟩ : ∃ cur, cur = ((ivs zs).take i).toArray ++ Builtin.zeroCells (Value.int .i64 0).cells (n + 1 - i) ++ Builtin.zeroCells (Value.int .i64 0).cells (G - (n + 1)) := ⟨_, rfl⟩
  rw [← hcur]
  have hsz : cur.size = G := by
    rw [hcur, Array.size_append, Array.size_append, size_zeroCells, size_zeroCells]
    simp [ivs, Value.cells]
    omega
  have h1 : (w.alloc (.cells cur 3)).ownsRow base 3 1 (.slice (some ⟨w.heap.size, 0, none⟩) (n + 1) G) (n + 1) (cur.toList.take (n + 1)) := by
    have := own_new (base := base) (e := 3) w cur (n + 1) (by omega) (by omega) hb
    rwa [hsz] at this
  have h1' : (w.alloc (.cells cur 3)).drew.ownsRow base 3 1 (.slice (some ⟨w.heap.size, 0, none⟩) (n + 1) G) (n + 1) (cur.toList.take (n + 1)) := h1
  obtain ⟨h2, g2⟩ := own_setCells (ivs [x]) i h1'
  have h2' : ((w.alloc (.cells cur 3)).drew.setCells w.heap.size i (ivs [x])).drew.ownsRow base 3 1 (.slice (some ⟨w.heap.size, 0, none⟩) (n + 1) G) (n + 1) (setM (cur.toList.take (n + 1)) i (ivs [x])) := h2
  obtain ⟨h3, g3⟩ := own_setCells ((ivs zs).drop i) (i + 1) h2'
  have hcl : (cur.toList.take (n + 1)).length = n + 1 := by simp; omega
  have hpre : (cur.toList.take (n + 1)).take i = (ivs zs).take i := by
    rw [List.take_take, Nat.min_eq_left (by omega), hcur]
    simp only [Array.toList_append, List.append_assoc]
    rw [List.take_append_of_le_length (by simp [ivs]; omega), List.take_of_length_le (by simp; omega)]
  have e2 : setM (setM (cur.toList.take (n + 1)) i (ivs [x])) (i + 1) ((ivs zs).drop i) = ivs (zs.take i ++ x :: zs.drop i) := by
    rw [show ivs [x] = [Value.int .i64 x] from rfl, setM_ins _ _ _ _ i n hcl hpre (by omega) (by simp [ivs]; omega)]
    simp [ivs]
  rw [e2] at h3
  have hlen : (zs.take i ++ x :: zs.drop i).length = n + 1 := by simp; omega
  refine ⟨_, rfl, by rw [hlen]; exact h3, ?_, .inr ⟨w.heap.size, rfl, Nat.le_refl _⟩⟩
  -- all that lay there stays
  refine ⟨by have a := g3.os; have b := g2.os; exact a.trans b, by have a := g3.tape; have b := g2.tape; exact a.trans b, by have a := g3.output; have b := g2.output; exact a.trans b, ?_, fun k hk _ => ?_⟩
  · have a := g3.size; have b := g2.size
    simp at a b ⊢
    omega
  · have hne : some k ≠ some w.heap.size := fun e => by injection e with e; omega
    have a := g3.block k (by have b := g2.size; simp at b ⊢; omega) hne
    have b := g2.block k (by simp; omega) hne
    exact a.trans (b.trans (Below.heap_alloc w _ k hk))
theorem ins_shift {w : World} {base g n c i vb : Nat} {zs : List Int} {x : Int} (h : w.ownsRow base 3 1 (.slice (some ⟨g, 0, none⟩) n c) n (ivs zs)) (hi : i < n) (hc : n < c) (hvb : w.heap[vb]? = some (.cells #[.int .i64 x] 3 (0, 0))) (hne : vb ≠ g) :
    Calls Try.prog 112 #[.slice (some ⟨g, 0, none⟩) n c, .int .i64 (i : Int), .slice (some ⟨vb, 0, none⟩) 1 1] w (insSays base (.slice (some ⟨g, 0, none⟩) n c) (zs.take i ++ x :: zs.drop i) w) := by
  have hl := own_unmap h
  obtain ⟨cur, hb, hg, hnc, hcm, hs, ht⟩ := own_block h
  have hI := Try.slices_Insert_int_shift g 0 n c i vb 0 1 1 (ivs zs) (ivs [x]) w hi (by omega) (by omega) (by unfold maxLen at hcm; omega) hne (by simp [ivs]; omega) rfl
    (fun j v hj => by rw [Nat.zero_add]; exact (h.cellAt j (by have := (List.getElem?_eq_some_iff.1 hj).1; simp [ivs] at this; omega)).trans hj)
    (fun j hj => by rw [Nat.zero_add]; exact own_some_all h (by omega)) (fun j hj => by rw [Nat.zero_add]; exact h.frozenAt j)
    (fun j v hj => by match j, hj with | 0, hj => simp [ivs] at hj; subst hj; simp [World.cell?, hvb]) ivs_one ivs_one
    3 3 1 c (by simp [World.shape?, hvb]) (own_shape h) (by omega) (by simp [World.frozen?, hvb]) (by simp [World.frozen?, hvb])
  refine hI.mono ?_
  rintro e w' ⟨rfl, rfl⟩
  obtain ⟨u, hw⟩ := own_widen h hc
  have h1 : w.drew.ownsRow base 3 1 (.slice (some ⟨g, 0, none⟩) (n + 1) c) (n + 1) (ivs zs ++ [u]) := hw
  rw [Nat.zero_add, Nat.zero_add]
  obtain ⟨h2, g2⟩ := own_setCells ((ivs zs).drop i) (i + 1) h1
  obtain ⟨h3, g3⟩ := own_setCells (ivs [x]) i h2
  have hzl : (ivs zs).length = n := by simp [ivs]; omega
  have e2 : setM (setM (ivs zs ++ [u]) (i + 1) ((ivs zs).drop i)) i (ivs [x]) = ivs (zs.take i ++ x :: zs.drop i) := by
    rw [show ivs [x] = [Value.int .i64 x] from rfl, setM_shift _ _ _ _ (by omega)]
    simp [ivs]
  rw [e2] at h3
  have hlen : (zs.take i ++ x :: zs.drop i).length = n + 1 := by simp; omega
  exact ⟨_, rfl, by rw [hlen]; exact h3, gr_trans (gr_drewN w 1 _) (gr_trans g2 g3), .inl rfl⟩
theorem ins_end_room {w : World} {base g n c vb : Nat} {zs : List Int} {x : Int} (h : w.ownsRow base 3 1 (.slice (some ⟨g, 0, none⟩) n c) n (ivs zs)) (hc : n < c) (hvb : w.cell? ⟨vb, 0, none⟩ = some (.int .i64 x)) :
    Calls Try.prog 112 #[.slice (some ⟨g, 0, none⟩) n c, .int .i64 (n : Int), .slice (some ⟨vb, 0, none⟩) 1 1] w (insSays base (.slice (some ⟨g, 0, none⟩) n c) (zs ++ [x]) w) := by
  have hl := own_unmap h
  obtain ⟨cur, hb, hg, hnc, hcm, hs, ht⟩ := own_block h
  have hI := Try.slices_Insert_int_end_room g 0 n c vb 0 1 1 (ivs [x]) w (by omega) (by omega) (by unfold maxLen at hcm; omega) rfl
    (fun j hj => by rw [Nat.zero_add]; exact own_some_all h (by omega)) (fun j hj => by rw [Nat.zero_add]; exact h.frozenAt _)
    (fun j v hj => by match j, hj with | 0, hj => simp [ivs] at hj; subst hj; simpa using hvb) ivs_one
  refine hI.mono ?_
  rintro e w' ⟨rfl, rfl⟩
  obtain ⟨u, hw⟩ := own_widen h hc
  rw [Nat.zero_add]
  obtain ⟨h3, g3⟩ := own_setCells (ivs [x]) n hw
  have hzl : (ivs zs).length = n := by simp [ivs]; omega
  have e2 : setM (ivs zs ++ [u]) n (ivs [x]) = ivs (zs ++ [x]) := by
    rw [setM_eq _ _ _ (by simp; omega), List.take_append_of_le_length (by omega), List.take_of_length_le (by omega), List.drop_of_length_le (by simp; omega)]
    simp [ivs]
  rw [e2] at h3
  have hlen : (zs ++ [x]).length = n + 1 := by simp; omega
  exact ⟨_, rfl, by rw [hlen]; exact h3, g3, .inl rfl⟩
theorem ins_end_grow {w : World} {base n c vb : Nat} {A : Option Addr} {zs : List Int} {x : Int} (h : w.ownsRow base 3 1 (.slice A n c) n (ivs zs)) (hc : n = c) (hn : n ≤ 1000) (hb : base ≤ w.heap.size) (hvb : w.cell? ⟨vb, 0, none⟩ = some (.int .i64 x)) :
    Calls Try.prog 112 #[.slice A n c, .int .i64 (n : Int), .slice (some ⟨vb, 0, none⟩) 1 1] w (insSays base (.slice A n c) (zs ++ [x]) w) := by
  have hl := own_unmap h
  have hrow := Law.Row.own h
  have hI := Try.slices_Insert_int_end_grow A n c vb 0 1 1 (ivs zs) (ivs [x]) w (by omega) (by omega) (by omega) (by omega) (by simp [ivs]; omega) rfl
    (fun e => by
      subst e
      rcases h.2 with ⟨_, h0⟩ | ⟨g, cap, cur, hv, _⟩
      · exact h0
      · injection hv with hv; cases hv)
    (fun a ha j v hj => by
      subst ha
      obtain ⟨b, off, e, _, hcell⟩ := hrow (fun e => by rw [e] at hj; simp at hj)
      injection e with e
      subst e
      rw [Law.add_plain]
      exact hcell j v hj)
    (fun j v hj => by match j, hj with | 0, hj => simp [ivs] at hj; subst hj; simpa using hvb) ivs_one
  refine hI.mono ?_
  rintro e w' ⟨rfl, rfl⟩
  obtain ⟨G, hG⟩ : ∃ G, G = grownCap w (n + 1) c 3 := ⟨_, rfl⟩
  have hge : n + 1 ≤ G := by rw [hG]; exact grownCap_ge _ _ _ _
  have hle : G ≤ maxLen := by rw [hG]; exact grownCap_le_maxLen _ _ _ _ (by unfold maxLen; omega)
  rw [← hG]
  obtain ⟨cur, hcur⟩ : ∃ cur, cur = (ivs zs ++ ivs [x]).toArray ++ Builtin.zeroCells (Value.int .i64 0).cells (G - (n + 1)) := ⟨_, rfl⟩
  rw [← hcur]
  have hsz : cur.size = G := by
    rw [hcur, Array.size_append, size_zeroCells]
    simp [ivs, Value.cells]
    omega
  have h1 : (w.drew.alloc (.cells cur 3)).ownsRow base 3 1 (.slice (some ⟨w.heap.size, 0, none⟩) (n + 1) G) (n + 1) (cur.toList.take (n + 1)) := by
    have := own_new (base := base) (e := 3) w.drew cur (n + 1) (by omega) (by omega) hb
    rwa [hsz] at this
  have e2 : cur.toList.take (n + 1) = ivs (zs ++ [x]) := by
    rw [hcur, Array.toList_append, List.take_append_of_le_length (by simp [ivs]; omega), List.take_of_length_le (by simp [ivs]; omega)]
    simp [ivs]
  rw [e2] at h1
  have hlen : (zs ++ [x]).length = n + 1 := by simp; omega
  exact ⟨_, rfl, by rw [hlen]; exact h1, gr_trans (gr_drewN w 1 _) (World.grownBy_alloc _ _ _), .inr ⟨w.heap.size, rfl, Nat.le_refl _⟩⟩
/-- slices.Insert of one element, at any place. -/
theorem ins_own {w : World} {base n c i vb : Nat} {A : Option Addr} {zs : List Int} {x : Int} (h : w.ownsRow base 3 1 (.slice A n c) n (ivs zs)) (hi : i ≤ n) (hn : n ≤ 1000) (hb : base ≤ w.heap.size) (hvb : w.heap[vb]? = some (.cells #[.int .i64 x] 3 (0, 0))) (hne : (Value.slice A n c).ownBlock ≠ some vb) :
    Calls Try.prog 112 #[.slice A n c, .int .i64 (i : Int), .slice (some ⟨vb, 0, none⟩) 1 1] w (insSays base (.slice A n c) (zs.take i ++ x :: zs.drop i) w) := by
  have hl := own_unmap h
  have hcell : w.cell? ⟨vb, 0, none⟩ = some (.int .i64 x) := by simp [World.cell?, hvb]
  by_cases e : i = n
  · subst e
    rw [List.take_of_length_le (by omega), List.drop_of_length_le (by omega)]
    rcases h.2 with ⟨hv, h0⟩ | ⟨g, cap, cur, hv, hbg, hg, hnc, _⟩
    · injection hv with e1 e2 e3
      subst e1 e3
      subst h0
      exact ins_end_grow h rfl hn hb hcell
    · injection hv with e1 e2 e3
      subst e1 e3
      rcases Nat.lt_or_eq_of_le hnc with h' | h'
      · exact ins_end_room h h' hcell
      · exact ins_end_grow h h' hn hb hcell
  · rcases h.2 with ⟨hv, h0⟩ | ⟨g, cap, cur, hv, hbg, hg, hnc, _⟩
    · omega
    · injection hv with e1 e2 e3
      subst e1 e3
      rcases Nat.lt_or_eq_of_le hnc with h' | h'
      · exact ins_shift h (by omega) h' hvb (fun e => hne (by simp [Value.ownBlock, e]))
      · exact ins_grow h (by omega) h' hn hb hcell
/-- slices.Index of a row. -/
theorem idx_from (x : Int) : ∀ (l : List Int) (k : Nat), Lib.idxFrom l x k = if x ∈ l then ((k + Q.pos x l : Nat) : Int) else -1
  | [], k => by simp [Lib.idxFrom]
  | y :: ys, k => by
    unfold Lib.idxFrom
    by_cases e : y = x
    · subst e; simp [Q.pos]
    · rw [idx_from x ys (k + 1)]
      by_cases h : x ∈ ys
      · simp [h, Q.pos, e]; omega
      · simp [h, e, Ne.symm e]
theorem idx_pos (x : Int) (l : List Int) : Lib.idxOf l x = if x ∈ l then ((Q.pos x l : Nat) : Int) else -1 := by
  unfold Lib.idxOf
  rw [idx_from]
  simp
theorem idx_row {w : World} {A : Option Addr} {c : Nat} {zs : List Int} (hr : Law.Row w A (ivs zs)) (hn : zs.length ≤ 1048576) (x : Int) :
    Calls Try.prog 110 #[.slice A zs.length c, .int .i64 x] w fun e w' => e = .returned (.int .i64 (if x ∈ zs then ((Q.pos x zs : Nat) : Int) else -1)) ∧ w' = w := by
  rw [← idx_pos]
  by_cases h0 : zs = []
  · subst h0
    exact Try.slices_Index_int_empty A c x w
  · obtain ⟨b, off, rfl, _, hc⟩ := hr (by simpa [ivs] using h0)
    have h := Try.slices_Index_int b off zs.length c zs x w (Nat.le_refl _) (by omega) (fun j hj => hc j _ (by rw [ivs, List.getElem?_map, List.getElem?_eq_getElem hj, List.getD_eq_getElem?_getD, List.getElem?_eq_getElem hj]; rfl))
    rwa [List.take_length] at h
theorem has_row {w : World} {A : Option Addr} {c : Nat} {zs : List Int} (hr : Law.Row w A (ivs zs)) (hn : zs.length ≤ 1048576) (x : Int) :
    Calls Try.prog 71 #[.slice A zs.length c, .int .i64 x] w fun e w' => e = .returned (.bool (decide (x ∈ zs))) ∧ w' = w := by
  by_cases h0 : zs = []
  · subst h0
    have h := Try.slices_Contains_int_empty A c x w
    simpa using h
  · obtain ⟨b, off, rfl, _, hc⟩ := hr (by simpa [ivs] using h0)
    have h := Try.slices_Contains_int b off zs.length c zs x w (Nat.le_refl _) (by omega) (fun j hj => hc j _ (by rw [ivs, List.getElem?_map, List.getElem?_eq_getElem hj, List.getD_eq_getElem?_getD, List.getElem?_eq_getElem hj]; rfl))
    rw [List.take_length, show zs.contains x = decide (x ∈ zs) by simp] at h
    exact h
/-- slices.Clone of a row. -/
theorem clone_row {w : World} {A : Option Addr} {c : Nat} {zs : List Int} (hr : Law.Row w A (ivs zs)) (hn : zs.length ≤ 1048576) :
    Calls Try.prog 68 #[.slice A zs.length c] w fun e w' => ∃ v', e = .returned v' ∧ w'.ownsRow w.heap.size 3 1 v' zs.length (ivs zs) ∧ Below w.heap.size w w' := by
  by_cases h0 : zs = []
  · subst h0
    cases A with
    | none => exact (Try.slices_Clone_int_nil 0 c w).mono fun e w' ⟨he, hw⟩ => ⟨_, he, by rw [hw]; exact World.ownsRow_nil _ _ _ _, by rw [hw]; exact Below.refl _ _⟩
    | some a => exact (Try.slices_Clone_int_zero a c w).mono fun e w' ⟨v', he, ho, _, hb⟩ => ⟨v', he, ho, hb⟩
  · obtain ⟨b, off, rfl, _, hc⟩ := hr (by simpa [ivs] using h0)
    have h := Try.slices_Clone_int b off zs.length c zs w (Nat.le_refl _) (by omega) (fun j hj => hc j _ (by rw [ivs, List.getElem?_map, List.getElem?_eq_getElem hj, List.getD_eq_getElem?_getD, List.getElem?_eq_getElem hj]; rfl))
    rw [List.take_length] at h
    exact h.mono fun e w' ⟨v', he, ho, _, hb⟩ => ⟨v', he, ho, hb⟩
end Go.Proofs.Ytdjafooabpcbmaa

/- A cache in a block of the call's own: its five cells, the rows of its pages and marks, and what stores and calls do to them. -/
namespace Go.Proofs.Ytdjafooabpcbmaa
open Go.RowKit
set_option linter.unusedVariables false
/-- A cache in a block of the call's own. -/
structure CB (W : World) (base b : Nat) (c : Ca) (vp vm : Value) : Prop where
  blk : Blk5 W b (.int .i64 c.p) (.int .i64 c.s) vp vm (.int .i64 c.h)
  lo : base ≤ b
  hi : b < W.heap.size
  op : W.ownsRow base 3 1 vp c.ps.length (ivs c.ps)
  om : W.ownsRow base 3 1 vm c.ms.length (ivs c.ms)
  np : vp.ownBlock ≠ some b
  nm : vm.ownBlock ≠ some b
  ne : ∀ g, vp.ownBlock = some g → vm.ownBlock ≠ some g
  out : ∀ k o, c.z k = some o → W.heap[k]? = some o ∧ k ≠ b ∧ vp.ownBlock ≠ some k ∧ vm.ownBlock ≠ some k
theorem heap_lt {W : World} {k : Nat} {o : Obj} (h : W.heap[k]? = some o) : k < W.heap.size := (Array.getElem?_eq_some_iff.1 h).1
namespace CB
variable {W w1 : World} {base b : Nat} {c : Ca} {vp vm : Value}
theorem below (h : CB W base b c vp vm) (hb : Below W.heap.size W w1) : CB w1 base b c vp vm :=
  ⟨h.blk.kept (hb.block b h.hi), h.lo, Nat.lt_of_lt_of_le h.hi hb.size, own_past h.op hb, own_past h.om hb, h.np, h.nm, h.ne, fun k o e => by
    obtain ⟨h1, h2⟩ := h.out k o e
    exact ⟨(hb.block k (heap_lt h1)).trans h1, h2⟩⟩
theorem pages (h : CB W base b c vp vm) (hg : W.grownBy w1 vp.ownBlock) {vp' : Value} {ps' : List Int} (ho : w1.ownsRow base 3 1 vp' ps'.length (ivs ps')) (hn : vp'.ownBlock = vp.ownBlock ∨ ∃ g, vp'.ownBlock = some g ∧ W.heap.size ≤ g) :
    CB (w1.setCell ⟨b, 2, none⟩ vp') base b { c with ps := ps' } vp' vm := by
  have hb1 : w1.heap[b]? = W.heap[b]? := hg.block b h.hi (fun e => h.np e.symm)
  have hnp : vp'.ownBlock ≠ some b := by
    rcases hn with e | ⟨g, e, hge⟩
    · rw [e]; exact h.np
    · rw [e]; intro e'; injection e' with e'; have := h.hi; omega
  have hne : ∀ g, vp'.ownBlock = some g → vm.ownBlock ≠ some g := fun g hg' => by
    rcases hn with e | ⟨k, e, hge⟩
    · exact h.ne g (e ▸ hg')
    · intro e'
      have := (h.om.lt g e').2
      rw [e] at hg'
      injection hg' with hg'
      omega
  have hom : w1.ownsRow base 3 1 vm c.ms.length (ivs c.ms) := h.om.kept hg (by
    cases hv : vm.ownBlock with
    | none => exact .inl rfl
    | some g => exact .inr fun e => h.ne g e.symm hv)
  refine ⟨(h.blk.kept hb1).set2 vp', h.lo, by simpa using Nat.lt_of_lt_of_le h.hi hg.size, ?_, ?_, hnp, h.nm, hne, fun k o e => ?out⟩
  case out =>
    obtain ⟨h1, h2, h3, h4⟩ := h.out k o e
    refine ⟨(Below.heap_setCell _ _ _ _ h2).trans ((hg.block k (heap_lt h1) (fun e => h3 e.symm)).trans h1), h2, fun e' => ?_, h4⟩
    rcases hn with q | ⟨g, q, hq⟩
    · exact h3 (q ▸ e')
    · rw [q] at e'
      injection e' with e'
      have := heap_lt h1
      omega
  · exact ho.kept (setBy w1 ⟨b, 2, none⟩ vp') (.inr hnp)
  · exact hom.kept (setBy w1 ⟨b, 2, none⟩ vp') (.inr h.nm)
theorem marks (h : CB W base b c vp vm) (hg : W.grownBy w1 vm.ownBlock) {vm' : Value} {ms' : List Int} (ho : w1.ownsRow base 3 1 vm' ms'.length (ivs ms')) (hn : vm'.ownBlock = vm.ownBlock ∨ ∃ g, vm'.ownBlock = some g ∧ W.heap.size ≤ g) :
    CB (w1.setCell ⟨b, 3, none⟩ vm') base b { c with ms := ms' } vp vm' := by
  have hb1 : w1.heap[b]? = W.heap[b]? := hg.block b h.hi (fun e => h.nm e.symm)
  have hnm : vm'.ownBlock ≠ some b := by
    rcases hn with e | ⟨g, e, hge⟩
    · rw [e]; exact h.nm
    · rw [e]; intro e'; injection e' with e'; have := h.hi; omega
  have hne : ∀ g, vp.ownBlock = some g → vm'.ownBlock ≠ some g := fun g hg' => by
    rcases hn with e | ⟨k, e, hge⟩
    · rw [e]; exact h.ne g hg'
    · intro e'
      have := (h.op.lt g hg').2
      rw [e] at e'
      injection e' with e'
      omega
  have hop : w1.ownsRow base 3 1 vp c.ps.length (ivs c.ps) := h.op.kept hg (by
    cases hv : vp.ownBlock with
    | none => exact .inl rfl
    | some g => exact .inr fun e => h.ne g hv e.symm)
  refine ⟨(h.blk.kept hb1).set3 vm', h.lo, by simpa using Nat.lt_of_lt_of_le h.hi hg.size, ?_, ?_, h.np, hnm, hne, fun k o e => ?out⟩
  case out =>
    obtain ⟨h1, h2, h3, h4⟩ := h.out k o e
    refine ⟨(Below.heap_setCell _ _ _ _ h2).trans ((hg.block k (heap_lt h1) (fun e => h4 e.symm)).trans h1), h2, h3, fun e' => ?_⟩
    rcases hn with q | ⟨g, q, hq⟩
    · exact h4 (q ▸ e')
    · rw [q] at e'
      injection e' with e'
      have := heap_lt h1
      omega
  · exact hop.kept (setBy w1 ⟨b, 3, none⟩ vm') (.inr h.np)
  · exact ho.kept (setBy w1 ⟨b, 3, none⟩ vm') (.inr hnm)
/-- The pages' row is written in place. -/
theorem pagesIn (h : CB W base b c vp vm) (hg : W.grownBy w1 vp.ownBlock) {ps' : List Int} (ho : w1.ownsRow base 3 1 vp ps'.length (ivs ps')) : CB w1 base b { c with ps := ps' } vp vm := by
  have hb1 : w1.heap[b]? = W.heap[b]? := hg.block b h.hi (fun e => h.np e.symm)
  exact ⟨h.blk.kept hb1, h.lo, Nat.lt_of_lt_of_le h.hi hg.size, ho, h.om.kept hg (by
    cases hv : vm.ownBlock with
    | none => exact .inl rfl
    | some g => exact .inr fun e => h.ne g e.symm hv), h.np, h.nm, h.ne, fun k o e => by
    obtain ⟨h1, h2, h3, h4⟩ := h.out k o e
    exact ⟨(hg.block k (heap_lt h1) (fun e => h3 e.symm)).trans h1, h2, h3, h4⟩⟩
theorem marksIn (h : CB W base b c vp vm) (hg : W.grownBy w1 vm.ownBlock) {ms' : List Int} (ho : w1.ownsRow base 3 1 vm ms'.length (ivs ms')) : CB w1 base b { c with ms := ms' } vp vm := by
  have hb1 : w1.heap[b]? = W.heap[b]? := hg.block b h.hi (fun e => h.nm e.symm)
  exact ⟨h.blk.kept hb1, h.lo, Nat.lt_of_lt_of_le h.hi hg.size, h.op.kept hg (by
    cases hv : vp.ownBlock with
    | none => exact .inl rfl
    | some g => exact .inr fun e => h.ne g hv e.symm), ho, h.np, h.nm, h.ne, fun k o e => by
    obtain ⟨h1, h2, h3, h4⟩ := h.out k o e
    exact ⟨(hg.block k (heap_lt h1) (fun e => h4 e.symm)).trans h1, h2, h3, h4⟩⟩
theorem hand (h : CB W base b c vp vm) (x : Int) : CB (W.setCell ⟨b, 4, none⟩ (.int .i64 x)) base b { c with h := x } vp vm :=
  ⟨h.blk.set4 _, h.lo, by simpa using h.hi, h.op.kept (setBy W ⟨b, 4, none⟩ _) (.inr h.np), h.om.kept (setBy W ⟨b, 4, none⟩ _) (.inr h.nm), h.np, h.nm, h.ne, fun k o e => by
    obtain ⟨h1, h2⟩ := h.out k o e
    exact ⟨(Below.heap_setCell _ _ _ _ h2.1).trans h1, h2⟩⟩
theorem putMark {g d : Nat} (h : CB W base b c vp (.slice (some ⟨g, 0, none⟩) c.ms.length d)) (k : Nat) (x : Int) : CB (W.setCell ⟨g, k, none⟩ (.int .i64 x)) base b { c with ms := c.ms.set k x } vp (.slice (some ⟨g, 0, none⟩) c.ms.length d) := by
  obtain ⟨h1, h2⟩ := h.om.stored k (.int .i64 x)
  rw [ivs_set] at h1
  have h3 := h.marksIn (ms' := c.ms.set k x) h2 (by rw [List.length_set]; exact h1)
  exact h3
/-- What lies below stays. -/
theorem keepP (h : CB W base b c vp vm) (hg : W.grownBy w1 vp.ownBlock) (hbase : base ≤ W.heap.size) : Below base W w1 := (Below.refl _ _).grown hg hbase (fun k e => (h.op.lt k e).1)
theorem keepM (h : CB W base b c vp vm) (hg : W.grownBy w1 vm.ownBlock) (hbase : base ≤ W.heap.size) : Below base W w1 := (Below.refl _ _).grown hg hbase (fun k e => (h.om.lt k e).1)
theorem keepB (h : CB W base b c vp vm) (i : Nat) (v : Value) : Below base W (W.setCell ⟨b, i, none⟩ v) := (Below.refl _ _).setCell (p := ⟨b, i, none⟩) h.lo v
end CB
end Go.Proofs.Ytdjafooabpcbmaa

/- The code's steps of a cache: takeOut, the tests, the rules' ways to make room and to tell a hit. -/
namespace Go.Proofs.Ytdjafooabpcbmaa
open Go.RowKit
set_option linter.unusedVariables false
def markedB (p : Int) : Bool := decide (p = 5) || decide (p = 6)
theorem hasMarks_any (p : Int) (w : World) : Calls Try.prog 113 #[.int .i64 p] w fun e w' => e = .returned (.bool (markedB p)) ∧ w' = w := by
  have HE : Hid (markedB p = (decide (p = 5) || decide (p = 6))) := rfl
  by_cases h5 : p = 5
  · subst h5
    go_enter Try.func113, Try.ntmps113
    go_wp2
    go_ret
    exact ⟨rfl, rfl⟩
  · by_cases h6 : p = 6
    · subst h6
      go_enter Try.func113, Try.ntmps113
      go_wp2
      go_ret
      exact ⟨rfl, rfl⟩
    · have hb5 : (p == 5) = false := by simpa using h5
      have hb6 : (p == 6) = false := by simpa using h6
      go_enter Try.func113, Try.ntmps113
      go_wp2
      go_ret
      exact ⟨by rw [HE.out]; simp [h5, h6], rfl⟩
theorem own_form {w : World} {base n i : Nat} {e : TypeId} {v : Value} {xs : List Value} (h : w.ownsRow base e 1 v n xs) (hi : i < n) : ∃ g c, v = .slice (some ⟨g, 0, none⟩) n c := by
  obtain ⟨g, c, hv, _, _⟩ := own_some h (by omega)
  exact ⟨g, c, hv⟩
section
variable {W : World} {base b : Nat} {c : Ca} {vp vm : Value}
set_option maxHeartbeats 400000 in
theorem takeOut_plain (h : CB W base b c vp vm) (hbase : base ≤ W.heap.size) (hp : markedB c.p = false) {i : Nat} (hi : i < c.ps.length) (hn : c.ps.length ≤ 1000) :
    Calls Try.prog 182 #[.pointer (some ⟨b, 0, none⟩), .int .i64 (i : Int)] W fun e w' => e = .returned (.tuple #[]) ∧ (∃ vp', CB w' base b { c with ps := c.ps.eraseIdx i } vp' vm) ∧ Below base W w' := by
  obtain ⟨g, d, rfl⟩ := own_form h.op hi
  have HD := Lib.hid (del_own h.op hi)
  have HM := Lib.hid fun X => hasMarks_any c.p X
  rw [hp] at HM
  have HC := Lib.hid h
  have HL : Hid ((c.ps.eraseIdx i).length = c.ps.length - 1) := by show _ = _; rw [List.length_eraseIdx, if_pos hi]
  obtain ⟨c0, c1, c2, c3, c4, f0, f1, f2, f3, f4⟩ := h.blk
  clear h hp
  have hiI : (i : Int) < 1000 := by omega
  go_enter Try.func182, Try.ntmps182
  go_wp2_with fail
  go_at_call 183
  refine HD.out.mono ?_
  rintro e w1 ⟨rfl, ho1, hg1⟩
  have HN := Lib.hid (HC.out.pages (vp' := .slice (some ⟨g, 0, none⟩) (c.ps.length - 1) d) (ps' := c.ps.eraseIdx i) hg1 (by rw [HL.out]; exact ho1) (.inl rfl))
  have HB := Lib.hid ((HC.out.keepP hg1 hbase).setCell (p := ⟨b, 2, none⟩) HC.out.lo (.slice (some ⟨g, 0, none⟩) (c.ps.length - 1) d))
  obtain ⟨d0, d1, d2, d3, d4, e0, e1, e2, e3, e4⟩ := HC.out.blk.kept (hg1.block b HC.out.hi (fun e => HC.out.np e.symm))
  clear ho1 hg1 c0 c1 c2 c3 c4 f0 f1 f2 f3 f4
  go_wp2_with fail
  go_at_call 113
  refine (HM.out _).mono ?_
  rintro e w' ⟨rfl, hw'⟩
  obtain rfl := hw'.symm
  clear hw'
  go_wp2
  go_end0
  exact ⟨rfl, ⟨_, HN.out⟩, HB.out⟩
set_option maxHeartbeats 400000 in
theorem takeOut_marked (h : CB W base b c vp vm) (hbase : base ≤ W.heap.size) (hp : markedB c.p = true) {i : Nat} (hi : i < c.ps.length) (hm : i < c.ms.length) (hn : c.ps.length ≤ 1000) :
    Calls Try.prog 182 #[.pointer (some ⟨b, 0, none⟩), .int .i64 (i : Int)] W fun e w' => e = .returned (.tuple #[]) ∧ (∃ vp' vm', CB w' base b { c with ps := c.ps.eraseIdx i, ms := c.ms.eraseIdx i } vp' vm') ∧ Below base W w' := by
  obtain ⟨g, d, rfl⟩ := own_form h.op hi
  obtain ⟨k, l, rfl⟩ := own_form h.om hm
  have HD := Lib.hid (del_own h.op hi)
  have HM := Lib.hid fun X => hasMarks_any c.p X
  rw [hp] at HM
  have HC := Lib.hid h
  have HL : Hid ((c.ps.eraseIdx i).length = c.ps.length - 1) := by show _ = _; rw [List.length_eraseIdx, if_pos hi]
  have HL2 : Hid ((c.ms.eraseIdx i).length = c.ms.length - 1) := by show _ = _; rw [List.length_eraseIdx, if_pos hm]
  obtain ⟨c0, c1, c2, c3, c4, f0, f1, f2, f3, f4⟩ := h.blk
  clear h hp
  have hiI : (i : Int) < 1000 := by omega
  go_enter Try.func182, Try.ntmps182
  go_wp2_with fail
  go_at_call 183
  refine HD.out.mono ?_
  rintro e w1 ⟨rfl, ho1, hg1⟩
  have HN := Lib.hid (HC.out.pages (vp' := .slice (some ⟨g, 0, none⟩) (c.ps.length - 1) d) (ps' := c.ps.eraseIdx i) hg1 (by rw [HL.out]; exact ho1) (.inl rfl))
  have HB := Lib.hid ((HC.out.keepP hg1 hbase).setCell (p := ⟨b, 2, none⟩) HC.out.lo (.slice (some ⟨g, 0, none⟩) (c.ps.length - 1) d))
  have HS : Hid (base ≤ (w1.setCell ⟨b, 2, none⟩ (.slice (some ⟨g, 0, none⟩) (c.ps.length - 1) d)).heap.size) := Lib.hid (Nat.le_trans hbase HB.out.size)
  obtain ⟨d0, d1, d2, d3, d4, e0, e1, e2, e3, e4⟩ := HC.out.blk.kept (hg1.block b HC.out.hi (fun e => HC.out.np e.symm))
  clear ho1 hg1 c0 c1 c2 c3 c4 f0 f1 f2 f3 f4
  go_wp2_with fail
  go_at_call 113
  refine (HM.out _).mono ?_
  rintro e w' ⟨rfl, hw'⟩
  obtain rfl := hw'.symm
  clear hw'
  go_wp2_with fail
  go_at_call 183
  refine (del_own HN.out.om hm).mono ?_
  rintro e w2 ⟨rfl, ho2, hg2⟩
  have HN2 := Lib.hid (HN.out.marks (vm' := .slice (some ⟨k, 0, none⟩) (c.ms.length - 1) l) (ms' := c.ms.eraseIdx i) hg2 (by rw [HL2.out]; exact ho2) (.inl rfl))
  have HB2 := Lib.hid ((HB.out.trans (HN.out.keepM hg2 HS.out)).setCell (p := ⟨b, 3, none⟩) HC.out.lo (.slice (some ⟨k, 0, none⟩) (c.ms.length - 1) l))
  obtain ⟨q0, q1, q2, q3, q4, r0, r1, r2, r3, r4⟩ := HN.out.blk.kept (hg2.block b HN.out.hi (fun e => HN.out.nm e.symm))
  clear ho2 hg2 d0 d1 d2 d3 d4 e0 e1 e2 e3 e4
  go_wp2
  go_end0
  exact ⟨rfl, ⟨_, _, HN2.out⟩, HB2.out⟩
end
end Go.Proofs.Ytdjafooabpcbmaa

/- The code's ways to make room: the last page, the first, all, the rarest. -/
namespace Go.Proofs.Ytdjafooabpcbmaa
open Go.RowKit
set_option linter.unusedVariables false
section
variable {W : World} {base b : Nat} {c : Ca} {vp vm : Value}
/-- What a call says that makes room. -/
def roomSays (base b : Nat) (slot : Nat) (c' : Ca) (W : World) (e : Ending) (w' : World) : Prop :=
  e = .returned (.int .i64 (slot : Int)) ∧ (∃ vp' vm', CB w' base b c' vp' vm') ∧ Below base W w'
set_option maxHeartbeats 400000 in
theorem lastOut_any (h : CB W base b c vp vm) (hbase : base ≤ W.heap.size) (hp : markedB c.p = false) (hn0 : 0 < c.ps.length) (hn : c.ps.length ≤ 1000) :
    Calls Try.prog 181 #[.agg #[], .pointer (some ⟨b, 0, none⟩)] W (roomSays base b 0 { c with ps := c.ps.eraseIdx (c.ps.length - 1) } W) := by
  obtain ⟨g, d, rfl⟩ := own_form h.op hn0
  have hA : Below W.heap.size W (W.alloc (.cells #[] 120)) := (Below.refl _ _).alloc (Nat.le_refl _) _
  have HC := Lib.hid (h.below hA)
  have HT := Lib.hid (takeOut_plain HC.out (by simp; omega) hp (i := c.ps.length - 1) (by omega) hn)
  rw [show ((c.ps.length - 1 : Nat) : Int) = (c.ps.length : Int) - 1 by omega] at HT
  have HA := Lib.hid (hA.mono hbase)
  obtain ⟨c0, c1, c2, c3, c4, f0, f1, f2, f3, f4⟩ := h.blk
  have hb := h.hi
  clear h hp hA
  go_enter Try.func181, Try.ntmps181
  go_wp2_with fail
  go_at_call 182
  refine HT.out.mono ?_
  rintro e w1 ⟨rfl, ⟨vp', h1⟩, hb1⟩
  have H1 := Lib.hid h1
  have HB1 := Lib.hid (HA.out.trans hb1)
  clear h1 hb1
  go_wp2
  go_ret
  exact ⟨rfl, ⟨_, _, H1.out⟩, HB1.out⟩
set_option maxHeartbeats 400000 in
theorem firstOut_any (h : CB W base b c vp vm) (hbase : base ≤ W.heap.size) (hp : markedB c.p = false) (hn0 : 0 < c.ps.length) (hn : c.ps.length ≤ 1000) :
    Calls Try.prog 185 #[.agg #[], .pointer (some ⟨b, 0, none⟩)] W (roomSays base b 0 { c with ps := c.ps.eraseIdx 0 } W) := by
  have hA : Below W.heap.size W (W.alloc (.cells #[] 126)) := (Below.refl _ _).alloc (Nat.le_refl _) _
  have HC := Lib.hid (h.below hA)
  have HT := Lib.hid (takeOut_plain HC.out (by simp; omega) hp (i := 0) (by omega) hn)
  have HA := Lib.hid (hA.mono hbase)
  clear h hp hA
  go_enter Try.func185, Try.ntmps185
  go_wp2_with fail
  go_at_call 182
  refine HT.out.mono ?_
  rintro e w1 ⟨rfl, ⟨vp', h1⟩, hb1⟩
  have H1 := Lib.hid h1
  have HB1 := Lib.hid (HA.out.trans hb1)
  clear h1 hb1
  go_wp2
  go_ret
  exact ⟨rfl, ⟨_, _, H1.out⟩, HB1.out⟩
set_option maxHeartbeats 400000 in
theorem flush_any (h : CB W base b c vp vm) (hbase : base ≤ W.heap.size) (hn0 : 0 < c.ps.length) (hn : c.ps.length ≤ 1000) :
    Calls Try.prog 186 #[.agg #[], .pointer (some ⟨b, 0, none⟩)] W (roomSays base b 0 { c with ps := [] } W) := by
  obtain ⟨g, d, rfl⟩ := own_form h.op hn0
  have hA : Below W.heap.size W (W.alloc (.cells #[] 130)) := (Below.refl _ _).alloc (Nat.le_refl _) _
  have HN0 := h.pages (w1 := W) (gr_refl _ _) (vp' := .slice (some ⟨g, 0, none⟩) 0 d) (ps' := []) (own_narrow h.op (Nat.zero_le _)) (.inl rfl)
  have HN := Lib.hid (HN0.below ((Below.refl _ _).alloc (Nat.le_refl _) (.cells #[] 130)))
  have HA := Lib.hid (((Below.refl base W).setCell (p := ⟨b, 2, none⟩) h.lo (.slice (some ⟨g, 0, none⟩) 0 d)).alloc (by simpa using hbase) (.cells #[] 130))
  clear HN0
  obtain ⟨c0, c1, c2, c3, c4, f0, f1, f2, f3, f4⟩ := h.blk
  have hb := h.hi
  clear h hA
  go_enter Try.func186, Try.ntmps186
  go_wp2
  go_ret
  exact ⟨rfl, ⟨_, _, HN.out⟩, HA.out⟩
set_option maxHeartbeats 800000 in
theorem lfuOut_any (h : CB W base b c vp vm) (hbase : base ≤ W.heap.size) (hp : markedB c.p = true) (hn0 : 0 < c.ps.length) (hn : c.ps.length ≤ 1000) (hm : c.ms.length = c.ps.length) :
    Calls Try.prog 188 #[.agg #[], .pointer (some ⟨b, 0, none⟩)] W (roomSays base b 0 { c with ps := c.ps.eraseIdx (Q.rare c.ms), ms := c.ms.eraseIdx (Q.rare c.ms) } W) := by
  obtain ⟨g, d, rfl⟩ := own_form h.om (show 0 < c.ms.length by omega)
  have hA : Below W.heap.size W (W.alloc (.cells #[] 131)) := (Below.refl _ _).alloc (Nat.le_refl _) _
  have HC := Lib.hid (h.below hA)
  have hr : Q.rare c.ms < c.ms.length := Q.rare_lt (by omega)
  have HT := Lib.hid (takeOut_marked HC.out (by simp; omega) hp (i := Q.rare c.ms) (by omega) hr hn)
  have HA := Lib.hid (hA.mono hbase)
  obtain ⟨c0, c1, c2, c3, c4, f0, f1, f2, f3, f4⟩ := h.blk
  have hb := h.hi
  have HOm := Lib.hid h.om
  have hml : c.ms.length ≤ 1000 := by omega
  clear h hp hA hr
  obtain ⟨ms, hms⟩ : ∃ ms, ms = c.ms := ⟨_, rfl⟩
  rw [← hms] at HT HOm c3 hml ⊢
  have hmpos : 0 < ms.length := by rw [hms]; omega
  clear hm hms
  go_enter Try.func188, Try.ntmps188
  go_wp2_with fail
  go_loop [5, 13] (fun l i => ∃ k : Nat, k ≤ ms.length ∧ i = .int .i64 k ∧ l = .int .i64 (Q.rareK ms k : Nat)) (fun _ i => ms.length - (intOf i).toNat)
  case atStart => exact ⟨0, Nat.zero_le _, rfl, rfl⟩
  case round =>
    obtain ⟨k, hk, rfl, rfl⟩ := hrel
    by_cases hlt : k < ms.length
    · have hltI : (k : Int) < (ms.length : Int) := by omega
      obtain ⟨x, hx⟩ : ∃ x, ms[k]? = some x := ⟨_, List.getElem?_eq_getElem hlt⟩
      have hcx := own_cell HOm.out hx
      have hrk : Q.rareK ms k < ms.length := by
        rcases Nat.eq_zero_or_pos k with h0 | h0
        · rw [h0]; exact hmpos
        · exact Nat.lt_of_lt_of_le (Q.rareK_lt ms k h0) hk
      obtain ⟨y, hy⟩ : ∃ y, ms[Q.rareK ms k]? = some y := ⟨_, List.getElem?_eq_getElem hrk⟩
      have hcy := own_cell HOm.out hy
      have HE : Hid (Q.rareK ms (k + 1) = if x ≤ y then k else Q.rareK ms k) := by
        show _ = _
        rw [Q.rareK, List.getD_eq_getElem?_getD, List.getD_eq_getElem?_getD, hx, hy]
        rfl
      have hgb : g < W.heap.size := own_lt HOm.out
      generalize Q.rareK ms k = r at *
      have hrI : (r : Int) < (ms.length : Int) := by omega
      clear hx hy
      by_cases hxy : x ≤ y
      · rw [if_pos hxy] at HE
        go_wp2
        go_round
        case rel => exact ⟨k + 1, by omega, by go_num, by rw [HE.out]⟩
        case measure => simp [intOf]; omega
      · rw [if_neg hxy] at HE
        go_wp2
        go_round
        case rel => exact ⟨k + 1, by omega, by go_num, by rw [HE.out]⟩
        case measure => simp [intOf]; omega
    · have hke : k = ms.length := by omega
      have hltI : ¬ (k : Int) < (ms.length : Int) := by omega
      have HE : Hid (Q.rareK ms k = Q.rare ms) := by show _ = _; rw [hke]; rfl
      rw [HE.out]
      clear hke
      go_wp2_with fail
      go_at_call 182
      refine HT.out.mono ?_
      rintro e w1 ⟨rfl, ⟨vp', vm', h1⟩, hb1⟩
      have H1 := Lib.hid h1
      have HB1 := Lib.hid (HA.out.trans hb1)
      clear h1 hb1
      go_wp2
      go_ret
      exact ⟨rfl, ⟨_, _, H1.out⟩, HB1.out⟩
end
end Go.Proofs.Ytdjafooabpcbmaa

/- The code's clock: the search for a page to be taken out, and its way to make room. -/
namespace Go.Proofs.Ytdjafooabpcbmaa
open Go.RowKit
set_option linter.unusedVariables false
theorem zeroInt (w : World) : (zeroValue 3).run Try.prog w = .ok (.int .i64 0) w := by kernel_rfl
theorem setM_clr : ∀ (p : Nat) (ms : List Int) (f : Nat), setM (ivs ms) f (List.replicate p (.int .i64 0)) = ivs (Q.clr ms f (f + p))
  | 0, ms, f => by rw [Nat.add_zero, Q.clr_none]; rfl
  | p + 1, ms, f => by rw [List.replicate_succ, setM, ivs_set, setM_clr p, show f + 1 + p = f + (p + 1) by omega, Q.clr_step (by omega)]
theorem pos_z0 : ∀ l : List Int, Q.pos 0 l = Q.z0 l
  | [] => rfl
  | x :: xs => by unfold Q.pos Q.z0; rw [pos_z0 xs]
def markAt (g h : Nat) (w : World) : Nat := match w.cell? ⟨g, h, none⟩ with | some (.int _ z) => z.toNat | _ => 0
theorem markAt_of {g h : Nat} {w : World} {k : IntKind} {z : Int} (e : w.cell? ⟨g, h, none⟩ = some (.int k z)) : markAt g h w = z.toNat := by unfold markAt; rw [e]
section
variable {W : World} {base : Nat}
theorem run_clear_own {g n d : Nat} {ns : List Int} (ho : W.ownsRow base 3 1 (.slice (some ⟨g, 0, none⟩) n d) n (ivs ns)) {f p : Nat} (hp : 0 < p) (hf : f + p ≤ n) (ty : TypeId) (cc : Nat) :
    (Builtin.clear_ #[22] ty #[.slice (some ⟨g, f, none⟩) p cc]).run Try.prog W = .ok (.tuple #[]) (W.setCells g f (List.replicate p (.int .i64 0))) :=
  Lib.run_clear_slice W 22 3 ty (.int .i64 0) Try.underlying22 zeroInt rfl rfl g f p cc hp (fun j hj => own_some_all ho (by obtain ⟨cur, _, _, hnc, _⟩ := own_block ho; omega)) (fun j hj => ho.frozenAt _)
theorem run_clear_none (a : Option Addr) (cc : Nat) (ty : TypeId) (w : World) : (Builtin.clear_ #[22] ty #[.slice a 0 cc]).run Try.prog w = .ok (.tuple #[]) w := by
  cases a <;> simp [Builtin.clear_, run_underlying Try.underlying22]
set_option maxHeartbeats 800000 in
theorem passMarks_any {g n d h : Nat} {ms : List Int} (ho : W.ownsRow base 3 1 (.slice (some ⟨g, 0, none⟩) n d) n (ivs ms)) (hh : h < n) (h01 : ∀ z ∈ ms, 0 ≤ z ∧ z ≤ 1) (hn : n ≤ 1000) :
    Calls Try.prog 191 #[.slice (some ⟨g, 0, none⟩) n d, .int .i64 (h : Int)] W fun e w' => e = .returned (.int .i64 ((Q.pass ms h).1 : Nat)) ∧ w'.ownsRow base 3 1 (.slice (some ⟨g, 0, none⟩) n d) n (ivs (Q.pass ms h).2) ∧ W.grownBy w' (some g) := by
  have hml := own_unmap ho
  obtain ⟨_, _, _, hnd, hdm, _⟩ := own_block ho
  unfold maxLen at hdm
  have HO := Lib.hid ho
  have H01 := Lib.hid h01
  clear ho h01
  go_enter Try.func191, Try.ntmps191
  go_wp2_with fail
  go_loopw [5] (fun i wr => ∃ (f : Nat) (ns : List Int), i = .int .i64 f ∧ f < n ∧ Hid (wr.ownsRow base 3 1 (.slice (some ⟨g, 0, none⟩) n d) n (ivs ns)) ∧ Hid (W.grownBy wr (some g)) ∧ Hid ((f = h ∧ ns = ms) ∨ (f = 0 ∧ ns = Q.clr ms h ms.length ∧ (0 : Int) ∉ ms.drop h))) (fun _ wr => markAt g h wr)
  case atStart => exact ⟨h, ms, rfl, hh, HO.out, gr_refl _ _, .inl ⟨rfl, rfl⟩⟩
  case round =>
    obtain ⟨f, ns, rfl, hf, ho, hg, hor⟩ := hrel
    have hnl := own_unmap ho.out
    have hrow : Law.Row wr (some ⟨g, f, none⟩) (ivs (ns.drop f)) := by
      have h1 := row_drop (Law.Row.own ho.out) f d (by omega)
      rw [if_neg (by omega)] at h1
      simpa [Law.add_plain] using h1
    have HI := Lib.hid (idx_row (c := d - f) hrow (by rw [List.length_drop]; omega) 0)
    rw [List.length_drop, hnl, pos_z0] at HI
    have hdf : ¬ d = f := by omega
    have hfI : (f : Int) ≤ (n : Int) := by omega
    have hfd : (f : Int) ≤ (d : Int) := by omega
    clear hrow
    by_cases h0 : (0 : Int) ∈ ns.drop f
    · rw [if_pos h0] at HI
      have hz := Q.z0_lt h0
      rw [List.length_drop] at hz
      have HP : Hid (Q.pass ms h = (f + Q.z0 (ns.drop f), Q.clr ns f (f + Q.z0 (ns.drop f)))) := by
        show _ = _
        rcases hor.out with ⟨rfl, rfl⟩ | ⟨rfl, e2, e3⟩
        · unfold Q.pass; rw [if_pos h0]
        · unfold Q.pass
          rw [if_neg e3, ← e2, Nat.zero_add, List.drop_zero]
      generalize Q.z0 (ns.drop f) = p at *
      have hpI : (f : Int) + (p : Int) ≤ (d : Int) := by omega
      have hpn : (f : Int) + (p : Int) < 1000 := by omega
      rcases Nat.eq_zero_or_pos p with hp0 | hp0
      · subst hp0
        have HR : Hid (Q.clr ns f (f + 0) = ns) := by show _ = _; rw [Nat.add_zero, Q.clr_none]
        have hcl := run_clear_none
        clear h0 hz
        go_wp2_with fail
        go_at_call 110
        refine HI.out.mono ?_
        rintro e w' ⟨rfl, hw'⟩
        obtain rfl := hw'.symm
        clear hw'
        go_wp2
        go_ret
        rw [HP.out, HR.out]
        exact ⟨by simp, ho.out, hg.out⟩
      · obtain ⟨h1, h2⟩ := own_setCells (List.replicate p (.int .i64 0)) f ho.out
        rw [setM_clr] at h1
        have HS := Lib.hid h1
        have HG := Lib.hid (gr_trans hg.out h2)
        have hcl := fun ty cc => run_clear_own ho.out hp0 (show f + p ≤ n by omega) ty cc
        clear h0 hz h1 h2
        go_wp2_with fail
        go_at_call 110
        refine HI.out.mono ?_
        rintro e w' ⟨rfl, hw'⟩
        obtain rfl := hw'.symm
        clear hw'
        go_wp2
        go_ret
        rw [HP.out]
        exact ⟨by simp, HS.out, HG.out⟩
    · rw [if_neg h0] at HI
      have hor' : f = h ∧ ns = ms := by
        rcases hor.out with h' | ⟨rfl, e2, e3⟩
        · exact h'
        · refine absurd ?_ h0
          rw [List.drop_zero, e2]
          exact List.mem_of_getElem? (i := h) (by rw [Q.clr_at, List.getElem?_eq_getElem (by omega)]; simp; omega)
      obtain ⟨rfl, rfl⟩ := hor'
      obtain ⟨x, hx⟩ : ∃ x, ns[f]? = some x := ⟨_, List.getElem?_eq_getElem (by omega)⟩
      have hx1 : x = 1 := by
        have hb := H01.out x (List.mem_of_getElem? hx)
        have : x ≠ 0 := fun e => h0 (by rw [Q.drop_at' hx, e]; simp)
        omega
      subst hx1
      have HM1 : Hid (markAt g f wr = 1) := markAt_of (own_cell ho.out hx)
      obtain ⟨h1, h2⟩ := own_setCells (List.replicate (n - f) (.int .i64 0)) f ho.out
      rw [setM_clr, show f + (n - f) = ns.length by omega] at h1
      have hc0 : (Q.clr ns f ns.length)[f]? = some 0 := by rw [Q.clr_at, hx]; simp; omega
      have HM0 : Hid (markAt g f (wr.setCells g f (List.replicate (n - f) (.int .i64 0))) = 0) := markAt_of (own_cell h1 hc0)
      have HS := Lib.hid h1
      have HG := Lib.hid (gr_trans hg.out h2)
      have H0 := Lib.hid h0
      have hcl := fun ty cc => run_clear_own ho.out (show 0 < n - f by omega) (show f + (n - f) ≤ n by omega) ty cc
      clear h0 h1 h2 hx hc0
      go_wp2_with fail
      go_at_call 110
      refine HI.out.mono ?_
      rintro e w' ⟨rfl, hw'⟩
      obtain rfl := hw'.symm
      clear hw'
      go_wp2
      go_roundw
      case rel => exact ⟨0, _, rfl, by omega, HS.out, HG.out, Lib.hid (.inr ⟨rfl, rfl, H0.out⟩)⟩
      case measure => rw [HM0.out, HM1.out]; decide
end
end Go.Proofs.Ytdjafooabpcbmaa

/- The code's clock makes room. -/
namespace Go.Proofs.Ytdjafooabpcbmaa
open Go.RowKit
set_option linter.unusedVariables false
section
variable {W : World} {base b : Nat} {c : Ca} {vp vm : Value}
set_option maxRecDepth 20000 in
set_option maxHeartbeats 400000 in
theorem clockOut_any (h : CB W base b c vp vm) (hbase : base ≤ W.heap.size) (hp : c.p = 6) {hd S : Nat} (hh : c.h = (hd : Int)) (hs : c.s = (S : Int)) (hS : c.ps.length = S) (hS6 : S ≤ 6) (hlt : hd < S) (hm : c.ms.length = S) (h01 : ∀ z ∈ c.ms, 0 ≤ z ∧ z ≤ 1) :
    Calls Try.prog 190 #[.agg #[], .pointer (some ⟨b, 0, none⟩)] W
      (roomSays base b (Q.pass c.ms hd).1 { c with ps := c.ps.eraseIdx (Q.pass c.ms hd).1, ms := (Q.pass c.ms hd).2.eraseIdx (Q.pass c.ms hd).1, h := (((Q.pass c.ms hd).1 + 1) % S : Nat) } W) := by
  obtain ⟨g, d, rfl⟩ := own_form h.om (show 0 < c.ms.length by omega)
  have hA : Below W.heap.size W (W.alloc (.cells #[] 132)) := (Below.refl _ _).alloc (Nat.le_refl _) _
  obtain ⟨X, hX⟩ : ∃ X, X = W.alloc (.cells #[] 132) := ⟨_, rfl⟩
  rw [← hX] at hA
  have HC := Lib.hid (h.below hA)
  have HP := Lib.hid fun (m : Nat) => passMarks_any (W := X.drewN m) (show World.ownsRow _ base _ 1 (.slice (some ⟨g, 0, none⟩) c.ms.length d) c.ms.length (ivs c.ms) from HC.out.om) (show hd < c.ms.length by omega) h01 (by omega)
  have hpl := Q.pass_lt (ms := c.ms) (h := hd) (by omega)
  have hpl2 := Q.pass_len c.ms hd
  generalize Q.pass c.ms hd = P at *
  obtain ⟨s, ns⟩ := P
  simp only [] at *
  have HA := Lib.hid (hA.mono hbase)
  obtain ⟨c0, c1, c2, c3, c4, f0, f1, f2, f3, f4⟩ := HC.out.blk
  rw [hh] at c4
  rw [hs] at c1
  have HXe := Lib.hid hX
  have Hh := Lib.hid hh
  have Hs := Lib.hid hs
  have H01 := Lib.hid h01
  have HpS := Lib.hid hS
  have HmS := Lib.hid hm
  have Hpl2 := Lib.hid hpl2
  have Hpl := Lib.hid hpl
  have Hp := Lib.hid hp
  rw [hm] at c3
  rw [hm] at HP
  clear h hA hh hs h01 hS hm hpl2 hpl hp hX
  go_enter Try.func190, Try.ntmps190
  go_wp2_with fail
  rw [← HXe.out]
  go_still_tail 8, (by kernel_rfl)
  change wpList _ _ _ _ _ X.drew
  go_wp2_with fail
  go_at_call 191
  refine (HP.out 1).mono ?_
  rintro e w1 ⟨rfl, ho1, hg1⟩
  have hpl2 := Hpl2.out
  have hpl := Hpl.out
  have hm := HmS.out
  have hS := HpS.out
  have HCd : CB (X.drewN 1) base b c vp (.slice (some ⟨g, 0, none⟩) c.ms.length d) := HC.out.below ⟨rfl, rfl, rfl, Nat.le_refl _, fun _ _ => rfl⟩
  have h1 : CB w1 base b { c with ms := ns } vp (.slice (some ⟨g, 0, none⟩) c.ms.length d) := HCd.marksIn (ms' := ns) hg1 (by rw [hpl2, hm]; exact ho1)
  have hb1 := HA.out.trans (Law.undraw (HCd.keepM hg1 (Nat.le_trans hbase HA.out.size)))
  have HT := Lib.hid (takeOut_marked h1 (Nat.le_trans hbase hb1.size) (by show markedB c.p = true; rw [Hp.out]; rfl) (i := s) (by show s < c.ps.length; omega) (by show s < ns.length; omega) (by show c.ps.length ≤ 1000; omega))
  have HB1 := Lib.hid hb1
  clear ho1 hg1 HCd h1 hb1 HP hpl2 hpl hm hS c0 c1 c2 c3 c4 f0 f1 f2 f3 f4
  go_wp2_with fail
  go_at_call 182
  refine HT.out.mono ?_
  rintro e w2 ⟨rfl, ⟨vp', vm', h2⟩, hb2⟩
  have H3 := Lib.hid (h2.hand (((s + 1) % S : Nat) : Int))
  have HB3 := Lib.hid ((HB1.out.trans hb2).setCell (p := ⟨b, 4, none⟩) h2.lo (.int .i64 (((s + 1) % S : Nat) : Int)))
  obtain ⟨c0, k1, c2, c3, c4, f0, f1, f2, f3, f4⟩ := h2.blk
  have c1 : w2.cell? ⟨b, 1, none⟩ = some (.int .i64 (S : Int)) := by rw [← Hs.out]; exact k1
  clear k1
  have hS0 : ¬ (S : Int) = 0 := by omega
  have hS0b : ((S : Int) == 0) = false := by simp; omega
  have hsI : (s : Int) < 6 := by have q1 := Hpl.out; have q2 := HmS.out; omega
  have hSI : (S : Int) ≤ 6 := by omega
  have hmod : ((((s + 1) % S : Nat)) : Int) = ((s : Int) + 1) % (S : Int) := by rw [Int.natCast_emod]; rfl
  rw [hmod] at H3 HB3
  clear h2 hb2 hmod
  go_wp2
  go_ret
  exact ⟨rfl, ⟨_, _, H3.out⟩, HB3.out⟩
end
end Go.Proofs.Ytdjafooabpcbmaa

/- The code's ways to tell a cache of a hit. -/
namespace Go.Proofs.Ytdjafooabpcbmaa
open Go.RowKit
set_option linter.unusedVariables false
/-- What a call says that tells a hit. -/
def hitSays (base b : Nat) (c' : Ca) (W : World) (e : Ending) (w' : World) : Prop :=
  e = .returned (.tuple #[]) ∧ (∃ vp' vm', CB w' base b c' vp' vm') ∧ Below base W w'
section
variable {W : World} {base b : Nat} {c : Ca} {vp vm : Value}
set_option maxHeartbeats 400000 in
theorem entryHit_any (h : CB W base b c vp vm) (hbase : base ≤ W.heap.size) (k : Nat) :
    Calls Try.prog 184 #[.agg #[], .pointer (some ⟨b, 0, none⟩), .int .i64 (k : Int)] W (hitSays base b c W) := by
  have HC := Lib.hid (h.below ((Below.refl _ _).alloc (Nat.le_refl _) (.cells #[] 123)))
  have HA : Hid (Below base W (W.alloc (.cells #[] 123))) := Lib.hid ((Below.refl _ _).alloc hbase _)
  clear h
  go_enter Try.func184, Try.ntmps184
  go_wp2
  go_end0
  exact ⟨rfl, ⟨_, _, HC.out⟩, HA.out⟩
set_option maxHeartbeats 400000 in
theorem clockHit_any (h : CB W base b c vp vm) (hbase : base ≤ W.heap.size) {k : Nat} (hk : k < c.ms.length) (hn : c.ms.length ≤ 1000) :
    Calls Try.prog 189 #[.agg #[], .pointer (some ⟨b, 0, none⟩), .int .i64 (k : Int)] W (hitSays base b { c with ms := c.ms.set k 1 } W) := by
  obtain ⟨g, d, rfl⟩ := own_form h.om (show 0 < c.ms.length by omega)
  have HN := Lib.hid ((h.putMark k 1).below ((Below.refl _ _).alloc (Nat.le_refl _) (.cells #[] 132)))
  have HA := Lib.hid (((Below.refl base W).setCell (p := ⟨g, k, none⟩) (h.om.lt g rfl).1 (.int .i64 1)).alloc (by simpa using hbase) (.cells #[] 132))
  obtain ⟨x, hx⟩ : ∃ x, c.ms[k]? = some x := ⟨_, List.getElem?_eq_getElem hk⟩
  have hcx := own_cell h.om hx
  have hfx := h.om.frozenAt k
  have hgb : g < W.heap.size := own_lt h.om
  obtain ⟨c0, c1, c2, c3, c4, f0, f1, f2, f3, f4⟩ := h.blk
  have hb := h.hi
  have hkI : (k : Int) < (c.ms.length : Int) := by omega
  clear h hx
  go_enter Try.func189, Try.ntmps189
  go_wp2
  go_end0
  exact ⟨rfl, ⟨_, _, HN.out⟩, HA.out⟩
end
end Go.Proofs.Ytdjafooabpcbmaa

/- The code's ways to tell a cache of a hit: the mark that grows, the page that goes to the front. -/
namespace Go.Proofs.Ytdjafooabpcbmaa
open Go.RowKit
set_option linter.unusedVariables false
section
variable {W : World} {base b : Nat} {c : Ca} {vp vm : Value}
set_option maxRecDepth 20000 in
set_option maxHeartbeats 400000 in
theorem lfuHit_any (h : CB W base b c vp vm) (hbase : base ≤ W.heap.size) {k : Nat} (hk : k < c.ms.length) (hn : c.ms.length ≤ 1000) (h60 : ∀ z ∈ c.ms, 1 ≤ z ∧ z ≤ 60) :
    Calls Try.prog 187 #[.agg #[], .pointer (some ⟨b, 0, none⟩), .int .i64 (k : Int)] W (hitSays base b { c with ms := c.ms.set k (min (c.ms.getD k 0 + 1) 60) } W) := by
  obtain ⟨g, d, rfl⟩ := own_form h.om (show 0 < c.ms.length by omega)
  obtain ⟨x, hx⟩ : ∃ x, c.ms[k]? = some x := ⟨_, List.getElem?_eq_getElem hk⟩
  rw [List.getD_eq_getElem?_getD, hx, Option.getD_some]
  have hx60 := h60 x (List.mem_of_getElem? hx)
  obtain ⟨X, hX⟩ : ∃ X, X = W.alloc (.cells #[] 131) := ⟨_, rfl⟩
  have hA : Below W.heap.size W X := by rw [hX]; exact (Below.refl _ _).alloc (Nat.le_refl _) _
  have hC := h.below hA
  have HN := Lib.hid ((hC.below (w1 := X.drew) ⟨rfl, rfl, rfl, Nat.le_refl _, fun _ _ => rfl⟩).putMark k (min (x + 1) 60))
  have HA := Lib.hid ((Below.drew (hA.mono hbase)).setCell (p := ⟨g, k, none⟩) (h.om.lt g rfl).1 (.int .i64 (min (x + 1) 60)))
  have hcx := own_cell hC.om hx
  have hfx := hC.om.frozenAt k
  obtain ⟨c0, c1, c2, c3, c4, f0, f1, f2, f3, f4⟩ := hC.blk
  have hkI : (k : Int) < (c.ms.length : Int) := by omega
  have HXe := Lib.hid hX
  have hb := hC.hi
  have HH := Lib.hid (And.intro (show X.drew.cell? ⟨g, k, none⟩ = some (.int .i64 x) from hcx) (show X.drew.frozen? ⟨g, k, none⟩ = false from hfx))
  have hw1 : IntKind.i64.wrap (x + 1) = x + 1 := by rw [IntKind.wrap_i64]; omega
  clear h hx hA hC hX h60
  go_enter Try.func187, Try.ntmps187
  go_wp2_with fail
  rw [← HXe.out]
  go_still_tail 15, (by kernel_rfl)
  change wpList _ _ _ _ _ X.drew
  obtain ⟨hcx', hfx'⟩ := HH.out
  go_wp2
  go_end0
  exact ⟨rfl, ⟨_, _, HN.out⟩, HA.out⟩
set_option maxRecDepth 20000 in
set_option maxHeartbeats 800000 in
theorem useHit_any (h : CB W base b c vp vm) (hbase : base ≤ W.heap.size) {k : Nat} (hk : k < c.ps.length) (hn : c.ps.length ≤ 1000) :
    Calls Try.prog 180 #[.agg #[], .pointer (some ⟨b, 0, none⟩), .int .i64 (k : Int)] W (hitSays base b { c with ps := c.ps.getD k 0 :: c.ps.eraseIdx k } W) := by
  obtain ⟨g, d, rfl⟩ := own_form h.op (show 0 < c.ps.length by omega)
  obtain ⟨x, hx⟩ : ∃ x, c.ps[k]? = some x := ⟨_, List.getElem?_eq_getElem hk⟩
  rw [List.getD_eq_getElem?_getD, hx, Option.getD_some]
  obtain ⟨_, _, _, hnd, hdm, _⟩ := own_block h.op
  obtain ⟨X, hX⟩ : ∃ X, X = W.alloc (.cells #[] 119) := ⟨_, rfl⟩
  have hA : Below W.heap.size W X := by rw [hX]; exact (Below.refl _ _).alloc (Nat.le_refl _) _
  have hC := h.below hA
  have hsz : (Try.prog.info? 3).map (·.size) = some 1 := by
    obtain ⟨i0, hi, hz0, hz1, hz2⟩ := info_parts infoInts
    rw [hi]; simp [hz1]
  have hl : (ivs c.ps).length = c.ps.length := by simp [ivs]
  have htl : ((ivs c.ps).take k).length = k := by rw [List.length_take]; omega
  have hcp : ∀ ty dc sc, (Builtin.copy_ #[22, 22] ty #[.slice (some ⟨g, 1, none⟩) (c.ps.length - 1) dc, .slice (some ⟨g, 0, none⟩) k sc]).run Try.prog X.drew = .ok (goInt ((ivs c.ps).take k).length) (X.drew.setCells g 1 ((ivs c.ps).take k)) := fun ty dc sc =>
    run_copy_cells X.drew _ _ ty 3 g 1 (c.ps.length - 1) dc ⟨g, 0, none⟩ k sc ((ivs c.ps).take k) Try.underlying22 hsz (by rw [htl]; simp only [Nat.min_def]; split <;> omega)
      (fun j v hj => by
        rw [Law.add_plain, Nat.zero_add]
        have hjk : j < k := by have := (List.getElem?_eq_some_iff.1 hj).1; omega
        exact (hC.op.cellAt j (by omega)).trans (by rw [← hj, List.getElem?_take, if_pos hjk]))
      (fun j hj => own_some_all hC.op (by omega)) (fun j hj => hC.op.frozenAt _) (fun v hv => ivs_one v (List.mem_of_mem_take hv))
  have hcpi : ∀ ty dc sc, (Builtin.copy_ #[22, 22] ty #[.slice (if d = 1 then some ⟨g, 0, none⟩ else some ⟨g, 1, none⟩) (c.ps.length - 1) dc, .slice (some ⟨g, 0, none⟩) k sc]).run Try.prog X.drew = .ok (goInt ((ivs c.ps).take k).length) (X.drew.setCells g 1 ((ivs c.ps).take k)) := fun ty dc sc => by
    by_cases hd1 : d = 1
    · have hk0 : k = 0 := by omega
      have ht0 : (ivs c.ps).take k = [] := by rw [hk0]; rfl
      rw [if_pos hd1, ht0]
      have h := run_copy_cells (P := Try.prog) X.drew 22 22 ty 3 g 0 (c.ps.length - 1) dc ⟨g, 0, none⟩ k sc [] Try.underlying22 hsz (by rw [hk0]; simp) (fun j v hj => by simp at hj) (fun j hj => by simp at hj) (fun j hj => by simp at hj) (fun v hv => by simp at hv)
      exact h
    · rw [if_neg hd1]
      exact hcp ty dc sc
  have mixed : Try.prog.follows Departure.mixedOrders = true := by kernel_rfl
  clear hcp
  have hd0 : X.drew.ownsRow base 3 1 (.slice (some ⟨g, 0, none⟩) c.ps.length d) c.ps.length (ivs c.ps) := hC.op
  obtain ⟨h1, g1⟩ := own_setCells ((ivs c.ps).take k) 1 hd0
  obtain ⟨h2, g2⟩ := h1.stored 0 (.int .i64 x)
  have e2 : (setM (ivs c.ps) 1 ((ivs c.ps).take k)).set 0 (.int .i64 x) = ivs (x :: c.ps.eraseIdx k) := by
    rw [setM_eq _ _ _ (by omega), htl, List.eraseIdx_eq_take_drop_succ]
    obtain ⟨y, ys, hy⟩ : ∃ y ys, ivs c.ps = y :: ys := by
      cases hq : ivs c.ps with
      | nil => rw [hq] at hl; simp at hl; omega
      | cons y ys => exact ⟨y, ys, rfl⟩
    have : (ivs c.ps).take 1 = [y] := by rw [hy]; rfl
    rw [this, Nat.add_comm 1 k]
    show Value.int .i64 x :: ((ivs c.ps).take k ++ (ivs c.ps).drop (k + 1)) = _
    simp [ivs]
  have hlen : (x :: c.ps.eraseIdx k).length = c.ps.length := by rw [List.length_cons, List.length_eraseIdx, if_pos hk]; omega
  have HO : Hid (World.ownsRow ((X.drew.setCells g 1 ((ivs c.ps).take k)).setCell ⟨g, 0, none⟩ (.int .i64 x)) base 3 1 (.slice (some ⟨g, 0, none⟩) c.ps.length d) c.ps.length (ivs (x :: c.ps.eraseIdx k))) := by rw [← e2]; exact Lib.hid h2
  have HG := Lib.hid (gr_trans (gr_drewN X 1 (some g)) (gr_trans g1 g2))
  have HC := Lib.hid hC
  have HN : Hid (CB ((X.drew.setCells g 1 ((ivs c.ps).take k)).setCell ⟨g, 0, none⟩ (.int .i64 x)) base b { c with ps := x :: c.ps.eraseIdx k } (.slice (some ⟨g, 0, none⟩) c.ps.length d) vm) := Lib.hid (HC.out.pagesIn (ps' := x :: c.ps.eraseIdx k) HG.out (by rw [hlen]; exact HO.out))
  have HA := Lib.hid ((hA.mono hbase).trans (HC.out.keepP HG.out (Nat.le_trans hbase hA.size)))
  have hcx := own_cell hC.op hx
  obtain ⟨c0, c1, c2, c3, c4, f0, f1, f2, f3, f4⟩ := hC.blk
  obtain ⟨d0, d1, d2, d3, d4, e0, e1, e2', e3, e4⟩ := hC.blk.kept (w' := X.drew.setCells g 1 ((ivs c.ps).take k)) (g1.block b hC.hi (fun e => hC.np e.symm))
  obtain ⟨u, hu⟩ : ∃ u, (setM (ivs c.ps) 1 ((ivs c.ps).take k))[0]? = some u := ⟨_, List.getElem?_eq_getElem (by rw [setM_len]; omega)⟩
  have hc0' : (X.drew.setCells g 1 ((ivs c.ps).take k)).cell? ⟨g, 0, none⟩ = some u := (h1.cellAt 0 (by omega)).trans hu
  have hf0' : (X.drew.setCells g 1 ((ivs c.ps).take k)).frozen? ⟨g, 0, none⟩ = false := h1.frozenAt 0
  have hkI : (k : Int) < (c.ps.length : Int) := by omega
  have hnI : (1 : Int) ≤ (c.ps.length : Int) := by omega
  have hkd : (k : Int) ≤ (d : Int) := by omega
  have hdI : (c.ps.length : Int) ≤ (d : Int) := by omega
  have HXe := Lib.hid hX
  have hb := hC.hi
  have hgk := own_cell h.op hx
  have hgW : g < W.heap.size := own_lt h.op
  have hbW := h.hi
  obtain ⟨a0, a1, a2, a3, a4, _, _, _, _, _⟩ := h.blk
  clear h hC hA hX hx hd0 h1 g1 h2 g2 e2 hlen hu hl htl hsz HO HG
  obtain ⟨T, hT⟩ : ∃ T, T = (ivs c.ps).take k := ⟨_, rfl⟩
  rw [← hT] at hcpi HN HA d0 d1 d2 d3 d4 e0 e1 e2' e3 e4 hc0' hf0'
  clear hT
  go_enter Try.func180, Try.ntmps180
  go_wp2_with fail
  rw [← HXe.out]
  go_region_law_o (refine step_copy_runI rfl _ _ 22 22 rfl _ _ (by simp [Act.eval, Act.put]) (by simp [Act.eval, Act.put]) (hcpi _ _ _) ?_)
  all_goals go_wp2
  all_goals go_end0
  all_goals exact ⟨rfl, ⟨_, _, HN.out⟩, HA.out⟩
end
end Go.Proofs.Ytdjafooabpcbmaa

/- The rule of a policy. -/
namespace Go.Proofs.Ytdjafooabpcbmaa
open Go.RowKit
set_option linter.unusedVariables false
set_option maxHeartbeats 400000 in
theorem ruleOf_1 (w : World) : Calls Try.prog 109 #[.int .i64 1] w fun e w' => e = .returned (.iface 122 (.agg #[])) ∧ Below w.heap.size w w' := by
  go_enter Try.func109, Try.ntmps109
  go_wp2
  go_ret
  exact ⟨rfl, (Below.refl _ _).alloc (Nat.le_refl _) _⟩
set_option maxHeartbeats 400000 in
theorem ruleOf_2 (w : World) : Calls Try.prog 109 #[.int .i64 2] w fun e w' => e = .returned (.iface 125 (.agg #[])) ∧ Below w.heap.size w w' := by
  go_enter Try.func109, Try.ntmps109
  go_wp2
  go_ret
  exact ⟨rfl, (Below.refl _ _).alloc (Nat.le_refl _) _⟩
set_option maxHeartbeats 400000 in
theorem ruleOf_3 (w : World) : Calls Try.prog 109 #[.int .i64 3] w fun e w' => e = .returned (.iface 128 (.agg #[])) ∧ Below w.heap.size w w' := by
  go_enter Try.func109, Try.ntmps109
  go_wp2
  go_ret
  exact ⟨rfl, (Below.refl _ _).alloc (Nat.le_refl _) _⟩
set_option maxHeartbeats 400000 in
theorem ruleOf_4 (w : World) : Calls Try.prog 109 #[.int .i64 4] w fun e w' => e = .returned (.iface 130 (.agg #[])) ∧ Below w.heap.size w w' := by
  go_enter Try.func109, Try.ntmps109
  go_wp2
  go_ret
  exact ⟨rfl, (Below.refl _ _).alloc (Nat.le_refl _) _⟩
set_option maxHeartbeats 400000 in
theorem ruleOf_5 (w : World) : Calls Try.prog 109 #[.int .i64 5] w fun e w' => e = .returned (.iface 131 (.agg #[])) ∧ Below w.heap.size w w' := by
  go_enter Try.func109, Try.ntmps109
  go_wp2
  go_ret
  exact ⟨rfl, (Below.refl _ _).alloc (Nat.le_refl _) _⟩
set_option maxHeartbeats 400000 in
theorem ruleOf_6 (w : World) : Calls Try.prog 109 #[.int .i64 6] w fun e w' => e = .returned (.iface 132 (.agg #[])) ∧ Below w.heap.size w w' := by
  go_enter Try.func109, Try.ntmps109
  go_wp2
  go_ret
  exact ⟨rfl, (Below.refl _ _).alloc (Nat.le_refl _) _⟩
set_option maxHeartbeats 400000 in
theorem ruleOf_7 (w : World) : Calls Try.prog 109 #[.int .i64 7] w fun e w' => e = .returned (.iface 134 (.agg #[])) ∧ Below w.heap.size w w' := by
  go_enter Try.func109, Try.ntmps109
  go_wp2
  go_ret
  exact ⟨rfl, (Below.refl _ _).alloc (Nat.le_refl _) _⟩
end Go.Proofs.Ytdjafooabpcbmaa

/- The code's request: what it is built of. -/
namespace Go.Proofs.Ytdjafooabpcbmaa
open Go.RowKit
set_option linter.unusedVariables false
/-- What a request says. -/
def reqSays (base b : Nat) (fault : Bool) (c' : Ca) (W : World) (e : Ending) (w' : World) : Prop :=
  e = .returned (.bool fault) ∧ (∃ vp' vm', CB w' base b c' vp' vm') ∧ Below base W w'
theorem isFull_any (v0 v4 : Value) (n s : Nat) (A : Option Addr) (d : Nat) (vm : Value) (w : World) : Calls Try.prog 111 #[.agg #[v0, .int .i64 (s : Int), .slice A n d, vm, v4]] w fun e w' => e = .returned (.bool (decide (n = s))) ∧ Below w.heap.size w w' := by
  have HE : Hid (((n : Int) == (s : Int)) = decide (n = s)) := by
    show _ = _
    by_cases h : n = s
    · simp [h]
    · rw [decide_eq_false h]; simp; omega
  go_enter Try.func111, Try.ntmps111
  go_wp2
  go_ret
  exact ⟨by rw [← HE.out]; rfl, (Below.refl _ _).alloc (Nat.le_refl _) _⟩
section
variable {W : World} {base b : Nat} {D : Ca} {vp vm : Value}
theorem ins_pages {A : Option Addr} {d vb j : Nat} {x : Int} (h : CB W base b D (.slice A D.ps.length d) vm) (hbase : base ≤ W.heap.size) (hj : j ≤ D.ps.length) (hn : D.ps.length ≤ 1000) (hvb : vb = W.heap.size) :
    Calls Try.prog 112 #[.slice A D.ps.length d, .int .i64 (j : Int), .slice (some ⟨vb, 0, none⟩) 1 1] (W.alloc (.cells #[.int .i64 x] 3)) fun e w4 =>
      ∃ A4 n4 d4, e = .returned (.slice A4 n4 d4) ∧ CB (w4.setCell ⟨b, 2, none⟩ (.slice A4 n4 d4)) base b { D with ps := D.ps.take j ++ x :: D.ps.drop j } (.slice A4 n4 d4) vm ∧ Blk5 w4 b (.int .i64 D.p) (.int .i64 D.s) (.slice A D.ps.length d) vm (.int .i64 D.h) ∧ Below base W w4 := by
  subst hvb
  have hA : Below W.heap.size W (W.alloc (.cells #[.int .i64 x] 3)) := (Below.refl _ _).alloc (Nat.le_refl _) _
  have h1 := h.below hA
  refine (ins_own (x := x) (vb := W.heap.size) h1.op hj hn (by simp; omega) (heap_alloc_new W _) (fun e => by have := (h.op.lt _ e).2; omega)).mono ?_
  rintro e w4 ⟨v4, rfl, ho, hg, hnew⟩
  obtain ⟨A4, d4, rfl, _, _, _⟩ := Law.own_len ho
  exact ⟨A4, _, d4, rfl, h1.pages hg ho hnew, h1.blk.kept (hg.block b h1.hi (fun e => h1.np e.symm)), (hA.mono hbase).trans (h1.keepP hg (by simp; omega))⟩
theorem ins_marks {B : Option Addr} {d vb j : Nat} {x : Int} (h : CB W base b D vp (.slice B D.ms.length d)) (hbase : base ≤ W.heap.size) (hj : j ≤ D.ms.length) (hn : D.ms.length ≤ 1000) (hvb : vb = W.heap.size) :
    Calls Try.prog 112 #[.slice B D.ms.length d, .int .i64 (j : Int), .slice (some ⟨vb, 0, none⟩) 1 1] (W.alloc (.cells #[.int .i64 x] 3)) fun e w4 =>
      ∃ A4 n4 d4, e = .returned (.slice A4 n4 d4) ∧ CB (w4.setCell ⟨b, 3, none⟩ (.slice A4 n4 d4)) base b { D with ms := D.ms.take j ++ x :: D.ms.drop j } vp (.slice A4 n4 d4) ∧ Blk5 w4 b (.int .i64 D.p) (.int .i64 D.s) vp (.slice B D.ms.length d) (.int .i64 D.h) ∧ Below base W w4 := by
  subst hvb
  have hA : Below W.heap.size W (W.alloc (.cells #[.int .i64 x] 3)) := (Below.refl _ _).alloc (Nat.le_refl _) _
  have h1 := h.below hA
  refine (ins_own (x := x) (vb := W.heap.size) h1.om hj hn (by simp; omega) (heap_alloc_new W _) (fun e => by have := (h.om.lt _ e).2; omega)).mono ?_
  rintro e w4 ⟨v4, rfl, ho, hg, hnew⟩
  obtain ⟨A4, d4, rfl, _, _, _⟩ := Law.own_len ho
  exact ⟨A4, _, d4, rfl, h1.marks hg ho hnew, h1.blk.kept (hg.block b h1.hi (fun e => h1.nm e.symm)), (hA.mono hbase).trans (h1.keepM hg (by simp; omega))⟩
end
end Go.Proofs.Ytdjafooabpcbmaa
