/-
  Sorting: a number put behind all that are no greater, one after the other, makes the sorted list; the library's Sort on a row of one's own.
-/
import Derived.Test.YtajepnakbmfbkaaROwn
import Derived.Test.YtajepnakbmfbkaaRShelfB
namespace Go.Proofs.YtajepnakbmfbkaaR
open Go.RowKit
set_option linter.unusedVariables false
namespace Q
def leadS (x : Int) : List Int → Nat
  | [] => 0
  | y :: l => if y ≤ x then leadS x l + 1 else 0
def putS (x : Int) (l : List Int) : List Int := l.take (leadS x l) ++ x :: l.drop (leadS x l)
def srtK (zs : List Int) : Nat → List Int
  | 0 => []
  | i + 1 => putS (zs.getD i 0) (srtK zs i)
def srt (zs : List Int) : List Int := srtK zs zs.length
theorem leadS_le (x : Int) : ∀ l, leadS x l ≤ l.length
  | [] => by simp [leadS]
  | y :: l => by
    unfold leadS
    split
    · have := leadS_le x l; simp; omega
    · simp
theorem leadS_of {x : Int} : ∀ {l : List Int} {k : Nat}, k ≤ l.length → (∀ j z, j < k → l[j]? = some z → z ≤ x) → (∀ z, l[k]? = some z → ¬ z ≤ x) → leadS x l = k
  | [], k, hk, _, _ => by simp at hk; simp [leadS, hk]
  | y :: l, 0, _, _, h2 => by
    have := h2 y rfl
    simp [leadS, this]
  | y :: l, k + 1, hk, h1, h2 => by
    have hy := h1 0 y (by omega) rfl
    unfold leadS
    rw [if_pos hy, leadS_of (k := k) (by simpa using hk) (fun j z hj h => h1 (j + 1) z (by omega) (by simpa using h)) (fun z h => h2 z (by simpa using h))]
theorem putS_perm (x : Int) (l : List Int) : (putS x l).Perm (x :: l) := by
  unfold putS
  refine List.perm_middle.trans ?_
  rw [List.take_append_drop]
theorem putS_len (x : Int) (l : List Int) : (putS x l).length = l.length + 1 := by
  have := (putS_perm x l).length_eq
  simpa using this
theorem lead_all {x : Int} : ∀ {l : List Int}, ∀ z ∈ l.take (leadS x l), z ≤ x
  | [], z, hz => by simp at hz
  | y :: l, z, hz => by
    unfold leadS at hz
    split at hz
    · rename_i hy
      rw [List.take_succ_cons] at hz
      rcases List.mem_cons.1 hz with rfl | h
      · exact hy
      · exact lead_all z h
    · simp at hz
theorem lead_rest {x : Int} : ∀ {l : List Int}, l.Pairwise (· ≤ ·) → ∀ z ∈ l.drop (leadS x l), x ≤ z
  | [], _, z, hz => by simp at hz
  | y :: l, hp, z, hz => by
    unfold leadS at hz
    obtain ⟨h1, h2⟩ := List.pairwise_cons.1 hp
    split at hz
    · rw [List.drop_succ_cons] at hz
      exact lead_rest h2 z hz
    · rename_i hy
      simp at hz
      rcases hz with rfl | h
      · omega
      · have := h1 z h
        omega
theorem putS_sorted {x : Int} {l : List Int} (h : l.Pairwise (· ≤ ·)) : (putS x l).Pairwise (· ≤ ·) := by
  unfold putS
  rw [List.pairwise_append]
  refine ⟨h.sublist (List.take_sublist _ _), ?_, fun a ha b hb => ?_⟩
  · rw [List.pairwise_cons]
    exact ⟨lead_rest h, h.sublist (List.drop_sublist _ _)⟩
  · rcases List.mem_cons.1 hb with rfl | hb
    · exact lead_all a ha
    · have := lead_all a ha
      have := lead_rest h b hb
      omega
theorem srtK_sorted (zs : List Int) : ∀ i, (srtK zs i).Pairwise (· ≤ ·)
  | 0 => List.Pairwise.nil
  | i + 1 => putS_sorted (srtK_sorted zs i)
theorem srtK_len (zs : List Int) : ∀ i, (srtK zs i).length = i
  | 0 => rfl
  | i + 1 => by rw [srtK, putS_len, srtK_len zs i]
theorem srtK_perm (zs : List Int) : ∀ i, i ≤ zs.length → (srtK zs i).Perm (zs.take i)
  | 0, _ => by simp [srtK]
  | i + 1, h => by
    have hi : zs[i]? = some zs[i] := List.getElem?_eq_getElem (by omega)
    rw [srtK, List.take_succ_eq_append_getElem (by omega)]
    refine (putS_perm _ _).trans ?_
    rw [List.getD_eq_getElem?_getD, hi, Option.getD_some]
    exact ((srtK_perm zs i (by omega)).cons zs[i]).trans (by
      have := List.perm_append_comm (l₁ := [zs[i]]) (l₂ := zs.take i)
      simpa using this)
theorem srt_perm (zs : List Int) : (srt zs).Perm zs := by
  have := srtK_perm zs zs.length (Nat.le_refl _)
  rwa [List.take_length] at this
theorem srt_len (zs : List Int) : (srt zs).length = zs.length := srtK_len zs _
theorem srt_merge (zs : List Int) : zs.mergeSort (fun x y => decide (x ≤ y)) = srt zs := by
  have h1 : (zs.mergeSort (fun x y => decide (x ≤ y))).Pairwise (· ≤ ·) := by
    have h := List.pairwise_mergeSort (le := fun (x y : Int) => decide (x ≤ y)) (fun a b c h1 h2 => by simp at *; omega) (fun a b => by simp; omega) zs
    exact h.imp fun h => by simpa using h
  exact List.Perm.eq_of_pairwise (le := (· ≤ ·)) (fun a b _ _ h1 h2 => by omega) h1 (srtK_sorted zs _) ((List.mergeSort_perm zs _).trans (srt_perm zs).symm)
end Q
/-- The library's Sort of a row of one's own. -/
theorem sort_row {w : World} {base : Nat} {A : Option Addr} {c : Nat} {zs : List Int} (ho : w.ownsRow base 3 1 (.slice A zs.length c) zs.length (ivs zs)) (hn : zs.length ≤ 1048576) :
    Calls Try.prog 41 #[.slice A zs.length c] w fun e w' => e = .returned (.tuple #[]) ∧ w'.ownsRow base 3 1 (.slice A zs.length c) zs.length (ivs (Q.srt zs)) ∧ w.grownBy w' (Value.slice A zs.length c).ownBlock := by
  rcases ho.2 with ⟨e0, h0⟩ | ⟨g, cap, cur, e1, hbg, hg, hnc, hcm, hcs, htake⟩
  · injection e0 with eA en ec
    have hz : zs = [] := List.eq_nil_of_length_eq_zero h0
    subst eA ec hz
    refine (Try.slices_Sort_int_none none 0 w).mono fun e w' ⟨he, hw⟩ => ⟨he, ?_, ?_⟩
    · rw [hw]; exact World.ownsRow_nil _ _ _ _
    · rw [hw]; exact ⟨rfl, rfl, rfl, Nat.le_refl _, fun _ _ _ => rfl⟩
  · injection e1 with eA en ec
    subst eA ec
    have hgl : g < w.heap.size := (Array.getElem?_eq_some_iff.1 hg).1
    have hcells : ∀ j, j < zs.length → w.cell? ⟨g, 0 + j, none⟩ = some (.int .i64 zs.toArray[j]!) := fun j hj => by
      have h := ho.cells (g := g) rfl j (.int .i64 zs[j]) (by rw [ivs, List.getElem?_map, List.getElem?_eq_getElem hj]; rfl)
      rw [Law.add_plain] at h
      rw [h, getElem!_pos zs.toArray j (by simpa using hj)]
      simp
    have hH : Go.Sort.Holds (Value.int .i64) w g 0 zs.toArray := fun j hj => by
      have hj' : j < zs.length := by simpa using hj
      exact ⟨hcells j hj', by simp [World.frozen?, hg]⟩
    refine (Try.slices_Sort_int g 0 c zs w hH hgl (by omega)).mono fun e w' ⟨he, n, os, hw⟩ => ⟨he, ?_, ?_⟩
    · have hlen : (zs.mergeSort fun x y => decide (x ≤ y)).toArray.size = zs.toArray.size := by simp
      have hb : w'.heap[g]? = some (.cells (Go.Sort.putCells (Value.int .i64) 0 (zs.mergeSort fun x y => decide (x ≤ y)).toArray cur) 3 (0, 0)) := by
        rw [hw, Go.Sort.heap_grow_old _ _ (by simp [Go.Sort.ahead]; exact hgl)]
        show (w.heap.modify g _)[g]? = _
        rw [Array.getElem?_modify, if_pos rfl, hg]
        rfl
      refine ⟨by simp [Q.srt_len], .inr ⟨g, c, _, rfl, hbg, hb, hnc, hcm, ?_, ?_⟩⟩
      · simp [Go.Sort.putCells, hcs]
      · apply List.ext_getElem?
        intro j
        by_cases hj : j < zs.length
        · rw [List.getElem?_take_of_lt (by simpa using hj), Array.getElem?_toList]
          have hjc : j < cur.size := by omega
          simp only [Go.Sort.putCells, Array.getElem?_mapIdx, Array.getElem?_eq_getElem hjc, Option.map_some]
          rw [if_pos ⟨Nat.zero_le _, by simpa using hj⟩, Q.srt_merge, Nat.sub_zero, getElem!_pos _ j (by simpa [Q.srt_len] using hj)]
          rw [ivs, List.getElem?_map, List.getElem?_eq_getElem (by rw [Q.srt_len]; exact hj)]
          simp
        · rw [List.getElem?_eq_none (by simp; omega), List.getElem?_eq_none (by simp [Q.srt_len]; omega)]
    · rw [hw]
      refine ⟨rfl, rfl, rfl, by simp [Go.Sort.ahead], fun k hk hne => ?_⟩
      rw [Go.Sort.heap_grow_old _ _ (by simpa [Go.Sort.ahead] using hk)]
      have hkg : g ≠ k := fun e => hne (by rw [e]; rfl)
      show (w.heap.modify g _)[k]? = _
      rw [Array.getElem?_modify, if_neg hkg]
end Go.Proofs.YtajepnakbmfbkaaR
