/-
  CoverRun, the mathematics; what both sides say.
-/
import Derived.Test.YtndjpkeenbbgiaaCovI
import Derived.Test.YtndjpkeenbbgiaaNestL
namespace Go.Proofs.Ytndjpkeenbbgiaa
open Go.RowKit
set_option linter.unusedVariables false
theorem ints_ne : (3 : TypeId) ≠ 22 := by decide
/-- Rows of rows, a number, and whether they are told. -/
def nestInt (X : List (List Int) × Int × Bool) (w : World) (e : Ending) (w' : World) : Prop :=
  ∃ v xs, e = .returned (.tuple #[v, .int .i64 X.2.1, .bool X.2.2]) ∧ w'.ownsRow w.heap.size 22 1 v X.1.length xs ∧ NOwn w' w.heap.size xs X.1 ∧ Below w.heap.size w w'
theorem made_nils (n : Nat) : (madeCells #[Value.slice none 0 0] n).toList = List.replicate n (.slice none 0 0) := by
  apply List.ext_getElem (by simp [size_madeCells])
  intro k h1 h2
  simp [madeCells, Nat.mod_one]
theorem nils_set (xs : List Value) (n j : Nat) (v : Value) (h : xs.length = j) (hj : j < n) : (xs ++ List.replicate (n - j) (Value.slice none 0 0)).set j v = (xs ++ [v]) ++ List.replicate (n - (j + 1)) (.slice none 0 0) := by
  rw [List.set_append, if_neg (by omega), h, Nat.sub_self, show n - j = (n - (j + 1)) + 1 by omega, List.replicate_succ]
  simp
namespace Q
def cst (row reqs : List Int) : Nat → List Int × Int
  | 0 => (row, 0)
  | j + 1 => ((covX (cst row reqs j).1 (reqs.getD j 0)).1, (cst row reqs j).2 + (covX (cst row reqs j).1 (reqs.getD j 0)).2)
theorem cst_next {row reqs : List Int} {j : Nat} {r : Int} (h : reqs[j]? = some r) : cst row reqs (j + 1) = ((covX (cst row reqs j).1 r).1, (cst row reqs j).2 + (covX (cst row reqs j).1 r).2) := by
  rw [cst, List.getD_eq_getElem?_getD, h]
  rfl
def crK (row reqs : List Int) : Nat → List (List Int)
  | 0 => []
  | j + 1 => crK row reqs j ++ [(cst row reqs (j + 1)).1]
theorem crK_len (row reqs : List Int) : ∀ j, (crK row reqs j).length = j
  | 0 => rfl
  | j + 1 => by rw [crK, List.length_append, crK_len row reqs j]; rfl
theorem cov_bd {l : List Int} {r : Int} (h : rowQ l = true) (h0 : 0 ≤ r) (h1 : r ≤ 99) : 0 ≤ (covX l r).2 ∧ (covX l r).2 ≤ 297 := by
  obtain ⟨⟨g1, g2, g3⟩, _⟩ := cov_pos h h0 h1
  obtain ⟨_, h3, hw, _⟩ := servers_iff.1 h
  obtain ⟨_, _, hw2, _⟩ := servers_iff.1 g1
  have := dist_bd hw hw2 g2.symm l.length (Nat.le_refl _)
  omega
theorem cst_ok {row reqs : List Int} (h : rowQ row = true) (hr : within 0 99 reqs = true) : ∀ j, j ≤ reqs.length → rowQ (cst row reqs j).1 = true ∧ 0 ≤ (cst row reqs j).2 ∧ (cst row reqs j).2 ≤ 297 * (j : Int)
  | 0, _ => ⟨h, by simp [cst], by simp [cst]⟩
  | j + 1, hj => by
    obtain ⟨i1, i2, i3⟩ := cst_ok h hr j (by omega)
    obtain ⟨r, hx, r0, r1⟩ := within_at hr (k := j) (by omega)
    have hb := cov_bd i1 r0 r1
    rw [cst_next hx]
    refine ⟨(cov_pos i1 r0 r1).1.1, ?_, ?_⟩
    · show 0 ≤ _ + _
      omega
    · show _ + _ ≤ _
      omega
def crOk (row reqs : List Int) : Bool := (rowQ row && decide (reqs.length ≤ 60)) && within 0 99 reqs
def crQ (row reqs : List Int) : List (List Int) × Int × Bool := if crOk row reqs then (crK row reqs reqs.length, (cst row reqs reqs.length).2, true) else ([], 0, false)
theorem crK_mem {row reqs : List Int} (h : rowQ row = true) (hr : within 0 99 reqs = true) : ∀ j, j ≤ reqs.length → ∀ l ∈ crK row reqs j, l.length ≤ 3
  | 0, _, l, hl => by simp [crK] at hl
  | j + 1, hj, l, hl => by
    rw [crK] at hl
    rcases List.mem_append.1 hl with hl | hl
    · exact crK_mem h hr j (by omega) l hl
    · obtain rfl := List.mem_singleton.1 hl
      exact (servers_iff.1 (cst_ok h hr (j + 1) hj).1).2.1
end Q
theorem tot_three : ∀ (L : List (List Int)), (∀ l ∈ L, l.length ≤ 3) → totL L ≤ 3 * L.length
  | [], _ => by simp [totL]
  | l :: L, h => by
    have ih := tot_three L fun m hm => h m (List.mem_cons_of_mem _ hm)
    have := h l (List.mem_cons_self ..)
    simp only [totL, List.map_cons, List.sum_cons, List.length_cons] at ih ⊢
    omega
namespace LCoverRun
theorem lenX (row reqs : List Int) : (Q.crQ row reqs).1.length ≤ 1048576 ∧ (∀ l ∈ (Q.crQ row reqs).1, l.length ≤ 1048576) ∧ totL (Q.crQ row reqs).1 ≤ 1048576 := by
  unfold Q.crQ
  split
  · rename_i h
    simp only [Q.crOk, Bool.and_eq_true, decide_eq_true_eq] at h
    have hm := Q.crK_mem h.1.1 h.2 reqs.length (Nat.le_refl _)
    have hl := Q.crK_len row reqs reqs.length
    have ht := tot_three _ hm
    have h6 := h.1.2
    refine ⟨by show (Q.crK row reqs reqs.length).length ≤ _; omega, fun l hx => ?_, by show totL (Q.crK row reqs reqs.length) ≤ _; omega⟩
    have := hm l hx
    omega
  · exact ⟨by simp, fun l hl => by simp at hl, by simp [totL]⟩
end LCoverRun
set_option maxHeartbeats 400000 in
theorem isCovering_any (A B : Option Addr) (c d : Nat) (row reqs : List Int) (w : World) (hl : row.length ≤ 1048576) (hl' : reqs.length ≤ 1048576) (hr : Law.Row w A (ivs row)) (hs : Law.Row w B (ivs reqs)) :
    Calls Try.prog 65 #[.slice A row.length c, .slice B reqs.length d, .int .i64 60] w fun e w' => e = .returned (.bool (Q.crOk row reqs)) ∧ Below w.heap.size w w' := by
  have HQ := Lib.hid (isRow_any A c row w hl hr)
  have HW := Lib.hid fun (W : World) (h : Below w.heap.size w W) => isWithin_any B d reqs 0 99 W hl' (hs.stays h)
  have HN : Hid (Q.crOk row reqs = ((Q.rowQ row && decide (reqs.length ≤ 60)) && Q.within 0 99 reqs)) := rfl
  generalize Q.crOk row reqs = V at HN ⊢
  generalize Q.within 0 99 reqs = u at HW HN
  generalize Q.rowQ row = t at HQ HN
  clear hr hs
  by_cases h60 : reqs.length ≤ 60
  · have hI : (reqs.length : Int) ≤ 60 := by omega
    rw [show decide (reqs.length ≤ 60) = true from decide_eq_true h60] at HN
    cases t
    · clear HW
      go_enter Try.func65, Try.ntmps65
      go_wp2_with fail
      go_at_call 57
      refine HQ.out.mono ?_
      rintro e w1 ⟨rfl, hb⟩
      have HB := Lib.hid hb
      clear hb
      go_wp2
      go_ret
      exact ⟨by rw [HN.out]; rfl, HB.out⟩
    · go_enter Try.func65, Try.ntmps65
      go_wp2_with fail
      go_at_call 57
      refine HQ.out.mono ?_
      rintro e w1 ⟨rfl, hb⟩
      have HB := Lib.hid hb
      clear hb
      go_wp2_with fail
      go_at_call 70
      refine (HW.out _ HB.out).mono ?_
      rintro e w' ⟨rfl, hw'⟩
      obtain rfl := hw'.symm
      clear hw'
      go_wp2
      go_ret
      exact ⟨by rw [HN.out]; rfl, HB.out⟩
  · have hI : ¬ (reqs.length : Int) ≤ 60 := by omega
    rw [show decide (reqs.length ≤ 60) = false from decide_eq_false h60] at HN
    clear HW
    cases t
    · go_enter Try.func65, Try.ntmps65
      go_wp2_with fail
      go_at_call 57
      refine HQ.out.mono ?_
      rintro e w1 ⟨rfl, hb⟩
      have HB := Lib.hid hb
      clear hb
      go_wp2
      go_ret
      exact ⟨by rw [HN.out]; rfl, HB.out⟩
    · go_enter Try.func65, Try.ntmps65
      go_wp2_with fail
      go_at_call 57
      refine HQ.out.mono ?_
      rintro e w1 ⟨rfl, hb⟩
      have HB := Lib.hid hb
      clear hb
      go_wp2
      go_ret
      exact ⟨by rw [HN.out]; rfl, HB.out⟩
end Go.Proofs.Ytndjpkeenbbgiaa
