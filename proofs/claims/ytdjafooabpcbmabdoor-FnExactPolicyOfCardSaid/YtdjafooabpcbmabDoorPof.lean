/-
  The policy with a name: the code's and the model's PolicyOf.
-/
import Derived.Test.YtdjafooabpcbmabDoorPol
namespace Go.Proofs.YtdjafooabpcbmabDoor
open Go.RowKit
set_option linter.unusedVariables false
/-- The first place from i on in a list that starts at i, or 0. -/
def polFrom (s : ByteArray) : List ByteArray → Nat → Nat
  | [], _ => 0
  | x :: r, i => if x = s then i else polFrom s r (i + 1)
def polOf (s : ByteArray) : Nat := polFrom s (nms.drop 1) 1
theorem pol_step {s : ByteArray} {i : Nat} (h : i ≤ 7) : polFrom s (nms.drop i) i = if nm i = s then i else polFrom s (nms.drop (i + 1)) (i + 1) := by
  have hl : i < nms.length := by simp [nms]; omega
  rw [List.drop_eq_getElem_cons hl]
  have e : nm i = nms[i] := by unfold nm; simp [List.getD, hl]
  rw [e]
  rfl
theorem pol_end (s : ByteArray) : polFrom s (nms.drop 8) 8 = 0 := rfl
theorem polFrom_le (s : ByteArray) : ∀ (l : List ByteArray) (i : Nat), polFrom s l i ≤ i + l.length
  | [], i => Nat.zero_le _
  | x :: r, i => by
    unfold polFrom
    split
    · omega
    · have := polFrom_le s r (i + 1)
      simp only [List.length_cons]
      omega
theorem polOf_le (s : ByteArray) : polOf s ≤ 8 := by
  have := polFrom_le s (nms.drop 1) 1
  simpa [nms, polOf] using this
theorem neq_list {a b : ByteArray} (h : a ≠ b) : (a.toList == b.toList) = false := by
  rw [ByteArray.toList_eq, ByteArray.toList_eq, beq_eq_false_iff_ne]
  intro e
  apply h
  apply ByteArray.ext
  exact Array.toList_inj.1 e
theorem implPolicyOf_any (s : ByteArray) (hs : s.size ≤ 1048576) (w : World) (hN : Names w) : Calls Tryd.prog 8 #[.string s] w fun e w' => e = .returned (.tuple #[.int .i64 (polOf s : Int), .bool (decide (0 < polOf s))]) ∧ w' = w := by
  have HN := Lib.hid fun k => hN.cell k
  clear hN
  go_enter Tryd.func8, Tryd.ntmps8
  go_wp2_with fail
  go_loop [4] (fun i => ∃ k : Nat, 1 ≤ k ∧ k ≤ 8 ∧ i = .int .i64 (k : Int) ∧ Hid (polOf s = polFrom s (nms.drop k) k)) (fun i => 8 - (intOf i).toNat)
  case atStart => exact ⟨1, by omega, by omega, rfl, rfl⟩
  case round =>
    obtain ⟨k, hk1, hk, rfl, hall⟩ := hrel
    by_cases hlt : k ≤ 7
    · have hltI : (k : Int) ≤ 7 := by omega
      have hst := pol_step (s := s) hlt
      have hc : w.cell? ⟨0, k, none⟩ = some (.string (nm k)) := (HN.out k).trans (nm_at hlt)
      obtain ⟨S, hS⟩ : ∃ S, S = nm k := ⟨_, rfl⟩
      rw [← hS] at hc hst
      clear hS
      by_cases he : S = s
      · subst he
        have HE : Hid (polOf S = k) := by show _ = _; rw [hall.out, hst, if_pos rfl]
        clear hst hall
        go_wp2
        go_ret2
        exact ⟨by rw [HE.out]; simp; omega, rfl⟩
      · have HE : Hid (polOf s = polFrom s (nms.drop (k + 1)) (k + 1)) := by show _ = _; rw [hall.out, hst, if_neg he]
        have hne := neq_list he
        clear hst hall he
        go_wp2
        go_round
        case rel => exact ⟨k + 1, by omega, by omega, by go_num, HE.out⟩
        case measure => simp [intOf]; omega
    · have hke : k = 8 := by omega
      subst hke
      have HE : Hid (polOf s = 0) := by show _ = _; rw [hall.out, pol_end]
      clear hall
      go_wp2
      go_ret2
      exact ⟨by rw [HE.out]; rfl, rfl⟩
theorem l4Policy_any (s : ByteArray) (hs : s.size ≤ 1048576) (w : World) : Calls Tryd.prog 12 #[.string s] w fun e w' => e = .returned (.int .i64 (polOf s : Int)) ∧ Below w.heap.size w w' := by
  have HL := Lib.hid fun W => l4Names_at 0 (by omega) W
  go_enter Tryd.func12, Tryd.ntmps12
  go_wp2_with fail
  go_at_call 10
  refine (HL.out _).mono ?_
  rintro e w1 ⟨rfl, hw1⟩
  have HC : Hid (∀ k, k ≤ 7 → w1.cell? ⟨w.heap.size, k, none⟩ = some (.string (nm k))) := by
    show ∀ k, k ≤ 7 → _
    intro k hk
    rw [hw1]
    have e1 : (w.alloc (.cells nmRow 9)).cell? ⟨w.heap.size, k, none⟩ = nmRow[k]? := by go_simp
    rw [e1]
    simpa using nm_at hk
  have HB : Hid (Below w.heap.size w w1) := by show Below _ _ _; rw [hw1]; exact (Below.refl _ _).alloc (Nat.le_refl _) _
  clear hw1
  go_wp2_with fail
  go_loop [4] (fun i => ∃ k : Nat, 1 ≤ k ∧ k ≤ 8 ∧ i = .int .i64 (k : Int) ∧ Hid (polOf s = polFrom s (nms.drop k) k)) (fun i => 8 - (intOf i).toNat)
  case atStart => exact ⟨1, by omega, by omega, rfl, rfl⟩
  case round =>
    obtain ⟨k, hk1, hk, rfl, hall⟩ := hrel
    by_cases hlt : k ≤ 7
    · have hltI : (k : Int) < 8 := by omega
      have hst := pol_step (s := s) hlt
      have hc := HC.out k hlt
      obtain ⟨S, hS⟩ : ∃ S, S = nm k := ⟨_, rfl⟩
      rw [← hS] at hc hst
      clear hS
      by_cases he : S = s
      · subst he
        have HE : Hid (polOf S = k) := by show _ = _; rw [hall.out, hst, if_pos rfl]
        clear hst hall
        go_wp2
        go_ret
        exact ⟨by rw [HE.out]; rfl, HB.out⟩
      · have HE : Hid (polOf s = polFrom s (nms.drop (k + 1)) (k + 1)) := by show _ = _; rw [hall.out, hst, if_neg he]
        have hne := neq_list he
        clear hst hall he
        go_wp2
        go_round
        case rel => exact ⟨k + 1, by omega, by omega, by go_num, HE.out⟩
        case measure => simp [intOf]; omega
    · have hke : k = 8 := by omega
      subst hke
      have HE : Hid (polOf s = 0) := by show _ = _; rw [hall.out, pol_end]
      clear hall
      go_wp2
      go_ret
      exact ⟨by rw [HE.out]; rfl, HB.out⟩
theorem specPolicyOf_any (s : ByteArray) (hs : s.size ≤ 1048576) (w : World) : Calls Tryd.prog 7 #[.string s] w fun e w' => e = .returned (.tuple #[.int .i64 (polOf s : Int), .bool (decide (0 < polOf s))]) ∧ Below w.heap.size w w' := by
  have HL := Lib.hid fun W => l4Policy_any s hs W
  have h8 : (polOf s : Int) ≤ 8 := by have := polOf_le s; omega
  generalize polOf s = p at HL h8 ⊢
  go_enter Tryd.func7, Tryd.ntmps7
  go_wp2_with fail
  go_at_call 12
  refine (HL.out _).mono ?_
  rintro e w1 ⟨rfl, hb1⟩
  have HB := Lib.hid hb1
  clear hb1
  go_wp2
  go_ret2
  exact ⟨by simp, HB.out⟩
end Go.Proofs.YtdjafooabpcbmabDoor
