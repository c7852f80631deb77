/-
  The model's reading of a number finds the number whose text it is; the model's ParseFrac ends as the code's.
-/
import Derived.Test.YtppmepajcdldkabDoorPMath
namespace Go.Proofs.YtppmepajcdldkabDoor
open Go.RowKit
set_option linter.unusedVariables false
theorem byte_list {s : ByteArray} {i : Nat} (h : i < s.size) : s.data.toList[i]? = some s[i] := by
  have hl : s.data.toList.length = s.size := Array.length_toList
  rw [List.getElem?_eq_getElem (by omega)]
  rfl
theorem byte_of {s : ByteArray} {i : Nat} {c : UInt8} (h : i < s.size) (e : s.data.toList[i]? = some c) : s[i] = c := by
  rw [byte_list h] at e
  exact Option.some.inj e
theorem ln_num {n : Int} (h1 : -999999999 ≤ n) (h2 : n ≤ 999999999) : ln (numS n) = (n, true) := by
  have hl : (numS n).data.toList.length = (numS n).size := Array.length_toList
  have hb := dec_len9 n.natAbs (by omega)
  rcases isNum_list9 (s := numS n) ⟨h1, h2, rfl⟩ with ⟨hn, hL⟩ | ⟨hn, hL⟩
  · generalize numS n = s at *
    have hsz : s.size = (Lib.decDigits n.natAbs).length + 1 := by rw [← hl, hL, List.length_cons]
    have hp : 0 < s.size := by omega
    have h0 : s[0] = 45 := byte_of hp (by rw [hL]; rfl)
    have hf : fromOf s = 1 := if_pos ⟨hp, by rw [h0]; rfl⟩
    have hdig : digAt s 1 s.size := fun i hi h1 _ => by
      obtain ⟨j, rfl⟩ : ∃ j, i = j + 1 := ⟨i - 1, by omega⟩
      have hj : j < (Lib.decDigits n.natAbs).length := by omega
      have e : s[j + 1] = (Lib.decDigits n.natAbs)[j] := byte_of hi (by rw [hL, List.getElem?_cons_succ, List.getElem?_eq_getElem hj])
      rw [e]
      exact dec_dig _ _ (List.getElem_mem hj)
    have hv : dvF s 1 s.size = (n.natAbs : Int) := by
      unfold dvF
      rw [List.take_of_length_le (by omega), hL, List.drop_succ_cons, List.drop_zero]
      exact dec_val _
    unfold ln
    rw [hf]
    unfold lnF
    rw [if_pos ⟨⟨by omega, by omega⟩, hdig⟩, if_pos rfl, hv]
    exact congrArg (fun x => (x, true)) (by omega)
  · generalize numS n = s at *
    have hsz : s.size = (Lib.decDigits n.natAbs).length := by rw [← hl, hL]
    have hp : 0 < s.size := by omega
    have dig : ∀ i (hi : i < s.size), isDig s[i] := fun i hi => by
      have hj : i < (Lib.decDigits n.natAbs).length := by omega
      have e : s[i] = (Lib.decDigits n.natAbs)[i] := byte_of hi (by rw [hL, List.getElem?_eq_getElem hj])
      rw [e]
      exact dec_dig _ _ (List.getElem_mem hj)
    have hf : fromOf s = 0 := if_neg fun ⟨hp, e⟩ => by
      have := dig 0 hp
      unfold isDig at this
      omega
    have hv : dvF s 0 s.size = (n.natAbs : Int) := by
      unfold dvF
      rw [List.take_of_length_le (by omega), List.drop_zero, hL]
      exact dec_val _
    unfold ln
    rw [hf]
    unfold lnF
    rw [if_pos ⟨⟨by omega, by omega⟩, fun i hi _ _ => dig i hi⟩, if_neg (by decide), hv]
    exact congrArg (fun x => (x, true)) (by omega)
theorem drop_two (x y : List UInt8) (c : UInt8) : (x ++ c :: y).drop (x.length + 1) = y := by
  induction x with
  | nil => rfl
  | cons a r ih => exact ih
/-- Before k there is no '/'. -/
def noSlash (s : ByteArray) (k : Nat) : Prop := ∀ i (h : i < s.size), i < k → s[i] ≠ 47
open Classical in
/-- How the model ends, no '/' standing in the text. -/
theorem whole_eq {s : ByteArray} (hno : noSlash s s.size) : (if (ln s).2 = true ∧ F.good (ln s).1 1 = true ∧ txt (ln s).1 1 = s then ((ln s).1, (1 : Int), true) else (0, 0, false)) = pfi s := by
  by_cases h : ∃ n d, F.good n d = true ∧ txt n d = s
  · obtain ⟨n, d, hg, ht⟩ := h
    rw [pfi_yes hg ht]
    have g := F.good_iff.1 hg
    by_cases hd : d = 1
    · subst hd
      have e : s = numS n := by rw [← ht, txt_one]
      rw [e, ln_num (by omega) (by omega), ← e]
      exact if_pos ⟨rfl, hg, ht⟩
    · exfalso
      have hL := txt_list (n := n) hd
      rw [ht] at hL
      have hl : s.data.toList.length = s.size := Array.length_toList
      have hat : s.data.toList[(numS n).data.toList.length]? = some 47 := by rw [hL]; simp
      have hlt : (numS n).data.toList.length < s.size := by rw [← hl, hL]; simp
      exact hno _ hlt hlt (byte_of hlt hat)
  · rw [pfi_no h]
    exact if_neg fun hc => h ⟨_, _, hc.2.1, hc.2.2⟩
open Classical in
/-- How the model ends, the first '/' standing at k. -/
theorem cut_eq {s : ByteArray} {k : Nat} (hk : k < s.size) (hno : noSlash s k) (hat : s[k] = 47) :
    (if ((ln (s.extract 0 k)).2 = true ∧ (ln (s.extract (k + 1) s.size)).2 = true) ∧ F.good (ln (s.extract 0 k)).1 (ln (s.extract (k + 1) s.size)).1 = true ∧ txt (ln (s.extract 0 k)).1 (ln (s.extract (k + 1) s.size)).1 = s then ((ln (s.extract 0 k)).1, (ln (s.extract (k + 1) s.size)).1, true) else (0, 0, false)) = pfi s := by
  have hl : s.data.toList.length = s.size := Array.length_toList
  by_cases h : ∃ n d, F.good n d = true ∧ txt n d = s
  · obtain ⟨n, d, hg, ht⟩ := h
    rw [pfi_yes hg ht]
    have g := F.good_iff.1 hg
    by_cases hd : d = 1
    · exfalso
      subst hd
      have e : s = numS n := by rw [← ht, txt_one]
      have hm : (47 : UInt8) ∈ s.data.toList := List.mem_of_getElem? ((byte_list hk).trans (congrArg some hat))
      rw [e] at hm
      exact num_bytes n _ hm rfl
    · have hL := txt_list (n := n) hd
      rw [ht] at hL
      have hkx : k = (numS n).data.toList.length := by
        have hat' : s.data.toList[(numS n).data.toList.length]? = some 47 := by rw [hL]; simp
        have hlt : (numS n).data.toList.length < s.size := by rw [← hl, hL]; simp
        rcases Nat.lt_trichotomy k (numS n).data.toList.length with h3 | h3 | h3
        · exfalso
          have e1 := byte_list hk
          rw [hL, List.getElem?_append_left h3, List.getElem?_eq_getElem h3] at e1
          exact num_bytes n _ (List.getElem_mem h3) ((Option.some.inj e1).trans hat)
        · exact h3
        · exact absurd (byte_of hlt hat') (hno _ hlt h3)
      have ea : s.extract 0 k = numS n := ba_ext (by rw [Lib.extract_data, List.drop_zero, hL, hkx]; simp)
      have eb : s.extract (k + 1) s.size = numS d := ba_ext (by rw [Lib.extract_to_end, hL, hkx, drop_two])
      rw [ea, eb, ln_num (by omega) (by omega), ln_num (by omega) (by omega)]
      exact if_pos ⟨⟨rfl, rfl⟩, hg, ht⟩
  · rw [pfi_no h]
    exact if_neg fun hc => h ⟨_, _, hc.2.1, hc.2.2⟩
end Go.Proofs.YtppmepajcdldkabDoor
