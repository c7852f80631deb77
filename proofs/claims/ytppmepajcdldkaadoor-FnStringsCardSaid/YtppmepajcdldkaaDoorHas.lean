/-
  A byte that stands in a text: the model's 'spec.l1Stands' and the library's 'strings.Contains' at a text of one byte say the same.
-/
import Derived.Test.YtppmepajcdldkaaDoorRows
import Derived.Test.YtppmepajcdldkaaDoorLaw
import Derived.Test.YtppmepajcdldkaaDoorShelf
import Derived.Lib.Bytealg
import Derived.LoopTactic
import Derived.Lib.Hide
namespace Go.Proofs.YtppmepajcdldkaaDoor
open Go.RowKit
/-- Does the byte stand in the list? -/
def hasB (l : List UInt8) (c : UInt8) : Bool := decide (0 ≤ Lib.indexByte l c)
theorem hasB_iff (l : List UInt8) (c : UInt8) : hasB l c = true ↔ c ∈ l := by
  unfold hasB
  rw [decide_eq_true_iff]
  induction l with
  | nil => simp [Lib.indexByte]
  | cons b l ih =>
    have := Lib.indexByte_ge l c
    simp only [Lib.indexByte, List.mem_cons]
    by_cases hb : b = c
    · subst hb; simp
    · have hb' : (b == c) = false := beq_eq_false_iff_ne.2 hb
      rw [hb']
      by_cases hm : Lib.indexByte l c = -1
      · have : ¬ c ∈ l := fun h => by have := ih.2 h; omega
        simp [hm, this, Ne.symm hb]
      · have h2 : c ∈ l := ih.1 (by omega)
        simp [hm, h2]; omega
theorem contains_yes (s : ByteArray) (c : UInt8) (w : World) (h : hasB s.data.toList c = true) :
    Calls Tryd.prog 28 #[.string s, .string ⟨#[c]⟩] w fun e w' => e = .returned (.bool true) ∧ w = w' :=
  (Tryd.strings_Contains_one s c w).mono fun e w' ⟨he, hw⟩ => ⟨by rw [he]; unfold hasB at h; rw [h], hw.symm⟩
theorem contains_no (s : ByteArray) (c : UInt8) (w : World) (h : hasB s.data.toList c = false) :
    Calls Tryd.prog 28 #[.string s, .string ⟨#[c]⟩] w fun e w' => e = .returned (.bool false) ∧ w = w' :=
  (Tryd.strings_Contains_one s c w).mono fun e w' ⟨he, hw⟩ => ⟨by rw [he]; unfold hasB at h; rw [h], hw.symm⟩
theorem has_take (s : ByteArray) (c : UInt8) (k : Nat) (h : k < s.size) (hc : s[k] = c) : hasB s.data.toList c = true := by
  rw [hasB_iff]; subst hc; exact Array.getElem_mem_toList h
theorem ret_bool {a b : Bool} (h : a = b) : Ending.returned (.bool a) = .returned (.bool b) := by rw [h]
set_option maxHeartbeats 400000 in
theorem l1Stands_any (s : ByteArray) (c : UInt8) (w : World) (hs : s.size ≤ 9223372036854775807) :
    Calls Tryd.prog 29 #[.string s, .int .u8 (c.toNat : Int)] w fun e w' => e = .returned (.bool (hasB s.data.toList c)) ∧ w = w' := by
  have hcn : (c.toNat : Int) ≤ 255 := by have := c.toNat_lt; omega
  go_enter Tryd.func29, Tryd.ntmps29
  go_wp2
  go_loop [5] (fun i => ∃ k : Nat, k ≤ s.size ∧ i = .int .i64 k ∧ Hid (∀ j (h : j < s.size), j < k → s[j] ≠ c)) (fun i => s.size - (intOf i).toNat)
  case atStart => exact ⟨0, Nat.zero_le _, rfl, fun j h hj => absurd hj (by omega)⟩
  case round =>
    obtain ⟨k, hk, rfl, hno⟩ := hrel
    by_cases hlt : k < s.size
    · by_cases hc : s[k] = c
      · have hb : ((s[k].toNat : Int) == (c.toNat : Int)) = true := by rw [hc]; simp
        have H := Lib.hid (has_take s c k hlt hc)
        clear hc
        go_wp2
        go_ret
        exact ⟨ret_bool H.out.symm, rfl⟩
      · have hb : ((s[k].toNat : Int) == (c.toNat : Int)) = false := by
          rw [beq_eq_false_iff_ne]
          intro e
          apply hc
          apply UInt8.toNat_inj.1
          omega
        have H := Lib.hid hc
        clear hc
        go_wp2
        go_round
        case rel =>
          refine ⟨k + 1, by omega, by go_num, fun j h hj => ?_⟩
          by_cases e : j = k
          · subst e; exact H.out
          · exact hno.out j h (by omega)
        case measure => simp [intOf]; omega
    · go_wp2
      go_ret
      refine ⟨ret_bool (Bool.eq_false_iff.2 fun h => ?_).symm, rfl⟩
      rw [hasB_iff] at h
      obtain ⟨j, hj, e⟩ := List.getElem_of_mem h
      have hj' : j < s.size := by simpa using hj
      exact hno.out j hj' (by omega) e
end Go.Proofs.YtppmepajcdldkaaDoor
