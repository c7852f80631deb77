/-
  Sequences of requests: the model's tests (l3Items, l3List, l3Good, l3Length).
-/
import Derived.Test.YtndjpkeenbbgiaaInts
namespace Go.Proofs.Ytndjpkeenbbgiaa
open Go.RowKit
set_option linter.unusedVariables false
namespace Q
def okItem (n z : Int) : Bool := decide (0 ≤ z) && decide (z ≤ n - 1)
def okList (n : Int) (zs : List Int) : Bool := zs.all (okItem n)
def okN (n : Int) : Bool := decide (1 ≤ n) && decide (n ≤ 8)
def good (n : Int) (zs : List Int) : Bool := okN n && (decide (zs.length ≤ 60) && okList n zs)
theorem okN_iff {n : Int} : okN n = true ↔ 1 ≤ n ∧ n ≤ 8 := by simp [okN]
theorem good_iff {n : Int} {zs : List Int} : good n zs = true ↔ (1 ≤ n ∧ n ≤ 8) ∧ zs.length ≤ 60 ∧ ∀ z ∈ zs, 0 ≤ z ∧ z ≤ n - 1 := by
  simp [good, okN, okList, okItem]
end Q
theorem l1In_any (x a b : Int) (w : World) : Calls Try.prog 59 #[.int .i64 x, .int .i64 a, .int .i64 b] w fun e w' => e = .returned (.bool (decide (a ≤ x) && decide (x ≤ b))) ∧ w' = w := by
  by_cases h1 : a ≤ x
  · go_enter Try.func59, Try.ntmps59
    go_wp2
    go_ret
    exact ⟨by simp [h1], rfl⟩
  · go_enter Try.func59, Try.ntmps59
    go_wp2
    go_ret
    exact ⟨by simp [show ¬ a ≤ x from by omega], rfl⟩
theorem l3Items_any (n : Int) (w : World) : Calls Try.prog 85 #[.int .i64 n] w fun e w' => e = .returned (.bool (Q.okN n)) ∧ w' = w := by
  have HI := Lib.hid fun W => l1In_any n 1 8 W
  go_enter Try.func85, Try.ntmps85
  go_wp2_with (go_at_call 59; refine (HI.out _).mono ?_; rintro e w' ⟨rfl, rfl⟩)
  go_ret
  exact ⟨rfl, rfl⟩
set_option maxHeartbeats 400000 in
theorem l3List_any (n : Int) (A : Option Addr) (c : Nat) (zs : List Int) (w : World) (h1 : 1 ≤ n) (h2 : n ≤ 8) (hn : zs.length ≤ 1048576) (hr : Law.Row w A (ivs zs)) :
    Calls Try.prog 86 #[.int .i64 n, .slice A zs.length c] w fun e w' => e = .returned (.bool (Q.okList n zs)) ∧ w' = w := by
  have HR := Lib.hid hr
  clear hr
  go_enter Try.func86, Try.ntmps86
  go_wp2
  go_loop [5] (fun i => ∃ k : Nat, k ≤ zs.length ∧ i = .int .i64 (k : Int) ∧ Hid (∀ z ∈ zs.take k, Q.okItem n z = true)) (fun i => zs.length - (intOf i).toNat)
  case atStart => exact ⟨0, Nat.zero_le _, rfl, fun z hz => by simp at hz⟩
  case round =>
    obtain ⟨k, hk, rfl, hall⟩ := hrel
    by_cases hlt : k < zs.length
    · obtain ⟨b, off, rfl, hbl, hc⟩ := HR.out.at_ (ivs_at hlt)
      have hltI : (k : Int) < (zs.length : Int) := by omega
      have HI := Lib.hid fun W => l1In_any zs[k] 0 (n - 1) W
      have hm : zs[k] ∈ zs := List.getElem_mem hlt
      have HT := Lib.hid (List.take_succ_eq_append_getElem hlt)
      by_cases hz : (decide (0 ≤ zs[k]) && decide (zs[k] ≤ n - 1)) = true
      · rw [hz] at HI
        have HN : Hid (∀ z ∈ zs.take (k + 1), Q.okItem n z = true) := fun z hzm => by
          rw [HT.out] at hzm
          rcases List.mem_append.1 hzm with h | h
          · exact hall.out z h
          · obtain rfl := List.mem_singleton.1 h
            exact hz
        clear hz hm
        obtain ⟨Z, hZ⟩ : ∃ Z, Z = zs[k] := ⟨_, rfl⟩
        rw [← hZ] at HI hc
        clear hZ HT
        go_wp2_with (go_at_call 59; refine (HI.out _).mono ?_; rintro e w' ⟨rfl, hw'⟩; subst hw')
        go_round
        case rel => exact ⟨k + 1, by omega, by go_num, HN.out⟩
        case measure => simp [intOf]; omega
      · have HN : Hid (Q.okList n zs = false) := by
          show _ = _
          rw [Bool.eq_false_iff]
          intro h
          exact hz (List.all_eq_true.1 h _ hm)
        rw [Bool.eq_false_iff.2 hz] at HI
        clear hz hm
        obtain ⟨Z, hZ⟩ : ∃ Z, Z = zs[k] := ⟨_, rfl⟩
        rw [← hZ] at HI hc
        clear hZ HT
        go_wp2_with (go_at_call 59; refine (HI.out _).mono ?_; rintro e w' ⟨rfl, hw'⟩; subst hw')
        go_ret
        exact ⟨by rw [HN.out]; rfl, rfl⟩
    · have hke : k = zs.length := by omega
      have hltI : ¬ (k : Int) < (zs.length : Int) := by omega
      have HN : Hid (Q.okList n zs = true) := by
        show _ = _
        refine List.all_eq_true.2 fun z hz => hall.out z ?_
        rw [hke, List.take_length]
        exact hz
      clear hke hall
      go_wp2
      go_ret
      exact ⟨by rw [HN.out]; rfl, rfl⟩
end Go.Proofs.Ytndjpkeenbbgiaa
