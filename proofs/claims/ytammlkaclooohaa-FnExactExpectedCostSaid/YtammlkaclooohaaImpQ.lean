/-
  The code's small tests (isItemCount, isItem, isLength, isSeed) and IsRequests.
-/
import Derived.Test.YtammlkaclooohaaSeq
namespace Go.Proofs.Ytammlkaclooohaa
open Go.RowKit
set_option linter.unusedVariables false
theorem isItemCount_any (n : Int) (w : World) : Calls Try.prog 178 #[.int .i64 n] w fun e w' => e = .returned (.bool (Q.okN n)) ∧ w' = w := by
  have HE : Hid (Q.okN n = (decide (1 ≤ n) && decide (n ≤ 8))) := rfl
  by_cases h1 : 1 ≤ n
  · go_enter Try.func178, Try.ntmps178
    go_wp2
    go_ret
    exact ⟨by rw [HE.out]; simp [h1], rfl⟩
  · go_enter Try.func178, Try.ntmps178
    go_wp2
    go_ret
    exact ⟨by rw [HE.out]; simp [show ¬ 1 ≤ n from by omega], rfl⟩
theorem isItem_any (n x : Int) (w : World) : Calls Try.prog 179 #[.int .i64 n, .int .i64 x] w fun e w' => e = .returned (.bool (decide (0 ≤ x) && decide (x < n))) ∧ w' = w := by
  by_cases h1 : 0 ≤ x
  · go_enter Try.func179, Try.ntmps179
    go_wp2
    go_ret
    exact ⟨by simp [h1], rfl⟩
  · go_enter Try.func179, Try.ntmps179
    go_wp2
    go_ret
    exact ⟨by simp [show ¬ 0 ≤ x from by omega], rfl⟩
theorem Q.okItem_lt (n x : Int) : (decide (0 ≤ x) && decide (x < n)) = Q.okItem n x := by
  unfold Q.okItem; congr 1; rw [decide_eq_decide]; omega
set_option maxHeartbeats 400000 in
theorem impIsReq_any (n : Int) (A : Option Addr) (c : Nat) (zs : List Int) (w : World) (hn : zs.length ≤ 1048576) (hr : Law.Row w A (ivs zs)) :
    Calls Try.prog 141 #[.int .i64 n, .slice A zs.length c] w fun e w' => e = .returned (.bool (Q.good n zs)) ∧ w' = w := by
  have HC := Lib.hid fun W => isItemCount_any n W
  have hnI : (zs.length : Int) ≤ 1048576 := by omega
  cases h1 : Q.okN n
  · have HN : Hid (Q.good n zs = false) := by show Q.good n zs = false; simp [Q.good, h1]
    rw [h1] at HC
    clear h1 hr
    go_enter Try.func141, Try.ntmps141
    go_wp2_with (go_at_call 178; refine (HC.out _).mono ?_; rintro e w' ⟨rfl, hw'⟩; subst hw')
    go_ret
    exact ⟨by rw [HN.out]; rfl, rfl⟩
  · have hN := Q.okN_iff.1 h1
    by_cases h2 : zs.length ≤ 60
    · have HG : Hid (Q.good n zs = Q.okList n zs) := by show Q.good n zs = _; simp [Q.good, h1, h2]
      have h2I : (zs.length : Int) ≤ 60 := by omega
      rw [h1] at HC
      have HR := Lib.hid hr
      clear h1 hr
      go_enter Try.func141, Try.ntmps141
      go_wp2_with (go_at_call 178; refine (HC.out _).mono ?_; rintro e w' ⟨rfl, hw'⟩; subst hw')
      go_loop [17] (fun i => ∃ k : Nat, k ≤ zs.length ∧ i = .int .i64 (k : Int) ∧ Hid (∀ z ∈ zs.take k, Q.okItem n z = true)) (fun i => zs.length - (intOf i).toNat)
      case atStart => exact ⟨0, Nat.zero_le _, rfl, fun z hz => by simp at hz⟩
      case round =>
        obtain ⟨k, hk, rfl, hall⟩ := hrel
        by_cases hlt : k < zs.length
        · obtain ⟨b, off, rfl, hbl, hc⟩ := HR.out.at_ (ivs_at hlt)
          have hltI : (k : Int) < (zs.length : Int) := by omega
          have HI := Lib.hid fun W => isItem_any n zs[k] W
          rw [Q.okItem_lt] at HI
          have hm : zs[k] ∈ zs := List.getElem_mem hlt
          have HT := Lib.hid (List.take_succ_eq_append_getElem hlt)
          cases hz : Q.okItem n zs[k]
          · have HN : Hid (Q.okList n zs = false) := by
              show _ = _
              rw [Bool.eq_false_iff]
              intro h
              have := List.all_eq_true.1 h _ hm
              rw [hz] at this
              cases this
            rw [hz] at HI
            clear hz hm
            obtain ⟨Z, hZ⟩ : ∃ Z, Z = zs[k] := ⟨_, rfl⟩
            rw [← hZ] at HI hc
            clear hZ HT
            go_wp2_with (go_at_call 179; refine (HI.out _).mono ?_; rintro e w' ⟨rfl, hw'⟩; subst hw')
            go_ret
            exact ⟨by rw [HG.out, HN.out]; rfl, rfl⟩
          · rw [hz] at HI
            have HN : Hid (∀ z ∈ zs.take (k + 1), Q.okItem n z = true) := fun z hzm => by
              rw [HT.out] at hzm
              rcases List.mem_append.1 hzm with h | h
              · exact hall.out z h
              · obtain rfl := List.mem_singleton.1 h
                exact hz
            clear hz hm
            obtain ⟨Z, hZ⟩ : ∃ Z, Z = zs[k] := ⟨_, rfl⟩
            rw [← hZ] at HI hc
            clear hZ HT
            go_wp2_with (go_at_call 179; refine (HI.out _).mono ?_; rintro e w' ⟨rfl, hw'⟩; subst hw')
            go_round
            case rel => exact ⟨k + 1, by omega, by go_num, HN.out⟩
            case measure => simp [intOf]; omega
        · have hke : k = zs.length := by omega
          have hltI : ¬ (k : Int) < (zs.length : Int) := by omega
          have HN : Hid (Q.okList n zs = true) := by
            show _ = _
            refine List.all_eq_true.2 fun z hz => hall.out z ?_
            rw [hke, List.take_length]
            exact hz
          clear hke hall
          go_wp2
          go_ret
          exact ⟨by rw [HG.out, HN.out]; rfl, rfl⟩
    · have HG : Hid (Q.good n zs = false) := by show Q.good n zs = _; simp [Q.good, h1, h2]
      have h2I : ¬ (zs.length : Int) ≤ 60 := by omega
      rw [h1] at HC
      clear h1 hr
      go_enter Try.func141, Try.ntmps141
      go_wp2_with (go_at_call 178; refine (HC.out _).mono ?_; rintro e w' ⟨rfl, hw'⟩; subst hw')
      go_ret
      exact ⟨by rw [HG.out]; rfl, rfl⟩
end Go.Proofs.Ytammlkaclooohaa
