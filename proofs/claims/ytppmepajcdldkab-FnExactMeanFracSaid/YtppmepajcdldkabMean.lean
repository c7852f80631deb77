/-
  FnExactMeanFrac: MeanFrac answers as the model does, whatever the list of ints, and leaves it as it was.
  Conditions: none.
-/
import Derived.Test.YtppmepajcdldkabRows
import Derived.Test.YtppmepajcdldkabConv
import Derived.Test.YtppmepajcdldkabInts
import Derived.Deep.DeepHandedRow
import Derived.Stop.Joined
namespace Go.Proofs.Ytppmepajcdldkab
open Go.RowKit Go.ChangeShapes Go.WideShapes
set_option linter.unusedVariables false
namespace F
def sumTo (zs : List Int) (k : Nat) : Int := (zs.take k).sum
theorem sumTo_succ {zs : List Int} {k : Nat} (h : k < zs.length) : sumTo zs (k + 1) = sumTo zs k + zs[k] := by
  unfold sumTo
  rw [List.take_succ_eq_append_getElem h, List.sum_append, List.sum_cons, List.sum_nil, Int.add_zero]
theorem sumTo_small {zs : List Int} : ∀ {k : Nat}, k ≤ zs.length → (∀ i (h : i < zs.length), i < k → -100000000 ≤ zs[i] ∧ zs[i] ≤ 100000000) → -100000000 * (k : Int) ≤ sumTo zs k ∧ sumTo zs k ≤ 100000000 * (k : Int)
  | 0, _, _ => by simp [sumTo]
  | k + 1, hk, h => by
    have ih := sumTo_small (k := k) (by omega) (fun i hi hik => h i hi (by omega))
    have := h k (by omega) (by omega)
    rw [sumTo_succ (by omega)]
    omega
def mean (zs : List Int) : Int × Int × Bool := if (1 ≤ zs.length ∧ zs.length ≤ 100) ∧ (∀ i (h : i < zs.length), -100000000 ≤ zs[i] ∧ zs[i] ≤ 100000000) then mk (sumTo zs zs.length) (zs.length : Int) else (0, 0, false)
theorem mean_bad {zs : List Int} {k : Nat} (hk : k < zs.length) (h : ¬ (-100000000 ≤ zs[k] ∧ zs[k] ≤ 100000000)) : mean zs = (0, 0, false) := if_neg fun hc => h (hc.2 k hk)
end F
set_option maxHeartbeats 800000 in
theorem specMean_any (A : Option Addr) (c : Nat) (zs : List Int) (w : World) (hn : zs.length ≤ 1048576) (hr : Law.Row w A (ivs zs)) :
    Calls Try.prog 6 #[.slice A zs.length c] w fun e w' => e = .returned (res (F.mean zs)) ∧ Below w.heap.size w w' := by
  have HR := Lib.hid hr
  clear hr
  have HI := Lib.hid fun W => l1In_any (zs.length : Int) 1 100 W
  by_cases hl : (decide ((1 : Int) ≤ (zs.length : Int)) && decide ((zs.length : Int) ≤ 100)) = true
  · rw [hl] at HI
    simp only [Bool.and_eq_true, decide_eq_true_eq] at hl
    obtain ⟨hl1, hl2⟩ := hl
    go_enter Try.func6, Try.ntmps6
    go_wp2_with (go_at_call 16; refine (HI.out _).mono ?_; rintro e w' ⟨rfl, rfl⟩)
    go_loop [4, 5] (fun s i => ∃ j : Nat, j ≤ zs.length ∧ i = .int .i64 j ∧ s = .int .i64 (F.sumTo zs j) ∧ Hid (∀ i (h : i < zs.length), i < j → -100000000 ≤ zs[i] ∧ zs[i] ≤ 100000000)) (fun _ i => zs.length - (intOf i).toNat)
    case atStart => exact ⟨0, Nat.zero_le _, rfl, rfl, fun i _ hi => by omega⟩
    case round =>
      obtain ⟨j, hj, rfl, rfl, hall⟩ := hrel
      have hsm := F.sumTo_small hj hall.out
      obtain ⟨hs1, hs2⟩ := hsm
      by_cases hlt : j < zs.length
      · obtain ⟨b, off, rfl, hbl, hc⟩ := HR.out.at_ (ivs_at hlt)
        have hltI : (j : Int) < (zs.length : Int) := by omega
        have HZ := Lib.hid fun W => l1In_any zs[j] (-100000000) 100000000 W
        have HS := Lib.hid (F.sumTo_succ hlt)
        by_cases hz : (decide ((-100000000 : Int) ≤ zs[j]) && decide (zs[j] ≤ 100000000)) = true
        · rw [hz] at HZ
          simp only [Bool.and_eq_true, decide_eq_true_eq] at hz
          have HP := Lib.hid hz
          obtain ⟨z1, z2⟩ := hz
          generalize F.sumTo zs j = S at *
          obtain ⟨Z, hZ⟩ : ∃ Z, Z = zs[j] := ⟨_, rfl⟩
          rw [← hZ] at HZ hc z1 z2 HS
          clear hZ
          go_wp2_with (go_at_call 16; refine (HZ.out _).mono ?_; rintro e w' ⟨rfl, hw'⟩; subst hw')
          go_round
          case rel => exact ⟨j + 1, by omega, by go_num, by rw [HS.out], fun i h hi => by
            rcases Nat.lt_or_ge i j with h' | h'
            · exact hall.out i h h'
            · obtain rfl : i = j := by omega
              exact HP.out⟩
          case measure => simp [intOf]; omega
        · have HB := Lib.hid (F.mean_bad hlt (fun h => hz (by simp [h.1, h.2])))
          rw [Bool.eq_false_iff.2 hz] at HZ
          clear hz
          obtain ⟨Z, hZ⟩ : ∃ Z, Z = zs[j] := ⟨_, rfl⟩
          rw [← hZ] at HZ hc HS
          clear hZ
          go_wp2_with (go_at_call 16; refine (HZ.out _).mono ?_; rintro e w' ⟨rfl, hw'⟩; subst hw')
          refine ret_frac rfl rfl rfl (b := w.heap.size) (x := .int .i64 0) (y := .int .i64 0) ⟨by go_simp, by go_simp, by go_simp, by go_simp⟩ rfl ⟨by rw [HB.out]; rfl, ?_⟩
          (repeat (first | exact Below.refl _ _ | refine Below.setCell ?_ (by first | omega | (simp; omega) | (simp; done)) _ | refine Below.drew ?_ | refine Law.up ?_ _ | refine Below.alloc ?_ (by first | omega | (simp; omega) | (simp; done)) _ | refine Law.then_ ?_ (Hid.out (by assumption))))
      · have hje : j = zs.length := by omega
        have HC := Lib.hid fun W => l2Make_any (F.sumTo zs j) (zs.length : Int) W (by omega) (by omega) (by omega) (by omega)
        have HM : Hid (F.mean zs = F.mk (F.sumTo zs j) (zs.length : Int)) := by
          show _ = _
          rw [show F.mean zs = F.mk (F.sumTo zs zs.length) (zs.length : Int) from if_pos ⟨⟨by omega, by omega⟩, fun i h => hall.out i h (by omega)⟩, hje]
        generalize F.mk (F.sumTo zs j) (zs.length : Int) = X at HC HM
        obtain ⟨N, D, ok⟩ := X
        generalize F.sumTo zs j = S at *
        replace HC : Hid (∀ W, Calls Try.prog 17 #[.int .i64 S, .int .i64 (zs.length : Int)] W fun e w' => e = .returned (.tuple #[.agg #[.int .i64 N, .int .i64 D], .bool ok]) ∧ Below W.heap.size W w') := HC
        have hltI : ¬ (j : Int) < (zs.length : Int) := by omega
        have HJ := Lib.hid hje
        clear hje
        go_wp2_with fail
        go_at_call 17
        refine (HC.out _).mono ?_
        rintro e w1 ⟨rfl, hb1⟩
        have B1 : Hid (Below w.heap.size w w1) := Lib.hid (Law.then_ (by (repeat (first | exact Below.refl _ _ | refine Below.setCell ?_ (by first | omega | (simp; omega) | (simp; done)) _ | refine Below.drew ?_ | refine Law.up ?_ _ | refine Below.alloc ?_ (by first | omega | (simp; omega) | (simp; done)) _ | refine Law.then_ ?_ (Hid.out (by assumption))))) hb1)
        have sz1 := hb1.size; (try simp at sz1)
        obtain ⟨c10, c11, f10, f11⟩ := Blk.below (b := w.heap.size) (x := .int .i64 0) (y := .int .i64 0) ⟨by go_simp, by go_simp, by go_simp, by go_simp⟩ hb1 (by first | omega | (simp; omega) | (simp; done))
        clear hb1
        go_wp2
        refine ret_frac rfl rfl rfl (Blk.set2 ⟨c10, c11, f10, f11⟩ _ _) rfl ⟨by rw [HM.out]; rfl, ?_⟩
        (repeat (first | exact Below.refl _ _ | refine Below.setCell ?_ (by first | omega | (simp; omega) | (simp; done)) _ | refine Below.drew ?_ | refine Law.up ?_ _ | refine Below.alloc ?_ (by first | omega | (simp; omega) | (simp; done)) _ | refine Law.then_ ?_ (Hid.out (by assumption))))
  · have HB : Hid (F.mean zs = (0, 0, false)) := if_neg fun hc => hl (by simp only [Bool.and_eq_true, decide_eq_true_eq]; omega)
    rw [Bool.eq_false_iff.2 hl] at HI
    clear hl
    go_enter Try.func6, Try.ntmps6
    go_wp2_with (go_at_call 16; refine (HI.out _).mono ?_; rintro e w' ⟨rfl, rfl⟩)
    refine ret_frac rfl rfl rfl (b := w.heap.size) (x := .int .i64 0) (y := .int .i64 0) ⟨by go_simp, by go_simp, by go_simp, by go_simp⟩ rfl ⟨by rw [HB.out]; rfl, ?_⟩
    (repeat (first | exact Below.refl _ _ | refine Below.setCell ?_ (by first | omega | (simp; omega) | (simp; done)) _ | refine Below.drew ?_ | refine Law.up ?_ _ | refine Below.alloc ?_ (by first | omega | (simp; omega) | (simp; done)) _ | refine Law.then_ ?_ (Hid.out (by assumption))))
set_option maxHeartbeats 800000 in
theorem implMean_any (A : Option Addr) (c : Nat) (zs : List Int) (w : World) (hn : zs.length ≤ 1048576) (hr : Law.Row w A (ivs zs)) :
    Calls Try.prog 8 #[.slice A zs.length c] w fun e w' => e = .returned (res (F.mean zs)) ∧ Below w.heap.size w w' := by
  have HR := Lib.hid hr
  clear hr
  by_cases hl : (1 : Int) ≤ (zs.length : Int) ∧ (zs.length : Int) ≤ 100
  · obtain ⟨hl1, hl2⟩ := hl
    go_enter Try.func8, Try.ntmps8
    go_wp2
    go_loop [4, 18] (fun s i => ∃ j : Nat, j ≤ zs.length ∧ i = .int .i64 j ∧ s = .int .i64 (F.sumTo zs j) ∧ Hid (∀ i (h : i < zs.length), i < j → -100000000 ≤ zs[i] ∧ zs[i] ≤ 100000000)) (fun _ i => zs.length - (intOf i).toNat)
    case atStart => exact ⟨0, Nat.zero_le _, rfl, rfl, fun i _ hi => by omega⟩
    case round =>
      obtain ⟨j, hj, rfl, rfl, hall⟩ := hrel
      have hsm := F.sumTo_small hj hall.out
      obtain ⟨hs1, hs2⟩ := hsm
      by_cases hlt : j < zs.length
      · obtain ⟨b, off, rfl, hbl, hc⟩ := HR.out.at_ (ivs_at hlt)
        have hltI : (j : Int) < (zs.length : Int) := by omega
        have HS := Lib.hid (F.sumTo_succ hlt)
        by_cases hz : -100000000 ≤ zs[j] ∧ zs[j] ≤ 100000000
        · have HP := Lib.hid hz
          obtain ⟨z1, z2⟩ := hz
          generalize F.sumTo zs j = S at *
          obtain ⟨Z, hZ⟩ : ∃ Z, Z = zs[j] := ⟨_, rfl⟩
          rw [← hZ] at hc z1 z2 HS
          clear hZ
          go_wp2
          go_round
          case rel => exact ⟨j + 1, by omega, by go_num, by rw [HS.out], fun i h hi => by
            rcases Nat.lt_or_ge i j with h' | h'
            · exact hall.out i h h'
            · obtain rfl : i = j := by omega
              exact HP.out⟩
          case measure => simp [intOf]; omega
        · have HB := Lib.hid (F.mean_bad hlt hz)
          obtain ⟨Z, hZ⟩ : ∃ Z, Z = zs[j] := ⟨_, rfl⟩
          rw [← hZ] at hc HS hz
          have HZ := Lib.hid hz
          clear hZ hz
          by_cases h1 : Z < -100000000
          · go_wp2
            refine ret_frac rfl rfl rfl (b := w.heap.size) (x := .int .i64 0) (y := .int .i64 0) ⟨by go_simp, by go_simp, by go_simp, by go_simp⟩ rfl ⟨by rw [HB.out]; rfl, ?_⟩
            (repeat (first | exact Below.refl _ _ | refine Below.setCell ?_ (by first | omega | (simp; omega) | (simp; done)) _ | refine Below.drew ?_ | refine Law.up ?_ _ | refine Below.alloc ?_ (by first | omega | (simp; omega) | (simp; done)) _ | refine Law.then_ ?_ (Hid.out (by assumption))))
          · have h2 : 100000000 < Z := by have := HZ.out; omega
            go_wp2
            refine ret_frac rfl rfl rfl (b := w.heap.size) (x := .int .i64 0) (y := .int .i64 0) ⟨by go_simp, by go_simp, by go_simp, by go_simp⟩ rfl ⟨by rw [HB.out]; rfl, ?_⟩
            (repeat (first | exact Below.refl _ _ | refine Below.setCell ?_ (by first | omega | (simp; omega) | (simp; done)) _ | refine Below.drew ?_ | refine Law.up ?_ _ | refine Below.alloc ?_ (by first | omega | (simp; omega) | (simp; done)) _ | refine Law.then_ ?_ (Hid.out (by assumption))))
      · have hje : j = zs.length := by omega
        have HC := Lib.hid fun W => reduced_any (F.sumTo zs j) (zs.length : Int) W (by omega) (by omega) (by omega) (by omega)
        have HM : Hid (F.mean zs = F.mk (F.sumTo zs j) (zs.length : Int)) := by
          show _ = _
          rw [show F.mean zs = F.mk (F.sumTo zs zs.length) (zs.length : Int) from if_pos ⟨⟨by omega, by omega⟩, fun i h => hall.out i h (by omega)⟩, hje]
        generalize F.mk (F.sumTo zs j) (zs.length : Int) = X at HC HM
        obtain ⟨N, D, ok⟩ := X
        generalize F.sumTo zs j = S at *
        replace HC : Hid (∀ W, Calls Try.prog 18 #[.int .i64 S, .int .i64 (zs.length : Int)] W fun e w' => e = .returned (.tuple #[.agg #[.int .i64 N, .int .i64 D], .bool ok]) ∧ Below W.heap.size W w') := HC
        have hltI : ¬ (j : Int) < (zs.length : Int) := by omega
        have HJ := Lib.hid hje
        clear hje
        go_wp2_with fail
        go_at_call 18
        refine (HC.out _).mono ?_
        rintro e w1 ⟨rfl, hb1⟩
        have B1 : Hid (Below w.heap.size w w1) := Lib.hid (Law.then_ (by (repeat (first | exact Below.refl _ _ | refine Below.setCell ?_ (by first | omega | (simp; omega) | (simp; done)) _ | refine Below.drew ?_ | refine Law.up ?_ _ | refine Below.alloc ?_ (by first | omega | (simp; omega) | (simp; done)) _ | refine Law.then_ ?_ (Hid.out (by assumption))))) hb1)
        have sz1 := hb1.size; (try simp at sz1)
        obtain ⟨c10, c11, f10, f11⟩ := Blk.below (b := w.heap.size) (x := .int .i64 0) (y := .int .i64 0) ⟨by go_simp, by go_simp, by go_simp, by go_simp⟩ hb1 (by first | omega | (simp; omega) | (simp; done))
        clear hb1
        go_wp2
        refine ret_frac rfl rfl rfl (Blk.set2 ⟨c10, c11, f10, f11⟩ _ _) rfl ⟨by rw [HM.out]; rfl, ?_⟩
        (repeat (first | exact Below.refl _ _ | refine Below.setCell ?_ (by first | omega | (simp; omega) | (simp; done)) _ | refine Below.drew ?_ | refine Law.up ?_ _ | refine Below.alloc ?_ (by first | omega | (simp; omega) | (simp; done)) _ | refine Law.then_ ?_ (Hid.out (by assumption))))
  · have HB : Hid (F.mean zs = (0, 0, false)) := if_neg fun hc => hl (by omega)
    have HL := Lib.hid hl
    clear hl
    by_cases h1 : (zs.length : Int) < 1
    · go_enter Try.func8, Try.ntmps8
      go_wp2
      refine ret_frac rfl rfl rfl (b := w.heap.size) (x := .int .i64 0) (y := .int .i64 0) ⟨by go_simp, by go_simp, by go_simp, by go_simp⟩ rfl ⟨by rw [HB.out]; rfl, ?_⟩
      (repeat (first | exact Below.refl _ _ | refine Below.setCell ?_ (by first | omega | (simp; omega) | (simp; done)) _ | refine Below.drew ?_ | refine Law.up ?_ _ | refine Below.alloc ?_ (by first | omega | (simp; omega) | (simp; done)) _ | refine Law.then_ ?_ (Hid.out (by assumption))))
    · have h2 : (100 : Int) < (zs.length : Int) := by have := HL.out; omega
      go_enter Try.func8, Try.ntmps8
      go_wp2
      refine ret_frac rfl rfl rfl (b := w.heap.size) (x := .int .i64 0) (y := .int .i64 0) ⟨by go_simp, by go_simp, by go_simp, by go_simp⟩ rfl ⟨by rw [HB.out]; rfl, ?_⟩
      (repeat (first | exact Below.refl _ _ | refine Below.setCell ?_ (by first | omega | (simp; omega) | (simp; done)) _ | refine Below.drew ?_ | refine Law.up ?_ _ | refine Below.alloc ?_ (by first | omega | (simp; omega) | (simp; done)) _ | refine Law.then_ ?_ (Hid.out (by assumption))))
end Go.Proofs.Ytppmepajcdldkab
