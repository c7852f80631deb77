/-
  CoverPotential: the code's.
-/
import Derived.Test.YtndjpkeenbbgiaaCp
namespace Go.Proofs.Ytndjpkeenbbgiaa
open Go.RowKit
set_option linter.unusedVariables false
set_option maxHeartbeats 1600000 in
theorem impCp_good (A B : Option Addr) (c d : Nat) (xs ys : List Int) (w : World) (hn : xs.length ≤ c) (h1 : Q.rowQ xs = true) (h2 : Q.rowQ ys = true) (h : xs.length = ys.length) (hr : Law.Row w A (ivs xs)) (hs : Law.Row w B (ivs ys)) :
    Calls Try.prog 31 #[.slice A xs.length c, .slice B ys.length d] w fun e w' => e = .returned (.tuple #[.int .i64 (Q.pot xs ys), .bool true]) ∧ Below w.heap.size w w' := by
  obtain ⟨g1, g3, hwa, _⟩ := Q.servers_iff.1 h1
  have HC := Lib.hid (impRd_any xs ys A B c d (by omega) (by omega) w hr hs)
  rw [Q.rdQ_yes h1 h2 h] at HC
  have HX : Hid (∀ k, k < xs.length → ∃ x, xs[k]? = some x ∧ 0 ≤ x ∧ x ≤ 99) := fun k h => Q.within_at hwa h
  have HBD := Lib.hid (Q.spr_bd hwa g3)
  have HBI : Hid (∀ i, i < xs.length → ∀ k, k ≤ i → -99 * (k : Int) ≤ Q.sprI xs i k ∧ Q.sprI xs i k ≤ 99 * (k : Int)) := fun i h => Q.sprI_bd hwa h
  obtain ⟨hp1, hp2⟩ := Q.pot_split h1 h2 h
  have HP : Hid (Q.pot xs ys = (xs.length : Int) * Q.dist xs ys xs.length + Q.spr xs xs.length) := rfl
  generalize Q.pot xs ys = V at HP ⊢
  have HR := Lib.hid hr
  rw [← h] at HC ⊢
  clear hr hs h1 h2 hwa h
  generalize Q.dist xs ys xs.length = D at HC HP hp1 hp2
  obtain ⟨P, hP⟩ : ∃ P, (xs.length : Int) * D = P := ⟨_, rfl⟩
  rw [hP] at hp1 hp2 HP
  go_enter Try.func31, Try.ntmps31
  go_wp2_with fail
  go_at_call 22
  refine HC.out.mono ?_
  rintro e w1 ⟨rfl, hb1⟩
  have HB := Lib.hid hb1
  clear hb1 HC
  go_wp2
  go_loopw [8, 27] (fun q i wr => ∃ k : Nat, k ≤ xs.length ∧ i = .int .i64 (k : Int) ∧ q = .int .i64 (P + Q.spr xs k) ∧ Hid (Below w.heap.size w wr)) (fun _ i _ => xs.length - (intOf i).toNat)
  case atStart => exact ⟨0, by omega, rfl, by rw [Q.spr]; simp, HB.out⟩
  case round =>
    obtain ⟨i, hi, rfl, rfl, hb⟩ := hrel
    have hbd := HBD.out i hi
    by_cases hlt : i < xs.length
    · have hltI : (i : Int) < (xs.length : Int) := by omega
      have hcI : (i : Int) ≤ (c : Int) := by omega
      obtain ⟨wo, hwo⟩ : ∃ wo, wo = wr := ⟨_, rfl⟩
      rw [← hwo] at hb ⊢
      clear hwo
      have HS : Hid (Q.spr xs (i + 1) = Q.spr xs i + Q.sprI xs i i) := rfl
      generalize Q.spr xs i = S at HS hbd ⊢
      obtain ⟨x, hx, hx0, hx1⟩ := HX.out i hlt
      obtain ⟨b, off, rfl, hbl, hc⟩ := (HR.out.stays hb.out).at_ (ivs_some hx)
      go_wp2
      go_loopw [8, 36] (fun q j wr => ∃ k : Nat, k ≤ i ∧ j = .int .i64 (k : Int) ∧ q = .int .i64 (P + S + Q.sprI xs i k) ∧ Hid (Below w.heap.size w wr)) (fun _ j _ => i - (intOf j).toNat)
      case atStart => exact ⟨0, by omega, rfl, by rw [Q.sprI]; simp, hb⟩
      case round =>
        obtain ⟨k, hk, rfl, rfl, hb2⟩ := hrel
        have hbi := HBI.out i hlt k hk
        by_cases hlt2 : k < i
        · have hltI2 : (k : Int) < (i : Int) := by omega
          obtain ⟨y, hy, hy0, hy1⟩ := HX.out k (by omega)
          obtain ⟨b', off', hbe, hbl', hc'⟩ := (HR.out.stays hb2.out).at_ (ivs_some hy)
          cases hbe
          have HT := Lib.hid (Q.sprI_next hx hy)
          generalize Q.sprI xs i k = D2 at HT hbi ⊢
          clear hy
          have hw1 : IntKind.i64.wrap (x - y) = x - y := IntWalk.i64_in _ (by omega)
          have hw2 : IntKind.i64.wrap (P + S + D2 + (x - y)) = P + S + D2 + (x - y) := IntWalk.i64_in _ (by omega)
          go_wp2
          go_roundw
          case rel => exact ⟨k + 1, by omega, by go_num, by rw [HT.out]; congr 1; omega, hb2⟩
          case measure => simp [intOf]; omega
        · have hke : k = i := by omega
          subst hke
          have hltI2 : ¬ (k : Int) < (k : Int) := by omega
          clear hx
          go_wp2
          go_roundw
          case rel => exact ⟨k + 1, by omega, by go_num, by rw [HS.out]; congr 1; omega, hb2⟩
          case measure => simp [intOf]; omega
    · have hke : i = xs.length := by omega
      have hltI : ¬ (i : Int) < (xs.length : Int) := by omega
      have HE := Lib.hid hke
      clear hke
      go_wp2
      go_ret2
      exact ⟨by rw [HP.out, ← HE.out]; rfl, hb.out⟩
set_option maxHeartbeats 400000 in
theorem impCp_any (xs ys : List Int) (A B : Option Addr) (c d : Nat) (hl : xs.length ≤ 1048576) (hl' : ys.length ≤ 1048576) (w : World) (hn : xs.length ≤ c) (hr : Law.Row w A (ivs xs)) (hs : Law.Row w B (ivs ys)) :
    Calls Try.prog 31 #[.slice A xs.length c, .slice B ys.length d] w fun e w' => e = .returned (.tuple #[.int .i64 (Q.cpQ xs ys).1, .bool (Q.cpQ xs ys).2]) ∧ Below w.heap.size w w' := by
  have HC := Lib.hid (impRd_any xs ys A B c d hl hl' w hr hs)
  cases hq : ((Q.rowQ xs && Q.rowQ ys) && decide (xs.length = ys.length))
  · rw [show Q.cpQ xs ys = (0, false) by simp only [Q.cpQ, hq]; rfl]
    rw [show Q.rdQ xs ys = (0, false) by simp only [Q.rdQ, hq]; rfl] at HC
    clear hr hs hq
    go_enter Try.func31, Try.ntmps31
    go_wp2_with fail
    go_at_call 22
    refine HC.out.mono ?_
    rintro e w1 ⟨rfl, hb1⟩
    have HB := Lib.hid hb1
    clear hb1 HC
    go_wp2
    go_ret2
    exact ⟨rfl, HB.out⟩
  · have h : (Q.rowQ xs = true ∧ Q.rowQ ys = true) ∧ xs.length = ys.length := by simpa using hq
    rw [Q.cpQ_yes h.1.1 h.1.2 h.2]
    exact impCp_good A B c d xs ys w hn h.1.1 h.1.2 h.2 hr hs
end Go.Proofs.Ytndjpkeenbbgiaa
