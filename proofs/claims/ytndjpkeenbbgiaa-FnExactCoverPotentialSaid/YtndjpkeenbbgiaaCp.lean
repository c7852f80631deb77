/-
  CoverPotential: the mathematics; the model's.
-/
import Derived.Test.YtndjpkeenbbgiaaRdI
namespace Go.Proofs.Ytndjpkeenbbgiaa
open Go.RowKit
set_option linter.unusedVariables false
namespace Q
/-- The differences of place i to the first k places before it. -/
def sprI (a : List Int) (i : Nat) : Nat → Int
  | 0 => 0
  | k + 1 => sprI a i k + (a.getD i 0 - a.getD k 0)
def spr (a : List Int) : Nat → Int
  | 0 => 0
  | i + 1 => spr a i + sprI a i i
theorem sprI_next {a : List Int} {i k : Nat} {x y : Int} (hx : a[i]? = some x) (hy : a[k]? = some y) : sprI a i (k + 1) = sprI a i k + (x - y) := by
  rw [sprI, List.getD_eq_getElem?_getD, List.getD_eq_getElem?_getD, hx, hy]
  rfl
theorem sprI_bd {a : List Int} (ha : within 0 99 a = true) {i : Nat} (hi : i < a.length) : ∀ k, k ≤ i → -99 * (k : Int) ≤ sprI a i k ∧ sprI a i k ≤ 99 * (k : Int)
  | 0, _ => by simp [sprI]
  | k + 1, h => by
    have ih := sprI_bd ha hi k (by omega)
    obtain ⟨x, hx, _, _⟩ := within_at ha hi
    obtain ⟨y, hy, _, _⟩ := within_at ha (k := k) (by omega)
    rw [sprI_next hx hy]
    omega
theorem spr_bd {a : List Int} (ha : within 0 99 a = true) (h3 : a.length ≤ 3) : ∀ i, i ≤ a.length → -297 * (i : Int) ≤ spr a i ∧ spr a i ≤ 297 * (i : Int)
  | 0, _ => by simp [spr]
  | i + 1, h => by
    have ih := spr_bd ha h3 i (by omega)
    have := sprI_bd ha (i := i) (by omega) i (Nat.le_refl _)
    rw [spr]
    omega
def pot (a b : List Int) : Int := (a.length : Int) * dist a b a.length + spr a a.length
def cpQ (a b : List Int) : Int × Bool := if (rowQ a && rowQ b) && decide (a.length = b.length) then (pot a b, true) else (0, false)
theorem cpQ_yes {a b : List Int} (h1 : rowQ a = true) (h2 : rowQ b = true) (h : a.length = b.length) : cpQ a b = (pot a b, true) := if_pos (by simp [h1, h2, h])
theorem cpQ_no1 {a b : List Int} (h1 : rowQ a = false) : cpQ a b = (0, false) := if_neg (by simp [h1])
theorem cpQ_no2 {a b : List Int} (h1 : rowQ b = false) : cpQ a b = (0, false) := if_neg (by simp [h1])
theorem cpQ_no3 {a b : List Int} (h : ¬ a.length = b.length) : cpQ a b = (0, false) := if_neg (by simp [h])
/-- The product, with its bounds. -/
theorem pot_split {a b : List Int} (h1 : rowQ a = true) (h2 : rowQ b = true) (h : a.length = b.length) : 0 ≤ (a.length : Int) * dist a b a.length ∧ (a.length : Int) * dist a b a.length ≤ 891 := by
  obtain ⟨g1, h3, hwa, _⟩ := servers_iff.1 h1
  obtain ⟨_, _, hwb, _⟩ := servers_iff.1 h2
  have := dist_bd hwa hwb h a.length (Nat.le_refl _)
  generalize dist a b a.length = D at *
  have h4 : a.length = 1 ∨ a.length = 2 ∨ a.length = 3 := by omega
  rcases h4 with e | e | e <;> rw [e] at * <;> omega
end Q
set_option maxHeartbeats 800000 in
theorem l6Spread_any (A : Option Addr) (c : Nat) (xs : List Int) (w : World) (hw : Q.within 0 99 xs = true) (h3 : xs.length ≤ 3) (hr : Law.Row w A (ivs xs)) :
    Calls Try.prog 66 #[.slice A xs.length c] w fun e w' => e = .returned (.int .i64 (Q.spr xs xs.length)) ∧ Below w.heap.size w w' := by
  have HX : Hid (∀ k, k < xs.length → ∃ x, xs[k]? = some x ∧ 0 ≤ x ∧ x ≤ 99) := fun k h => Q.within_at hw h
  have HBD := Lib.hid (Q.spr_bd hw h3)
  have HBI : Hid (∀ i, i < xs.length → ∀ k, k ≤ i → -99 * (k : Int) ≤ Q.sprI xs i k ∧ Q.sprI xs i k ≤ 99 * (k : Int)) := fun i h => Q.sprI_bd hw h
  have HR := Lib.hid hr
  clear hr hw
  go_enter Try.func66, Try.ntmps66
  go_wp2
  go_loopw [3, 4] (fun q i wr => ∃ k : Nat, k ≤ xs.length ∧ i = .int .i64 (k : Int) ∧ q = .int .i64 (Q.spr xs k) ∧ Hid (Below w.heap.size w wr)) (fun _ i _ => xs.length - (intOf i).toNat)
  case atStart => exact ⟨0, by omega, rfl, rfl, Below.refl _ _⟩
  case round =>
    obtain ⟨i, hi, rfl, rfl, hb⟩ := hrel
    have hbd := HBD.out i hi
    by_cases hlt : i < xs.length
    · have hltI : (i : Int) < (xs.length : Int) := by omega
      obtain ⟨wo, hwo⟩ : ∃ wo, wo = wr := ⟨_, rfl⟩
      rw [← hwo] at hb ⊢
      clear hwo
      have HS : Hid (Q.spr xs (i + 1) = Q.spr xs i + Q.sprI xs i i) := rfl
      generalize Q.spr xs i = S at HS hbd ⊢
      go_wp2
      go_loopw [3, 5] (fun q j wr => ∃ k : Nat, k ≤ i ∧ j = .int .i64 (k : Int) ∧ q = .int .i64 (S + Q.sprI xs i k) ∧ Hid (Below w.heap.size w wr)) (fun _ j _ => i - (intOf j).toNat)
      case atStart => exact ⟨0, by omega, rfl, by rw [Q.sprI]; simp, hb⟩
      case round =>
        obtain ⟨k, hk, rfl, rfl, hb2⟩ := hrel
        have hbi := HBI.out i hlt k hk
        by_cases hlt2 : k < i
        · have hltI2 : (k : Int) < (i : Int) := by omega
          have hltI3 : (k : Int) < (xs.length : Int) := by omega
          obtain ⟨x, hx, hx0, hx1⟩ := HX.out i hlt
          obtain ⟨y, hy, hy0, hy1⟩ := HX.out k (by omega)
          obtain ⟨b, off, rfl, hbl, hc⟩ := (HR.out.stays hb2.out).at_ (ivs_some hx)
          obtain ⟨b', off', hbe, hbl', hc'⟩ := (HR.out.stays hb2.out).at_ (ivs_some hy)
          cases hbe
          have HT := Lib.hid (Q.sprI_next hx hy)
          generalize Q.sprI xs i k = D at HT hbi ⊢
          clear hx hy
          have hw1 : IntKind.i64.wrap (S + D + x) = S + D + x := IntWalk.i64_in _ (by omega)
          have hw2 : IntKind.i64.wrap (S + D + x - y) = S + D + x - y := IntWalk.i64_in _ (by omega)
          go_wp2
          go_quiet (fail)
          go_wp2
          go_roundw
          case rel => exact ⟨k + 1, by omega, by go_num, by rw [HT.out]; congr 1; omega, Law.up hb2.out _⟩
          case measure => simp [intOf]; omega
        · have hke : k = i := by omega
          subst hke
          have hltI2 : ¬ (k : Int) < (k : Int) := by omega
          go_wp2
          go_roundw
          case rel => exact ⟨k + 1, by omega, by go_num, by rw [HS.out], hb2⟩
          case measure => simp [intOf]; omega
    · have hke : i = xs.length := by omega
      have hltI : ¬ (i : Int) < (xs.length : Int) := by omega
      have HE := Lib.hid hke
      clear hke
      go_wp2
      go_ret
      exact ⟨by rw [← HE.out]; rfl, hb.out⟩
end Go.Proofs.Ytndjpkeenbbgiaa
