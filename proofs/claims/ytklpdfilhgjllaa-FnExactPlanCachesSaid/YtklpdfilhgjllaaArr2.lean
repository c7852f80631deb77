/-
  Slices of arrays of two ints in the laws' own helpers: 'eqIntA2', 'eqIntA2S'.
-/
import Derived.Test.YtklpdfilhgjllaaArr
import Derived.Test.YtklpdfilhgjllaaLaw2
import Derived.OwnWalk
import Derived.LoopTactic
namespace Go.Proofs.Ytklpdfilhgjllaa
open Go.RowKit
set_option linter.unusedVariables false
theorem infoA2 : (Try.prog.info? 76).map (fun i => (i.zero, i.size, i.bytes)) = some (some (.agg #[.int .i64 0, .int .i64 0]), 2, 16) := by kernel_rfl
/-- The cells of a row of arrays of two ints. -/
def pvs : List (Int × Int) → List Value
  | [] => []
  | z :: zs => .int .i64 z.1 :: .int .i64 z.2 :: pvs zs
theorem pvs_len : ∀ zs : List (Int × Int), (pvs zs).length = zs.length * 2
  | [] => rfl
  | z :: zs => by simp [pvs, pvs_len zs]; omega
theorem pvs_at : ∀ {zs : List (Int × Int)} {k : Nat} {z : Int × Int}, zs[k]? = some z → (pvs zs)[k * 2]? = some (.int .i64 z.1) ∧ (pvs zs)[k * 2 + 1]? = some (.int .i64 z.2)
  | [], k, z, h => by simp at h
  | y :: ys, 0, z, h => by simp at h; subst h; exact ⟨rfl, rfl⟩
  | y :: ys, k + 1, z, h => by
    have := pvs_at (zs := ys) (k := k) (z := z) (by simpa using h)
    have e : (k + 1) * 2 = k * 2 + 1 + 1 := by omega
    rw [e]
    simpa [pvs] using this
theorem pvs_snoc : ∀ (zs : List (Int × Int)) (z : Int × Int), pvs (zs ++ [z]) = pvs zs ++ [.int .i64 z.1, .int .i64 z.2]
  | [], z => rfl
  | y :: ys, z => by simp [pvs, pvs_snoc ys z]
/-- The first k pairs lie in the cells xs, two to each. -/
def Fill (zs : List (Int × Int)) (k : Nat) (xs : List Value) : Prop := ∀ j, j < k → ∀ z, zs[j]? = some z → xs[j * 2]? = some (.int .i64 z.1) ∧ xs[j * 2 + 1]? = some (.int .i64 z.2)
theorem Fill.next {zs : List (Int × Int)} {k : Nat} {xs : List Value} (h : Fill zs k xs) {z : Int × Int} (hz : zs[k]? = some z) (hl : k * 2 + 1 < xs.length) : Fill zs (k + 1) ((xs.set (k * 2) (.int .i64 z.1)).set (k * 2 + 1) (.int .i64 z.2)) := by
  intro j hj y hy
  rcases Nat.lt_or_ge j k with h' | h'
  · obtain ⟨a, b⟩ := h j h' y hy
    rw [List.getElem?_set_ne (by omega), List.getElem?_set_ne (by omega), List.getElem?_set_ne (by omega), List.getElem?_set_ne (by omega)]
    exact ⟨a, b⟩
  · obtain rfl : j = k := by omega
    rw [hz] at hy
    injection hy with hy
    subst hy
    constructor
    · rw [List.getElem?_set_ne (by omega), List.getElem?_set_self (by omega)]
    · rw [List.getElem?_set_self (by rw [List.length_set]; omega)]
theorem Fill.all {zs : List (Int × Int)} {xs : List Value} (h : Fill zs zs.length xs) (hl : xs.length = zs.length * 2) : xs = pvs zs := by
  apply List.ext_getElem?
  intro i
  by_cases hi : i < xs.length
  · have hj : i / 2 < zs.length := by omega
    have hz : zs[i / 2]? = some zs[i / 2] := List.getElem?_eq_getElem hj
    obtain ⟨a, b⟩ := h _ hj _ hz
    obtain ⟨c, d⟩ := pvs_at hz
    have hp : i = i / 2 * 2 ∨ i = i / 2 * 2 + 1 := by omega
    rcases hp with hp | hp
    · rw [hp, a, c]
    · rw [hp, b, d]
  · rw [List.getElem?_eq_none (by omega), List.getElem?_eq_none (by rw [pvs_len]; omega)]
/-- A row of the call's own of arrays of two ints is one that holds them. -/
theorem row2_own {w : World} {base n c : Nat} {e : TypeId} {A : Option Addr} {zs : List (Int × Int)} (h : w.ownsRow base e 2 (.slice A n c) n (pvs zs)) : Law.Row2 w A zs := fun hne => by
  have hl := h.1
  rw [pvs_len] at hl
  have hpos : 0 < zs.length := List.length_pos_iff.2 hne
  rcases h.2 with ⟨_, h0⟩ | ⟨g, cap, cur, hv, hb, hg, _⟩
  · omega
  · injection hv with hA
    subst hA
    refine ⟨g, 0, rfl, (Array.getElem?_eq_some_iff.1 hg).1, fun j z hz => ?_⟩
    have hj := (List.getElem?_eq_some_iff.1 hz).1
    obtain ⟨a, b⟩ := pvs_at hz
    rw [Nat.zero_add]
    exact ⟨(h.cellAt (j * 2) (by omega)).trans a, (h.cellAt (j * 2 + 1) (by omega)).trans b⟩
theorem Blk.drewN {w : World} {b : Nat} {x y : Value} (h : Blk w b x y) (m : Nat) : Blk (w.drewN m) b x y := ⟨h.c0, h.c1, h.f0, h.f1⟩
set_option maxHeartbeats 800000 in
theorem eqA2_same (x y : Int) (w : World) : Calls Try.prog 73 #[av x y, av x y] w fun e w' => e = .returned (.bool true) ∧ Below w.heap.size w w' := by
  go_enter Try.func73, Try.ntmps73
  go_wp2
  go_loopw [5] (fun i wr => ∃ k : Nat, k ≤ 2 ∧ i = .int .i64 k ∧ Hid (Blk wr w.heap.size (.int .i64 x) (.int .i64 y)) ∧ Hid (Blk wr (w.heap.size + 1) (.int .i64 x) (.int .i64 y)) ∧ Hid (Below w.heap.size w wr)) (fun i _ => 2 - (intOf i).toNat)
  case atStart =>
    refine ⟨0, by omega, rfl, ⟨by go_simp, by go_simp, by go_simp, by go_simp⟩, ⟨by go_simp, by go_simp, by go_simp, by go_simp⟩, ?_⟩
    show Below _ _ _
    (repeat (first | exact Below.refl _ _ | refine Below.setCell ?_ (by first | omega | (simp; omega) | (simp; done)) _ | refine Below.drew ?_ | refine Law.up ?_ _ | refine Below.alloc ?_ (by first | omega | (simp; omega) | (simp; done)) _ | refine Law.then_ ?_ (Hid.out (by assumption))))
  case round =>
    obtain ⟨k, hk, rfl, h0, h1, hb⟩ := hrel
    obtain ⟨a0, a1, _, _⟩ := h0.out
    obtain ⟨b0, b1, _, _⟩ := h1.out
    have hk3 : k = 0 ∨ k = 1 ∨ k = 2 := by omega
    rcases hk3 with rfl | rfl | rfl
    · go_wp2
      go_quiet (fail)
      go_wp2
      go_roundw
      case rel => exact ⟨1, by omega, by go_num, h0.out.drewN _, h1.out.drewN _, Law.up hb.out _⟩
      case measure => simp [intOf]
    · go_wp2
      go_quiet (fail)
      go_wp2
      go_roundw
      case rel => exact ⟨2, by omega, by go_num, h0.out.drewN _, h1.out.drewN _, Law.up hb.out _⟩
      case measure => simp [intOf]
    · go_wp2
      go_ret
      exact ⟨rfl, hb.out⟩
set_option maxHeartbeats 1600000 in
/-- Two rows with the same arrays are equal for 'eqIntA2S'. -/
theorem eqA2S_same (A B : Option Addr) (c d : Nat) (zs : List (Int × Int)) (w : World) (hn : zs.length ≤ 1048576) (ha : Law.Row2 w A zs) (hb : Law.Row2 w B zs) :
    Calls Try.prog 38 #[.slice A zs.length c, .slice B zs.length d] w fun e w' => e = .returned (.bool true) ∧ Below w.heap.size w w' := by
  have HA := Lib.hid ha
  have HB := Lib.hid hb
  clear ha hb
  go_enter Try.func38, Try.ntmps38
  go_wp2
  go_loopw [5] (fun i wr => ∃ k : Nat, k ≤ zs.length ∧ i = .int .i64 k ∧ Hid (Below w.heap.size w wr)) (fun i _ => zs.length - (intOf i).toNat)
  case atStart => exact ⟨0, Nat.zero_le _, rfl, Below.refl _ _⟩
  case round =>
    obtain ⟨k, hk, rfl, hbw⟩ := hrel
    by_cases hlt : k < zs.length
    · have hzk : zs[k]? = some zs[k] := List.getElem?_eq_getElem hlt
      obtain ⟨b, off, rfl, hbl, hc0, hc1⟩ := HA.out.at_ hzk
      obtain ⟨b', off', rfl, hbl', hd0, hd1⟩ := HB.out.at_ hzk
      have hltI : (k : Int) < (zs.length : Int) := by omega
      generalize zs[k].1 = z1 at hc0 hc1 hd0 hd1
      generalize zs[k].2 = z2 at hc0 hc1 hd0 hd1
      have HM : Hid (∀ w' : World, Below w.heap.size w w' → w'.cell? ⟨b, off + k * 2, none⟩ = some (.int .i64 z1) ∧ w'.cell? ⟨b, off + k * 2 + 1, none⟩ = some (.int .i64 z2) ∧ w'.cell? ⟨b', off' + k * 2, none⟩ = some (.int .i64 z1) ∧ w'.cell? ⟨b', off' + k * 2 + 1, none⟩ = some (.int .i64 z2) ∧ Below w.heap.size w w') := Lib.hid fun w' h => ⟨(h.cell (p := ⟨b, off + k * 2, none⟩) hbl).trans hc0, (h.cell (p := ⟨b, off + k * 2 + 1, none⟩) hbl).trans hc1, (h.cell (p := ⟨b', off' + k * 2, none⟩) hbl').trans hd0, (h.cell (p := ⟨b', off' + k * 2 + 1, none⟩) hbl').trans hd1, h⟩
      clear hc0 hc1 hd0 hd1 hzk
      obtain ⟨e0, e1, e2, e3, _⟩ := HM.out wr hbw.out
      have hs0 := HM.out wr.drew hbw.out.drew
      go_wp2_with fail
      go_region_held3 (fun w' => w'.cell? ⟨b, off + k * 2, none⟩ = some (.int .i64 z1) ∧ w'.cell? ⟨b, off + k * 2 + 1, none⟩ = some (.int .i64 z2) ∧ w'.cell? ⟨b', off' + k * 2, none⟩ = some (.int .i64 z1) ∧ w'.cell? ⟨b', off' + k * 2 + 1, none⟩ = some (.int .i64 z2) ∧ Below w.heap.size w w') ((first | exact hs0 | exact HM.out _ (Law.then_ (by assumption : _ ∧ _ ∧ _ ∧ _ ∧ Below w.heap.size w _).2.2.2.2 (by assumption)))) (first
        | (go_at_call 73; refine (eqA2_same z1 z2 _).mono ?_; rintro e w1 ⟨rfl, hb1⟩))
      all_goals
        have hh := (by assumption : _ ∧ _ ∧ _ ∧ _ ∧ Below w.heap.size w w1)
        have HL := Lib.hid hh.2.2.2.2
        clear hh hs0 hb1
        go_wp2
        go_roundw
        case rel => exact ⟨k + 1, by omega, by go_num, HL.out⟩
        case measure => simp [intOf]; omega
    · have hltI : ¬ (k : Int) < (zs.length : Int) := by omega
      go_wp2
      go_ret
      exact ⟨rfl, hbw.out⟩
end Go.Proofs.Ytklpdfilhgjllaa
