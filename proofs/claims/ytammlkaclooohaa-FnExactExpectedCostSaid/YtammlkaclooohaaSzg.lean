/-
  What the laws' size checks say, to the number: szIntSS with whatever is left, szMetric.
-/
import Derived.Test.YtammlkaclooohaaMet
namespace Go.Proofs.Ytammlkaclooohaa
open Go.RowKit
set_option linter.unusedVariables false
def szN (L : List (List Int)) : Nat := L.length + totL L
def szS (left : Int) (L : List (List Int)) : Int := if (szN L : Int) ≤ left then left - (szN L : Int) else -1
set_option maxHeartbeats 400000 in
theorem szSS_g (A : Option Addr) (c : Nat) (xs : List Value) (L : List (List Int)) (left : Int) (w : World) (h0 : 0 ≤ left) (h1 : left ≤ 1048576) (hn : L.length ≤ maxLen) (hl : ∀ l ∈ L, l.length ≤ maxLen) (hr : NRow w A xs L) :
    Calls Try.prog 42 #[.slice A L.length c, .int .i64 left] w fun e w' => e = .returned (.int .i64 (szS left L)) ∧ w' = w := by
  have hn' : (L.length : Int) ≤ 9223372036854775807 := by have := maxLen_num; omega
  have hw : IntKind.i64.wrap (left - (L.length : Int)) = left - (L.length : Int) := IntWalk.i64_in _ (by omega)
  have HR := Lib.hid hr
  have HL := Lib.hid hl
  have HT := Lib.hid (totL_le L)
  have HNo : Hid (¬ ((L.length + totL L : Nat) : Int) ≤ left → szS left L = -1) := fun h => if_neg h
  have HYes : Hid (((L.length + totL L : Nat) : Int) ≤ left → szS left L = left - ((L.length + totL L : Nat) : Int)) := fun h => if_pos h
  generalize szS left L = V at HNo HYes ⊢
  clear hr hl
  by_cases h : left - (L.length : Int) < 0
  · have hV := Lib.hid (HNo.out (by omega))
    go_enter Try.func42, Try.ntmps42
    go_wp2
    go_ret
    exact ⟨by rw [hV.out]; rfl, rfl⟩
  · go_enter Try.func42, Try.ntmps42
    go_wp2
    go_loop [1, 5] (fun s i => ∃ (j : Nat) (z : Int), j ≤ L.length ∧ i = .int .i64 j ∧ s = .int .i64 z ∧ 0 ≤ z ∧ z ≤ 1048576 ∧ Hid (z = left - (L.length : Int) - (totL (L.take j) : Nat))) (fun _ i => L.length - (intOf i).toNat)
    case atStart => exact ⟨0, _, Nat.zero_le _, rfl, rfl, by omega, by omega, by show _ = _; simp [totL]⟩
    case round =>
      obtain ⟨j, z, hj, rfl, rfl, hz0, hz1, hz⟩ := hrel
      by_cases hlt : j < L.length
      · have hltI : (j : Int) < (L.length : Int) := by omega
        obtain ⟨l, hlj⟩ : ∃ l, L[j]? = some l := ⟨_, List.getElem?_eq_getElem hlt⟩
        obtain ⟨x, hx⟩ : ∃ x, xs[j]? = some x := ⟨_, List.getElem?_eq_getElem (by rw [HR.out.len]; exact hlt)⟩
        obtain ⟨B, cB, rfl, hrB⟩ := HR.out.at_ j x l hx hlj
        obtain ⟨b, off, rfl, hbl, hc⟩ := HR.out.row.at_ hx
        have HI := Lib.hid (szInt_any B l.length cB z w hz0 hz1 (HL.out l (List.mem_of_getElem? hlj)))
        have HTn := Lib.hid (totL_take hlj)
        have HTl := Lib.hid (HT.out (j + 1))
        clear hlj hx hrB
        generalize l.length = n at HI HTn hc
        by_cases hneg : z - (n : Int) < 0
        · rw [if_pos hneg] at HI
          have hV := Lib.hid (HNo.out (by have h2 := hz.out; have h3 := HTn.out; have h4 := HTl.out; omega))
          go_wp2_with (go_at_call 62; refine (HI.out).mono ?_; rintro e w' ⟨rfl, hw'⟩; subst hw')
          go_ret
          exact ⟨by rw [hV.out]; rfl, rfl⟩
        · rw [if_neg hneg] at HI
          go_wp2_with (go_at_call 62; refine (HI.out).mono ?_; rintro e w' ⟨rfl, hw'⟩; subst hw')
          go_round
          case rel => exact ⟨j + 1, _, by omega, by go_num, rfl, by omega, by omega, by show _ = _; rw [HTn.out, hz.out]; omega⟩
          case measure => simp [intOf]; omega
      · have hje : j = L.length := by omega
        have hltI : ¬ (j : Int) < (L.length : Int) := by omega
        have hV : Hid (V = z) := by
          have h2 := hz.out
          rw [hje, List.take_length] at h2
          have h3 := HYes.out (by omega)
          show _ = _
          omega
        clear hje
        go_wp2
        go_ret
        exact ⟨by rw [hV.out]; rfl, rfl⟩
theorem szOk_N {L : List (List Int)} : szOk L = decide (szN L ≤ 1048576) := rfl
end Go.Proofs.Ytammlkaclooohaa
