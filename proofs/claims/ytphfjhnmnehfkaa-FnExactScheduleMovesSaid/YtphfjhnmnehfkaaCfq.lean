/-
  The model's l6Ascending and l6Config leave the memory as it is, but for draws.
-/
import Derived.Test.YtphfjhnmnehfkaaRw3
namespace Go.Proofs.Ytphfjhnmnehfkaa
open Go.RowKit
set_option linter.unusedVariables false
set_option maxHeartbeats 400000 in
theorem l6Asc_q (A : Option Addr) (c : Nat) (zs : List Int) (w : World) (hn : zs.length ≤ 1048576) (hr : Law.Row w A (ivs zs)) :
    Calls Try.prog 109 #[.slice A zs.length c] w fun e w' => e = .returned (.bool (Q.asc zs)) ∧ ∃ m, w' = w.drewN m := by
  have HR := Lib.hid hr
  clear hr
  go_enter Try.func109, Try.ntmps109
  go_wp2
  go_loopw [3] (fun i wr => ∃ k : Nat, 1 ≤ k ∧ k ≤ zs.length + 1 ∧ i = .int .i64 (k : Int) ∧ Hid (∀ j, j + 1 < k → j < zs.length - 1 → zs.getD j 0 ≤ zs.getD (j + 1) 0) ∧ Hid (∃ m, wr = w.drewN m) ∧ Hid (Law.Row wr A (ivs zs))) (fun i _ => zs.length + 1 - (intOf i).toNat)
  case atStart => exact ⟨1, by omega, by omega, rfl, fun j hj => by omega, ⟨0, rfl⟩, HR.out⟩
  case round =>
    obtain ⟨k, hk1, hk, rfl, hall, hb, hrw⟩ := hrel
    obtain ⟨j, rfl⟩ : ∃ j, k = j + 1 := ⟨k - 1, by omega⟩
    by_cases hlt : j + 1 < zs.length
    · have hltI : ((j : Int) + 1) < (zs.length : Int) := by omega
      obtain ⟨x, hx⟩ : ∃ x, zs[j]? = some x := ⟨_, List.getElem?_eq_getElem (by omega)⟩
      obtain ⟨y, hy⟩ : ∃ y, zs[j + 1]? = some y := ⟨_, List.getElem?_eq_getElem hlt⟩
      obtain ⟨b, off, rfl, hbl, hc⟩ := hrw.out.at_ (ivs_some hx)
      obtain ⟨b', off', hbe, hbl', hc'⟩ := hrw.out.at_ (ivs_some hy)
      cases hbe
      have hw0 : IntKind.i64.wrap (j : Int) = (j : Int) := IntWalk.i64_in _ (by omega)
      have h0 : (0 : Int) ≤ (j : Int) + 1 - 1 := by omega
      have hjI : ((j : Int) + 1) - 1 < (zs.length : Int) := by omega
      have HDr : Hid (∀ m, ∃ m', wr.drewN m = w.drewN m') := fun m => by
        obtain ⟨m0, h0⟩ := hb.out
        exact ⟨m0 + m, by rw [h0, World.drewN_drewN]⟩
      by_cases hxy : y < x
      · have HN := Lib.hid (Q.asc_not hx hy hxy)
        clear hall hx hy
        go_wp2
        go_quiet (fail)
        go_wp2
        go_ret
        exact ⟨by rw [HN.out]; rfl, HDr.out _⟩
      · have HN : Hid (∀ i, i + 1 < j + 1 + 1 → i < zs.length - 1 → zs.getD i 0 ≤ zs.getD (i + 1) 0) := fun i h1 h2 => by
          by_cases e : i = j
          · subst e
            rw [List.getD_eq_getElem?_getD, List.getD_eq_getElem?_getD, hx, hy]
            simp; omega
          · exact hall.out i (by omega) h2
        clear hall hx hy
        go_wp2
        go_quiet (fail)
        go_wp2
        go_roundw
        case rel => exact ⟨j + 2, by omega, by omega, by go_num, HN.out, HDr.out _, hrw.out.drewN _⟩
        case measure => simp [intOf]; omega
    · have hltI : ¬ ((j : Int) + 1) < (zs.length : Int) := by omega
      have HN : Hid (Q.asc zs = true) := Q.asc_iff.2 fun i hi => hall.out i (by omega) hi
      clear hall
      go_wp2
      go_ret
      exact ⟨by rw [HN.out]; rfl, hb.out⟩
set_option maxHeartbeats 400000 in
theorem l6Config_q (m : Nat) (A : Option Addr) (c : Nat) (zs : List Int) (w : World) (h1 : 1 ≤ m) (h6 : m ≤ 6) (hn : zs.length ≤ 1048576) (hr : Law.Row w A (ivs zs)) :
    Calls Try.prog 58 #[.int .i64 m, .slice A zs.length c] w fun e w' => e = .returned (.bool (Q.servers ((m : Int) - 1) zs)) ∧ ∃ k, w' = w.drewN k := by
  have HL := Lib.hid (l1In_any zs.length 1 3 w)
  have hdec : (decide ((1 : Int) ≤ (zs.length : Int)) && decide ((zs.length : Int) ≤ 3)) = (decide (1 ≤ zs.length) && decide (zs.length ≤ 3)) := by
    congr 1 <;> (rw [decide_eq_decide]; omega)
  rw [hdec] at HL
  have HW := Lib.hid (l6List_any m A c zs w (by omega) (by omega) hn hr)
  have HS := Lib.hid (l6Asc_q A c zs w hn hr)
  have HN : Hid (Q.servers ((m : Int) - 1) zs = ((decide (1 ≤ zs.length) && decide (zs.length ≤ 3)) && (Q.within 0 ((m : Int) - 1) zs && Q.asc zs))) := rfl
  clear hr hdec
  generalize Q.servers ((m : Int) - 1) zs = V at HN ⊢
  generalize Q.asc zs = b at HS HN
  generalize Q.within 0 ((m : Int) - 1) zs = u at HW HN
  generalize (decide (1 ≤ zs.length) && decide (zs.length ≤ 3)) = t at HL HN
  cases t
  · clear HW HS
    go_enter Try.func58, Try.ntmps58
    go_wp2_with fail
    go_at_call 100
    refine (HL.out).mono ?_
    rintro e w' ⟨rfl, hw'⟩
    obtain rfl := hw'.symm
    clear hw'
    go_wp2
    go_ret
    exact ⟨by rw [HN.out]; rfl, 0, rfl⟩
  · cases u
    · clear HS
      go_enter Try.func58, Try.ntmps58
      go_wp2_with fail
      go_at_call 100
      refine (HL.out).mono ?_
      rintro e w' ⟨rfl, hw'⟩
      obtain rfl := hw'.symm
      clear hw'
      go_wp2_with fail
      go_at_call 108
      refine (HW.out).mono ?_
      rintro e w' ⟨rfl, hw'⟩
      obtain rfl := hw'.symm
      clear hw'
      go_wp2
      go_ret
      exact ⟨by rw [HN.out]; rfl, 0, rfl⟩
    · go_enter Try.func58, Try.ntmps58
      go_wp2_with fail
      go_at_call 100
      refine (HL.out).mono ?_
      rintro e w' ⟨rfl, hw'⟩
      obtain rfl := hw'.symm
      clear hw'
      go_wp2_with fail
      go_at_call 108
      refine (HW.out).mono ?_
      rintro e w' ⟨rfl, hw'⟩
      obtain rfl := hw'.symm
      clear hw'
      go_wp2_with fail
      go_at_call 109
      refine HS.out.mono ?_
      rintro e w1 ⟨rfl, hb1⟩
      have HB := Lib.hid hb1
      clear hb1
      go_wp2
      go_ret
      exact ⟨by rw [HN.out]; rfl, HB.out⟩
end Go.Proofs.Ytphfjhnmnehfkaa
