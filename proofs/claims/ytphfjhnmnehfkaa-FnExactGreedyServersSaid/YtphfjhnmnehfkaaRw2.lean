/-
  Rows of servers: IsSorted, isServers, isRow, apart; l6Row, l1Most.
-/
import Derived.Test.YtphfjhnmnehfkaaRw
namespace Go.Proofs.Ytphfjhnmnehfkaa
open Go.RowKit
set_option linter.unusedVariables false
theorem isNaN_any (x : Int) (w : World) : Calls Try.prog 155 #[.int .i64 x] w fun e w' => e = .returned (.bool false) ∧ w' = w := by
  go_enter Try.func155, Try.ntmps155
  go_wp2
  go_ret
  exact ⟨by simp, rfl⟩
theorem less_any (x y : Int) (w : World) : Calls Try.prog 139 #[.int .i64 x, .int .i64 y] w fun e w' => e = .returned (.bool (decide (x < y))) ∧ w' = w := by
  have HI := Lib.hid fun W => isNaN_any x W
  go_enter Try.func139, Try.ntmps139
  go_wp2_with (go_at_call 155; refine (HI.out _).mono ?_; rintro e w' ⟨rfl, hw'⟩; subst hw')
  go_ret
  exact ⟨rfl, rfl⟩
set_option maxHeartbeats 400000 in
theorem isSorted_any (A : Option Addr) (c : Nat) (zs : List Int) (w : World) (h1 : 1 ≤ zs.length) (hn : zs.length ≤ 1048576) (hr : Law.Row w A (ivs zs)) :
    Calls Try.prog 149 #[.slice A zs.length c] w fun e w' => e = .returned (.bool (Q.asc zs)) ∧ Below w.heap.size w w' := by
  have HR := Lib.hid hr
  clear hr
  have h0 : (1 : Int) ≤ (zs.length : Int) := by omega
  go_enter Try.func149, Try.ntmps149
  go_wp2
  go_loopw [3] (fun i wr => ∃ k : Nat, k ≤ zs.length - 1 ∧ i = .int .i64 (k : Int) ∧ Hid (∀ j, k ≤ j → j < zs.length - 1 → zs.getD j 0 ≤ zs.getD (j + 1) 0) ∧ Hid (Below w.heap.size w wr)) (fun i _ => (intOf i).toNat)
  case atStart => exact ⟨zs.length - 1, by omega, by congr 1; omega, fun j hj => by omega, Below.refl _ _⟩
  case round =>
    obtain ⟨k, hk, rfl, hall, hb⟩ := hrel
    by_cases hlt : 0 < k
    · obtain ⟨j, rfl⟩ : ∃ j, k = j + 1 := ⟨k - 1, by omega⟩
      have hltI : (0 : Int) < ((j : Int) + 1) := by omega
      obtain ⟨x, hx⟩ : ∃ x, zs[j]? = some x := ⟨_, List.getElem?_eq_getElem (by omega)⟩
      obtain ⟨y, hy⟩ : ∃ y, zs[j + 1]? = some y := ⟨_, List.getElem?_eq_getElem (by omega)⟩
      obtain ⟨b, off, rfl, hbl, hc⟩ := (HR.out.stays hb.out).at_ (ivs_some hx)
      obtain ⟨b', off', hbe, hbl', hc'⟩ := (HR.out.stays hb.out).at_ (ivs_some hy)
      cases hbe
      have hw0 : IntKind.i64.wrap (j : Int) = (j : Int) := IntWalk.i64_in _ (by omega)
      have hjI : ((j : Int) + 1) < (zs.length : Int) := by omega
      have hjI2 : (j : Int) < (zs.length : Int) := by omega
      have HI := Lib.hid fun W => less_any y x W
      by_cases hxy : y < x
      · have HN := Lib.hid (Q.asc_not hx hy hxy)
        rw [show decide (y < x) = true from decide_eq_true hxy] at HI
        clear hall hx hy hxy
        go_wp2_with fail
        go_quiet ((go_at_call 139; exact Calls.quiet_of_same (HI.out _)))
        go_wp2
        go_ret
        exact ⟨by rw [HN.out]; rfl, Law.up hb.out _⟩
      · have HN : Hid (∀ i, j ≤ i → i < zs.length - 1 → zs.getD i 0 ≤ zs.getD (i + 1) 0) := fun i h1 h2 => by
          by_cases e : i = j
          · subst e
            rw [List.getD_eq_getElem?_getD, List.getD_eq_getElem?_getD, hx, hy]
            simp; omega
          · exact hall.out i (by omega) h2
        rw [show decide (y < x) = false from decide_eq_false hxy] at HI
        clear hall hx hy hxy
        go_wp2_with fail
        go_quiet ((go_at_call 139; exact Calls.quiet_of_same (HI.out _)))
        go_wp2
        go_roundw
        case rel => exact ⟨j, by omega, by go_num, HN.out, Law.up hb.out _⟩
        case measure => simp [intOf]
    · obtain rfl : k = 0 := by omega
      have HN : Hid (Q.asc zs = true) := Q.asc_iff.2 fun i hi => hall.out i (by omega) hi
      clear hall
      go_wp2
      go_ret
      exact ⟨by rw [HN.out]; rfl, hb.out⟩
theorem l1Most_hi (a b : Int) (w : World) (h : a ≤ b) : Calls Try.prog 101 #[.int .i64 a, .int .i64 b] w fun e w' => e = .returned (.int .i64 b) ∧ w' = w := by
  have h' : ¬ b < a := by omega
  go_enter Try.func101, Try.ntmps101
  go_wp2
  go_ret
  exact ⟨rfl, rfl⟩
theorem l1Most_lo (a b : Int) (w : World) (h : b < a) : Calls Try.prog 101 #[.int .i64 a, .int .i64 b] w fun e w' => e = .returned (.int .i64 a) ∧ w' = w := by
  go_enter Try.func101, Try.ntmps101
  go_wp2
  go_ret
  exact ⟨rfl, rfl⟩
theorem most_ap (a b : Int) (w : World) : Calls Try.prog 101 #[.int .i64 (a - b), .int .i64 (b - a)] w fun e w' => e = .returned (.int .i64 (Q.ap a b)) ∧ w' = w := by
  unfold Q.ap
  split
  · exact l1Most_hi _ _ w (by omega)
  · exact l1Most_lo _ _ w (by omega)
end Go.Proofs.Ytphfjhnmnehfkaa
