/-
  What a strictly rising list of items is; the model's l1Rising, l5Marks; the code's isMarkList.
-/
import Derived.Test.YtklpdfilhgjllaaOwn
import Derived.Test.YtklpdfilhgjllaaGood
import Derived.IntWalk
namespace Go.Proofs.Ytklpdfilhgjllaa
open Go.RowKit
set_option linter.unusedVariables false
namespace Q
/-- The item at place i is one, and above the one before. -/
def okAt (n : Int) (l : List Int) (i : Nat) : Bool := okItem n (l.getD i 0) && (decide (i = 0) || decide (l.getD (i - 1) 0 < l.getD i 0))
def rises (n : Int) (l : List Int) : Bool := (List.range l.length).all (okAt n l)
theorem rises_no {n : Int} {l : List Int} {k : Nat} (hk : k < l.length) (h : okAt n l k = false) : rises n l = false := by
  rw [Bool.eq_false_iff]
  intro e
  have := List.all_eq_true.1 e k (by simpa using hk)
  rw [h] at this
  cases this
theorem rises_yes {n : Int} {l : List Int} (h : ∀ i, i < l.length → okAt n l i = true) : rises n l = true := List.all_eq_true.2 fun i hi => h i (by simpa using hi)
theorem okAt_in {n : Int} {l : List Int} {i : Nat} {x : Int} (hx : l[i]? = some x) (h : okItem n x = false) : okAt n l i = false := by
  unfold okAt
  rw [List.getD_eq_getElem?_getD, hx]
  simp [h]
theorem okAt_zero {n : Int} {l : List Int} {x : Int} (hx : l[0]? = some x) : okAt n l 0 = okItem n x := by
  unfold okAt
  rw [List.getD_eq_getElem?_getD, hx]
  simp
theorem okAt_succ {n : Int} {l : List Int} {i : Nat} {x y : Int} (hy : l[i]? = some y) (hx : l[i + 1]? = some x) : okAt n l (i + 1) = (okItem n x && decide (y < x)) := by
  unfold okAt
  rw [List.getD_eq_getElem?_getD, List.getD_eq_getElem?_getD, Nat.add_sub_cancel, hx, hy]
  simp
theorem rises_item {n : Int} {l : List Int} (h : rises n l = true) {i : Nat} {x : Int} (hx : l[i]? = some x) : okItem n x = true := by
  have hi := (List.getElem?_eq_some_iff.1 hx).1
  have := List.all_eq_true.1 h i (by simpa using hi)
  cases e : okItem n x
  · rw [okAt_in hx e] at this; cases this
  · rfl
theorem rises_rest {n x : Int} {xs : List Int} (h : rises n (x :: xs) = true) : ∀ (k : Nat) (y : Int), xs[k]? = some y → x + k < y
  | 0, y, hy => by
    have hk := (List.getElem?_eq_some_iff.1 hy).1
    have := List.all_eq_true.1 h 1 (by simp; omega)
    rw [okAt_succ (l := x :: xs) (i := 0) (x := y) (y := x) rfl (by simpa using hy)] at this
    simp at this
    omega
  | k + 1, y, hy => by
    have hk := (List.getElem?_eq_some_iff.1 hy).1
    obtain ⟨z, hz⟩ : ∃ z, xs[k]? = some z := ⟨_, List.getElem?_eq_getElem (by omega)⟩
    have ih := rises_rest h k z hz
    have := List.all_eq_true.1 h (k + 2) (by simp; omega)
    rw [okAt_succ (l := x :: xs) (i := k + 1) (x := y) (y := z) (by simpa using hz) (by simpa using hy)] at this
    simp at this
    omega
/-- A strictly rising list of numbers below n is no longer than n. -/
theorem rises_len {N : Nat} : ∀ {l : List Int}, rises N l = true → l.length ≤ N
  | [], _ => Nat.zero_le _
  | [x], h => by
    have := rises_item h (i := 0) (x := x) rfl
    simp [okItem] at this
    simp; omega
  | x :: y :: xs, h => by
    obtain ⟨z, hz⟩ : ∃ z, (y :: xs)[xs.length]? = some z := ⟨_, List.getElem?_eq_getElem (by simp)⟩
    have h1 := rises_rest h xs.length z hz
    have h2 := rises_item h (i := xs.length + 1) (x := z) (by simpa using hz)
    have h3 := rises_item h (i := 0) (x := x) rfl
    simp [okItem] at h2 h3
    simp; omega
end Q
set_option maxRecDepth 100000 in
set_option maxHeartbeats 3200000 in
theorem l1Rising_any (n : Int) (A : Option Addr) (c : Nat) (zs : List Int) (w : World) (h1 : 0 ≤ n) (h2 : n ≤ 60) (hn : zs.length ≤ 1048576) (hr : Law.Row w A (ivs zs)) :
    Calls Try.prog 102 #[.slice A zs.length c, .int .i64 0, .int .i64 (n - 1)] w fun e w' => e = .returned (.bool (Q.rises n zs)) ∧ ∃ m, w' = w.drewN m := by
  have HR := Lib.hid hr
  have HI := Lib.hid fun x W => l1In_any x 0 (n - 1) W
  clear hr
  go_enter Try.func102, Try.ntmps102
  go_wp2
  go_loopw [7] (fun i wr => ∃ k : Nat, k ≤ zs.length ∧ i = .int .i64 (k : Int) ∧ Hid (∃ m, wr = w.drewN m) ∧ Hid (∀ i, i < k → Q.okAt n zs i = true)) (fun i _ => zs.length - (intOf i).toNat)
  case atStart => exact ⟨0, Nat.zero_le _, rfl, ⟨0, rfl⟩, fun i hi => by omega⟩
  case round =>
    obtain ⟨k, hk, rfl, hw, hall⟩ := hrel
    have HRr : Hid (Law.Row wr A (ivs zs)) := by obtain ⟨m, e⟩ := hw.out; rw [e]; exact Lib.hid (HR.out.drewN m)
    have HWn : Hid (∀ n, ∃ m, wr.drewN n = w.drewN m) := fun n => by obtain ⟨m, e⟩ := hw.out; rw [e]; exact ⟨m + n, by simp⟩
    by_cases hlt : k < zs.length
    · obtain ⟨x, hx⟩ : ∃ x, zs[k]? = some x := ⟨_, List.getElem?_eq_getElem hlt⟩
      obtain ⟨b, off, rfl, hbl, hc⟩ := HRr.out.at_ (ivs_some hx)
      have hltI : (k : Int) < (zs.length : Int) := by omega
      have HIx : Hid (∀ W, Calls Try.prog 85 #[.int .i64 x, .int .i64 0, .int .i64 (n - 1)] W fun e w' => e = .returned (.bool (Q.okItem n x)) ∧ w' = W) := fun W => HI.out x W
      cases hok : Q.okItem n x
      · have HN := Lib.hid (Q.rises_no hlt (Q.okAt_in hx hok))
        rw [hok] at HIx
        clear hx hok hall
        rcases Nat.eq_zero_or_pos k with hk0 | hk0
        · subst hk0
          rw [Nat.add_zero] at hc
          go_wp2_with fail
          go_quiet ((go_at_call 85; exact Calls.quiet_of_same (HIx.out _)))
          go_wp2
          go_ret
          exact ⟨by rw [HN.out]; rfl, HWn.out _⟩
        · have hkI : (0 : Int) < (k : Int) := by omega
          go_wp2_with fail
          go_quiet ((go_at_call 85; exact Calls.quiet_of_same (HIx.out _)))
          go_wp2
          go_ret
          exact ⟨by rw [HN.out]; rfl, HWn.out _⟩
      · rw [hok] at HIx
        rcases Nat.eq_zero_or_pos k with hk0 | hk0
        · subst hk0
          rw [Nat.add_zero] at hc
          have HN : Hid (∀ i, i < 0 + 1 → Q.okAt n zs i = true) := fun i hi => by
            obtain rfl : i = 0 := by omega
            rw [Q.okAt_zero hx]; exact hok
          clear hx hok hall
          go_wp2_with fail
          go_quiet ((go_at_call 85; exact Calls.quiet_of_same (HIx.out _)))
          go_wp2
          go_roundw
          case rel => exact ⟨0 + 1, by omega, by go_num, HWn.out _, HN.out⟩
          case measure => simp [intOf]; omega
        · obtain ⟨j, rfl⟩ : ∃ j, k = j + 1 := ⟨k - 1, by omega⟩
          obtain ⟨y, hy⟩ : ∃ y, zs[j]? = some y := ⟨_, List.getElem?_eq_getElem (by omega)⟩
          obtain ⟨b', off', hbb, hbl', hc'⟩ := HRr.out.at_ (ivs_some hy)
          injection hbb with hbb
          injection hbb with hb1 hb2 _
          subst hb1 hb2
          have hjI : (j : Int) < (zs.length : Int) := by omega
          have hj0 : (0 : Int) ≤ (j : Int) := by omega
          have hw1 : IntKind.i64.wrap (j : Int) = (j : Int) := IntWalk.i64_in _ (by omega)
          by_cases hyx : y < x
          · have HN : Hid (∀ i, i < j + 1 + 1 → Q.okAt n zs i = true) := fun i hi => by
              rcases Nat.lt_or_ge i (j + 1) with h | h
              · exact hall.out i h
              · obtain rfl : i = j + 1 := by omega
                rw [Q.okAt_succ hy hx, hok]; simpa using hyx
            clear hx hy hok hall
            have hyx' : ¬ x ≤ y := by omega
            go_wp2_with fail
            go_quiet ((go_at_call 85; exact Calls.quiet_of_same (HIx.out _)))
            go_wp2
            go_roundw
            case rel => exact ⟨j + 1 + 1, by omega, by go_num, HWn.out _, HN.out⟩
            case measure => simp [intOf]; omega
          · have HN := Lib.hid (Q.rises_no hlt (show Q.okAt n zs (j + 1) = false by rw [Q.okAt_succ hy hx]; simp; intro _; omega))
            have hyx' : x ≤ y := by omega
            clear hx hy hok hall
            go_wp2_with fail
            go_quiet ((go_at_call 85; exact Calls.quiet_of_same (HIx.out _)))
            go_wp2
            go_ret
            exact ⟨by rw [HN.out]; rfl, HWn.out _⟩
    · have hke : k = zs.length := by omega
      have hltI : ¬ (k : Int) < (zs.length : Int) := by omega
      have HN : Hid (Q.rises n zs = true) := Lib.hid (Q.rises_yes (by rw [← hke]; exact hall.out))
      clear hke hall
      go_wp2
      go_ret
      exact ⟨by rw [HN.out]; rfl, hw.out⟩
set_option maxRecDepth 100000 in
set_option maxHeartbeats 3200000 in
theorem isMarkList_any (N : Nat) (R : Option Addr) (cr : Nat) (A : Option Addr) (c : Nat) (zs : List Int) (w : World) (h2 : N ≤ 60) (hn : zs.length ≤ 1048576) (hr : Law.Row w A (ivs zs)) :
    Calls Try.prog 76 #[.slice R N cr, .slice A zs.length c] w fun e w' => e = .returned (.bool (Q.rises N zs)) ∧ w' = w := by
  have HR := Lib.hid hr
  clear hr
  go_enter Try.func76, Try.ntmps76
  go_wp2
  go_loop [9] (fun i => ∃ k : Nat, k ≤ zs.length ∧ i = .int .i64 (k : Int) ∧ Hid (∀ i, i < k → Q.okAt N zs i = true)) (fun i => zs.length - (intOf i).toNat)
  case atStart => exact ⟨0, Nat.zero_le _, rfl, fun i hi => by omega⟩
  case round =>
    obtain ⟨k, hk, rfl, hall⟩ := hrel
    by_cases hlt : k < zs.length
    · obtain ⟨x, hx⟩ : ∃ x, zs[k]? = some x := ⟨_, List.getElem?_eq_getElem hlt⟩
      obtain ⟨b, off, rfl, hbl, hc⟩ := HR.out.at_ (ivs_some hx)
      have hltI : (k : Int) < (zs.length : Int) := by omega
      cases hok : Q.okItem N x
      · have HN := Lib.hid (Q.rises_no hlt (Q.okAt_in hx hok))
        have hor : x < 0 ∨ ¬ x < 0 ∧ (N : Int) ≤ x := by
          simp [Q.okItem] at hok
          omega
        clear hx hok hall
        rcases hor with h | ⟨h, h'⟩
        · go_wp2
          go_ret
          exact ⟨by rw [HN.out]; rfl, rfl⟩
        · go_wp2
          go_ret
          exact ⟨by rw [HN.out]; rfl, rfl⟩
      · have hge : ¬ x < 0 ∧ ¬ (N : Int) ≤ x := by
          simp [Q.okItem] at hok
          omega
        obtain ⟨hge1, hge2⟩ := hge
        rcases Nat.eq_zero_or_pos k with hk0 | hk0
        · subst hk0
          rw [Nat.add_zero] at hc
          replace hltI : (0 : Int) < (zs.length : Int) := by omega
          have HN : Hid (∀ i, i < 0 + 1 → Q.okAt N zs i = true) := fun i hi => by
            obtain rfl : i = 0 := by omega
            rw [Q.okAt_zero hx]; exact hok
          clear hx hok hall
          go_wp2
          go_round
          case rel => exact ⟨0 + 1, by omega, by go_num, HN.out⟩
          case measure => simp [intOf]; omega
        · obtain ⟨j, rfl⟩ : ∃ j, k = j + 1 := ⟨k - 1, by omega⟩
          obtain ⟨y, hy⟩ : ∃ y, zs[j]? = some y := ⟨_, List.getElem?_eq_getElem (by omega)⟩
          obtain ⟨b', off', hbb, hbl', hc'⟩ := HR.out.at_ (ivs_some hy)
          injection hbb with hbb
          injection hbb with hb1 hb2 _
          subst hb1 hb2
          have hjI : (j : Int) < (zs.length : Int) := by omega
          have hj0 : (0 : Int) ≤ (j : Int) := by omega
          have hj1 : (0 : Int) < (j : Int) + 1 := by omega
          have hw1 : IntKind.i64.wrap (j : Int) = (j : Int) := IntWalk.i64_in _ (by omega)
          by_cases hyx : y < x
          · have HN : Hid (∀ i, i < j + 1 + 1 → Q.okAt N zs i = true) := fun i hi => by
              rcases Nat.lt_or_ge i (j + 1) with h | h
              · exact hall.out i h
              · obtain rfl : i = j + 1 := by omega
                rw [Q.okAt_succ hy hx, hok]; simpa using hyx
            clear hx hy hok hall
            have hyx' : ¬ x ≤ y := by omega
            go_wp2
            go_round
            case rel => exact ⟨j + 1 + 1, by omega, by go_num, HN.out⟩
            case measure => simp [intOf]; omega
          · have HN := Lib.hid (Q.rises_no hlt (show Q.okAt N zs (j + 1) = false by rw [Q.okAt_succ hy hx]; simp; intro _; omega))
            have hyx' : x ≤ y := by omega
            clear hx hy hok hall
            go_wp2
            go_ret
            exact ⟨by rw [HN.out]; rfl, rfl⟩
    · have hke : k = zs.length := by omega
      have hltI : ¬ (k : Int) < (zs.length : Int) := by omega
      have HN : Hid (Q.rises N zs = true) := Lib.hid (Q.rises_yes (by rw [← hke]; exact hall.out))
      clear hke hall
      go_wp2
      go_ret
      exact ⟨by rw [HN.out]; rfl, rfl⟩
theorem l5Marks_any (N : Nat) (R : Option Addr) (cr : Nat) (A : Option Addr) (c : Nat) (zs : List Int) (w : World) (h2 : N ≤ 60) (hn : zs.length ≤ 1048576) (hr : Law.Row w A (ivs zs)) :
    Calls Try.prog 74 #[.slice R N cr, .slice A zs.length c] w fun e w' => e = .returned (.bool (Q.rises N zs)) ∧ Below w.heap.size w w' := by
  have HL := Lib.hid (l1Rising_any N A c zs w (by omega) (by omega) hn hr)
  clear hr
  go_enter Try.func74, Try.ntmps74
  go_wp2_with fail
  go_at_call 102
  refine HL.out.mono ?_
  rintro e w1 ⟨rfl, m, rfl⟩
  go_wp2
  go_ret
  exact ⟨rfl, Law.draws _ _ _⟩
end Go.Proofs.Ytklpdfilhgjllaa
