/-
  Comparing fractions: the model's helper (l2Cmp), the library's cmp.Compare at int, the code's (CompareFracs).
-/
import Derived.Test.YtppmepajcdldkabTwo
import Derived.BigQuiet
namespace Go.Proofs.Ytppmepajcdldkab
open Go.RowKit
set_option linter.unusedVariables false
def F.cmpI (x y : Int) : Int := if x < y then -1 else if y < x then 1 else 0
def F.cmp (n1 d1 n2 d2 : Int) : Int := F.cmpI (n1 * d2) (n2 * d1)
set_option maxHeartbeats 800000 in
theorem cmpCompare_any (x y : Int) (w : World) : Calls Try.prog 34 #[.int .i64 x, .int .i64 y] w fun e w' => e = .returned (.int .i64 (F.cmpI x y)) ∧ w' = w := by
  go_enter Try.func34, Try.ntmps34
  go_wp2
  all_goals (go_ret; refine ⟨?_, rfl⟩; unfold F.cmpI; (repeat' split) <;> first | rfl | (exfalso; omega))
set_option maxHeartbeats 800000 in
theorem l2Cmp_any (n1 d1 n2 d2 : Int) (w : World) (h1 : F.good n1 d1 = true) (h2 : F.good n2 d2 = true) :
    Calls Try.prog 23 #[fr n1 d1, fr n2 d2] w fun e w' => e = .returned (.int .i64 (F.cmp n1 d1 n2 d2)) ∧ Below w.heap.size w w' := by
  obtain ⟨⟨x1, x2⟩, ⟨x3, x4⟩, _, _⟩ := F.cross h1 h2
  clear h1 h2
  unfold F.cmp F.cmpI
  by_cases hl : n1 * d2 < n2 * d1
  · rw [if_pos hl]
    go_enter Try.func23, Try.ntmps23
    go_wp2_with fail
    go_quiet (fail)
    go_wp2
    go_ret
    refine ⟨rfl, ?_⟩
    (repeat (first | exact Below.refl _ _ | refine Below.setCell ?_ (by first | omega | (simp; omega) | (simp; done)) _ | refine Below.drew ?_ | refine Law.up ?_ _ | refine Below.alloc ?_ (by first | omega | (simp; omega) | (simp; done)) _ | refine Law.then_ ?_ (Hid.out (by assumption))))
  · rw [if_neg hl]
    by_cases hg : n2 * d1 < n1 * d2
    · rw [if_pos hg]
      go_enter Try.func23, Try.ntmps23
      go_wp2_with fail
      go_quiet (fail)
      go_wp2
      go_ret
      refine ⟨rfl, ?_⟩
      (repeat (first | exact Below.refl _ _ | refine Below.setCell ?_ (by first | omega | (simp; omega) | (simp; done)) _ | refine Below.drew ?_ | refine Law.up ?_ _ | refine Below.alloc ?_ (by first | omega | (simp; omega) | (simp; done)) _ | refine Law.then_ ?_ (Hid.out (by assumption))))
    · rw [if_neg hg]
      go_enter Try.func23, Try.ntmps23
      go_wp2_with fail
      go_quiet (fail)
      go_wp2
      go_ret
      refine ⟨rfl, ?_⟩
      (repeat (first | exact Below.refl _ _ | refine Below.setCell ?_ (by first | omega | (simp; omega) | (simp; done)) _ | refine Below.drew ?_ | refine Law.up ?_ _ | refine Below.alloc ?_ (by first | omega | (simp; omega) | (simp; done)) _ | refine Law.then_ ?_ (Hid.out (by assumption))))
def F.cmpG (n1 d1 n2 d2 : Int) : Int := if F.good n1 d1 = true ∧ F.good n2 d2 = true then F.cmp n1 d1 n2 d2 else 0
theorem implCmp_any (n1 d1 n2 d2 : Int) (w : World) (wn1 : (Lit.int .i64 n1).wf = true) (wd1 : (Lit.int .i64 d1).wf = true) (wn2 : (Lit.int .i64 n2).wf = true) (wd2 : (Lit.int .i64 d2).wf = true) :
    Calls Try.prog 25 #[fr n1 d1, fr n2 d2] w fun e w' => e = .returned (.tuple #[.int .i64 (F.cmpG n1 d1 n2 d2), .bool (F.good n1 d1 && F.good n2 d2)]) ∧ Below w.heap.size w w' := by
  have HG1 := Lib.hid fun W => isFrac_any n1 d1 W wn1 wd1
  have HG2 := Lib.hid fun W => isFrac_any n2 d2 W wn2 wd2
  clear wn1 wd1 wn2 wd2
  by_cases h1 : F.good n1 d1 = true
  · rw [h1] at HG1
    by_cases h2 : F.good n2 d2 = true
    · rw [h2] at HG2
      obtain ⟨⟨x1, x2⟩, ⟨x3, x4⟩, _, _⟩ := F.cross h1 h2
      rw [show F.cmpG n1 d1 n2 d2 = F.cmp n1 d1 n2 d2 from if_pos ⟨h1, h2⟩, h1, h2]
      have HC : Hid (∀ W, Calls Try.prog 34 #[.int .i64 (n1 * d2), .int .i64 (n2 * d1)] W fun e w' => e = .returned (.int .i64 (F.cmp n1 d1 n2 d2)) ∧ Below W.heap.size W w') := Lib.hid fun W => Law.of_same (cmpCompare_any (n1 * d2) (n2 * d1) W)
      generalize F.cmp n1 d1 n2 d2 = c at HC ⊢
      clear h1 h2
      go_enter Try.func25, Try.ntmps25
      go_wp2_with fail
      go_at_call 31
      refine (HG1.out _).mono ?_
      rintro e w1 ⟨rfl, hb1⟩
      have B1 : Hid (Below w.heap.size w w1) := Lib.hid (Law.then_ (by (repeat (first | exact Below.refl _ _ | refine Below.setCell ?_ (by first | omega | (simp; omega) | (simp; done)) _ | refine Below.drew ?_ | refine Law.up ?_ _ | refine Below.alloc ?_ (by first | omega | (simp; omega) | (simp; done)) _ | refine Law.then_ ?_ (Hid.out (by assumption))))) hb1)
      have sz1 := hb1.size; (try simp at sz1)
      obtain ⟨c10, c11, f10, f11⟩ := Blk.below (b := w.heap.size) (x := .int .i64 n1) (y := .int .i64 d1) ⟨by go_simp, by go_simp, by go_simp, by go_simp⟩ hb1 (by first | omega | (simp; omega) | (simp; done))
      obtain ⟨c20, c21, f20, f21⟩ := Blk.below (b := w.heap.size + 1) (x := .int .i64 n2) (y := .int .i64 d2) ⟨by go_simp, by go_simp, by go_simp, by go_simp⟩ hb1 (by first | omega | (simp; omega) | (simp; done))
      clear hb1
      go_wp2_with fail
      go_at_call 31
      refine (HG2.out _).mono ?_
      rintro e w2 ⟨rfl, hb2⟩
      have B2 : Hid (Below w.heap.size w w2) := Lib.hid (Law.then_ (by (repeat (first | exact Below.refl _ _ | refine Below.setCell ?_ (by first | omega | (simp; omega) | (simp; done)) _ | refine Below.drew ?_ | refine Law.up ?_ _ | refine Below.alloc ?_ (by first | omega | (simp; omega) | (simp; done)) _ | refine Law.then_ ?_ (Hid.out (by assumption))))) hb2)
      have sz2 := hb2.size; (try simp at sz2)
      obtain ⟨c30, c31, f30, f31⟩ := Blk.below (b := w.heap.size) (x := .int .i64 n1) (y := .int .i64 d1) ⟨by go_simp, by go_simp, by go_simp, by go_simp⟩ hb2 (by first | omega | (simp; omega) | (simp; done))
      obtain ⟨c40, c41, f40, f41⟩ := Blk.below (b := w.heap.size + 1) (x := .int .i64 n2) (y := .int .i64 d2) ⟨by go_simp, by go_simp, by go_simp, by go_simp⟩ hb2 (by first | omega | (simp; omega) | (simp; done))
      clear hb2 c10 c11 f10 f11 c20 c21 f20 f21
      go_wp2_with fail
      go_at_call 34
      refine (HC.out _).mono ?_
      rintro e w3 ⟨rfl, hb3⟩
      have B3 : Hid (Below w.heap.size w w3) := Lib.hid (Law.then_ (by (repeat (first | exact Below.refl _ _ | refine Below.setCell ?_ (by first | omega | (simp; omega) | (simp; done)) _ | refine Below.drew ?_ | refine Law.up ?_ _ | refine Below.alloc ?_ (by first | omega | (simp; omega) | (simp; done)) _ | refine Law.then_ ?_ (Hid.out (by assumption))))) hb3)
      have sz3 := hb3.size; (try simp at sz3)
      clear hb3
      go_wp2
      go_ret2
      refine ⟨rfl, ?_⟩
      (repeat (first | exact Below.refl _ _ | refine Below.setCell ?_ (by first | omega | (simp; omega) | (simp; done)) _ | refine Below.drew ?_ | refine Law.up ?_ _ | refine Below.alloc ?_ (by first | omega | (simp; omega) | (simp; done)) _ | refine Law.then_ ?_ (Hid.out (by assumption))))
    · rw [show F.cmpG n1 d1 n2 d2 = 0 from if_neg fun h => h2 h.2]
      replace h2 := Bool.eq_false_iff.2 h2
      rw [h2] at HG2 ⊢
      rw [h1]
      clear h1 h2
      go_enter Try.func25, Try.ntmps25
      go_wp2_with fail
      go_at_call 31
      refine (HG1.out _).mono ?_
      rintro e w1 ⟨rfl, hb1⟩
      have B1 : Hid (Below w.heap.size w w1) := Lib.hid (Law.then_ (by (repeat (first | exact Below.refl _ _ | refine Below.setCell ?_ (by first | omega | (simp; omega) | (simp; done)) _ | refine Below.drew ?_ | refine Law.up ?_ _ | refine Below.alloc ?_ (by first | omega | (simp; omega) | (simp; done)) _ | refine Law.then_ ?_ (Hid.out (by assumption))))) hb1)
      have sz1 := hb1.size; (try simp at sz1)
      obtain ⟨c20, c21, f20, f21⟩ := Blk.below (b := w.heap.size + 1) (x := .int .i64 n2) (y := .int .i64 d2) ⟨by go_simp, by go_simp, by go_simp, by go_simp⟩ hb1 (by first | omega | (simp; omega) | (simp; done))
      clear hb1
      go_wp2_with fail
      go_at_call 31
      refine (HG2.out _).mono ?_
      rintro e w2 ⟨rfl, hb2⟩
      have B2 : Hid (Below w.heap.size w w2) := Lib.hid (Law.then_ (by (repeat (first | exact Below.refl _ _ | refine Below.setCell ?_ (by first | omega | (simp; omega) | (simp; done)) _ | refine Below.drew ?_ | refine Law.up ?_ _ | refine Below.alloc ?_ (by first | omega | (simp; omega) | (simp; done)) _ | refine Law.then_ ?_ (Hid.out (by assumption))))) hb2)
      have sz2 := hb2.size; (try simp at sz2)
      clear hb2
      go_wp2
      go_ret2
      refine ⟨rfl, ?_⟩
      (repeat (first | exact Below.refl _ _ | refine Below.setCell ?_ (by first | omega | (simp; omega) | (simp; done)) _ | refine Below.drew ?_ | refine Law.up ?_ _ | refine Below.alloc ?_ (by first | omega | (simp; omega) | (simp; done)) _ | refine Law.then_ ?_ (Hid.out (by assumption))))
  · rw [show F.cmpG n1 d1 n2 d2 = 0 from if_neg fun h => h1 h.1]
    replace h1 := Bool.eq_false_iff.2 h1
    rw [h1] at HG1 ⊢
    clear h1 HG2
    go_enter Try.func25, Try.ntmps25
    go_wp2_with fail
    go_at_call 31
    refine (HG1.out _).mono ?_
    rintro e w1 ⟨rfl, hb1⟩
    have B1 : Hid (Below w.heap.size w w1) := Lib.hid (Law.then_ (by (repeat (first | exact Below.refl _ _ | refine Below.setCell ?_ (by first | omega | (simp; omega) | (simp; done)) _ | refine Below.drew ?_ | refine Law.up ?_ _ | refine Below.alloc ?_ (by first | omega | (simp; omega) | (simp; done)) _ | refine Law.then_ ?_ (Hid.out (by assumption))))) hb1)
    have sz1 := hb1.size; (try simp at sz1)
    clear hb1
    go_wp2
    go_ret2
    refine ⟨rfl, ?_⟩
    (repeat (first | exact Below.refl _ _ | refine Below.setCell ?_ (by first | omega | (simp; omega) | (simp; done)) _ | refine Below.drew ?_ | refine Law.up ?_ _ | refine Below.alloc ?_ (by first | omega | (simp; omega) | (simp; done)) _ | refine Law.then_ ?_ (Hid.out (by assumption))))
end Go.Proofs.Ytppmepajcdldkab
