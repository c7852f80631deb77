/-
  Sums of fractions: the model's (l2Add, AddFracs) and the code's (AddFracs).
-/
import Derived.Test.YtppmepajcdldkaaTwo
namespace Go.Proofs.Ytppmepajcdldkaa
open Go.RowKit
set_option linter.unusedVariables false
theorem l2Add_any (n1 d1 n2 d2 : Int) (w : World) (h1 : F.good n1 d1 = true) (h2 : F.good n2 d2 = true) :
    Calls Try.prog 44 #[fr n1 d1, fr n2 d2] w fun e w' => e = .returned (res (F.mk (n1 * d2 + n2 * d1) (d1 * d2))) ∧ Below w.heap.size w w' := by
  obtain ⟨⟨x1, x2⟩, ⟨x3, x4⟩, ⟨x5, x6⟩, _⟩ := F.cross h1 h2
  have HC := Lib.hid fun W => l2Make_any (n1 * d2 + n2 * d1) (d1 * d2) W (by omega) (by omega) (by omega) (by omega)
  generalize F.mk (n1 * d2 + n2 * d1) (d1 * d2) = X at HC ⊢
  obtain ⟨N, D, ok⟩ := X
  replace HC : Hid (∀ W, Calls Try.prog 41 #[.int .i64 (n1 * d2 + n2 * d1), .int .i64 (d1 * d2)] W fun e w' => e = .returned (.tuple #[.agg #[.int .i64 N, .int .i64 D], .bool ok]) ∧ Below W.heap.size W w') := HC
  clear h1 h2
  go_enter Try.func44, Try.ntmps44
  go_wp2_with fail
  go_at_call 41
  refine (HC.out _).mono ?_
  rintro e w1 ⟨rfl, hb1⟩
  have B1 : Hid (Below w.heap.size w w1) := Lib.hid (Law.then_ (by (repeat (first | exact Below.refl _ _ | refine Below.setCell ?_ (by first | omega | (simp; omega) | (simp; done)) _ | refine Below.drew ?_ | refine Law.up ?_ _ | refine Below.alloc ?_ (by first | omega | (simp; omega) | (simp; done)) _ | refine Law.then_ ?_ (Hid.out (by assumption))))) hb1)
  have sz1 := hb1.size; (try simp at sz1)
  obtain ⟨c10, c11, f10, f11⟩ := Blk.below (b := w.heap.size + 2) (x := .int .i64 0) (y := .int .i64 0) ⟨by go_simp, by go_simp, by go_simp, by go_simp⟩ hb1 (by first | omega | (simp; omega) | (simp; done))
  clear hb1
  go_wp2
  refine ret_frac rfl rfl rfl (Blk.set2 ⟨c10, c11, f10, f11⟩ _ _) rfl ⟨rfl, ?_⟩
  (repeat (first | exact Below.refl _ _ | refine Below.setCell ?_ (by first | omega | (simp; omega) | (simp; done)) _ | refine Below.drew ?_ | refine Law.up ?_ _ | refine Below.alloc ?_ (by first | omega | (simp; omega) | (simp; done)) _ | refine Law.then_ ?_ (Hid.out (by assumption))))
theorem specAdd_any (n1 d1 n2 d2 : Int) (w : World) :
    Calls Try.prog 19 #[fr n1 d1, fr n2 d2] w fun e w' => e = .returned (res (F.gate n1 d1 n2 d2 (F.mk (n1 * d2 + n2 * d1) (d1 * d2)))) ∧ Below w.heap.size w w' := by
  have HT := Lib.hid fun W => l2Two_any n1 d1 n2 d2 W
  by_cases hg : F.good n1 d1 = true ∧ F.good n2 d2 = true
  · have HC := Lib.hid fun W => l2Add_any n1 d1 n2 d2 W hg.1 hg.2
    rw [hg.1, hg.2] at HT
    rw [F.gate_yes _ hg.1 hg.2]
    generalize F.mk (n1 * d2 + n2 * d1) (d1 * d2) = X at HC ⊢
    obtain ⟨N, D, ok⟩ := X
    replace HC : Hid (∀ W, Calls Try.prog 44 #[fr n1 d1, fr n2 d2] W fun e w' => e = .returned (.tuple #[.agg #[.int .i64 N, .int .i64 D], .bool ok]) ∧ Below W.heap.size W w') := HC
    clear hg
    go_enter Try.func19, Try.ntmps19
    go_wp2_with fail
    go_at_call 43
    refine (HT.out _).mono ?_
    rintro e w1 ⟨rfl, hb1⟩
    have B1 : Hid (Below w.heap.size w w1) := Lib.hid (Law.then_ (by (repeat (first | exact Below.refl _ _ | refine Below.setCell ?_ (by first | omega | (simp; omega) | (simp; done)) _ | refine Below.drew ?_ | refine Law.up ?_ _ | refine Below.alloc ?_ (by first | omega | (simp; omega) | (simp; done)) _ | refine Law.then_ ?_ (Hid.out (by assumption))))) hb1)
    have sz1 := hb1.size; (try simp at sz1)
    obtain ⟨c10, c11, f10, f11⟩ := Blk.below (b := w.heap.size) (x := .int .i64 n1) (y := .int .i64 d1) ⟨by go_simp, by go_simp, by go_simp, by go_simp⟩ hb1 (by first | omega | (simp; omega) | (simp; done))
    obtain ⟨c20, c21, f20, f21⟩ := Blk.below (b := w.heap.size + 1) (x := .int .i64 n2) (y := .int .i64 d2) ⟨by go_simp, by go_simp, by go_simp, by go_simp⟩ hb1 (by first | omega | (simp; omega) | (simp; done))
    obtain ⟨c30, c31, f30, f31⟩ := Blk.below (b := w.heap.size + 2) (x := .int .i64 0) (y := .int .i64 0) ⟨by go_simp, by go_simp, by go_simp, by go_simp⟩ hb1 (by first | omega | (simp; omega) | (simp; done))
    clear hb1
    go_wp2_with fail
    go_at_call 44
    refine (HC.out _).mono ?_
    rintro e w2 ⟨rfl, hb2⟩
    have B2 : Hid (Below w.heap.size w w2) := Lib.hid (Law.then_ (by (repeat (first | exact Below.refl _ _ | refine Below.setCell ?_ (by first | omega | (simp; omega) | (simp; done)) _ | refine Below.drew ?_ | refine Law.up ?_ _ | refine Below.alloc ?_ (by first | omega | (simp; omega) | (simp; done)) _ | refine Law.then_ ?_ (Hid.out (by assumption))))) hb2)
    have sz2 := hb2.size; (try simp at sz2)
    obtain ⟨c40, c41, f40, f41⟩ := Blk.below (b := w.heap.size + 2) (x := .int .i64 0) (y := .int .i64 0) ⟨by go_simp, by go_simp, by go_simp, by go_simp⟩ hb2 (by first | omega | (simp; omega) | (simp; done))
    clear hb2
    go_wp2
    refine ret_frac rfl rfl rfl (Blk.set2 ⟨c40, c41, f40, f41⟩ _ _) rfl ⟨rfl, ?_⟩
    (repeat (first | exact Below.refl _ _ | refine Below.setCell ?_ (by first | omega | (simp; omega) | (simp; done)) _ | refine Below.drew ?_ | refine Law.up ?_ _ | refine Below.alloc ?_ (by first | omega | (simp; omega) | (simp; done)) _ | refine Law.then_ ?_ (Hid.out (by assumption))))
  · rw [show F.gate n1 d1 n2 d2 (F.mk (n1 * d2 + n2 * d1) (d1 * d2)) = (0, 0, false) from if_neg hg]
    rw [show (F.good n1 d1 && F.good n2 d2) = false from by rw [Bool.eq_false_iff, ne_eq, Bool.and_eq_true]; exact hg] at HT
    clear hg
    go_enter Try.func19, Try.ntmps19
    go_wp2_with fail
    go_at_call 43
    refine (HT.out _).mono ?_
    rintro e w1 ⟨rfl, hb1⟩
    have B1 : Hid (Below w.heap.size w w1) := Lib.hid (Law.then_ (by (repeat (first | exact Below.refl _ _ | refine Below.setCell ?_ (by first | omega | (simp; omega) | (simp; done)) _ | refine Below.drew ?_ | refine Law.up ?_ _ | refine Below.alloc ?_ (by first | omega | (simp; omega) | (simp; done)) _ | refine Law.then_ ?_ (Hid.out (by assumption))))) hb1)
    have sz1 := hb1.size; (try simp at sz1)
    obtain ⟨c30, c31, f30, f31⟩ := Blk.below (b := w.heap.size + 2) (x := .int .i64 0) (y := .int .i64 0) ⟨by go_simp, by go_simp, by go_simp, by go_simp⟩ hb1 (by first | omega | (simp; omega) | (simp; done))
    clear hb1
    go_wp2
    refine ret_frac rfl rfl rfl (Blk.set2 ⟨c30, c31, f30, f31⟩ _ _) rfl ⟨rfl, ?_⟩
    (repeat (first | exact Below.refl _ _ | refine Below.setCell ?_ (by first | omega | (simp; omega) | (simp; done)) _ | refine Below.drew ?_ | refine Law.up ?_ _ | refine Below.alloc ?_ (by first | omega | (simp; omega) | (simp; done)) _ | refine Law.then_ ?_ (Hid.out (by assumption))))
theorem implAdd_any (n1 d1 n2 d2 : Int) (w : World) (wn1 : (Lit.int .i64 n1).wf = true) (wd1 : (Lit.int .i64 d1).wf = true) (wn2 : (Lit.int .i64 n2).wf = true) (wd2 : (Lit.int .i64 d2).wf = true) :
    Calls Try.prog 20 #[fr n1 d1, fr n2 d2] w fun e w' => e = .returned (res (F.gate n1 d1 n2 d2 (F.mk (n1 * d2 + n2 * d1) (d1 * d2)))) ∧ Below w.heap.size w w' := by
  have HG1 := Lib.hid fun W => isFrac_any n1 d1 W wn1 wd1
  have HG2 := Lib.hid fun W => isFrac_any n2 d2 W wn2 wd2
  clear wn1 wd1 wn2 wd2
  by_cases h1 : F.good n1 d1 = true
  · rw [h1] at HG1
    by_cases h2 : F.good n2 d2 = true
    · rw [h2] at HG2
      rw [F.gate_yes _ h1 h2]
      obtain ⟨⟨x1, x2⟩, ⟨x3, x4⟩, ⟨x5, x6⟩, _⟩ := F.cross h1 h2
      have HC := Lib.hid fun W => reduced_any (n1 * d2 + n2 * d1) (d1 * d2) W (by omega) (by omega) (by omega) (by omega)
      generalize F.mk (n1 * d2 + n2 * d1) (d1 * d2) = X at HC ⊢
      obtain ⟨N, D, ok⟩ := X
      replace HC : Hid (∀ W, Calls Try.prog 42 #[.int .i64 (n1 * d2 + n2 * d1), .int .i64 (d1 * d2)] W fun e w' => e = .returned (.tuple #[.agg #[.int .i64 N, .int .i64 D], .bool ok]) ∧ Below W.heap.size W w') := HC
      clear h1 h2
      go_enter Try.func20, Try.ntmps20
      go_wp2_with fail
      go_at_call 15
      refine (HG1.out _).mono ?_
      rintro e w1 ⟨rfl, hb1⟩
      have B1 : Hid (Below w.heap.size w w1) := Lib.hid (Law.then_ (by (repeat (first | exact Below.refl _ _ | refine Below.setCell ?_ (by first | omega | (simp; omega) | (simp; done)) _ | refine Below.drew ?_ | refine Law.up ?_ _ | refine Below.alloc ?_ (by first | omega | (simp; omega) | (simp; done)) _ | refine Law.then_ ?_ (Hid.out (by assumption))))) hb1)
      have sz1 := hb1.size; (try simp at sz1)
      obtain ⟨c10, c11, f10, f11⟩ := Blk.below (b := w.heap.size) (x := .int .i64 n1) (y := .int .i64 d1) ⟨by go_simp, by go_simp, by go_simp, by go_simp⟩ hb1 (by first | omega | (simp; omega) | (simp; done))
      obtain ⟨c20, c21, f20, f21⟩ := Blk.below (b := w.heap.size + 1) (x := .int .i64 n2) (y := .int .i64 d2) ⟨by go_simp, by go_simp, by go_simp, by go_simp⟩ hb1 (by first | omega | (simp; omega) | (simp; done))
      obtain ⟨c30, c31, f30, f31⟩ := Blk.below (b := w.heap.size + 2) (x := .int .i64 0) (y := .int .i64 0) ⟨by go_simp, by go_simp, by go_simp, by go_simp⟩ hb1 (by first | omega | (simp; omega) | (simp; done))
      clear hb1
      go_wp2_with fail
      go_at_call 15
      refine (HG2.out _).mono ?_
      rintro e w2 ⟨rfl, hb2⟩
      have B2 : Hid (Below w.heap.size w w2) := Lib.hid (Law.then_ (by (repeat (first | exact Below.refl _ _ | refine Below.setCell ?_ (by first | omega | (simp; omega) | (simp; done)) _ | refine Below.drew ?_ | refine Law.up ?_ _ | refine Below.alloc ?_ (by first | omega | (simp; omega) | (simp; done)) _ | refine Law.then_ ?_ (Hid.out (by assumption))))) hb2)
      have sz2 := hb2.size; (try simp at sz2)
      obtain ⟨c40, c41, f40, f41⟩ := Blk.below (b := w.heap.size) (x := .int .i64 n1) (y := .int .i64 d1) ⟨by go_simp, by go_simp, by go_simp, by go_simp⟩ hb2 (by first | omega | (simp; omega) | (simp; done))
      obtain ⟨c50, c51, f50, f51⟩ := Blk.below (b := w.heap.size + 1) (x := .int .i64 n2) (y := .int .i64 d2) ⟨by go_simp, by go_simp, by go_simp, by go_simp⟩ hb2 (by first | omega | (simp; omega) | (simp; done))
      obtain ⟨c60, c61, f60, f61⟩ := Blk.below (b := w.heap.size + 2) (x := .int .i64 0) (y := .int .i64 0) ⟨by go_simp, by go_simp, by go_simp, by go_simp⟩ hb2 (by first | omega | (simp; omega) | (simp; done))
      clear hb2 c10 c11 f10 f11 c20 c21 f20 f21 c30 c31 f30 f31
      go_wp2_with fail
      go_at_call 42
      refine (HC.out _).mono ?_
      rintro e w3 ⟨rfl, hb3⟩
      have B3 : Hid (Below w.heap.size w w3) := Lib.hid (Law.then_ (by (repeat (first | exact Below.refl _ _ | refine Below.setCell ?_ (by first | omega | (simp; omega) | (simp; done)) _ | refine Below.drew ?_ | refine Law.up ?_ _ | refine Below.alloc ?_ (by first | omega | (simp; omega) | (simp; done)) _ | refine Law.then_ ?_ (Hid.out (by assumption))))) hb3)
      have sz3 := hb3.size; (try simp at sz3)
      obtain ⟨c70, c71, f70, f71⟩ := Blk.below (b := w.heap.size + 2) (x := .int .i64 0) (y := .int .i64 0) ⟨by go_simp, by go_simp, by go_simp, by go_simp⟩ hb3 (by first | omega | (simp; omega) | (simp; done))
      clear hb3
      go_wp2
      refine ret_frac rfl rfl rfl (Blk.set2 ⟨c70, c71, f70, f71⟩ _ _) rfl ⟨rfl, ?_⟩
      (repeat (first | exact Below.refl _ _ | refine Below.setCell ?_ (by first | omega | (simp; omega) | (simp; done)) _ | refine Below.drew ?_ | refine Law.up ?_ _ | refine Below.alloc ?_ (by first | omega | (simp; omega) | (simp; done)) _ | refine Law.then_ ?_ (Hid.out (by assumption))))
    · replace h2 := Bool.eq_false_iff.2 h2
      rw [h2] at HG2
      rw [F.gate_no2 _ h2]
      clear h1 h2
      go_enter Try.func20, Try.ntmps20
      go_wp2_with fail
      go_at_call 15
      refine (HG1.out _).mono ?_
      rintro e w1 ⟨rfl, hb1⟩
      have B1 : Hid (Below w.heap.size w w1) := Lib.hid (Law.then_ (by (repeat (first | exact Below.refl _ _ | refine Below.setCell ?_ (by first | omega | (simp; omega) | (simp; done)) _ | refine Below.drew ?_ | refine Law.up ?_ _ | refine Below.alloc ?_ (by first | omega | (simp; omega) | (simp; done)) _ | refine Law.then_ ?_ (Hid.out (by assumption))))) hb1)
      have sz1 := hb1.size; (try simp at sz1)
      obtain ⟨c20, c21, f20, f21⟩ := Blk.below (b := w.heap.size + 1) (x := .int .i64 n2) (y := .int .i64 d2) ⟨by go_simp, by go_simp, by go_simp, by go_simp⟩ hb1 (by first | omega | (simp; omega) | (simp; done))
      obtain ⟨c30, c31, f30, f31⟩ := Blk.below (b := w.heap.size + 2) (x := .int .i64 0) (y := .int .i64 0) ⟨by go_simp, by go_simp, by go_simp, by go_simp⟩ hb1 (by first | omega | (simp; omega) | (simp; done))
      clear hb1
      go_wp2_with fail
      go_at_call 15
      refine (HG2.out _).mono ?_
      rintro e w2 ⟨rfl, hb2⟩
      have B2 : Hid (Below w.heap.size w w2) := Lib.hid (Law.then_ (by (repeat (first | exact Below.refl _ _ | refine Below.setCell ?_ (by first | omega | (simp; omega) | (simp; done)) _ | refine Below.drew ?_ | refine Law.up ?_ _ | refine Below.alloc ?_ (by first | omega | (simp; omega) | (simp; done)) _ | refine Law.then_ ?_ (Hid.out (by assumption))))) hb2)
      have sz2 := hb2.size; (try simp at sz2)
      obtain ⟨c60, c61, f60, f61⟩ := Blk.below (b := w.heap.size + 2) (x := .int .i64 0) (y := .int .i64 0) ⟨by go_simp, by go_simp, by go_simp, by go_simp⟩ hb2 (by first | omega | (simp; omega) | (simp; done))
      clear hb2
      go_wp2
      refine ret_frac rfl rfl rfl (Blk.set2 ⟨c60, c61, f60, f61⟩ _ _) rfl ⟨rfl, ?_⟩
      (repeat (first | exact Below.refl _ _ | refine Below.setCell ?_ (by first | omega | (simp; omega) | (simp; done)) _ | refine Below.drew ?_ | refine Law.up ?_ _ | refine Below.alloc ?_ (by first | omega | (simp; omega) | (simp; done)) _ | refine Law.then_ ?_ (Hid.out (by assumption))))
  · replace h1 := Bool.eq_false_iff.2 h1
    rw [h1] at HG1
    rw [F.gate_no1 _ h1]
    clear h1 HG2
    go_enter Try.func20, Try.ntmps20
    go_wp2_with fail
    go_at_call 15
    refine (HG1.out _).mono ?_
    rintro e w1 ⟨rfl, hb1⟩
    have B1 : Hid (Below w.heap.size w w1) := Lib.hid (Law.then_ (by (repeat (first | exact Below.refl _ _ | refine Below.setCell ?_ (by first | omega | (simp; omega) | (simp; done)) _ | refine Below.drew ?_ | refine Law.up ?_ _ | refine Below.alloc ?_ (by first | omega | (simp; omega) | (simp; done)) _ | refine Law.then_ ?_ (Hid.out (by assumption))))) hb1)
    have sz1 := hb1.size; (try simp at sz1)
    obtain ⟨c30, c31, f30, f31⟩ := Blk.below (b := w.heap.size + 2) (x := .int .i64 0) (y := .int .i64 0) ⟨by go_simp, by go_simp, by go_simp, by go_simp⟩ hb1 (by first | omega | (simp; omega) | (simp; done))
    clear hb1
    go_wp2
    refine ret_frac rfl rfl rfl (Blk.set2 ⟨c30, c31, f30, f31⟩ _ _) rfl ⟨rfl, ?_⟩
    (repeat (first | exact Below.refl _ _ | refine Below.setCell ?_ (by first | omega | (simp; omega) | (simp; done)) _ | refine Below.drew ?_ | refine Law.up ?_ _ | refine Below.alloc ?_ (by first | omega | (simp; omega) | (simp; done)) _ | refine Law.then_ ?_ (Hid.out (by assumption))))
end Go.Proofs.Ytppmepajcdldkaa
