/-
  FnExactFracBetween: FracBetween answers as the model does, whatever the fractions, and leaves its arguments as they were.
  Conditions: none.
-/
import Derived.Test.YtppmepajcdldkabRows
import Derived.Test.YtppmepajcdldkabConv
import Derived.Test.YtppmepajcdldkabBtw2
import Derived.Test.YtppmepajcdldkabLaw2
import Derived.Deep.DeepHandedRow
import Derived.Stop.Joined
import Derived.Deep.RegionHeld3
import Derived.Deep.DeepCutAuto
namespace Go.Proofs.Ytppmepajcdldkab
open Go.RowKit Go.ChangeShapes Go.WideShapes
set_option linter.unusedVariables false
theorem specBtw_any (n1 d1 n2 d2 : Int) (w : World) :
    Calls Try.prog 13 #[fr n1 d1, fr n2 d2] w fun e w' => e = .returned (res (F.btw n1 d1 n2 d2)) ∧ Below w.heap.size w w' := by
  by_cases hg : F.good n1 d1 = true ∧ F.good n2 d2 = true
  · by_cases hl : n1 * d2 < n2 * d1
    · rw [show F.btw n1 d1 n2 d2 = F.mk (F.simpl n1 d1 n2 d2).1 (F.simpl n1 d1 n2 d2).2 from if_pos ⟨hg, hl⟩]
      exact specBtw_yes n1 d1 n2 d2 w hg.1 hg.2 hl
    · rw [show F.btw n1 d1 n2 d2 = (0, 0, false) from if_neg fun h => hl h.2]
      have HT := Lib.hid fun W => l2Two_any n1 d1 n2 d2 W
      have HQ := Lib.hid fun W => l2Cmp_any n1 d1 n2 d2 W hg.1 hg.2
      rw [hg.1, hg.2] at HT
      have hc : 0 ≤ F.cmp n1 d1 n2 d2 := by
        unfold F.cmp F.cmpI
        rw [if_neg hl]
        split <;> omega
      generalize F.cmp n1 d1 n2 d2 = c at HQ hc
      clear hg hl
      go_enter Try.func13, Try.ntmps13
      go_wp2_with fail
      go_at_call 22
      refine (HT.out _).mono ?_
      rintro e w1 ⟨rfl, hb1⟩
      have B1 : Hid (Below w.heap.size w w1) := Lib.hid (Law.then_ (by (repeat (first | exact Below.refl _ _ | refine Below.setCell ?_ (by first | omega | (simp; omega) | (simp; done)) _ | refine Below.drew ?_ | refine Law.up ?_ _ | refine Below.alloc ?_ (by first | omega | (simp; omega) | (simp; done)) _ | refine Law.then_ ?_ (Hid.out (by assumption))))) hb1)
      have sz1 := hb1.size; (try simp at sz1)
      obtain ⟨c10, c11, f10, f11⟩ := Blk.below (b := w.heap.size) (x := .int .i64 n1) (y := .int .i64 d1) ⟨by go_simp, by go_simp, by go_simp, by go_simp⟩ hb1 (by first | omega | (simp; omega) | (simp; done))
      obtain ⟨c20, c21, f20, f21⟩ := Blk.below (b := w.heap.size + 1) (x := .int .i64 n2) (y := .int .i64 d2) ⟨by go_simp, by go_simp, by go_simp, by go_simp⟩ hb1 (by first | omega | (simp; omega) | (simp; done))
      obtain ⟨c30, c31, f30, f31⟩ := Blk.below (b := w.heap.size + 2) (x := .int .i64 0) (y := .int .i64 0) ⟨by go_simp, by go_simp, by go_simp, by go_simp⟩ hb1 (by first | omega | (simp; omega) | (simp; done))
      clear hb1
      go_wp2_with fail
      go_at_call 23
      refine (HQ.out _).mono ?_
      rintro e w2 ⟨rfl, hb2⟩
      have B2 : Hid (Below w.heap.size w w2) := Lib.hid (Law.then_ (by (repeat (first | exact Below.refl _ _ | refine Below.setCell ?_ (by first | omega | (simp; omega) | (simp; done)) _ | refine Below.drew ?_ | refine Law.up ?_ _ | refine Below.alloc ?_ (by first | omega | (simp; omega) | (simp; done)) _ | refine Law.then_ ?_ (Hid.out (by assumption))))) hb2)
      have sz2 := hb2.size; (try simp at sz2)
      obtain ⟨c60, c61, f60, f61⟩ := Blk.below (b := w.heap.size + 2) (x := .int .i64 0) (y := .int .i64 0) ⟨by go_simp, by go_simp, by go_simp, by go_simp⟩ hb2 (by first | omega | (simp; omega) | (simp; done))
      clear hb2 c10 c11 f10 f11 c20 c21 f20 f21 c30 c31 f30 f31
      go_wp2
      refine ret_frac rfl rfl rfl (Blk.set2 ⟨c60, c61, f60, f61⟩ _ _) rfl ⟨rfl, ?_⟩
      (repeat (first | exact Below.refl _ _ | refine Below.setCell ?_ (by first | omega | (simp; omega) | (simp; done)) _ | refine Below.drew ?_ | refine Law.up ?_ _ | refine Below.alloc ?_ (by first | omega | (simp; omega) | (simp; done)) _ | refine Law.then_ ?_ (Hid.out (by assumption))))
  · rw [show F.btw n1 d1 n2 d2 = (0, 0, false) from if_neg fun h => hg h.1]
    have HT := Lib.hid fun W => l2Two_any n1 d1 n2 d2 W
    have hf : (F.good n1 d1 && F.good n2 d2) = false := by rw [Bool.eq_false_iff, ne_eq, Bool.and_eq_true]; exact hg
    rw [hf] at HT
    clear hg hf
    go_enter Try.func13, Try.ntmps13
    go_wp2_with fail
    go_at_call 22
    refine (HT.out _).mono ?_
    rintro e w1 ⟨rfl, hb1⟩
    have B1 : Hid (Below w.heap.size w w1) := Lib.hid (Law.then_ (by (repeat (first | exact Below.refl _ _ | refine Below.setCell ?_ (by first | omega | (simp; omega) | (simp; done)) _ | refine Below.drew ?_ | refine Law.up ?_ _ | refine Below.alloc ?_ (by first | omega | (simp; omega) | (simp; done)) _ | refine Law.then_ ?_ (Hid.out (by assumption))))) hb1)
    have sz1 := hb1.size; (try simp at sz1)
    obtain ⟨c30, c31, f30, f31⟩ := Blk.below (b := w.heap.size + 2) (x := .int .i64 0) (y := .int .i64 0) ⟨by go_simp, by go_simp, by go_simp, by go_simp⟩ hb1 (by first | omega | (simp; omega) | (simp; done))
    clear hb1
    go_wp2
    refine ret_frac rfl rfl rfl (Blk.set2 ⟨c30, c31, f30, f31⟩ _ _) rfl ⟨rfl, ?_⟩
    (repeat (first | exact Below.refl _ _ | refine Below.setCell ?_ (by first | omega | (simp; omega) | (simp; done)) _ | refine Below.drew ?_ | refine Law.up ?_ _ | refine Below.alloc ?_ (by first | omega | (simp; omega) | (simp; done)) _ | refine Law.then_ ?_ (Hid.out (by assumption))))
namespace FBtw
set_option maxHeartbeats 1600000 in
theorem walk (n1 d1 n2 d2 : Int) (w : World) (wn1 : (Lit.int .i64 n1).wf = true) (wd1 : (Lit.int .i64 d1).wf = true) (wn2 : (Lit.int .i64 n2).wf = true) (wd2 : (Lit.int .i64 d2).wf = true) (hL : laidMetH Try.prog Rows.fnExactFracBetweenRow.laid w) (hsh : w.ShapedOpen Try.prog) :
    Calls Try.prog 5 #[fr n1 d1, fr n2 d2] w fun e w' => e = .returned (.bool true) ∧ Below w.heap.size w w' := by
  clear hL hsh
  have HG := Lib.hid (fun W => specBtw_any n1 d1 n2 d2 W)
  have HH := Lib.hid (fun W => implBtw_any n1 d1 n2 d2 W wn1 wd1 wn2 wd2)
  clear wn1 wd1 wn2 wd2
  generalize F.btw n1 d1 n2 d2 = X at HG HH
  obtain ⟨N, D, ok⟩ := X
  replace HG : Hid (∀ W, Calls Try.prog 13 #[fr n1 d1, fr n2 d2] W fun e w' => e = .returned (.tuple #[.agg #[.int .i64 N, .int .i64 D], .bool ok]) ∧ Below W.heap.size W w') := HG
  replace HH : Hid (∀ W, Calls Try.prog 15 #[fr n1 d1, fr n2 d2] W fun e w' => e = .returned (.tuple #[.agg #[.int .i64 N, .int .i64 D], .bool ok]) ∧ Below W.heap.size W w') := HH
  go_enter Try.func5, Try.ntmps5
  go_upto_region 1 with fail
  go_cut [5, 6] from 9 (fun s5 s6 wx => Got w n1 d1 n2 d2 N D ok s5 s6 wx)
  case first =>
    have hold0 : ((w.alloc (.cells #[.int .i64 n1, .int .i64 d1] 33)).alloc (.cells #[.int .i64 n2, .int .i64 d2] 33)).drew.cell? ⟨w.heap.size, 0, none⟩ = some (.int .i64 n1) ∧ ((w.alloc (.cells #[.int .i64 n1, .int .i64 d1] 33)).alloc (.cells #[.int .i64 n2, .int .i64 d2] 33)).drew.cell? ⟨w.heap.size, 1, none⟩ = some (.int .i64 d1) ∧ ((w.alloc (.cells #[.int .i64 n1, .int .i64 d1] 33)).alloc (.cells #[.int .i64 n2, .int .i64 d2] 33)).drew.cell? ⟨w.heap.size + 1, 0, none⟩ = some (.int .i64 n2) ∧ ((w.alloc (.cells #[.int .i64 n1, .int .i64 d1] 33)).alloc (.cells #[.int .i64 n2, .int .i64 d2] 33)).drew.cell? ⟨w.heap.size + 1, 1, none⟩ = some (.int .i64 d2) ∧ Below w.heap.size w ((w.alloc (.cells #[.int .i64 n1, .int .i64 d1] 33)).alloc (.cells #[.int .i64 n2, .int .i64 d2] 33)).drew ∧ w.heap.size + 2 ≤ ((w.alloc (.cells #[.int .i64 n1, .int .i64 d1] 33)).alloc (.cells #[.int .i64 n2, .int .i64 d2] 33)).drew.heap.size := ⟨by go_simp, by go_simp, by go_simp, by go_simp, (((Below.refl _ _).alloc (Nat.le_refl _) _).alloc (by simp) _).drew, by simp⟩
    go_region_held3 (fun w' => w'.cell? ⟨w.heap.size, 0, none⟩ = some (.int .i64 n1) ∧ w'.cell? ⟨w.heap.size, 1, none⟩ = some (.int .i64 d1) ∧ w'.cell? ⟨w.heap.size + 1, 0, none⟩ = some (.int .i64 n2) ∧ w'.cell? ⟨w.heap.size + 1, 1, none⟩ = some (.int .i64 d2) ∧ Below w.heap.size w w' ∧ w.heap.size + 2 ≤ w'.heap.size) ((first | exact hold0 | exact held_call (by assumption) (by assumption) | exact held_alloc (by assumption) _ | exact held_store (held_store (by assumption) (by first | omega | (simp; omega) | (simp; done)) _) (by first | omega | (simp; omega) | (simp; done)) _ | exact held_realloc _ _ (by assumption) (by first | omega | (simp; omega) | (simp; done)))) (first
      | (go_at_call_of 14 n1; refine (toFrac_any n1 d1 _).mono ?_; rintro e w1 ⟨rfl, hb1⟩; have sz1 := hb1.size; (try simp at sz1); (try (refine Blk.carry (b := w.heap.size + 1 + 1) (x := .int .i64 0) (y := .int .i64 0) hb1 ?_ ?_ ?_ ?_ ?_ ?_; (focus (go_simp; done)); (focus (go_simp; done)); (focus (go_simp; done)); (focus (go_simp; done)); (focus (first | omega | (simp; omega) | (simp; done))); rintro ⟨ce100, ce101, fe100, fe101⟩)))
      | (go_at_call_of 14 n2; refine (toFrac_any n2 d2 _).mono ?_; rintro e w2 ⟨rfl, hb2⟩; have sz2 := hb2.size; (try simp at sz2); (try (refine Blk.carry (b := w.heap.size + 1 + 1) (x := .int .i64 0) (y := .int .i64 0) hb2 ?_ ?_ ?_ ?_ ?_ ?_; (focus (go_simp; done)); (focus (go_simp; done)); (focus (go_simp; done)); (focus (go_simp; done)); (focus (first | omega | (simp; omega) | (simp; done))); rintro ⟨ce200, ce201, fe200, fe201⟩)); (try (refine Blk.carry (b := w1.heap.size) (x := .int .i64 0) (y := .int .i64 0) hb2 ?_ ?_ ?_ ?_ ?_ ?_; (focus (go_simp; done)); (focus (go_simp; done)); (focus (go_simp; done)); (focus (go_simp; done)); (focus (first | omega | (simp; omega) | (simp; done))); rintro ⟨ce210, ce211, fe210, fe211⟩)))
      | (go_at_call 13; refine (HG.out _).mono ?_; rintro e w3 ⟨rfl, hb3⟩; have sz3 := hb3.size; (try simp at sz3); (try (refine Blk.carry (b := w.heap.size + 1 + 1) (x := .int .i64 0) (y := .int .i64 0) hb3 ?_ ?_ ?_ ?_ ?_ ?_; (focus (go_simp; done)); (focus (go_simp; done)); (focus (go_simp; done)); (focus (go_simp; done)); (focus (first | omega | (simp; omega) | (simp; done))); rintro ⟨ce300, ce301, fe300, fe301⟩)); (try (refine Blk.carry (b := w1.heap.size) (x := .int .i64 0) (y := .int .i64 0) hb3 ?_ ?_ ?_ ?_ ?_ ?_; (focus (go_simp; done)); (focus (go_simp; done)); (focus (go_simp; done)); (focus (go_simp; done)); (focus (first | omega | (simp; omega) | (simp; done))); rintro ⟨ce310, ce311, fe310, fe311⟩)); (try (refine Blk.carry (b := w2.heap.size) (x := .int .i64 0) (y := .int .i64 0) hb3 ?_ ?_ ?_ ?_ ?_ ?_; (focus (go_simp; done)); (focus (go_simp; done)); (focus (go_simp; done)); (focus (go_simp; done)); (focus (first | omega | (simp; omega) | (simp; done))); rintro ⟨ce320, ce321, fe320, fe321⟩))))
    all_goals (go_wp2_with fail; go_meet; refine ⟨by assumption, ⟨_, rfl, ?_, (by first | omega | (simp; omega) | (simp; done)), (by first | omega | (simp; omega) | (simp; done))⟩, rfl⟩)
    all_goals first | exact Blk.set2 ⟨by assumption, by assumption, by assumption, by assumption⟩ _ _ | exact ⟨by go_simp, by go_simp, by go_simp, by go_simp⟩
  case rest =>
  rename World => v1
  obtain ⟨⟨h1, h2, h3, h4, h5, h6⟩, ⟨b5, rfl, hb5, hge, hlt⟩, rfl⟩ := hcut
  have hcut0 := And.intro h1 (And.intro h2 (And.intro h3 (And.intro h4 (And.intro h5.drew (And.intro h6 (And.intro hb5.c0 (And.intro hb5.c1 hlt)))))))
  clear hb5 HG
  go_upto_region 2 with fail
  go_cut [7, 8] from 17 (fun s7 s8 wx => Got5 w n1 d1 n2 d2 N D b5 ok s7 s8 wx)
  case first =>
    have hold0 : v1.drew.cell? ⟨w.heap.size, 0, none⟩ = some (.int .i64 n1) ∧ v1.drew.cell? ⟨w.heap.size, 1, none⟩ = some (.int .i64 d1) ∧ v1.drew.cell? ⟨w.heap.size + 1, 0, none⟩ = some (.int .i64 n2) ∧ v1.drew.cell? ⟨w.heap.size + 1, 1, none⟩ = some (.int .i64 d2) ∧ Below w.heap.size w v1.drew ∧ w.heap.size + 2 ≤ v1.drew.heap.size ∧ v1.drew.cell? ⟨b5, 0, none⟩ = some (.int .i64 N) ∧ v1.drew.cell? ⟨b5, 1, none⟩ = some (.int .i64 D) ∧ b5 + 1 ≤ v1.drew.heap.size := hcut0
    go_region_held3 (fun w' => w'.cell? ⟨w.heap.size, 0, none⟩ = some (.int .i64 n1) ∧ w'.cell? ⟨w.heap.size, 1, none⟩ = some (.int .i64 d1) ∧ w'.cell? ⟨w.heap.size + 1, 0, none⟩ = some (.int .i64 n2) ∧ w'.cell? ⟨w.heap.size + 1, 1, none⟩ = some (.int .i64 d2) ∧ Below w.heap.size w w' ∧ w.heap.size + 2 ≤ w'.heap.size ∧ w'.cell? ⟨b5, 0, none⟩ = some (.int .i64 N) ∧ w'.cell? ⟨b5, 1, none⟩ = some (.int .i64 D) ∧ b5 + 1 ≤ w'.heap.size) ((first | exact hold0 | exact held_call5 (by assumption) (by assumption) | exact held_alloc5 (by assumption) _ | exact held_store5 (held_store5 (by assumption) (by first | omega | (simp; omega) | (simp; done)) (by first | omega | (simp; omega) | (simp; done)) _) (by first | omega | (simp; omega) | (simp; done)) (by first | omega | (simp; omega) | (simp; done)) _ | exact held_realloc5 _ _ (by assumption) (by first | omega | (simp; omega) | (simp; done)) (by first | omega | (simp; omega) | (simp; done)))) (first
      | (go_at_call_of 14 n1; refine (toFrac_any n1 d1 _).mono ?_; rintro e w1 ⟨rfl, hb1⟩; have sz1 := hb1.size; (try simp at sz1); (try (refine Blk.carry (b := v1.heap.size) (x := .int .i64 0) (y := .int .i64 0) hb1 ?_ ?_ ?_ ?_ ?_ ?_; (focus (go_simp; done)); (focus (go_simp; done)); (focus (go_simp; done)); (focus (go_simp; done)); (focus (first | omega | (simp; omega) | (simp; done))); rintro ⟨ce100, ce101, fe100, fe101⟩)))
      | (go_at_call_of 14 n2; refine (toFrac_any n2 d2 _).mono ?_; rintro e w2 ⟨rfl, hb2⟩; have sz2 := hb2.size; (try simp at sz2); (try (refine Blk.carry (b := v1.heap.size) (x := .int .i64 0) (y := .int .i64 0) hb2 ?_ ?_ ?_ ?_ ?_ ?_; (focus (go_simp; done)); (focus (go_simp; done)); (focus (go_simp; done)); (focus (go_simp; done)); (focus (first | omega | (simp; omega) | (simp; done))); rintro ⟨ce200, ce201, fe200, fe201⟩)); (try (refine Blk.carry (b := w1.heap.size) (x := .int .i64 0) (y := .int .i64 0) hb2 ?_ ?_ ?_ ?_ ?_ ?_; (focus (go_simp; done)); (focus (go_simp; done)); (focus (go_simp; done)); (focus (go_simp; done)); (focus (first | omega | (simp; omega) | (simp; done))); rintro ⟨ce210, ce211, fe210, fe211⟩)))
      | (go_at_call 15; refine (HH.out _).mono ?_; rintro e w3 ⟨rfl, hb3⟩; have sz3 := hb3.size; (try simp at sz3); (try (refine Blk.carry (b := v1.heap.size) (x := .int .i64 0) (y := .int .i64 0) hb3 ?_ ?_ ?_ ?_ ?_ ?_; (focus (go_simp; done)); (focus (go_simp; done)); (focus (go_simp; done)); (focus (go_simp; done)); (focus (first | omega | (simp; omega) | (simp; done))); rintro ⟨ce300, ce301, fe300, fe301⟩)); (try (refine Blk.carry (b := w1.heap.size) (x := .int .i64 0) (y := .int .i64 0) hb3 ?_ ?_ ?_ ?_ ?_ ?_; (focus (go_simp; done)); (focus (go_simp; done)); (focus (go_simp; done)); (focus (go_simp; done)); (focus (first | omega | (simp; omega) | (simp; done))); rintro ⟨ce310, ce311, fe310, fe311⟩)); (try (refine Blk.carry (b := w2.heap.size) (x := .int .i64 0) (y := .int .i64 0) hb3 ?_ ?_ ?_ ?_ ?_ ?_; (focus (go_simp; done)); (focus (go_simp; done)); (focus (go_simp; done)); (focus (go_simp; done)); (focus (first | omega | (simp; omega) | (simp; done))); rintro ⟨ce320, ce321, fe320, fe321⟩))))
    all_goals (go_wp2_with fail; go_meet; refine ⟨by assumption, ⟨_, rfl, ?_, (by first | omega | (simp; omega) | (simp; done)), (by first | omega | (simp; omega) | (simp; done))⟩, rfl⟩)
    all_goals first | exact Blk.set2 ⟨by assumption, by assumption, by assumption, by assumption⟩ _ _ | exact ⟨by go_simp, by go_simp, by go_simp, by go_simp⟩
  case rest =>
  clear hcut0 h1 h2 h3 h4 h5 h6 HH
  obtain ⟨⟨_, _, _, _, h5, h6, h7, h8, h9⟩, ⟨b7, rfl, ⟨k0, k1, k2, k3⟩, hge7, hlt7⟩, rfl⟩ := hcut
  have B0 := Lib.hid h5
  clear h5
  cases ok
  all_goals
    go_wp2_with fail
    go_at_call 9
    refine (eqFrac_yes N D _).mono ?_
    rintro e w9 ⟨rfl, hb9⟩
    have B9 : Hid (Below w.heap.size w w9) := Lib.hid (Law.then_ (by (repeat (first | exact Below.refl _ _ | refine Below.setCell ?_ (by first | omega | (simp; omega) | (simp; done)) _ | refine Below.drew ?_ | refine Law.up ?_ _ | refine Below.alloc ?_ (by first | omega | (simp; omega) | (simp; done)) _ | refine Law.then_ ?_ (Hid.out (by assumption))))) hb9)
    have sz9 := hb9.size; (try simp at sz9)
    clear hb9
    go_wp2
    go_ret
    refine ⟨rfl, ?_⟩
    (repeat (first | exact Below.refl _ _ | refine Below.setCell ?_ (by first | omega | (simp; omega) | (simp; done)) _ | refine Below.drew ?_ | refine Law.up ?_ _ | refine Below.alloc ?_ (by first | omega | (simp; omega) | (simp; done)) _ | refine Law.then_ ?_ (Hid.out (by assumption))))
theorem lawOwn : ownKnob Try.prog.godebug = none := by kernel_rfl
theorem lawLaidOut : laidOutB Try.prog = true := by kernel_rfl
theorem contract (H : Type) (enc : TypeId × Value → H) (W : World) (base : Nat) (args : Array Value) (ds : List (DataW H)) (gs : List (DataW H)) (before : List MemPlace)
    (hval0 : ∀ (j : Nat) t v, Try.f5.params[j]? = some t → args[j]? = some v → Value.okWide Try.prog W .any base t v)
    (hW : DataW.Whole enc Try.prog Try.f5.params.toList Rows.fnExactFracBetweenSpec.vars false W args.toList ds gs before) (hL : laidMetH Try.prog Rows.fnExactFracBetweenRow.laid W) (hsh : W.ShapedOpen Try.prog) :
    Calls Try.prog 5 args W fun e W' => ∃ v, e = .returned v ∧ Rows.fnExactFracBetweenSpec.post enc Try.prog Try.f5 false true false false W args v W' := by
  have hval : ∀ (j : Nat) t v, Try.f5.params[j]? = some t → args[j]? = some v → Value.okWide Try.prog W .any base t v := hval0
  have hW' := hW
  obtain ⟨p, q, hA0, hV, rfl, hfz, hnd⟩ := hW
  have hA : DataW.TrodAll enc Try.prog W 0 (fun _ => true) true Try.f5.params.toList args.toList ds p := hA0
  rw [Try.params5] at hA hval
  obtain ⟨v0, vs0, d0, ds0, p0, q0, hargs0, rfl, rfl, h0, r0⟩ := trodAll_cons hA
  obtain ⟨v1, vs1, d1, ds1, p1, q1, hargs1, rfl, rfl, h1, r1⟩ := trodAll_cons r0
  obtain ⟨rfl, rfl, rfl⟩ := trodAll_nil r1
  obtain rfl : args = #[v0, v1] := by cases args; simp_all
  obtain ⟨rfl, rfl⟩ := trodVars_none hV
  obtain ⟨a0, b0, rfl, wa0, wb0⟩ := Law.in_pair Try.underlying33 Try.underlying3 Try.underlying3 (by kernel_rfl) (by kernel_rfl) (hval 0 33 v0 rfl rfl) h0
  obtain ⟨a1, b1, rfl, wa1, wb1⟩ := Law.in_pair Try.underlying33 Try.underlying3 Try.underlying3 (by kernel_rfl) (by kernel_rfl) (hval 1 33 v1 rfl rfl) h1
  clear hA0 hval0
  refine (walk a0 b0 a1 b1 W wa0 wb0 wa1 wb1 hL hsh).mono fun e W' ⟨he, hb⟩ => ?_
  subst he
  exact ⟨_, rfl, Law.close hW' rfl rfl lawLaidOut (by kernel_rfl) Try.underlying4 (by kernel_rfl) hb⟩
theorem reads (os : Os) {H : Type} (enc : TypeId × Value → H) : ∃ places, DataW.whole enc Try.prog ((World.holding Try.prog os ⟨#[], #[], []⟩).forCall (fun _ _ => 0) ⟨#[], #[.agg #[.int .i64 0, .int .i64 0], .agg #[.int .i64 0, .int .i64 0]], []⟩).memory Try.f5.params.toList Rows.fnExactFracBetweenSpec.vars false (#[.agg #[.int .i64 0, .int .i64 0], .agg #[.int .i64 0, .int .i64 0]] : Array Value).toList 8 = some ([.agg [.lit (.int .i64 0), .lit (.int .i64 0)], .agg [.lit (.int .i64 0), .lit (.int .i64 0)]], [], places) :=
  ⟨[], by kernel_rfl⟩
set_option maxRecDepth 100000 in
theorem lifted (os : Os) (started : os.Started) (H : Type) (enc : TypeId × Value → H) (F : Stop.Interp) :
    ReturnsInHanded {} Try.checked os 5 .any ((OpenSpec.ofChange Rows.fnExactFracBetweenSpec).preRow enc Try.prog Try.f5 Rows.fnExactFracBetweenRow.domain false Rows.fnExactFracBetweenRow.laid) (((OpenSpec.ofChange Rows.fnExactFracBetweenSpec).at F).post enc Try.prog Try.f5 false true false false) := by
  obtain ⟨places, hx⟩ := reads os enc
  refine returnsInHanded_of_row (C := Try.checked) (s := OpenSpec.ofChange Rows.fnExactFracBetweenSpec) lawOwn started (by kernel_rfl) Try.func5
    (witness_row_at (enc := enc) (C := Try.checked) false (World.holding Try.prog os ⟨#[], #[], []⟩) #[.agg #[.int .i64 0, .int .i64 0], .agg #[.int .i64 0, .int .i64 0]] rfl (by kernel_rfl) (by kernel_rfl) (by kernel_rfl)
      (OpenSpec.preRow_of_cond 8 hx (by kernel_rfl) (fun k hk => by cases hk) (by kernel_rfl) (laidMet_nil _ _))) ?_
  intro W base args ds gs before hval hW _ _ _ hL hsh _
  exact contract H enc W base args ds gs before hval hW hL hsh
theorem proved : Rows.FnExactFracBetweenSaid :=
  OpenClaim.holds_of_cond 5 Try.f5 rfl rfl rfl rfl rfl rfl rfl ⟨rfl, rfl, rfl, rfl, rfl⟩ rfl rfl rfl rfl rfl (by kernel_rfl) Try.func5 (by kernel_rfl)
    (of_decide_eq_true (by kernel_rfl)) (by unfold Func.isWrapper; first | (rw [if_pos (by decide +kernel)]; kernel_rfl) | (rw [if_neg (by decide +kernel)]; exact ⟨rfl, rfl⟩))
    (fun os started H enc _ F => by rw [OpenClaim.pre_eq_preRow]; exact lifted os started H enc F)
end FBtw
end Go.Proofs.Ytppmepajcdldkab
