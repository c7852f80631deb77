/-
  FnExactMakeFrac: MakeFrac answers as the model does, whatever the two numbers.
  Conditions: none.
-/
import Derived.Test.YtppmepajcdldkaaRows
import Derived.Test.YtppmepajcdldkaaConv
import Derived.Test.YtppmepajcdldkaaLaw2
import Derived.Deep.DeepHandedRow
import Derived.Stop.Joined
namespace Go.Proofs.Ytppmepajcdldkaa
open Go.RowKit Go.ChangeShapes Go.WideShapes
set_option linter.unusedVariables false
namespace F
def mkIn (n d : Int) : Int × Int × Bool := if ((-1000000000000000 ≤ n ∧ n ≤ 1000000000000000) ∧ (1 ≤ d ∧ d ≤ 1000000000000000)) then mk n d else (0, 0, false)
end F
theorem specMake_any (n d : Int) (w : World) : Calls Try.prog 16 #[.int .i64 n, .int .i64 d] w fun e w' => e = .returned (res (F.mkIn n d)) ∧ Below w.heap.size w w' := by
  have HI1 := Lib.hid fun W => (l1In_any n (-1000000000000000) 1000000000000000 W).mono (R' := fun e w' => e = .returned (.bool (decide ((-1000000000000000 : Int) ≤ n) && decide (n ≤ 1000000000000000))) ∧ Below W.heap.size W w') fun e w' ⟨he, hw⟩ => ⟨he, by rw [hw]; exact Below.refl _ _⟩
  have HI2 := Lib.hid fun W => (l1In_any d 1 1000000000000000 W).mono (R' := fun e w' => e = .returned (.bool (decide ((1 : Int) ≤ d) && decide (d ≤ 1000000000000000))) ∧ Below W.heap.size W w') fun e w' ⟨he, hw⟩ => ⟨he, by rw [hw]; exact Below.refl _ _⟩
  by_cases h1 : (decide ((-1000000000000000 : Int) ≤ n) && decide (n ≤ 1000000000000000)) = true
  · rw [h1] at HI1
    simp only [Bool.and_eq_true, decide_eq_true_eq] at h1
    by_cases h2 : (decide ((1 : Int) ≤ d) && decide (d ≤ 1000000000000000)) = true
    · rw [h2] at HI2
      simp only [Bool.and_eq_true, decide_eq_true_eq] at h2
      rw [show F.mkIn n d = F.mk n d from if_pos ⟨h1, h2⟩]
      have HC := Lib.hid fun W => l2Make_any n d W (by omega) (by omega) (by omega) (by omega)
      generalize F.mk n d = X at HC ⊢
      obtain ⟨N, D, ok⟩ := X
      replace HC : Hid (∀ W, Calls Try.prog 41 #[.int .i64 n, .int .i64 d] W fun e w' => e = .returned (.tuple #[.agg #[.int .i64 N, .int .i64 D], .bool ok]) ∧ Below W.heap.size W w') := HC
      clear h1 h2
      go_enter Try.func16, Try.ntmps16
      go_wp2_with fail
      go_at_call 40
      refine (HI1.out _).mono ?_
      rintro e w1 ⟨rfl, hb1⟩
      have B1 : Hid (Below w.heap.size w w1) := Lib.hid (Law.then_ (by (repeat (first | exact Below.refl _ _ | refine Below.setCell ?_ (by first | omega | (simp; omega) | (simp; done)) _ | refine Below.drew ?_ | refine Law.up ?_ _ | refine Below.alloc ?_ (by first | omega | (simp; omega) | (simp; done)) _ | refine Law.then_ ?_ (Hid.out (by assumption))))) hb1)
      have sz1 := hb1.size; (try simp at sz1)
      obtain ⟨c10, c11, f10, f11⟩ := Blk.below (b := w.heap.size) (x := .int .i64 0) (y := .int .i64 0) ⟨by go_simp, by go_simp, by go_simp, by go_simp⟩ hb1 (by first | omega | (simp; omega) | (simp; done))
      clear hb1
      go_wp2_with fail
      go_at_call 40
      refine (HI2.out _).mono ?_
      rintro e w2 ⟨rfl, hb2⟩
      have B2 : Hid (Below w.heap.size w w2) := Lib.hid (Law.then_ (by (repeat (first | exact Below.refl _ _ | refine Below.setCell ?_ (by first | omega | (simp; omega) | (simp; done)) _ | refine Below.drew ?_ | refine Law.up ?_ _ | refine Below.alloc ?_ (by first | omega | (simp; omega) | (simp; done)) _ | refine Law.then_ ?_ (Hid.out (by assumption))))) hb2)
      have sz2 := hb2.size; (try simp at sz2)
      obtain ⟨c20, c21, f20, f21⟩ := Blk.below (b := w.heap.size) (x := .int .i64 0) (y := .int .i64 0) ⟨by go_simp, by go_simp, by go_simp, by go_simp⟩ hb2 (by first | omega | (simp; omega) | (simp; done))
      clear hb2
      go_wp2_with fail
      go_at_call 41
      refine (HC.out _).mono ?_
      rintro e w3 ⟨rfl, hb3⟩
      have B3 : Hid (Below w.heap.size w w3) := Lib.hid (Law.then_ (by (repeat (first | exact Below.refl _ _ | refine Below.setCell ?_ (by first | omega | (simp; omega) | (simp; done)) _ | refine Below.drew ?_ | refine Law.up ?_ _ | refine Below.alloc ?_ (by first | omega | (simp; omega) | (simp; done)) _ | refine Law.then_ ?_ (Hid.out (by assumption))))) hb3)
      have sz3 := hb3.size; (try simp at sz3)
      obtain ⟨c30, c31, f30, f31⟩ := Blk.below (b := w.heap.size) (x := .int .i64 0) (y := .int .i64 0) ⟨by go_simp, by go_simp, by go_simp, by go_simp⟩ hb3 (by first | omega | (simp; omega) | (simp; done))
      clear hb3
      go_wp2
      refine ret_frac rfl rfl rfl (Blk.set2 ⟨c30, c31, f30, f31⟩ _ _) rfl ⟨rfl, ?_⟩
      (repeat (first | exact Below.refl _ _ | refine Below.setCell ?_ (by first | omega | (simp; omega) | (simp; done)) _ | refine Below.drew ?_ | refine Law.up ?_ _ | refine Below.alloc ?_ (by first | omega | (simp; omega) | (simp; done)) _ | refine Law.then_ ?_ (Hid.out (by assumption))))
    · rw [show F.mkIn n d = (0, 0, false) from if_neg fun h => h2 (by simp [h.2.1, h.2.2])]
      rw [Bool.eq_false_iff.2 h2] at HI2
      clear h1 h2
      go_enter Try.func16, Try.ntmps16
      go_wp2_with fail
      go_at_call 40
      refine (HI1.out _).mono ?_
      rintro e w1 ⟨rfl, hb1⟩
      have B1 : Hid (Below w.heap.size w w1) := Lib.hid (Law.then_ (by (repeat (first | exact Below.refl _ _ | refine Below.setCell ?_ (by first | omega | (simp; omega) | (simp; done)) _ | refine Below.drew ?_ | refine Law.up ?_ _ | refine Below.alloc ?_ (by first | omega | (simp; omega) | (simp; done)) _ | refine Law.then_ ?_ (Hid.out (by assumption))))) hb1)
      have sz1 := hb1.size; (try simp at sz1)
      obtain ⟨c10, c11, f10, f11⟩ := Blk.below (b := w.heap.size) (x := .int .i64 0) (y := .int .i64 0) ⟨by go_simp, by go_simp, by go_simp, by go_simp⟩ hb1 (by first | omega | (simp; omega) | (simp; done))
      clear hb1
      go_wp2_with fail
      go_at_call 40
      refine (HI2.out _).mono ?_
      rintro e w2 ⟨rfl, hb2⟩
      have B2 : Hid (Below w.heap.size w w2) := Lib.hid (Law.then_ (by (repeat (first | exact Below.refl _ _ | refine Below.setCell ?_ (by first | omega | (simp; omega) | (simp; done)) _ | refine Below.drew ?_ | refine Law.up ?_ _ | refine Below.alloc ?_ (by first | omega | (simp; omega) | (simp; done)) _ | refine Law.then_ ?_ (Hid.out (by assumption))))) hb2)
      have sz2 := hb2.size; (try simp at sz2)
      obtain ⟨c20, c21, f20, f21⟩ := Blk.below (b := w.heap.size) (x := .int .i64 0) (y := .int .i64 0) ⟨by go_simp, by go_simp, by go_simp, by go_simp⟩ hb2 (by first | omega | (simp; omega) | (simp; done))
      clear hb2
      go_wp2
      refine ret_frac rfl rfl rfl (Blk.set2 ⟨c20, c21, f20, f21⟩ _ _) rfl ⟨rfl, ?_⟩
      (repeat (first | exact Below.refl _ _ | refine Below.setCell ?_ (by first | omega | (simp; omega) | (simp; done)) _ | refine Below.drew ?_ | refine Law.up ?_ _ | refine Below.alloc ?_ (by first | omega | (simp; omega) | (simp; done)) _ | refine Law.then_ ?_ (Hid.out (by assumption))))
  · rw [show F.mkIn n d = (0, 0, false) from if_neg fun h => h1 (by simp [h.1.1, h.1.2])]
    rw [Bool.eq_false_iff.2 h1] at HI1
    clear h1 HI2
    go_enter Try.func16, Try.ntmps16
    go_wp2_with fail
    go_at_call 40
    refine (HI1.out _).mono ?_
    rintro e w1 ⟨rfl, hb1⟩
    have B1 : Hid (Below w.heap.size w w1) := Lib.hid (Law.then_ (by (repeat (first | exact Below.refl _ _ | refine Below.setCell ?_ (by first | omega | (simp; omega) | (simp; done)) _ | refine Below.drew ?_ | refine Law.up ?_ _ | refine Below.alloc ?_ (by first | omega | (simp; omega) | (simp; done)) _ | refine Law.then_ ?_ (Hid.out (by assumption))))) hb1)
    have sz1 := hb1.size; (try simp at sz1)
    obtain ⟨c10, c11, f10, f11⟩ := Blk.below (b := w.heap.size) (x := .int .i64 0) (y := .int .i64 0) ⟨by go_simp, by go_simp, by go_simp, by go_simp⟩ hb1 (by first | omega | (simp; omega) | (simp; done))
    clear hb1
    go_wp2
    refine ret_frac rfl rfl rfl (Blk.set2 ⟨c10, c11, f10, f11⟩ _ _) rfl ⟨rfl, ?_⟩
    (repeat (first | exact Below.refl _ _ | refine Below.setCell ?_ (by first | omega | (simp; omega) | (simp; done)) _ | refine Below.drew ?_ | refine Law.up ?_ _ | refine Below.alloc ?_ (by first | omega | (simp; omega) | (simp; done)) _ | refine Law.then_ ?_ (Hid.out (by assumption))))
theorem implMake_any (n d : Int) (w : World) : Calls Try.prog 17 #[.int .i64 n, .int .i64 d] w fun e w' => e = .returned (res (F.mkIn n d)) ∧ Below w.heap.size w w' := by
  by_cases h : ¬ n < -1000000000000000 ∧ ¬ 1000000000000000 < n ∧ ¬ d < 1 ∧ ¬ 1000000000000000 < d
  · obtain ⟨h1, h2, h3, h4⟩ := h
    rw [show F.mkIn n d = F.mk n d from if_pos ⟨⟨by omega, by omega⟩, by omega, by omega⟩]
    have HC := Lib.hid fun W => reduced_any n d W (by omega) (by omega) (by omega) (by omega)
    generalize F.mk n d = X at HC ⊢
    obtain ⟨N, D, ok⟩ := X
    replace HC : Hid (∀ W, Calls Try.prog 42 #[.int .i64 n, .int .i64 d] W fun e w' => e = .returned (.tuple #[.agg #[.int .i64 N, .int .i64 D], .bool ok]) ∧ Below W.heap.size W w') := HC
    go_enter Try.func17, Try.ntmps17
    go_wp2_with fail
    go_at_call 42
    refine (HC.out _).mono ?_
    rintro e w1 ⟨rfl, hb1⟩
    have B1 : Hid (Below w.heap.size w w1) := Lib.hid (Law.then_ (by (repeat (first | exact Below.refl _ _ | refine Below.setCell ?_ (by first | omega | (simp; omega) | (simp; done)) _ | refine Below.drew ?_ | refine Law.up ?_ _ | refine Below.alloc ?_ (by first | omega | (simp; omega) | (simp; done)) _ | refine Law.then_ ?_ (Hid.out (by assumption))))) hb1)
    have sz1 := hb1.size; (try simp at sz1)
    obtain ⟨c10, c11, f10, f11⟩ := Blk.below (b := w.heap.size) (x := .int .i64 0) (y := .int .i64 0) ⟨by go_simp, by go_simp, by go_simp, by go_simp⟩ hb1 (by first | omega | (simp; omega) | (simp; done))
    clear hb1
    go_wp2
    refine ret_frac rfl rfl rfl (Blk.set2 ⟨c10, c11, f10, f11⟩ _ _) rfl ⟨rfl, ?_⟩
    (repeat (first | exact Below.refl _ _ | refine Below.setCell ?_ (by first | omega | (simp; omega) | (simp; done)) _ | refine Below.drew ?_ | refine Law.up ?_ _ | refine Below.alloc ?_ (by first | omega | (simp; omega) | (simp; done)) _ | refine Law.then_ ?_ (Hid.out (by assumption))))
  · rw [show F.mkIn n d = (0, 0, false) from if_neg fun hc => h ⟨by omega, by omega, by omega, by omega⟩]
    have H := Lib.hid h
    clear h
    by_cases h1 : n < -1000000000000000
    · go_enter Try.func17, Try.ntmps17
      go_wp2
      refine ret_frac rfl rfl rfl (b := w.heap.size) (x := .int .i64 0) (y := .int .i64 0) ⟨by go_simp, by go_simp, by go_simp, by go_simp⟩ rfl ⟨rfl, ?_⟩
      (repeat (first | exact Below.refl _ _ | refine Below.setCell ?_ (by first | omega | (simp; omega) | (simp; done)) _ | refine Below.drew ?_ | refine Law.up ?_ _ | refine Below.alloc ?_ (by first | omega | (simp; omega) | (simp; done)) _ | refine Law.then_ ?_ (Hid.out (by assumption))))
    · by_cases h2 : 1000000000000000 < n
      · go_enter Try.func17, Try.ntmps17
        go_wp2
        refine ret_frac rfl rfl rfl (b := w.heap.size) (x := .int .i64 0) (y := .int .i64 0) ⟨by go_simp, by go_simp, by go_simp, by go_simp⟩ rfl ⟨rfl, ?_⟩
        (repeat (first | exact Below.refl _ _ | refine Below.setCell ?_ (by first | omega | (simp; omega) | (simp; done)) _ | refine Below.drew ?_ | refine Law.up ?_ _ | refine Below.alloc ?_ (by first | omega | (simp; omega) | (simp; done)) _ | refine Law.then_ ?_ (Hid.out (by assumption))))
      · by_cases h3 : d < 1
        · go_enter Try.func17, Try.ntmps17
          go_wp2
          refine ret_frac rfl rfl rfl (b := w.heap.size) (x := .int .i64 0) (y := .int .i64 0) ⟨by go_simp, by go_simp, by go_simp, by go_simp⟩ rfl ⟨rfl, ?_⟩
          (repeat (first | exact Below.refl _ _ | refine Below.setCell ?_ (by first | omega | (simp; omega) | (simp; done)) _ | refine Below.drew ?_ | refine Law.up ?_ _ | refine Below.alloc ?_ (by first | omega | (simp; omega) | (simp; done)) _ | refine Law.then_ ?_ (Hid.out (by assumption))))
        · have h4 : 1000000000000000 < d := by have := H.out; omega
          go_enter Try.func17, Try.ntmps17
          go_wp2
          refine ret_frac rfl rfl rfl (b := w.heap.size) (x := .int .i64 0) (y := .int .i64 0) ⟨by go_simp, by go_simp, by go_simp, by go_simp⟩ rfl ⟨rfl, ?_⟩
          (repeat (first | exact Below.refl _ _ | refine Below.setCell ?_ (by first | omega | (simp; omega) | (simp; done)) _ | refine Below.drew ?_ | refine Law.up ?_ _ | refine Below.alloc ?_ (by first | omega | (simp; omega) | (simp; done)) _ | refine Law.then_ ?_ (Hid.out (by assumption))))
namespace FMake
theorem walk (n d : Int) (w : World) (wn : (Lit.int .i64 n).wf = true) (wd : (Lit.int .i64 d).wf = true) (hL : laidMetH Try.prog Rows.fnExactMakeFracRow.laid w) (hsh : w.ShapedOpen Try.prog) :
    Calls Try.prog 4 #[.int .i64 n, .int .i64 d] w fun e w' => e = .returned (.bool true) ∧ Below w.heap.size w w' := by
  clear hL hsh wn wd
  have HG := Lib.hid (fun W => specMake_any n d W)
  have HH := Lib.hid (fun W => implMake_any n d W)
  generalize F.mkIn n d = X at HG HH
  obtain ⟨N, D, ok⟩ := X
  replace HG : Hid (∀ W, Calls Try.prog 16 #[.int .i64 n, .int .i64 d] W fun e w' => e = .returned (.tuple #[.agg #[.int .i64 N, .int .i64 D], .bool ok]) ∧ Below W.heap.size W w') := HG
  replace HH : Hid (∀ W, Calls Try.prog 17 #[.int .i64 n, .int .i64 d] W fun e w' => e = .returned (.tuple #[.agg #[.int .i64 N, .int .i64 D], .bool ok]) ∧ Below W.heap.size W w') := HH
  go_enter Try.func4, Try.ntmps4
  go_wp2_with fail
  go_at_call 16
  refine (HG.out _).mono ?_
  rintro e w1 ⟨rfl, hb1⟩
  have B1 : Hid (Below w.heap.size w w1) := Lib.hid (Law.then_ (by (repeat (first | exact Below.refl _ _ | refine Below.setCell ?_ (by first | omega | (simp; omega) | (simp; done)) _ | refine Below.drew ?_ | refine Law.up ?_ _ | refine Below.alloc ?_ (by first | omega | (simp; omega) | (simp; done)) _ | refine Law.then_ ?_ (Hid.out (by assumption))))) hb1)
  have sz1 := hb1.size; (try simp at sz1)
  clear hb1
  go_wp2_with fail
  go_at_call 17
  refine (HH.out _).mono ?_
  rintro e w2 ⟨rfl, hb2⟩
  have B2 : Hid (Below w.heap.size w w2) := Lib.hid (Law.then_ (by (repeat (first | exact Below.refl _ _ | refine Below.setCell ?_ (by first | omega | (simp; omega) | (simp; done)) _ | refine Below.drew ?_ | refine Law.up ?_ _ | refine Below.alloc ?_ (by first | omega | (simp; omega) | (simp; done)) _ | refine Law.then_ ?_ (Hid.out (by assumption))))) hb2)
  have sz2 := hb2.size; (try simp at sz2)
  obtain ⟨c20, c21, f20, f21⟩ := Blk.below (b := w1.heap.size) (x := .int .i64 N) (y := .int .i64 D) ⟨by go_simp, by go_simp, by go_simp, by go_simp⟩ hb2 (by first | omega | (simp; omega) | (simp; done))
  have lt12 : w1.heap.size < w2.heap.size := by omega
  clear hb2
  cases ok
  all_goals
    go_wp2_with fail
    go_at_call 18
    refine (eqFrac_yes N D _).mono ?_
    rintro e w3 ⟨rfl, hb3⟩
    have B3 : Hid (Below w.heap.size w w3) := Lib.hid (Law.then_ (by (repeat (first | exact Below.refl _ _ | refine Below.setCell ?_ (by first | omega | (simp; omega) | (simp; done)) _ | refine Below.drew ?_ | refine Law.up ?_ _ | refine Below.alloc ?_ (by first | omega | (simp; omega) | (simp; done)) _ | refine Law.then_ ?_ (Hid.out (by assumption))))) hb3)
    have sz3 := hb3.size; (try simp at sz3)
    clear hb3
    go_wp2
    go_ret
    refine ⟨rfl, ?_⟩
    (repeat (first | exact Below.refl _ _ | refine Below.setCell ?_ (by first | omega | (simp; omega) | (simp; done)) _ | refine Below.drew ?_ | refine Law.up ?_ _ | refine Below.alloc ?_ (by first | omega | (simp; omega) | (simp; done)) _ | refine Law.then_ ?_ (Hid.out (by assumption))))
theorem lawOwn : ownKnob Try.prog.godebug = none := by kernel_rfl
theorem lawLaidOut : laidOutB Try.prog = true := by kernel_rfl
theorem contract (H : Type) (enc : TypeId × Value → H) (W : World) (base : Nat) (args : Array Value) (ds : List (DataW H)) (gs : List (DataW H)) (before : List MemPlace)
    (hval0 : ∀ (j : Nat) t v, Try.f4.params[j]? = some t → args[j]? = some v → Value.okWide Try.prog W .any base t v)
    (hW : DataW.Whole enc Try.prog Try.f4.params.toList Rows.fnExactMakeFracSpec.vars false W args.toList ds gs before) (hL : laidMetH Try.prog Rows.fnExactMakeFracRow.laid W) (hsh : W.ShapedOpen Try.prog) :
    Calls Try.prog 4 args W fun e W' => ∃ v, e = .returned v ∧ Rows.fnExactMakeFracSpec.post enc Try.prog Try.f4 false true false false W args v W' := by
  have hval : ∀ (j : Nat) t v, Try.f4.params[j]? = some t → args[j]? = some v → Value.okWide Try.prog W .any base t v := hval0
  have hW' := hW
  obtain ⟨p, q, hA0, hV, rfl, hfz, hnd⟩ := hW
  have hA : DataW.TrodAll enc Try.prog W 0 (fun _ => true) true Try.f4.params.toList args.toList ds p := hA0
  rw [Try.params4] at hA hval
  obtain ⟨v0, vs0, d0, ds0, p0, q0, hargs0, rfl, rfl, h0, r0⟩ := trodAll_cons hA
  obtain ⟨v1, vs1, d1, ds1, p1, q1, hargs1, rfl, rfl, h1, r1⟩ := trodAll_cons r0
  obtain ⟨rfl, rfl, rfl⟩ := trodAll_nil r1
  obtain rfl : args = #[v0, v1] := by cases args; simp_all
  obtain ⟨rfl, rfl⟩ := trodVars_none hV
  obtain ⟨a0, rfl, rfl, rfl, w0⟩ := open_int Try.underlying3 (hval 0 3 v0 rfl rfl) h0
  obtain ⟨a1, rfl, rfl, rfl, w1⟩ := open_int Try.underlying3 (hval 1 3 v1 rfl rfl) h1
  clear hA0 hval0
  refine (walk a0 a1 W w0 w1 hL hsh).mono fun e W' ⟨he, hb⟩ => ?_
  subst he
  exact ⟨_, rfl, Law.close hW' rfl rfl lawLaidOut (by kernel_rfl) Try.underlying4 (by kernel_rfl) hb⟩
theorem reads (os : Os) {H : Type} (enc : TypeId × Value → H) : ∃ places, DataW.whole enc Try.prog ((World.holding Try.prog os ⟨#[], #[], []⟩).forCall (fun _ _ => 0) ⟨#[], #[.int .i64 0, .int .i64 0], []⟩).memory Try.f4.params.toList Rows.fnExactMakeFracSpec.vars false (#[.int .i64 0, .int .i64 0] : Array Value).toList 8 = some ([.lit (.int .i64 0), .lit (.int .i64 0)], [], places) :=
  ⟨[], by kernel_rfl⟩
set_option maxRecDepth 100000 in
theorem lifted (os : Os) (started : os.Started) (H : Type) (enc : TypeId × Value → H) (F : Stop.Interp) :
    ReturnsInHanded {} Try.checked os 4 .any ((OpenSpec.ofChange Rows.fnExactMakeFracSpec).preRow enc Try.prog Try.f4 Rows.fnExactMakeFracRow.domain false Rows.fnExactMakeFracRow.laid) (((OpenSpec.ofChange Rows.fnExactMakeFracSpec).at F).post enc Try.prog Try.f4 false true false false) := by
  obtain ⟨places, hx⟩ := reads os enc
  refine returnsInHanded_of_row (C := Try.checked) (s := OpenSpec.ofChange Rows.fnExactMakeFracSpec) lawOwn started (by kernel_rfl) Try.func4
    (witness_row_at (enc := enc) (C := Try.checked) false (World.holding Try.prog os ⟨#[], #[], []⟩) #[.int .i64 0, .int .i64 0] rfl (by kernel_rfl) (by kernel_rfl) (by kernel_rfl)
      (OpenSpec.preRow_of_cond 8 hx (by kernel_rfl) (fun k hk => by cases hk) (by kernel_rfl) (laidMet_nil _ _))) ?_
  intro W base args ds gs before hval hW _ _ _ hL hsh _
  exact contract H enc W base args ds gs before hval hW hL hsh
theorem proved : Rows.FnExactMakeFracSaid :=
  OpenClaim.holds_of_cond 4 Try.f4 rfl rfl rfl rfl rfl rfl rfl ⟨rfl, rfl, rfl, rfl, rfl⟩ rfl rfl rfl rfl rfl (by kernel_rfl) Try.func4 (by kernel_rfl)
    (of_decide_eq_true (by kernel_rfl)) (by unfold Func.isWrapper; first | (rw [if_pos (by decide +kernel)]; kernel_rfl) | (rw [if_neg (by decide +kernel)]; exact ⟨rfl, rfl⟩))
    (fun os started H enc _ F => by rw [OpenClaim.pre_eq_preRow]; exact lifted os started H enc F)
end FMake
end Go.Proofs.Ytppmepajcdldkaa
