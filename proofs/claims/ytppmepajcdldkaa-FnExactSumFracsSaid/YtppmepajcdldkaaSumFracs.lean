/-
  FnExactSumFracs: SumFracs answers as the model does, whatever the list of fractions, and leaves it as it was.
  Conditions: none.
-/
import Derived.Test.YtppmepajcdldkaaRows
import Derived.Test.YtppmepajcdldkaaSum2
import Derived.Test.YtppmepajcdldkaaPairs
import Derived.Deep.DeepHandedRow
import Derived.Stop.Joined
namespace Go.Proofs.Ytppmepajcdldkaa
open Go.RowKit Go.ChangeShapes Go.WideShapes
set_option linter.unusedVariables false
namespace FSum
set_option maxHeartbeats 1600000 in
theorem walk_core (A : Option Addr) (c : Nat) (xs : List (Int × Int)) (w : World) (hn : xs.length ≤ 1048576) (hwf : ∀ z ∈ xs, (Lit.int .i64 z.1).wf = true ∧ (Lit.int .i64 z.2).wf = true) (hr : Law.Row2 w A xs) :
    Calls Try.prog 12 #[.slice A xs.length c] w fun e w' => e = .returned (.bool true) ∧ Below w.heap.size w w' := by
  have HR := Lib.hid hr
  have HZ : Hid (∀ W, Calls Try.prog 33 #[.slice A xs.length c, .int .i64 1048576] W fun e w' => e = .returned (.int .i64 (1048576 - (xs.length : Int))) ∧ Below W.heap.size W w') := Lib.hid fun W => by
    have := szFrac_any A c xs.length W (by omega)
    rw [if_neg (by omega)] at this
    exact Law.of_same this
  have HG := Lib.hid (fun (A : Option Addr) (c : Nat) (W : World) (h : Law.Row2 W A xs) => specSum_any xs A c W hn h)
  have HH := Lib.hid (fun (A : Option Addr) (c : Nat) (W : World) (h : Law.Row2 W A xs) => implSum_any xs A c W hn hwf h)
  clear hr hwf
  generalize F.sum xs = X at HG HH
  obtain ⟨N, D, ok⟩ := X
  replace HG : Hid (∀ (A : Option Addr) (c : Nat) (W : World), Law.Row2 W A xs → Calls Try.prog 34 #[.slice A xs.length c] W fun e w' => e = .returned (.tuple #[.agg #[.int .i64 N, .int .i64 D], .bool ok]) ∧ Below W.heap.size W w') := HG
  replace HH : Hid (∀ (A : Option Addr) (c : Nat) (W : World), Law.Row2 W A xs → Calls Try.prog 36 #[.slice A xs.length c] W fun e w' => e = .returned (.tuple #[.agg #[.int .i64 N, .int .i64 D], .bool ok]) ∧ Below W.heap.size W w') := HH
  have hnI : ¬ (1048576 - (xs.length : Int)) < 0 := by omega
  go_enter Try.func12, Try.ntmps12
  go_wp2_with fail
  go_at_call 33
  refine (HZ.out _).mono ?_
  rintro e w0 ⟨rfl, hb0⟩
  have B0 : Hid (Below w.heap.size w w0) := Lib.hid (Law.then_ (by (repeat (first | exact Below.refl _ _ | refine Below.setCell ?_ (by first | omega | (simp; omega) | (simp; done)) _ | refine Below.drew ?_ | refine Law.up ?_ _ | refine Below.alloc ?_ (by first | omega | (simp; omega) | (simp; done)) _ | refine Law.then_ ?_ (Hid.out (by assumption))))) hb0)
  have sz0 := hb0.size; (try simp at sz0)
  clear hb0
  go_wp2_with fail
  go_at_call 35
  refine (toFracS_any A c xs _ hn (HR.out.stays (by (repeat (first | exact Below.refl _ _ | refine Below.setCell ?_ (by first | omega | (simp; omega) | (simp; done)) _ | refine Below.drew ?_ | refine Law.up ?_ _ | refine Below.alloc ?_ (by first | omega | (simp; omega) | (simp; done)) _ | refine Law.then_ ?_ (Hid.out (by assumption))))))).mono ?_
  rintro e w1 ⟨A1, rfl, hr1, hb1⟩
  have R1 := Lib.hid hr1
  have B1 : Hid (Below w.heap.size w w1) := Lib.hid (Law.then_ (by (repeat (first | exact Below.refl _ _ | refine Below.setCell ?_ (by first | omega | (simp; omega) | (simp; done)) _ | refine Below.drew ?_ | refine Law.up ?_ _ | refine Below.alloc ?_ (by first | omega | (simp; omega) | (simp; done)) _ | refine Law.then_ ?_ (Hid.out (by assumption))))) hb1)
  have sz1 := hb1.size; (try simp at sz1)
  clear hr1 hb1
  go_wp2_with fail
  go_at_call 34
  refine (HG.out A1 xs.length _ R1.out).mono ?_
  rintro e w2 ⟨rfl, hb2⟩
  have B2 : Hid (Below w.heap.size w w2) := Lib.hid (Law.then_ (by (repeat (first | exact Below.refl _ _ | refine Below.setCell ?_ (by first | omega | (simp; omega) | (simp; done)) _ | refine Below.drew ?_ | refine Law.up ?_ _ | refine Below.alloc ?_ (by first | omega | (simp; omega) | (simp; done)) _ | refine Law.then_ ?_ (Hid.out (by assumption))))) hb2)
  have sz2 := hb2.size; (try simp at sz2)
  clear hb2
  go_wp2_with fail
  go_at_call 35
  refine (toFracS_any A c xs _ hn (HR.out.stays (by (repeat (first | exact Below.refl _ _ | refine Below.setCell ?_ (by first | omega | (simp; omega) | (simp; done)) _ | refine Below.drew ?_ | refine Law.up ?_ _ | refine Below.alloc ?_ (by first | omega | (simp; omega) | (simp; done)) _ | refine Law.then_ ?_ (Hid.out (by assumption))))))).mono ?_
  rintro e w3 ⟨A3, rfl, hr3, hb3⟩
  have R3 := Lib.hid hr3
  have B3 : Hid (Below w.heap.size w w3) := Lib.hid (Law.then_ (by (repeat (first | exact Below.refl _ _ | refine Below.setCell ?_ (by first | omega | (simp; omega) | (simp; done)) _ | refine Below.drew ?_ | refine Law.up ?_ _ | refine Below.alloc ?_ (by first | omega | (simp; omega) | (simp; done)) _ | refine Law.then_ ?_ (Hid.out (by assumption))))) hb3)
  have sz3 := hb3.size; (try simp at sz3)
  obtain ⟨c30, c31, f30, f31⟩ := Blk.below (b := w2.heap.size) (x := .int .i64 N) (y := .int .i64 D) ⟨by go_simp, by go_simp, by go_simp, by go_simp⟩ hb3 (by first | omega | (simp; omega) | (simp; done))
  clear hr3 hb3
  go_wp2_with fail
  go_at_call 36
  refine (HH.out A3 xs.length _ R3.out).mono ?_
  rintro e w4 ⟨rfl, hb4⟩
  have B4 : Hid (Below w.heap.size w w4) := Lib.hid (Law.then_ (by (repeat (first | exact Below.refl _ _ | refine Below.setCell ?_ (by first | omega | (simp; omega) | (simp; done)) _ | refine Below.drew ?_ | refine Law.up ?_ _ | refine Below.alloc ?_ (by first | omega | (simp; omega) | (simp; done)) _ | refine Law.then_ ?_ (Hid.out (by assumption))))) hb4)
  have sz4 := hb4.size; (try simp at sz4)
  obtain ⟨c40, c41, f40, f41⟩ := Blk.below (b := w2.heap.size) (x := .int .i64 N) (y := .int .i64 D) ⟨by go_simp, by go_simp, by go_simp, by go_simp⟩ hb4 (by first | omega | (simp; omega) | (simp; done))
  have lt24 : w2.heap.size < w4.heap.size := by omega
  have R4 := Lib.hid (R3.out.stays hb4)
  clear hb4 c30 c31 f30 f31
  cases ok
  all_goals
    go_wp2_with fail
    go_at_call 18
    refine (eqFrac_yes N D _).mono ?_
    rintro e w5 ⟨rfl, hb5⟩
    have B5 : Hid (Below w.heap.size w w5) := Lib.hid (Law.then_ (by (repeat (first | exact Below.refl _ _ | refine Below.setCell ?_ (by first | omega | (simp; omega) | (simp; done)) _ | refine Below.drew ?_ | refine Law.up ?_ _ | refine Below.alloc ?_ (by first | omega | (simp; omega) | (simp; done)) _ | refine Law.then_ ?_ (Hid.out (by assumption))))) hb5)
    have sz5 := hb5.size; (try simp at sz5)
    have R5 := Lib.hid ((R4.out.stays (by exact (Below.refl _ _).alloc (Nat.le_refl _) _)).stays hb5)
    clear hb5
    go_wp2_with fail
    go_at_call 35
    refine (toFracS_any A c xs _ hn (HR.out.stays B5.out)).mono ?_
    rintro e w6 ⟨A6, rfl, hr6, hb6⟩
    have R6 := Lib.hid hr6
    have R56 := Lib.hid (R5.out.stays hb6)
    have B6 : Hid (Below w.heap.size w w6) := Lib.hid (Law.then_ B5.out hb6)
    clear hr6 hb6
    go_wp2_with fail
    go_at_call 37
    refine (eqFracS_same A3 A6 xs.length xs.length xs _ (by omega) R56.out R6.out).mono ?_
    rintro e w7 ⟨rfl, hb7⟩
    have B7 : Hid (Below w.heap.size w w7) := Lib.hid (Law.then_ (by (repeat (first | exact Below.refl _ _ | refine Below.setCell ?_ (by first | omega | (simp; omega) | (simp; done)) _ | refine Below.drew ?_ | refine Law.up ?_ _ | refine Below.alloc ?_ (by first | omega | (simp; omega) | (simp; done)) _ | refine Law.then_ ?_ (Hid.out (by assumption))))) hb7)
    have sz7 := hb7.size; (try simp at sz7)
    clear hb7
    go_wp2
    go_ret
    refine ⟨rfl, ?_⟩
    (repeat (first | exact Below.refl _ _ | refine Below.setCell ?_ (by first | omega | (simp; omega) | (simp; done)) _ | refine Below.drew ?_ | refine Law.up ?_ _ | refine Below.alloc ?_ (by first | omega | (simp; omega) | (simp; done)) _ | refine Law.then_ ?_ (Hid.out (by assumption))))
theorem walk (A : Option Addr) (n c : Nat) (xs : List (Int × Int)) (w : World) (h0 : xs.length = n ∧ n ≤ c ∧ c ≤ maxLen ∧ (∀ z ∈ xs, (Lit.int .i64 z.1).wf = true ∧ (Lit.int .i64 z.2).wf = true) ∧ Law.Row2 w A xs) (hL : laidMetH Try.prog Rows.fnExactSumFracsRow.laid w) (hsh : w.ShapedOpen Try.prog) :
    Calls Try.prog 12 #[.slice A n c] w fun e w' => e = .returned (.bool true) ∧ Below w.heap.size w w' := by
  obtain ⟨rfl, h1, h2, h3, h4⟩ := h0
  clear hL hsh
  by_cases hb : xs.length ≤ 1048576
  · exact walk_core A c xs w hb h3 h4
  · have hbl : xs.length ≤ 9223372036854775807 := by unfold maxLen at h2; omega
    have HZ : Hid (∀ W, Calls Try.prog 33 #[.slice A xs.length c, .int .i64 1048576] W fun e w' => e = .returned (.int .i64 (-1)) ∧ w' = W) := Lib.hid fun W => by
      have := szFrac_any A c xs.length W hbl
      rwa [if_pos (by omega)] at this
    clear h3 h4 hb
    go_enter Try.func12, Try.ntmps12
    go_wp2_with (go_at_call 33; refine (HZ.out _).mono ?_; rintro e w' ⟨rfl, rfl⟩)
    go_ret
    exact ⟨rfl, Below.refl _ _⟩
theorem lawOwn : ownKnob Try.prog.godebug = none := by kernel_rfl
theorem lawLaidOut : laidOutB Try.prog = true := by kernel_rfl
theorem contract (H : Type) (enc : TypeId × Value → H) (W : World) (base : Nat) (args : Array Value) (ds : List (DataW H)) (gs : List (DataW H)) (before : List MemPlace)
    (hval0 : ∀ (j : Nat) t v, Try.f12.params[j]? = some t → args[j]? = some v → Value.okWide Try.prog W .any base t v)
    (hW : DataW.Whole enc Try.prog Try.f12.params.toList Rows.fnExactSumFracsSpec.vars false W args.toList ds gs before) (hL : laidMetH Try.prog Rows.fnExactSumFracsRow.laid W) (hsh : W.ShapedOpen Try.prog) :
    Calls Try.prog 12 args W fun e W' => ∃ v, e = .returned v ∧ Rows.fnExactSumFracsSpec.post enc Try.prog Try.f12 false true false false W args v W' := by
  have hval : ∀ (j : Nat) t v, Try.f12.params[j]? = some t → args[j]? = some v → Value.okWide Try.prog W .any base t v := hval0
  have hW' := hW
  obtain ⟨p, q, hA0, hV, rfl, hfz, hnd⟩ := hW
  have hA : DataW.TrodAll enc Try.prog W 0 (fun _ => true) true Try.f12.params.toList args.toList ds p := hA0
  rw [Try.params12] at hA hval
  obtain ⟨v0, vs0, d0, ds0, p0, q0, hargs0, rfl, rfl, h0, r0⟩ := trodAll_cons hA
  obtain ⟨rfl, rfl, rfl⟩ := trodAll_nil r0
  obtain rfl : args = #[v0] := by cases args; simp_all
  obtain ⟨rfl, rfl⟩ := trodVars_none hV
  obtain ⟨A0, n0, c0, xs0, rfl, w0⟩ := Law.in_pairs Try.underlying37 Try.underlying23 Try.underlying3 Try.underlying3 (by kernel_rfl) rfl rfl (by kernel_rfl) (by kernel_rfl) (hval 0 37 v0 rfl rfl) h0 (fun x hx => hW'.lt x (by simp [hx]))
  clear hA0 hval0
  refine (walk A0 n0 c0 xs0 W w0 hL hsh).mono fun e W' ⟨he, hb⟩ => ?_
  subst he
  exact ⟨_, rfl, Law.close hW' rfl rfl lawLaidOut (by kernel_rfl) Try.underlying4 (by kernel_rfl) hb⟩
theorem reads (os : Os) {H : Type} (enc : TypeId × Value → H) : ∃ places, DataW.whole enc Try.prog ((World.holding Try.prog os ⟨#[], #[], []⟩).forCall (fun _ _ => 0) ⟨#[], #[.slice none 0 0], []⟩).memory Try.f12.params.toList Rows.fnExactSumFracsSpec.vars false (#[.slice none 0 0] : Array Value).toList 8 = some ([.nil], [], places) :=
  ⟨[], by kernel_rfl⟩
set_option maxRecDepth 100000 in
theorem lifted (os : Os) (started : os.Started) (H : Type) (enc : TypeId × Value → H) (F : Stop.Interp) :
    ReturnsInHanded {} Try.checked os 12 .any ((OpenSpec.ofChange Rows.fnExactSumFracsSpec).preRow enc Try.prog Try.f12 Rows.fnExactSumFracsRow.domain false Rows.fnExactSumFracsRow.laid) (((OpenSpec.ofChange Rows.fnExactSumFracsSpec).at F).post enc Try.prog Try.f12 false true false false) := by
  obtain ⟨places, hx⟩ := reads os enc
  refine returnsInHanded_of_row (C := Try.checked) (s := OpenSpec.ofChange Rows.fnExactSumFracsSpec) lawOwn started (by kernel_rfl) Try.func12
    (witness_row_at (enc := enc) (C := Try.checked) false (World.holding Try.prog os ⟨#[], #[], []⟩) #[.slice none 0 0] rfl (by kernel_rfl) (by kernel_rfl) (by kernel_rfl)
      (OpenSpec.preRow_of_cond 8 hx (by kernel_rfl) (fun k hk => by cases hk) (by kernel_rfl) (laidMet_nil _ _))) ?_
  intro W base args ds gs before hval hW _ _ _ hL hsh _
  exact contract H enc W base args ds gs before hval hW hL hsh
theorem proved : Rows.FnExactSumFracsSaid :=
  OpenClaim.holds_of_cond 12 Try.f12 rfl rfl rfl rfl rfl rfl rfl ⟨rfl, rfl, rfl, rfl, rfl⟩ rfl rfl rfl rfl rfl (by kernel_rfl) Try.func12 (by kernel_rfl)
    (of_decide_eq_true (by kernel_rfl)) (by unfold Func.isWrapper; first | (rw [if_pos (by decide +kernel)]; kernel_rfl) | (rw [if_neg (by decide +kernel)]; exact ⟨rfl, rfl⟩))
    (fun os started H enc _ F => by rw [OpenClaim.pre_eq_preRow]; exact lifted os started H enc F)
end FSum
end Go.Proofs.Ytppmepajcdldkaa
