/-
  PROVED HERE: 'Rows.FnExactParseFracCardSaid': the law FnExactParseFrac returns true for every string, and the string reads afterwards as before. Conditions: the listed package variables hold what the program's text lays (the card ties them to it).
-/
import Derived.Test.YtppmepajcdldkabDoorPSpec
import Derived.Test.YtppmepajcdldkabDoorLaw2
import Derived.Test.YtppmepajcdldkabDoorCards
import Derived.Test.YtppmepajcdldkabDoorTie
namespace Go.Proofs.YtppmepajcdldkabDoor.parseFrac
open Go.ChangeShapes Go.WideShapes Go.ChangeAt Go.RowKit
open Go.ChangeMaps (open_string shut_string)
set_option linter.unusedVariables false
set_option maxHeartbeats 800000 in
theorem walk (s : ByteArray) (w : World) (ws : s.size ≤ maxLen) (hL : laidMetH Tryd.prog Rows.fnExactParseFracRow.laid w) (hsh : w.ShapedOpen Tryd.prog) :
    Calls Tryd.prog 4 #[.string s] w fun e w' => e = .returned (.bool true) ∧ Below w.heap.size w w' := by
  have HT := Lib.hid (tab_of_laid5 hL)
  have HE := Lib.hid (errs_of_laid5 hL)
  have HM := Lib.hid (mx_of_shaped hsh)
  unfold maxLen at ws
  clear hL hsh
  by_cases h : s.size ≤ 1048576
  · have hI : ¬ (1048576 : Int) < (s.size : Int) := by omega
    have HG := Lib.hid (fun W => specPF_any s W h)
    have HH := Lib.hid (fun W ht he hm => implPF_any s W h ht he hm)
    generalize pfi s = X at HG HH
    obtain ⟨N, D, ok⟩ := X
    replace HG : Hid (∀ W, Calls Tryd.prog 8 #[.string s] W fun e w' => e = .returned (.tuple #[.agg #[.int .i64 N, .int .i64 D], .bool ok]) ∧ Below W.heap.size W w') := HG
    replace HH : Hid (∀ W, Tab W → Errs W → Mx W → Calls Tryd.prog 9 #[.string s] W fun e w' => e = .returned (.tuple #[.agg #[.int .i64 N, .int .i64 D], .bool ok]) ∧ Below W.heap.size W w') := HH
    go_enter Tryd.func4, Tryd.ntmps4
    go_wp2_with fail
    go_at_call 8
    refine (HG.out _).mono ?_
    rintro e w1 ⟨rfl, hb1⟩
    have B1 : Hid (Below w.heap.size w w1) := Lib.hid (Law.then_ (by (repeat (first | exact Below.refl _ _ | refine Below.setCell ?_ (by first | omega | (simp; omega) | (simp; done)) _ | refine Below.drew ?_ | refine Law.up ?_ _ | refine Below.alloc ?_ (by first | omega | (simp; omega) | (simp; done)) _ | refine Law.then_ ?_ (Hid.out (by assumption))))) hb1)
    have sz1 := hb1.size; (try simp at sz1)
    clear hb1
    have B1' := Lib.hid (B1.out.alloc B1.out.size (.cells #[.int .i64 N, .int .i64 D] 26))
    go_wp2_with fail
    go_at_call 9
    refine (HH.out _ (HT.out.stays B1'.out) (HE.out.stays B1'.out) (HM.out.stays B1'.out)).mono ?_
    rintro e w2 ⟨rfl, hb2⟩
    have B2 : Hid (Below w.heap.size w w2) := Lib.hid (Law.then_ (by (repeat (first | exact Below.refl _ _ | refine Below.setCell ?_ (by first | omega | (simp; omega) | (simp; done)) _ | refine Below.drew ?_ | refine Law.up ?_ _ | refine Below.alloc ?_ (by first | omega | (simp; omega) | (simp; done)) _ | refine Law.then_ ?_ (Hid.out (by assumption))))) hb2)
    have sz2 := hb2.size; (try simp at sz2)
    obtain ⟨c20, c21, f20, f21⟩ := Blk.below (b := w1.heap.size) (x := .int .i64 N) (y := .int .i64 D) ⟨by go_simp, by go_simp, by go_simp, by go_simp⟩ hb2 (by first | omega | (simp; omega) | (simp; done))
    have lt12 : w1.heap.size < w2.heap.size := by omega
    clear hb2 B1'
    cases ok
    all_goals
      go_wp2_with fail
      go_at_call 10
      refine (eqFrac_yes N D _).mono ?_
      rintro e w3 ⟨rfl, hb3⟩
      have B3 : Hid (Below w.heap.size w w3) := Lib.hid (Law.then_ (by (repeat (first | exact Below.refl _ _ | refine Below.setCell ?_ (by first | omega | (simp; omega) | (simp; done)) _ | refine Below.drew ?_ | refine Law.up ?_ _ | refine Below.alloc ?_ (by first | omega | (simp; omega) | (simp; done)) _ | refine Law.then_ ?_ (Hid.out (by assumption))))) hb3)
      have sz3 := hb3.size; (try simp at sz3)
      clear hb3
      go_wp2
      go_ret
      refine ⟨rfl, ?_⟩
      (repeat (first | exact Below.refl _ _ | refine Below.setCell ?_ (by first | omega | (simp; omega) | (simp; done)) _ | refine Below.drew ?_ | refine Law.up ?_ _ | refine Below.alloc ?_ (by first | omega | (simp; omega) | (simp; done)) _ | refine Law.then_ ?_ (Hid.out (by assumption))))
  · have hI : (1048576 : Int) < (s.size : Int) := by omega
    go_enter Tryd.func4, Tryd.ntmps4
    go_wp2
    go_ret
    exact ⟨rfl, Below.refl _ _⟩
theorem lawOwn : ownKnob Tryd.prog.godebug = none := by kernel_rfl
theorem lawLaidOut : laidOutB Tryd.prog = true := by kernel_rfl
theorem contract (H : Type) (enc : TypeId × Value → H) (W : World) (base : Nat) (args : Array Value) (ds : List (DataW H)) (gs : List (DataW H)) (before : List MemPlace)
    (hval0 : ∀ (j : Nat) t v, Tryd.f4.params[j]? = some t → args[j]? = some v → Value.okWide Tryd.prog W .any base t v)
    (hW : DataW.Whole enc Tryd.prog Tryd.f4.params.toList Rows.fnExactParseFracSpec.vars false W args.toList ds gs before) (hL : laidMetH Tryd.prog Rows.fnExactParseFracRow.laid W) (hsh : W.ShapedOpen Tryd.prog) :
    Calls Tryd.prog 4 args W fun e W' => ∃ v, e = .returned v ∧ Rows.fnExactParseFracSpec.post enc Tryd.prog Tryd.f4 false true false false W args v W' := by
  have hval : ∀ (j : Nat) t v, Tryd.f4.params[j]? = some t → args[j]? = some v → Value.okWide Tryd.prog W .any base t v := hval0
  have hW' := hW
  obtain ⟨p, q, hA0, hV, rfl, hfz, hnd⟩ := hW
  have hA : DataW.TrodAll enc Tryd.prog W 0 (fun _ => true) true Tryd.f4.params.toList args.toList ds p := hA0
  rw [Tryd.params4] at hA hval
  obtain ⟨v0, vs0, d0, ds0, p0, q0, hargs0, rfl, rfl, h0, r0⟩ := trodAll_cons hA
  obtain ⟨rfl, rfl, rfl⟩ := trodAll_nil r0
  obtain rfl : args = #[v0] := by cases args; simp_all
  obtain ⟨rfl, rfl⟩ := trodVars_none hV
  obtain ⟨a0, rfl, rfl, rfl, w0⟩ := open_string Tryd.underlying9 (hval 0 9 v0 rfl rfl) h0
  clear hA0 hval0
  refine (walk a0 W w0 hL hsh).mono fun e W' ⟨he, hb⟩ => ?_
  subst he
  exact ⟨_, rfl, Law.close hW' rfl rfl lawLaidOut (by kernel_rfl) Tryd.underlying4 (by kernel_rfl) hb⟩
theorem reads (os : Os) {H : Type} (enc : TypeId × Value → H) : ∃ places, DataW.whole enc Tryd.prog ((laidWorld os).forCall (fun _ _ => 0) ⟨#[], #[.string ⟨#[]⟩], []⟩).memory Tryd.f4.params.toList Rows.fnExactParseFracSpec.vars false (#[.string ⟨#[]⟩] : Array Value).toList 8 = some ([.lit (.string [])], [], places) :=
  ⟨[], by kernel_rfl⟩
set_option maxRecDepth 100000 in
theorem lifted (os : Os) (started : os.Started) (H : Type) (enc : TypeId × Value → H) (F : Stop.Interp) :
    ReturnsInHanded {} Tryd.checked os 4 .any ((OpenSpec.ofChange Rows.fnExactParseFracSpec).preRow enc Tryd.prog Tryd.f4 Rows.fnExactParseFracRow.domain false Rows.fnExactParseFracRow.laid) (((OpenSpec.ofChange Rows.fnExactParseFracSpec).at F).post enc Tryd.prog Tryd.f4 false true false false) := by
  obtain ⟨places, hx⟩ := reads os enc
  refine returnsInHanded_of_row (C := Tryd.checked) (s := OpenSpec.ofChange Rows.fnExactParseFracSpec) lawOwn started (by kernel_rfl) Tryd.func4
    (witness_row_atRef (enc := enc) (C := Tryd.checked) false (laidWorld os) #[.string ⟨#[]⟩] rfl (by kernel_rfl) (by kernel_rfl) (by kernel_rfl)
      (OpenSpec.preRow_of_cond 8 hx (by kernel_rfl) (fun k hk => by cases hk) (by kernel_rfl) (laid5_met os _))) ?_
  intro W base args ds gs before hval hW _ _ _ hL hsh _
  exact contract H enc W base args ds gs before hval hW hL hsh
theorem proved : Rows.FnExactParseFracSaid :=
  OpenClaim.holds_of_cond 4 Tryd.f4 rfl rfl rfl rfl rfl rfl rfl ⟨rfl, rfl, rfl, rfl, rfl⟩ rfl rfl rfl rfl rfl (by kernel_rfl) Tryd.func4 (by kernel_rfl)
    (of_decide_eq_true (by kernel_rfl)) (by unfold Func.isWrapper; first | (rw [if_pos (by decide +kernel)]; kernel_rfl) | (rw [if_neg (by decide +kernel)]; exact ⟨rfl, rfl⟩))
    (fun os started H enc _ F => by rw [OpenClaim.pre_eq_preRow]; exact lifted os started H enc F)
theorem plainLaw (f : FuncId) (fn : Func) (hf : Tryd.pinned.checked.prog.funcNamed "loop.example/g01087/laws.FnExactParseFrac" = some f) (hfn : Tryd.pinned.checked.prog.funcs[f]? = some fn) :
    true = Tryd.pinned.checked.prog.looks [] ∧ ∀ (j : Nat) t, fn.params[j]? = some t → Tryd.pinned.checked.prog.wantsStandIn t = false := by
  obtain rfl : f = 4 := Option.some.inj ((show Tryd.prog.funcNamed "loop.example/g01087/laws.FnExactParseFrac" = some 4 by kernel_rfl).symm.trans hf) |>.symm
  obtain rfl : fn = Tryd.f4 := (Option.some.inj (Tryd.func4.symm.trans hfn)).symm
  refine ⟨by kernel_rfl, fun j t ht => ?_⟩
  rw [Tryd.params4] at ht
  have hm : t ∈ [9] := by simpa using Array.mem_of_getElem? ht
  have hall : ([9].all fun u => !Tryd.prog.wantsStandIn u) = true := by kernel_rfl
  exact (show Tryd.prog.wantsStandIn t = false by simpa using List.all_eq_true.1 hall t hm)
theorem card : Rows.FnExactParseFracCardSaid :=
  Claim7.holds_tied_plain_at .later [] _ _ _ _ proved (fun _ h => by cases h) (by kernel_rfl) (fun _ h => by cases h) fnExactParseFrac_row_tie rfl ⟨rfl, rfl⟩ (by kernel_rfl) rfl plainLaw (by kernel_rfl)
end Go.Proofs.YtppmepajcdldkabDoor.parseFrac
