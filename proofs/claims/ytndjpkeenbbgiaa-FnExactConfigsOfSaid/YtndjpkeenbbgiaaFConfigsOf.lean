/-
  FnExactConfigsOf: ConfigsOf answers as the model does, whatever it is given, and hands out rows of its own.
  Conditions: none.
-/
import Derived.Test.YtndjpkeenbbgiaaRows
import Derived.Test.YtndjpkeenbbgiaaChecked
import Derived.Test.YtndjpkeenbbgiaaCfgS
import Derived.Test.YtndjpkeenbbgiaaCfgI
import Derived.Deep.DeepHandedRow
import Derived.Stop.Joined
namespace Go.Proofs.Ytndjpkeenbbgiaa
open Go.RowKit Go.ChangeShapes Go.WideShapes
set_option linter.unusedVariables false
namespace LConfigsOf
set_option maxHeartbeats 6400000 in
theorem walk_core (n : Int) (k : Int) (X : List (List Int) × Bool) (w : World) (hl : X.1.length ≤ 1048576) (hll : ∀ l ∈ X.1, l.length ≤ 1048576) (htt : totL X.1 ≤ 1048576)
    (HG : Hid (∀ (W : World), Calls Try.prog 32 #[.int .i64 n, .int .i64 k] W (nestSays X W)))
    (HH : Hid (∀ (W : World), Calls Try.prog 33 #[.int .i64 n, .int .i64 k] W (nestSays X W))) :
    Calls Try.prog 8 #[.int .i64 n, .int .i64 k] w fun e w' => e = .returned (.bool true) ∧ Below w.heap.size w w' := by
  obtain ⟨ps, ok⟩ := X
  simp only [] at hl hll htt
  have HLL := Lib.hid hll
  clear hll
  go_enter Try.func8, Try.ntmps8
  go_wp2_with fail
  go_at_call 32
  refine (HG.out _).mono ?_
  rintro e w1 ⟨v1, xsW, rfl, ho, hno, hb⟩
  simp only [] at ho hno
  have hoW : w1.ownsRow w.heap.size 22 1 v1 ps.length xsW := by first | exact ho | exact own_down ho (by simp)
  have hnW : NOwn w1 w.heap.size xsW ps := by first | exact hno | exact hno.down (by simp)
  obtain ⟨AW, cW, rfl, _, _, _⟩ := Law.own_len hoW
  clear ho hno
  have hz1 : Below w.heap.size w w1 := by first | exact hb | exact Law.undraw hb
  have S1 : Hid (w.heap.size ≤ w1.heap.size) := hz1.size
  have B1 : Hid (Below w.heap.size w w1) := hz1
  clear hz1
  clear hb
  have HW : Hid (NRow w1 AW xsW ps) := Lib.hid (NRow.of hoW hnW)
  have BW_1 : Hid (Below w1.heap.size w1 w1) := Lib.hid (Below.refl _ _)
  clear hoW hnW
  go_wp2_with fail
  go_at_call 33
  refine (HH.out _).mono ?_
  rintro e w2 ⟨v2, xsG, rfl, ho, hno, hb⟩
  simp only [] at ho hno
  have hoG : w2.ownsRow w1.heap.size 22 1 v2 ps.length xsG := by first | exact ho | exact own_down ho (by simp)
  have hnG : NOwn w2 w1.heap.size xsG ps := by first | exact hno | exact hno.down (by simp)
  obtain ⟨AG, cG, rfl, _, _, _⟩ := Law.own_len hoG
  clear ho hno
  have hz2 : Below w1.heap.size w1 w2 := by first | exact hb | exact Law.undraw hb
  have S2 : Hid (w1.heap.size ≤ w2.heap.size) := hz2.size
  have B2 : Hid (Below w.heap.size w w2) := Law.then_ B1.out hz2
  have BW_2 : Hid (Below w1.heap.size w1 w2) := Law.then_ BW_1.out hz2
  clear hz2
  clear hb
  have FGo_2 := Lib.hid hoG
  have FGn_2 := Lib.hid hnG
  clear hoG hnG
  go_wp2_with fail
  go_at_call 27
  refine (eqSS_same AG AW cG cW xsG xsW ps _ hl HLL.out (NRow.of FGo_2.out FGn_2.out) (HW.out.stays BW_2.out)).mono ?_
  rintro e we1 ⟨rfl, m1, rfl⟩
  cases ok
  all_goals
    go_wp2_with fail
    go_at_call 28
    refine (markSS_any w1.heap.size 1 AG cG xsG ps (w2.drewN m1) (by omega) (by omega) hl htt (by show w1.heap.size ≤ w2.heap.size; have s1 := S1.out; have s2 := S2.out; omega) (by show World.ownsRow w2 _ _ _ _ _ _; exact FGo_2.out) (FGn_2.out.drewN m1)).mono ?_
    rintro e w3 ⟨rfl, ho, hno, hb⟩
    have hz3 : Below w1.heap.size w2 w3 := by first | exact hb | exact Law.undraw hb
    have S3 : Hid (w2.heap.size ≤ w3.heap.size) := hz3.size
    have B3 : Hid (Below w.heap.size w w3) := Lib.hid (B2.out.trans (hz3.mono (by have s1 := S1.out; have s2 := S2.out; omega)))
    have BW_3 : Hid (Below w1.heap.size w1 w3) := Lib.hid (BW_2.out.trans (hz3.mono (by have s1 := S1.out; have s2 := S2.out; omega)))
    have FM_3 : Hid (NRow w3 AG xsG (mkL 1 ps)) := Lib.hid (NRow.of ho hno)
    clear ho hno hb hz3
    go_wp2_with fail
    go_at_call 29
    refine (heldSS_any 1 AG cG xsG ps _ (by omega) (by omega) hl htt (FM_3.out)).mono ?_
    rintro e w4 ⟨rfl, hb⟩
    have hz4 : Below w3.heap.size w3 w4 := by first | exact hb | exact Law.undraw hb
    have S4 : Hid (w3.heap.size ≤ w4.heap.size) := hz4.size
    have B4 : Hid (Below w.heap.size w w4) := Law.then_ B3.out hz4
    have BW_4 : Hid (Below w1.heap.size w1 w4) := Law.then_ BW_3.out hz4
    have FM_4 := Lib.hid (FM_3.out.stays hz4)
    clear hz4
    clear hb
    go_wp2_with fail
    go_at_call 33
    refine (HH.out _).mono ?_
    rintro e w5 ⟨v5, xsH, rfl, ho, hno, hb⟩
    simp only [] at ho hno
    have hoH : w5.ownsRow w4.heap.size 22 1 v5 ps.length xsH := by first | exact ho | exact own_down ho (by simp)
    have hnH : NOwn w5 w4.heap.size xsH ps := by first | exact hno | exact hno.down (by simp)
    obtain ⟨AH, cH, rfl, _, _, _⟩ := Law.own_len hoH
    clear ho hno
    have hz5 : Below w4.heap.size w4 w5 := by first | exact hb | exact Law.undraw hb
    have S5 : Hid (w4.heap.size ≤ w5.heap.size) := hz5.size
    have B5 : Hid (Below w.heap.size w w5) := Law.then_ B4.out hz5
    have BW_5 : Hid (Below w1.heap.size w1 w5) := Law.then_ BW_4.out hz5
    have FM_5 := Lib.hid (FM_4.out.stays hz5)
    clear hz5
    clear hb
    have FH : Hid (NRow w5 AH xsH ps) := Lib.hid (NRow.of hoH hnH)
    clear hoH hnH
    go_wp2_with fail
    go_at_call 27
    refine (eqSS_same AH AW cH cW xsH xsW ps _ hl HLL.out (FH.out) (HW.out.stays BW_5.out)).mono ?_
    rintro e we2 ⟨rfl, m2, rfl⟩
    go_wp2_with fail
    go_at_call 29
    refine (heldSS_any 1 AG cG xsG ps _ (by omega) (by omega) hl htt ((NRow.drewN (FM_5.out) m2))).mono ?_
    rintro e w6 ⟨rfl, hb⟩
    have hz6 : Below w5.heap.size w5 w6 := by first | exact hb | exact Law.undraw hb
    have S6 : Hid (w5.heap.size ≤ w6.heap.size) := hz6.size
    have B6 : Hid (Below w.heap.size w w6) := Law.then_ B5.out hz6
    have BW_6 : Hid (Below w1.heap.size w1 w6) := Law.then_ BW_5.out hz6
    have FM_6 := Lib.hid (FM_5.out.stays hz6)
    clear hz6
    clear hb
    go_wp2
    go_ret
    exact ⟨rfl, B6.out⟩
theorem walk (n : Int) (k : Int) (w : World) (hn : (Lit.int .i64 n).wf = true) (hk : (Lit.int .i64 k).wf = true) (hL : laidMetH Try.prog Rows.fnExactConfigsOfRow.laid w) (hsh : w.ShapedOpen Try.prog) :
    Calls Try.prog 8 #[.int .i64 n, .int .i64 k] w fun e w' => e = .returned (.bool true) ∧ Below w.heap.size w w' := by
  clear hL hsh
  refine walk_core n k ((Q.cfgQ n k)) w ?_ ?_ ?_ (fun W => specCfg_any n k W) (fun W => impCfg_any n k W)
  exact (lenX n k).1
  exact (lenX n k).2.1
  exact (lenX n k).2.2
theorem lawOwn : ownKnob Try.prog.godebug = none := by kernel_rfl
theorem lawLaidOut : laidOutB Try.prog = true := by kernel_rfl
set_option maxRecDepth 100000 in
theorem contract (H : Type) (enc : TypeId × Value → H) (W : World) (base : Nat) (args : Array Value) (ds : List (DataW H)) (gs : List (DataW H)) (before : List MemPlace)
    (hval0 : ∀ (j : Nat) t v, Try.f8.params[j]? = some t → args[j]? = some v → Value.okWide Try.prog W .any base t v)
    (hW : DataW.Whole enc Try.prog Try.f8.params.toList Rows.fnExactConfigsOfSpec.vars false W args.toList ds gs before) (hL : laidMetH Try.prog Rows.fnExactConfigsOfRow.laid W) (hsh : W.ShapedOpen Try.prog) :
    Calls Try.prog 8 args W fun e W' => ∃ v, e = .returned v ∧ Rows.fnExactConfigsOfSpec.post enc Try.prog Try.f8 false true false false W args v W' := by
  have hval : ∀ (j : Nat) t v, Try.f8.params[j]? = some t → args[j]? = some v → Value.okWide Try.prog W .any base t v := hval0
  have hW' := hW
  obtain ⟨p, q, hA0, hV, rfl, hfz, hnd⟩ := hW
  have hA : DataW.TrodAll enc Try.prog W 0 (fun _ => true) true Try.f8.params.toList args.toList ds p := hA0
  rw [Try.params8] at hA hval
  obtain ⟨v0, vs0, d0, ds0, p0, q0, hargs0, rfl, rfl, h0, r0⟩ := trodAll_cons hA
  obtain ⟨v1, vs1, d1, ds1, p1, q1, hargs1, rfl, rfl, h1, r1⟩ := trodAll_cons r0
  obtain ⟨rfl, rfl, rfl⟩ := trodAll_nil r1
  obtain rfl : args = #[v0, v1] := by cases args; simp_all
  obtain ⟨rfl, rfl⟩ := trodVars_none hV
  obtain ⟨a0, rfl, rfl, rfl, w0⟩ := open_int Try.underlying3 (hval 0 3 v0 rfl rfl) h0
  obtain ⟨a1, rfl, rfl, rfl, w1⟩ := open_int Try.underlying3 (hval 1 3 v1 rfl rfl) h1
  clear hA0 hval0
  refine (walk a0 a1 W w0 w1 hL hsh).mono fun e W' ⟨he, hb⟩ => ?_
  subst he
  exact ⟨_, rfl, Law.close hW' rfl rfl lawLaidOut (by kernel_rfl) Try.underlying4 (by kernel_rfl) hb⟩
theorem reads (os : Os) {H : Type} (enc : TypeId × Value → H) : ∃ places, DataW.whole enc Try.prog ((World.holding Try.prog os ⟨#[], #[], []⟩).forCall (fun _ _ => 0) ⟨#[], #[.int .i64 0, .int .i64 0], []⟩).memory Try.f8.params.toList Rows.fnExactConfigsOfSpec.vars false (#[.int .i64 0, .int .i64 0] : Array Value).toList 8 = some ([.lit (.int .i64 0), .lit (.int .i64 0)], [], places) :=
  ⟨[], by kernel_rfl⟩
set_option maxRecDepth 100000 in
theorem lifted (os : Os) (started : os.Started) (H : Type) (enc : TypeId × Value → H) (F : Stop.Interp) :
    ReturnsInHanded {} Try.checked os 8 .any ((OpenSpec.ofChange Rows.fnExactConfigsOfSpec).preRow enc Try.prog Try.f8 Rows.fnExactConfigsOfRow.domain false Rows.fnExactConfigsOfRow.laid) (((OpenSpec.ofChange Rows.fnExactConfigsOfSpec).at F).post enc Try.prog Try.f8 false true false false) := by
  obtain ⟨places, hx⟩ := reads os enc
  refine returnsInHanded_of_row (C := Try.checked) (s := OpenSpec.ofChange Rows.fnExactConfigsOfSpec) lawOwn started (by kernel_rfl) Try.func8
    (witness_row_at (enc := enc) (C := Try.checked) false (World.holding Try.prog os ⟨#[], #[], []⟩) #[.int .i64 0, .int .i64 0] rfl (by kernel_rfl) (by kernel_rfl) (by kernel_rfl)
      (OpenSpec.preRow_of_cond 8 hx (by kernel_rfl) (fun k hk => by cases hk) (by kernel_rfl) (laidMet_nil _ _))) ?_
  intro W base args ds gs before hval hW _ _ _ hL hsh _
  exact contract H enc W base args ds gs before hval hW hL hsh
theorem proved : Rows.FnExactConfigsOfSaid :=
  OpenClaim.holds_of_cond 8 Try.f8 rfl rfl rfl rfl rfl rfl rfl ⟨rfl, rfl, rfl, rfl, rfl⟩ rfl rfl rfl rfl rfl (by kernel_rfl) Try.func8 (by kernel_rfl)
    (of_decide_eq_true (by kernel_rfl)) (by unfold Func.isWrapper; first | (rw [if_pos (by decide +kernel)]; kernel_rfl) | (rw [if_neg (by decide +kernel)]; exact ⟨rfl, rfl⟩))
    (fun os started H enc _ F => by rw [OpenClaim.pre_eq_preRow]; exact lifted os started H enc F)
end LConfigsOf
end Go.Proofs.Ytndjpkeenbbgiaa
