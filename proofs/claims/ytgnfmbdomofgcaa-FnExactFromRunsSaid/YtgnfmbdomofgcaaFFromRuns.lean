/-
  FnExactFromRuns: FromRuns answers as the model does, whatever it is given, and hands out a row of its own.
  Conditions: none.
-/
import Derived.Test.YtgnfmbdomofgcaaRows
import Derived.Test.YtgnfmbdomofgcaaChecked
import Derived.Test.YtgnfmbdomofgcaaFromS
import Derived.Test.YtgnfmbdomofgcaaSzA
import Derived.Test.YtgnfmbdomofgcaaMarkI
import Derived.Deep.DeepHandedRow
import Derived.Stop.Joined
namespace Go.Proofs.Ytgnfmbdomofgcaa
open Go.RowKit Go.ChangeShapes Go.WideShapes
set_option linter.unusedVariables false
namespace LFromRuns
theorem lenX (n : Int) (rs : List (Int × Int)) : (Q.fromQ n rs).1.length ≤ 1048576 := by
  unfold Q.fromQ
  split
  · unfold Q.fromX
    cases e : Q.fromK n rs []
    · simp
    · have h2 := Q.fromK_len (by simp) e
      simp only []
      omega
  · simp
set_option maxHeartbeats 6400000 in
theorem walk_core (n : Int) (runs : List (Int × Int)) (Aruns : Option Addr) (cruns : Nat) (X : List Int × Bool) (w : World) (hl : X.1.length ≤ 1048576) (hnruns : runs.length ≤ 1048576) (HRruns : Hid (Law.Row2 w Aruns runs))
    (HG : Hid (∀ (Bruns : Option Addr) (druns : Nat) (W : World), Law.Row2 W Bruns runs → Calls Try.prog 20 #[.int .i64 n, .slice Bruns runs.length druns] W (rowSays X W)))
    (HH : Hid (∀ (Bruns : Option Addr) (druns : Nat) (W : World), Law.Row2 W Bruns runs → Calls Try.prog 19 #[.int .i64 n, .slice Bruns runs.length druns] W (rowSays X W))) :
    Calls Try.prog 11 #[.int .i64 n, .slice Aruns runs.length cruns] w fun e w' => e = .returned (.bool true) ∧ Below w.heap.size w w' := by
  obtain ⟨ps, ok⟩ := X
  simp only [] at hl
  have hIruns : (runs.length : Int) ≤ 1048576 := by omega
  go_enter Try.func11, Try.ntmps11
  have hszruns : ¬ (1048576 : Int) - (runs.length : Int) < 0 := by omega
  go_wp2_with fail
  go_at_call 61
  refine (szA2_yes Aruns cruns runs.length _ hnruns).mono ?_
  rintro e w' ⟨rfl, hw'⟩
  obtain rfl := hw'.symm
  clear hw'
  go_wp2_with fail
  go_at_call 62
  refine (toA2S_any Aruns cruns runs _ hnruns (HRruns.out)).mono ?_
  rintro e w1 ⟨v1, rfl, ho, hb⟩
  have hoaruns : w1.ownsRow w.heap.size 57 2 v1 runs.length (pvs runs) := ho
  obtain ⟨Aaruns, caruns, rfl, hcaruns, _, _⟩ := own2_len hoaruns
  have Iaruns : Hid (In w.heap.size w1.heap.size Aaruns) := In.of2 hoaruns
  clear ho
  have hz1 : Below w.heap.size w w1 := by first | exact hb | exact Law.undraw hb
  have S1 : Hid (w.heap.size ≤ w1.heap.size) := hz1.size
  have B1 : Hid (Below w.heap.size w w1) := hz1
  clear hz1
  clear hb
  have Faruns_1 := Lib.hid hoaruns
  clear hoaruns
  go_wp2_with fail
  go_at_call 20
  refine (HG.out Aaruns caruns _ (row2_own Faruns_1.out)).mono ?_
  rintro e w2 ⟨v2, rfl, ho, hb⟩
  simp only [] at ho
  have hoW : w2.ownsRow w1.heap.size 3 1 v2 ps.length (ivs ps) := ho
  obtain ⟨AW, cW, rfl, hcW, _, _⟩ := Law.own_len hoW
  have IW : Hid (In w1.heap.size w2.heap.size AW) := In.of hoW
  clear ho
  have hz2 : Below w1.heap.size w1 w2 := by first | exact hb | exact Law.undraw hb
  have S2 : Hid (w1.heap.size ≤ w2.heap.size) := hz2.size
  have B2 : Hid (Below w.heap.size w w2) := Law.then_ B1.out hz2
  have Faruns_2 := Lib.hid (own_past Faruns_1.out hz2)
  clear hz2
  clear hb
  have FW_2 := Lib.hid hoW
  clear hoW
  have FWr := Lib.hid (Law.Row.own FW_2.out)
  clear FW_2
  have FW_2 := FWr
  clear FWr
  go_wp2_with fail
  go_at_call 62
  refine (toA2S_any Aruns cruns runs _ hnruns ((HRruns.out.stays B2.out))).mono ?_
  rintro e w3 ⟨v3, rfl, ho, hb⟩
  have hoxruns : w3.ownsRow w2.heap.size 57 2 v3 runs.length (pvs runs) := ho
  obtain ⟨Axruns, cxruns, rfl, hcxruns, _, _⟩ := own2_len hoxruns
  have Ixruns : Hid (In w2.heap.size w3.heap.size Axruns) := In.of2 hoxruns
  clear ho
  have hz3 : Below w2.heap.size w2 w3 := by first | exact hb | exact Law.undraw hb
  have S3 : Hid (w2.heap.size ≤ w3.heap.size) := hz3.size
  have B3 : Hid (Below w.heap.size w w3) := Law.then_ B2.out hz3
  have FW_3 := Lib.hid (FW_2.out.stays hz3)
  clear hz3
  clear hb
  have Fxruns_3 := Lib.hid hoxruns
  clear hoxruns
  go_wp2_with fail
  go_at_call 19
  refine (HH.out Axruns cxruns _ (row2_own Fxruns_3.out)).mono ?_
  rintro e w4 ⟨v4, rfl, ho, hb⟩
  simp only [] at ho
  have hoG : w4.ownsRow w3.heap.size 3 1 v4 ps.length (ivs ps) := ho
  obtain ⟨AG, cG, rfl, hcG, _, _⟩ := Law.own_len hoG
  have IG : Hid (In w3.heap.size w4.heap.size AG) := In.of hoG
  clear ho
  have hz4 : Below w3.heap.size w3 w4 := by first | exact hb | exact Law.undraw hb
  have S4 : Hid (w3.heap.size ≤ w4.heap.size) := hz4.size
  have B4 : Hid (Below w.heap.size w w4) := Law.then_ B3.out hz4
  have FW_4 := Lib.hid (FW_3.out.stays hz4)
  have Fxruns_4 := Lib.hid (own_past Fxruns_3.out hz4)
  clear hz4
  clear hb
  have FG_4 := Lib.hid hoG
  clear hoG
  go_wp2_with fail
  go_at_call 47
  refine (eqInt_same AG AW cG cW ps _ (by omega) (Law.Row.own FG_4.out) (FW_4.out)).mono ?_
  rintro e we1 ⟨rfl, m1, rfl⟩
  cases ok
  all_goals
    go_wp2_with fail
    go_at_call 62
    refine (toA2S_any Aruns cruns runs _ hnruns ((Law.Row2.drewN ((HRruns.out.stays B4.out)) m1))).mono ?_
    rintro e w5 ⟨v5, rfl, ho, hb⟩
    have hoyruns : w5.ownsRow w4.heap.size 57 2 v5 runs.length (pvs runs) := ho
    obtain ⟨Ayruns, cyruns, rfl, hcyruns, _, _⟩ := own2_len hoyruns
    have Iyruns : Hid (In w4.heap.size w5.heap.size Ayruns) := In.of2 hoyruns
    clear ho
    have hz5 : Below w4.heap.size w4 w5 := by first | exact hb | exact Law.undraw hb
    have S5 : Hid (w4.heap.size ≤ w5.heap.size) := hz5.size
    have B5 : Hid (Below w.heap.size w w5) := Law.then_ B4.out hz5
    have FW_5 := Lib.hid (FW_4.out.stays hz5)
    have Fxruns_5 := Lib.hid (own_past Fxruns_4.out hz5)
    have FG_5 := Lib.hid (own_on FG_4.out hz5)
    clear hz5
    clear hb
    have Fyruns_5 := Lib.hid hoyruns
    clear hoyruns
    go_wp2_with fail
    go_at_call 58
    refine (eqA2S_same Axruns Ayruns cxruns cyruns runs _ (by omega) (row2_own Fxruns_5.out) (row2_own Fyruns_5.out)).mono ?_
    rintro e w6 ⟨rfl, hb⟩
    have hz6 : Below w5.heap.size w5 w6 := by first | exact hb | exact Law.undraw hb
    have S6 : Hid (w5.heap.size ≤ w6.heap.size) := hz6.size
    have B6 : Hid (Below w.heap.size w w6) := Law.then_ B5.out hz6
    have FW_6 := Lib.hid (FW_5.out.stays hz6)
    have Fxruns_6 := Lib.hid (own_past Fxruns_5.out hz6)
    have FG_6 := Lib.hid (own_on FG_5.out hz6)
    have Fyruns_6 := Lib.hid (own_past Fyruns_5.out hz6)
    clear hz6
    clear hb
    go_wp2_with fail
    go_at_call 59
    refine (markA2_one _ runs.length cxruns Axruns (pvs runs) w6 (by omega) Fxruns_6.out).mono ?_
    rintro e w7 ⟨rfl, ho, hb⟩
    clear ho
    have S7 : Hid (w6.heap.size ≤ w7.heap.size) := hb.size
    have B7 : Hid (Below w.heap.size w w7) := B6.out.grown hb (by have s1 := S1.out; have s2 := S2.out; have s3 := S3.out; have s4 := S4.out; have s5 := S5.out; have s6 := S6.out; omega) (Ixruns.out.base (by have s1 := S1.out; have s2 := S2.out; have s3 := S3.out; have s4 := S4.out; have s5 := S5.out; have s6 := S6.out; omega))
    have FW_7 := Lib.hid (FW_6.out.far hb IW.out Ixruns.out (by have s1 := S1.out; have s2 := S2.out; have s3 := S3.out; have s4 := S4.out; have s5 := S5.out; have s6 := S6.out; first | exact .inl (by omega) | exact .inr (by omega)))
    have FG_7 := Lib.hid (own_far FG_6.out hb IG.out Ixruns.out (by have s1 := S1.out; have s2 := S2.out; have s3 := S3.out; have s4 := S4.out; have s5 := S5.out; have s6 := S6.out; first | exact .inl (by omega) | exact .inr (by omega)))
    clear hb
    go_wp2_with fail
    go_at_call 47
    refine (eqInt_same AG AW cG cW ps _ (by omega) (Law.Row.own FG_7.out) (FW_7.out)).mono ?_
    rintro e we2 ⟨rfl, m2, rfl⟩
    go_wp2_with fail
    go_at_call 50
    refine (markInt_one _ ps.length cG _ AG (ivs ps) w7 (by omega) FG_7.out).mono ?_
    rintro e w8 ⟨rfl, ho, hb⟩
    have FM := Lib.hid (Law.Row.own ho)
    clear ho
    have S8 : Hid (w7.heap.size ≤ w8.heap.size) := hb.size
    have B8 : Hid (Below w.heap.size w w8) := B7.out.grown hb (by have s1 := S1.out; have s2 := S2.out; have s3 := S3.out; have s4 := S4.out; have s5 := S5.out; have s6 := S6.out; have s7 := S7.out; omega) (IG.out.base (by have s1 := S1.out; have s2 := S2.out; have s3 := S3.out; have s4 := S4.out; have s5 := S5.out; have s6 := S6.out; have s7 := S7.out; omega))
    have FW_8 := Lib.hid (FW_7.out.far hb IW.out IG.out (by have s1 := S1.out; have s2 := S2.out; have s3 := S3.out; have s4 := S4.out; have s5 := S5.out; have s6 := S6.out; have s7 := S7.out; first | exact .inl (by omega) | exact .inr (by omega)))
    clear hb
    have FM_8 := FM
    clear FM
    go_wp2_with fail
    go_at_call 51
    refine (heldInt_one ps.length cG AG _ hl (FM_8.out)).mono ?_
    rintro e w9 ⟨rfl, hb⟩
    have hz9 : Below w8.heap.size w8 w9 := by first | exact hb | exact Law.undraw hb
    have S9 : Hid (w8.heap.size ≤ w9.heap.size) := hz9.size
    have B9 : Hid (Below w.heap.size w w9) := Law.then_ B8.out hz9
    have FW_9 := Lib.hid (FW_8.out.stays hz9)
    have FM_9 := Lib.hid (FM_8.out.stays hz9)
    clear hz9
    clear hb
    go_wp2_with fail
    go_at_call 62
    refine (toA2S_any Aruns cruns runs _ hnruns ((HRruns.out.stays B9.out))).mono ?_
    rintro e w10 ⟨v10, rfl, ho, hb⟩
    have hozruns : w10.ownsRow w9.heap.size 57 2 v10 runs.length (pvs runs) := ho
    obtain ⟨Azruns, czruns, rfl, hczruns, _, _⟩ := own2_len hozruns
    have Izruns : Hid (In w9.heap.size w10.heap.size Azruns) := In.of2 hozruns
    clear ho
    have hz10 : Below w9.heap.size w9 w10 := by first | exact hb | exact Law.undraw hb
    have S10 : Hid (w9.heap.size ≤ w10.heap.size) := hz10.size
    have B10 : Hid (Below w.heap.size w w10) := Law.then_ B9.out hz10
    have FW_10 := Lib.hid (FW_9.out.stays hz10)
    have FM_10 := Lib.hid (FM_9.out.stays hz10)
    clear hz10
    clear hb
    have Fzruns_10 := Lib.hid hozruns
    clear hozruns
    go_wp2_with fail
    go_at_call 19
    refine (HH.out Azruns czruns _ (row2_own Fzruns_10.out)).mono ?_
    rintro e w11 ⟨v11, rfl, ho, hb⟩
    simp only [] at ho
    have hoH : w11.ownsRow w10.heap.size 3 1 v11 ps.length (ivs ps) := ho
    obtain ⟨AH, cH, rfl, hcH, _, _⟩ := Law.own_len hoH
    have IH : Hid (In w10.heap.size w11.heap.size AH) := In.of hoH
    clear ho
    have hz11 : Below w10.heap.size w10 w11 := by first | exact hb | exact Law.undraw hb
    have S11 : Hid (w10.heap.size ≤ w11.heap.size) := hz11.size
    have B11 : Hid (Below w.heap.size w w11) := Law.then_ B10.out hz11
    have FW_11 := Lib.hid (FW_10.out.stays hz11)
    have FM_11 := Lib.hid (FM_10.out.stays hz11)
    have Fzruns_11 := Lib.hid (own_past Fzruns_10.out hz11)
    clear hz11
    clear hb
    have FH_11 := Lib.hid hoH
    clear hoH
    go_wp2_with fail
    go_at_call 47
    refine (eqInt_same AH AW cH cW ps _ (by omega) (Law.Row.own FH_11.out) (FW_11.out)).mono ?_
    rintro e we3 ⟨rfl, m3, rfl⟩
    go_wp2_with fail
    go_at_call 51
    refine (heldInt_one ps.length cG AG _ hl ((Law.Row.drewN (FM_11.out) m3))).mono ?_
    rintro e w12 ⟨rfl, hb⟩
    have hz12 : Below w11.heap.size w11 w12 := by first | exact hb | exact Law.undraw hb
    have S12 : Hid (w11.heap.size ≤ w12.heap.size) := hz12.size
    have B12 : Hid (Below w.heap.size w w12) := Law.then_ B11.out hz12
    have FW_12 := Lib.hid (FW_11.out.stays hz12)
    have FM_12 := Lib.hid (FM_11.out.stays hz12)
    clear hz12
    clear hb
    go_wp2
    go_ret
    exact ⟨rfl, B12.out⟩
theorem walk (n : Int) (Aruns : Option Addr) (nruns cruns : Nat) (runs : List (Int × Int)) (w : World) (hn : (Lit.int .i64 n).wf = true) (hruns : runs.length = nruns ∧ nruns ≤ cruns ∧ cruns ≤ maxLen ∧ (∀ z ∈ runs, (Lit.int .i64 z.1).wf = true ∧ (Lit.int .i64 z.2).wf = true) ∧ Law.Row2 w Aruns runs) (hL : laidMetH Try.prog Rows.fnExactFromRunsRow.laid w) (hsh : w.ShapedOpen Try.prog) :
    Calls Try.prog 11 #[.int .i64 n, .slice Aruns nruns cruns] w fun e w' => e = .returned (.bool true) ∧ Below w.heap.size w w' := by
  obtain ⟨rfl, hAruns, hBruns, hwruns, hrruns⟩ := hruns
  clear hL hsh
  by_cases hlruns : runs.length ≤ 1048576
  · skip
    refine walk_core n runs Aruns cruns (Q.fromQ n runs) w ?_ hlruns hrruns (fun Bruns druns W hruns => specFrom_any n runs Bruns druns hlruns hwruns W hruns) (fun Bruns druns W hruns => impFrom_any n runs Bruns druns hlruns hwruns W hruns)
    exact lenX n runs
  · have hIruns : ¬ (runs.length : Int) ≤ 1048576 := by omega
    clear hrruns
    go_enter Try.func11, Try.ntmps11
    go_wp2_with (go_at_call 61; refine (szA2_no Aruns cruns runs.length _ hlruns (by unfold maxLen at hBruns; omega)).mono ?_; rintro e w' ⟨rfl, hw'⟩; obtain rfl := hw'.symm; clear hw')
    go_ret
    exact ⟨rfl, Below.refl _ _⟩
theorem lawOwn : ownKnob Try.prog.godebug = none := by kernel_rfl
theorem lawLaidOut : laidOutB Try.prog = true := by kernel_rfl
theorem contract (H : Type) (enc : TypeId × Value → H) (W : World) (base : Nat) (args : Array Value) (ds : List (DataW H)) (gs : List (DataW H)) (before : List MemPlace)
    (hval0 : ∀ (j : Nat) t v, Try.f11.params[j]? = some t → args[j]? = some v → Value.okWide Try.prog W .any base t v)
    (hW : DataW.Whole enc Try.prog Try.f11.params.toList Rows.fnExactFromRunsSpec.vars false W args.toList ds gs before) (hL : laidMetH Try.prog Rows.fnExactFromRunsRow.laid W) (hsh : W.ShapedOpen Try.prog) :
    Calls Try.prog 11 args W fun e W' => ∃ v, e = .returned v ∧ Rows.fnExactFromRunsSpec.post enc Try.prog Try.f11 false true false false W args v W' := by
  have hval : ∀ (j : Nat) t v, Try.f11.params[j]? = some t → args[j]? = some v → Value.okWide Try.prog W .any base t v := hval0
  have hW' := hW
  obtain ⟨p, q, hA0, hV, rfl, hfz, hnd⟩ := hW
  have hA : DataW.TrodAll enc Try.prog W 0 (fun _ => true) true Try.f11.params.toList args.toList ds p := hA0
  rw [Try.params11] at hA hval
  obtain ⟨v0, vs0, d0, ds0, p0, q0, hargs0, rfl, rfl, h0, r0⟩ := trodAll_cons hA
  obtain ⟨v1, vs1, d1, ds1, p1, q1, hargs1, rfl, rfl, h1, r1⟩ := trodAll_cons r0
  obtain ⟨rfl, rfl, rfl⟩ := trodAll_nil r1
  obtain rfl : args = #[v0, v1] := by cases args; simp_all
  obtain ⟨rfl, rfl⟩ := trodVars_none hV
  obtain ⟨a0, rfl, rfl, rfl, w0⟩ := open_int Try.underlying3 (hval 0 3 v0 rfl rfl) h0
  obtain ⟨A1, n1, c1, xs1, rfl, w1⟩ := Law.in_arrs Try.underlying27 Try.underlying57 Try.underlying3 (by kernel_rfl) (by kernel_rfl) (hval 1 27 v1 rfl rfl) h1 (fun x hx => hW'.lt x (by simp [hx]))
  clear hA0 hval0
  refine (walk a0 A1 n1 c1 xs1 W w0 w1 hL hsh).mono fun e W' ⟨he, hb⟩ => ?_
  subst he
  exact ⟨_, rfl, Law.close hW' rfl rfl lawLaidOut (by kernel_rfl) Try.underlying4 (by kernel_rfl) hb⟩
theorem reads (os : Os) {H : Type} (enc : TypeId × Value → H) : ∃ places, DataW.whole enc Try.prog ((World.holding Try.prog os ⟨#[], #[], []⟩).forCall (fun _ _ => 0) ⟨#[], #[.int .i64 0, .slice none 0 0], []⟩).memory Try.f11.params.toList Rows.fnExactFromRunsSpec.vars false (#[.int .i64 0, .slice none 0 0] : Array Value).toList 8 = some ([.lit (.int .i64 0), .nil], [], places) :=
  ⟨[], by kernel_rfl⟩
set_option maxRecDepth 100000 in
theorem lifted (os : Os) (started : os.Started) (H : Type) (enc : TypeId × Value → H) (F : Stop.Interp) :
    ReturnsInHanded {} Try.checked os 11 .any ((OpenSpec.ofChange Rows.fnExactFromRunsSpec).preRow enc Try.prog Try.f11 Rows.fnExactFromRunsRow.domain false Rows.fnExactFromRunsRow.laid) (((OpenSpec.ofChange Rows.fnExactFromRunsSpec).at F).post enc Try.prog Try.f11 false true false false) := by
  obtain ⟨places, hx⟩ := reads os enc
  refine returnsInHanded_of_row (C := Try.checked) (s := OpenSpec.ofChange Rows.fnExactFromRunsSpec) lawOwn started (by kernel_rfl) Try.func11
    (witness_row_at (enc := enc) (C := Try.checked) false (World.holding Try.prog os ⟨#[], #[], []⟩) #[.int .i64 0, .slice none 0 0] rfl (by kernel_rfl) (by kernel_rfl) (by kernel_rfl)
      (OpenSpec.preRow_of_cond 8 hx (by kernel_rfl) (fun k hk => by cases hk) (by kernel_rfl) (laidMet_nil _ _))) ?_
  intro W base args ds gs before hval hW _ _ _ hL hsh _
  exact contract H enc W base args ds gs before hval hW hL hsh
theorem proved : Rows.FnExactFromRunsSaid :=
  OpenClaim.holds_of_cond 11 Try.f11 rfl rfl rfl rfl rfl rfl rfl ⟨rfl, rfl, rfl, rfl, rfl⟩ rfl rfl rfl rfl rfl (by kernel_rfl) Try.func11 (by kernel_rfl)
    (of_decide_eq_true (by kernel_rfl)) (by unfold Func.isWrapper; first | (rw [if_pos (by decide +kernel)]; kernel_rfl) | (rw [if_neg (by decide +kernel)]; exact ⟨rfl, rfl⟩))
    (fun os started H enc _ F => by rw [OpenClaim.pre_eq_preRow]; exact lifted os started H enc F)
end LFromRuns
end Go.Proofs.Ytgnfmbdomofgcaa
