/-
  FnExactCoverStep: CoverStep answers as the model does, whatever it is given, and hands out a row of its own.
  Conditions: none.
-/
import Derived.Test.YtndjpkeenbbgiaaRows
import Derived.Test.YtndjpkeenbbgiaaChecked
import Derived.Test.YtndjpkeenbbgiaaCovI
import Derived.Test.YtndjpkeenbbgiaaMarkI
import Derived.Deep.DeepHandedRow
import Derived.Stop.Joined
namespace Go.Proofs.Ytndjpkeenbbgiaa
open Go.RowKit Go.ChangeShapes Go.WideShapes
set_option linter.unusedVariables false
namespace LCoverStep
set_option maxHeartbeats 6400000 in
theorem walk_core (row : List Int) (r : Int) (Arow : Option Addr) (crow : Nat) (X : List Int × Int × Bool) (w : World) (hl : X.1.length ≤ 1048576) (hnrow : row.length ≤ 1048576) (HRrow : Hid (Law.Row w Arow (ivs row)))
    (HG : Hid (∀ (Brow : Option Addr) (drow : Nat) (W : World), Law.Row W Brow (ivs row) → Calls Try.prog 23 #[.slice Brow row.length drow, .int .i64 r] W (rowInt X W)))
    (HH : Hid (∀ (Brow : Option Addr) (drow : Nat) (W : World), Law.Row W Brow (ivs row) → Calls Try.prog 24 #[.slice Brow row.length drow, .int .i64 r] W (rowInt X W))) :
    Calls Try.prog 5 #[.slice Arow row.length crow, .int .i64 r] w fun e w' => e = .returned (.bool true) ∧ Below w.heap.size w w' := by
  obtain ⟨ps, yy, ok⟩ := X
  simp only [] at hl
  have hIrow : (row.length : Int) ≤ 1048576 := by omega
  go_enter Try.func5, Try.ntmps5
  go_wp2_with fail
  go_at_call 16
  refine (toInt_any Arow crow row _ hnrow HRrow.out).mono ?_
  rintro e w1 ⟨v1, rfl, ho, hb⟩
  have hoarow : w1.ownsRow w.heap.size 3 1 v1 row.length (ivs row) := ho
  obtain ⟨Aarow, carow, rfl, hcarow, _, _⟩ := Law.own_len hoarow
  have Iarow : Hid (In w.heap.size w1.heap.size Aarow) := In.of hoarow
  clear ho
  have hz1 : Below w.heap.size w w1 := by first | exact hb | exact Law.undraw hb
  have S1 : Hid (w.heap.size ≤ w1.heap.size) := hz1.size
  have B1 : Hid (Below w.heap.size w w1) := hz1
  clear hz1
  clear hb
  have Farow_1 := Lib.hid hoarow
  clear hoarow
  go_wp2_with fail
  go_at_call 23
  refine (HG.out Aarow carow _ (Law.Row.own Farow_1.out)).mono ?_
  rintro e w2 ⟨v2, rfl, ho, hb⟩
  simp only [] at ho
  have hoW : w2.ownsRow w1.heap.size 3 1 v2 ps.length (ivs ps) := ho
  obtain ⟨AW, cW, rfl, hcW, _, _⟩ := Law.own_len hoW
  have IW : Hid (In w1.heap.size w2.heap.size AW) := In.of hoW
  clear ho
  have hz2 : Below w1.heap.size w1 w2 := by first | exact hb | exact Law.undraw hb
  have S2 : Hid (w1.heap.size ≤ w2.heap.size) := hz2.size
  have B2 : Hid (Below w.heap.size w w2) := Law.then_ B1.out hz2
  have Farow_2 := Lib.hid (own_on Farow_1.out hz2)
  clear hz2
  clear hb
  have FW_2 := Lib.hid hoW
  clear hoW
  have FWr := Lib.hid (Law.Row.own FW_2.out)
  clear FW_2
  have FW_2 := FWr
  clear FWr
  go_wp2_with fail
  go_at_call 16
  refine (toInt_any Arow crow row _ hnrow (HRrow.out.stays B2.out)).mono ?_
  rintro e w3 ⟨v3, rfl, ho, hb⟩
  have hoxrow : w3.ownsRow w2.heap.size 3 1 v3 row.length (ivs row) := ho
  obtain ⟨Axrow, cxrow, rfl, hcxrow, _, _⟩ := Law.own_len hoxrow
  have Ixrow : Hid (In w2.heap.size w3.heap.size Axrow) := In.of hoxrow
  clear ho
  have hz3 : Below w2.heap.size w2 w3 := by first | exact hb | exact Law.undraw hb
  have S3 : Hid (w2.heap.size ≤ w3.heap.size) := hz3.size
  have B3 : Hid (Below w.heap.size w w3) := Law.then_ B2.out hz3
  have FW_3 := Lib.hid (FW_2.out.stays hz3)
  clear hz3
  clear hb
  have Fxrow_3 := Lib.hid hoxrow
  clear hoxrow
  go_wp2_with fail
  go_at_call 24
  refine (HH.out Axrow cxrow _ (Law.Row.own Fxrow_3.out)).mono ?_
  rintro e w4 ⟨v4, rfl, ho, hb⟩
  simp only [] at ho
  have hoG : w4.ownsRow w3.heap.size 3 1 v4 ps.length (ivs ps) := ho
  obtain ⟨AG, cG, rfl, hcG, _, _⟩ := Law.own_len hoG
  have IG : Hid (In w3.heap.size w4.heap.size AG) := In.of hoG
  clear ho
  have hz4 : Below w3.heap.size w3 w4 := by first | exact hb | exact Law.undraw hb
  have S4 : Hid (w3.heap.size ≤ w4.heap.size) := hz4.size
  have B4 : Hid (Below w.heap.size w w4) := Law.then_ B3.out hz4
  have FW_4 := Lib.hid (FW_3.out.stays hz4)
  have Fxrow_4 := Lib.hid (own_on Fxrow_3.out hz4)
  clear hz4
  clear hb
  have FG_4 := Lib.hid hoG
  clear hoG
  go_wp2_with fail
  go_at_call 18
  refine (eqInt_same AG AW cG cW ps _ (by omega) (Law.Row.own FG_4.out) (FW_4.out)).mono ?_
  rintro e we1 ⟨rfl, m1, rfl⟩
  cases ok
  all_goals
    go_wp2_with fail
    go_at_call 16
    refine (toInt_any Arow crow row _ hnrow (Law.Row.drewN ((HRrow.out.stays B4.out)) m1)).mono ?_
    rintro e w5 ⟨v5, rfl, ho, hb⟩
    have hoyrow : w5.ownsRow w4.heap.size 3 1 v5 row.length (ivs row) := ho
    obtain ⟨Ayrow, cyrow, rfl, hcyrow, _, _⟩ := Law.own_len hoyrow
    have Iyrow : Hid (In w4.heap.size w5.heap.size Ayrow) := In.of hoyrow
    clear ho
    have hz5 : Below w4.heap.size w4 w5 := by first | exact hb | exact Law.undraw hb
    have S5 : Hid (w4.heap.size ≤ w5.heap.size) := hz5.size
    have B5 : Hid (Below w.heap.size w w5) := Law.then_ B4.out hz5
    have FW_5 := Lib.hid (FW_4.out.stays hz5)
    have Fxrow_5 := Lib.hid (own_on Fxrow_4.out hz5)
    have FG_5 := Lib.hid (own_on FG_4.out hz5)
    clear hz5
    clear hb
    have Fyrow_5 := Lib.hid hoyrow
    clear hoyrow
    go_wp2_with fail
    go_at_call 18
    refine (eqInt_same Axrow Ayrow cxrow cyrow row _ (by omega) (Law.Row.own Fxrow_5.out) (Law.Row.own Fyrow_5.out)).mono ?_
    rintro e we2 ⟨rfl, m2, rfl⟩
    go_wp2_with fail
    go_at_call 19
    refine (markInt_one _ row.length cxrow _ Axrow (ivs row) w5 (by omega) Fxrow_5.out).mono ?_
    rintro e w6 ⟨rfl, ho, hb⟩
    clear ho
    have S6 : Hid (w5.heap.size ≤ w6.heap.size) := hb.size
    have B6 : Hid (Below w.heap.size w w6) := B5.out.grown hb (by have s1 := S1.out; have s2 := S2.out; have s3 := S3.out; have s4 := S4.out; have s5 := S5.out; omega) (Ixrow.out.base (by have s1 := S1.out; have s2 := S2.out; have s3 := S3.out; have s4 := S4.out; have s5 := S5.out; omega))
    have FW_6 := Lib.hid (FW_5.out.far hb IW.out Ixrow.out (by have s1 := S1.out; have s2 := S2.out; have s3 := S3.out; have s4 := S4.out; have s5 := S5.out; first | exact .inl (by omega) | exact .inr (by omega)))
    have FG_6 := Lib.hid (own_far FG_5.out hb IG.out Ixrow.out (by have s1 := S1.out; have s2 := S2.out; have s3 := S3.out; have s4 := S4.out; have s5 := S5.out; first | exact .inl (by omega) | exact .inr (by omega)))
    clear hb
    go_wp2_with fail
    go_at_call 18
    refine (eqInt_same AG AW cG cW ps _ (by omega) (Law.Row.own FG_6.out) (FW_6.out)).mono ?_
    rintro e we3 ⟨rfl, m3, rfl⟩
    go_wp2_with fail
    go_at_call 19
    refine (markInt_one _ ps.length cG _ AG (ivs ps) w6 (by omega) FG_6.out).mono ?_
    rintro e w7 ⟨rfl, ho, hb⟩
    have FM := Lib.hid (Law.Row.own ho)
    clear ho
    have S7 : Hid (w6.heap.size ≤ w7.heap.size) := hb.size
    have B7 : Hid (Below w.heap.size w w7) := B6.out.grown hb (by have s1 := S1.out; have s2 := S2.out; have s3 := S3.out; have s4 := S4.out; have s5 := S5.out; have s6 := S6.out; omega) (IG.out.base (by have s1 := S1.out; have s2 := S2.out; have s3 := S3.out; have s4 := S4.out; have s5 := S5.out; have s6 := S6.out; omega))
    have FW_7 := Lib.hid (FW_6.out.far hb IW.out IG.out (by have s1 := S1.out; have s2 := S2.out; have s3 := S3.out; have s4 := S4.out; have s5 := S5.out; have s6 := S6.out; first | exact .inl (by omega) | exact .inr (by omega)))
    clear hb
    have FM_7 := FM
    clear FM
    go_wp2_with fail
    go_at_call 20
    refine (heldInt_one ps.length cG AG _ hl (FM_7.out)).mono ?_
    rintro e w8 ⟨rfl, hb⟩
    have hz8 : Below w7.heap.size w7 w8 := by first | exact hb | exact Law.undraw hb
    have S8 : Hid (w7.heap.size ≤ w8.heap.size) := hz8.size
    have B8 : Hid (Below w.heap.size w w8) := Law.then_ B7.out hz8
    have FW_8 := Lib.hid (FW_7.out.stays hz8)
    have FM_8 := Lib.hid (FM_7.out.stays hz8)
    clear hz8
    clear hb
    go_wp2_with fail
    go_at_call 16
    refine (toInt_any Arow crow row _ hnrow (HRrow.out.stays B8.out)).mono ?_
    rintro e w9 ⟨v9, rfl, ho, hb⟩
    have hozrow : w9.ownsRow w8.heap.size 3 1 v9 row.length (ivs row) := ho
    obtain ⟨Azrow, czrow, rfl, hczrow, _, _⟩ := Law.own_len hozrow
    have Izrow : Hid (In w8.heap.size w9.heap.size Azrow) := In.of hozrow
    clear ho
    have hz9 : Below w8.heap.size w8 w9 := by first | exact hb | exact Law.undraw hb
    have S9 : Hid (w8.heap.size ≤ w9.heap.size) := hz9.size
    have B9 : Hid (Below w.heap.size w w9) := Law.then_ B8.out hz9
    have FW_9 := Lib.hid (FW_8.out.stays hz9)
    have FM_9 := Lib.hid (FM_8.out.stays hz9)
    clear hz9
    clear hb
    have Fzrow_9 := Lib.hid hozrow
    clear hozrow
    go_wp2_with fail
    go_at_call 24
    refine (HH.out Azrow czrow _ (Law.Row.own Fzrow_9.out)).mono ?_
    rintro e w10 ⟨v10, rfl, ho, hb⟩
    simp only [] at ho
    have hoH : w10.ownsRow w9.heap.size 3 1 v10 ps.length (ivs ps) := ho
    obtain ⟨AH, cH, rfl, hcH, _, _⟩ := Law.own_len hoH
    have IH : Hid (In w9.heap.size w10.heap.size AH) := In.of hoH
    clear ho
    have hz10 : Below w9.heap.size w9 w10 := by first | exact hb | exact Law.undraw hb
    have S10 : Hid (w9.heap.size ≤ w10.heap.size) := hz10.size
    have B10 : Hid (Below w.heap.size w w10) := Law.then_ B9.out hz10
    have FW_10 := Lib.hid (FW_9.out.stays hz10)
    have FM_10 := Lib.hid (FM_9.out.stays hz10)
    have Fzrow_10 := Lib.hid (own_on Fzrow_9.out hz10)
    clear hz10
    clear hb
    have FH_10 := Lib.hid hoH
    clear hoH
    go_wp2_with fail
    go_at_call 18
    refine (eqInt_same AH AW cH cW ps _ (by omega) (Law.Row.own FH_10.out) (FW_10.out)).mono ?_
    rintro e we4 ⟨rfl, m4, rfl⟩
    go_wp2_with fail
    go_at_call 20
    refine (heldInt_one ps.length cG AG _ hl ((Law.Row.drewN (FM_10.out) m4))).mono ?_
    rintro e w11 ⟨rfl, hb⟩
    have hz11 : Below w10.heap.size w10 w11 := by first | exact hb | exact Law.undraw hb
    have S11 : Hid (w10.heap.size ≤ w11.heap.size) := hz11.size
    have B11 : Hid (Below w.heap.size w w11) := Law.then_ B10.out hz11
    have FW_11 := Lib.hid (FW_10.out.stays hz11)
    have FM_11 := Lib.hid (FM_10.out.stays hz11)
    clear hz11
    clear hb
    go_wp2
    go_ret
    exact ⟨rfl, B11.out⟩
theorem walk (Arow : Option Addr) (nrow crow : Nat) (row : List Int) (r : Int) (w : World) (hrow : row.length = nrow ∧ nrow ≤ crow ∧ crow ≤ maxLen ∧ (∀ z ∈ row, (Lit.int .i64 z).wf = true) ∧ Law.Row w Arow (row.map (Value.int .i64))) (hr : (Lit.int .i64 r).wf = true) (hL : laidMetH Try.prog Rows.fnExactCoverStepRow.laid w) (hsh : w.ShapedOpen Try.prog) :
    Calls Try.prog 5 #[.slice Arow nrow crow, .int .i64 r] w fun e w' => e = .returned (.bool true) ∧ Below w.heap.size w w' := by
  obtain ⟨rfl, hArow, hBrow, _, hrrow⟩ := hrow
  clear hL hsh
  by_cases hlrow : row.length ≤ 1048576
  · skip
    refine walk_core row r Arow crow ((Q.csQ row r)) w ?_ hlrow hrrow (fun Brow drow W hrow => specCs_any row r Brow drow hlrow W hrow) (fun Brow drow W hrow => impCs_any row r Brow drow hlrow W hrow)
    exact lenX row r
  · have hIrow : ¬ (row.length : Int) ≤ 1048576 := by omega
    clear hrrow
    go_enter Try.func5, Try.ntmps5
    go_wp2
    go_ret
    exact ⟨rfl, Below.refl _ _⟩
theorem lawOwn : ownKnob Try.prog.godebug = none := by kernel_rfl
theorem lawLaidOut : laidOutB Try.prog = true := by kernel_rfl
set_option maxRecDepth 100000 in
theorem contract (H : Type) (enc : TypeId × Value → H) (W : World) (base : Nat) (args : Array Value) (ds : List (DataW H)) (gs : List (DataW H)) (before : List MemPlace)
    (hval0 : ∀ (j : Nat) t v, Try.f5.params[j]? = some t → args[j]? = some v → Value.okWide Try.prog W .any base t v)
    (hW : DataW.Whole enc Try.prog Try.f5.params.toList Rows.fnExactCoverStepSpec.vars false W args.toList ds gs before) (hL : laidMetH Try.prog Rows.fnExactCoverStepRow.laid W) (hsh : W.ShapedOpen Try.prog) :
    Calls Try.prog 5 args W fun e W' => ∃ v, e = .returned v ∧ Rows.fnExactCoverStepSpec.post enc Try.prog Try.f5 false true false false W args v W' := by
  have hval : ∀ (j : Nat) t v, Try.f5.params[j]? = some t → args[j]? = some v → Value.okWide Try.prog W .any base t v := hval0
  have hW' := hW
  obtain ⟨p, q, hA0, hV, rfl, hfz, hnd⟩ := hW
  have hA : DataW.TrodAll enc Try.prog W 0 (fun _ => true) true Try.f5.params.toList args.toList ds p := hA0
  rw [Try.params5] at hA hval
  obtain ⟨v0, vs0, d0, ds0, p0, q0, hargs0, rfl, rfl, h0, r0⟩ := trodAll_cons hA
  obtain ⟨v1, vs1, d1, ds1, p1, q1, hargs1, rfl, rfl, h1, r1⟩ := trodAll_cons r0
  obtain ⟨rfl, rfl, rfl⟩ := trodAll_nil r1
  obtain rfl : args = #[v0, v1] := by cases args; simp_all
  obtain ⟨rfl, rfl⟩ := trodVars_none hV
  obtain ⟨A0, n0, c0, xs0, rfl, w0⟩ := Law.in_ints Try.underlying22 Try.underlying3 (by kernel_rfl) (hval 0 22 v0 rfl rfl) h0 (fun x hx => hW'.lt x (by simp [hx]))
  obtain ⟨a1, rfl, rfl, rfl, w1⟩ := open_int Try.underlying3 (hval 1 3 v1 rfl rfl) h1
  clear hA0 hval0
  refine (walk A0 n0 c0 xs0 a1 W w0 w1 hL hsh).mono fun e W' ⟨he, hb⟩ => ?_
  subst he
  exact ⟨_, rfl, Law.close hW' rfl rfl lawLaidOut (by kernel_rfl) Try.underlying4 (by kernel_rfl) hb⟩
theorem reads (os : Os) {H : Type} (enc : TypeId × Value → H) : ∃ places, DataW.whole enc Try.prog ((World.holding Try.prog os ⟨#[], #[], []⟩).forCall (fun _ _ => 0) ⟨#[], #[.slice none 0 0, .int .i64 0], []⟩).memory Try.f5.params.toList Rows.fnExactCoverStepSpec.vars false (#[.slice none 0 0, .int .i64 0] : Array Value).toList 8 = some ([.nil, .lit (.int .i64 0)], [], places) :=
  ⟨[], by kernel_rfl⟩
set_option maxRecDepth 100000 in
theorem lifted (os : Os) (started : os.Started) (H : Type) (enc : TypeId × Value → H) (F : Stop.Interp) :
    ReturnsInHanded {} Try.checked os 5 .any ((OpenSpec.ofChange Rows.fnExactCoverStepSpec).preRow enc Try.prog Try.f5 Rows.fnExactCoverStepRow.domain false Rows.fnExactCoverStepRow.laid) (((OpenSpec.ofChange Rows.fnExactCoverStepSpec).at F).post enc Try.prog Try.f5 false true false false) := by
  obtain ⟨places, hx⟩ := reads os enc
  refine returnsInHanded_of_row (C := Try.checked) (s := OpenSpec.ofChange Rows.fnExactCoverStepSpec) lawOwn started (by kernel_rfl) Try.func5
    (witness_row_at (enc := enc) (C := Try.checked) false (World.holding Try.prog os ⟨#[], #[], []⟩) #[.slice none 0 0, .int .i64 0] rfl (by kernel_rfl) (by kernel_rfl) (by kernel_rfl)
      (OpenSpec.preRow_of_cond 8 hx (by kernel_rfl) (fun k hk => by cases hk) (by kernel_rfl) (laidMet_nil _ _))) ?_
  intro W base args ds gs before hval hW _ _ _ hL hsh _
  exact contract H enc W base args ds gs before hval hW hL hsh
theorem proved : Rows.FnExactCoverStepSaid :=
  OpenClaim.holds_of_cond 5 Try.f5 rfl rfl rfl rfl rfl rfl rfl ⟨rfl, rfl, rfl, rfl, rfl⟩ rfl rfl rfl rfl rfl (by kernel_rfl) Try.func5 (by kernel_rfl)
    (of_decide_eq_true (by kernel_rfl)) (by unfold Func.isWrapper; first | (rw [if_pos (by decide +kernel)]; kernel_rfl) | (rw [if_neg (by decide +kernel)]; exact ⟨rfl, rfl⟩))
    (fun os started H enc _ F => by rw [OpenClaim.pre_eq_preRow]; exact lifted os started H enc F)
end LCoverStep
end Go.Proofs.Ytndjpkeenbbgiaa
