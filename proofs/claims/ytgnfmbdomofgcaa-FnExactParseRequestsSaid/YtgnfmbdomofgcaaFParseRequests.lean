/-
  FnExactParseRequests: ParseRequests answers as the model does, whatever it is given, and hands out a row of its own.
  Conditions: none.
-/
import Derived.Test.YtgnfmbdomofgcaaRows
import Derived.Test.YtgnfmbdomofgcaaChecked
import Derived.Test.YtgnfmbdomofgcaaParS
import Derived.Test.YtgnfmbdomofgcaaMarkI
import Derived.Deep.DeepHandedRow
import Derived.Stop.Joined
namespace Go.Proofs.Ytgnfmbdomofgcaa
open Go.RowKit Go.ChangeShapes Go.WideShapes
open Go.ChangeMaps (open_string shut_string)
set_option linter.unusedVariables false
namespace LParseRequests
set_option maxHeartbeats 6400000 in
theorem walk_core (n : Int) (str : ByteArray) (X : List Int × Bool) (w : World) (hl : X.1.length ≤ 1048576) (hls : str.size ≤ 1048576)
    (HG : Hid (∀ (W : World), Calls Try.prog 48 #[.int .i64 n, .string str] W (rowSays X W)))
    (HH : Hid (∀ (W : World), Calls Try.prog 49 #[.int .i64 n, .string str] W (rowSays X W))) :
    Calls Try.prog 6 #[.int .i64 n, .string str] w fun e w' => e = .returned (.bool true) ∧ Below w.heap.size w w' := by
  obtain ⟨ps, ok⟩ := X
  simp only [] at hl
  have hIs : (str.size : Int) ≤ 1048576 := by omega
  clear hls
  go_enter Try.func6, Try.ntmps6
  go_wp2_with fail
  go_at_call 48
  refine (HG.out _).mono ?_
  rintro e w1 ⟨v1, rfl, ho, hb⟩
  simp only [] at ho
  have hoW : w1.ownsRow w.heap.size 3 1 v1 ps.length (ivs ps) := ho
  obtain ⟨AW, cW, rfl, hcW, _, _⟩ := Law.own_len hoW
  have IW : Hid (In w.heap.size w1.heap.size AW) := In.of hoW
  clear ho
  have hz1 : Below w.heap.size w w1 := by first | exact hb | exact Law.undraw hb
  have S1 : Hid (w.heap.size ≤ w1.heap.size) := hz1.size
  have B1 : Hid (Below w.heap.size w w1) := hz1
  clear hz1
  clear hb
  have FW_1 := Lib.hid hoW
  clear hoW
  have FWr := Lib.hid (Law.Row.own FW_1.out)
  clear FW_1
  have FW_1 := FWr
  clear FWr
  go_wp2_with fail
  go_at_call 49
  refine (HH.out _).mono ?_
  rintro e w2 ⟨v2, rfl, ho, hb⟩
  simp only [] at ho
  have hoG : w2.ownsRow w1.heap.size 3 1 v2 ps.length (ivs ps) := ho
  obtain ⟨AG, cG, rfl, hcG, _, _⟩ := Law.own_len hoG
  have IG : Hid (In w1.heap.size w2.heap.size AG) := In.of hoG
  clear ho
  have hz2 : Below w1.heap.size w1 w2 := by first | exact hb | exact Law.undraw hb
  have S2 : Hid (w1.heap.size ≤ w2.heap.size) := hz2.size
  have B2 : Hid (Below w.heap.size w w2) := Law.then_ B1.out hz2
  have FW_2 := Lib.hid (FW_1.out.stays hz2)
  clear hz2
  clear hb
  have FG_2 := Lib.hid hoG
  clear hoG
  go_wp2_with fail
  go_at_call 47
  refine (eqInt_same AG AW cG cW ps _ (by omega) (Law.Row.own FG_2.out) (FW_2.out)).mono ?_
  rintro e we1 ⟨rfl, m1, rfl⟩
  cases ok
  all_goals
    go_wp2_with fail
    go_at_call 50
    refine (markInt_one _ ps.length cG _ AG (ivs ps) w2 (by omega) FG_2.out).mono ?_
    rintro e w3 ⟨rfl, ho, hb⟩
    have FM := Lib.hid (Law.Row.own ho)
    clear ho
    have S3 : Hid (w2.heap.size ≤ w3.heap.size) := hb.size
    have B3 : Hid (Below w.heap.size w w3) := B2.out.grown hb (by have s1 := S1.out; have s2 := S2.out; omega) (IG.out.base (by have s1 := S1.out; have s2 := S2.out; omega))
    have FW_3 := Lib.hid (FW_2.out.far hb IW.out IG.out (by have s1 := S1.out; have s2 := S2.out; first | exact .inl (by omega) | exact .inr (by omega)))
    clear hb
    have FM_3 := FM
    clear FM
    go_wp2_with fail
    go_at_call 51
    refine (heldInt_one ps.length cG AG _ hl (FM_3.out)).mono ?_
    rintro e w4 ⟨rfl, hb⟩
    have hz4 : Below w3.heap.size w3 w4 := by first | exact hb | exact Law.undraw hb
    have S4 : Hid (w3.heap.size ≤ w4.heap.size) := hz4.size
    have B4 : Hid (Below w.heap.size w w4) := Law.then_ B3.out hz4
    have FW_4 := Lib.hid (FW_3.out.stays hz4)
    have FM_4 := Lib.hid (FM_3.out.stays hz4)
    clear hz4
    clear hb
    go_wp2_with fail
    go_at_call 49
    refine (HH.out _).mono ?_
    rintro e w5 ⟨v5, rfl, ho, hb⟩
    simp only [] at ho
    have hoH : w5.ownsRow w4.heap.size 3 1 v5 ps.length (ivs ps) := ho
    obtain ⟨AH, cH, rfl, hcH, _, _⟩ := Law.own_len hoH
    have IH : Hid (In w4.heap.size w5.heap.size AH) := In.of hoH
    clear ho
    have hz5 : Below w4.heap.size w4 w5 := by first | exact hb | exact Law.undraw hb
    have S5 : Hid (w4.heap.size ≤ w5.heap.size) := hz5.size
    have B5 : Hid (Below w.heap.size w w5) := Law.then_ B4.out hz5
    have FW_5 := Lib.hid (FW_4.out.stays hz5)
    have FM_5 := Lib.hid (FM_4.out.stays hz5)
    clear hz5
    clear hb
    have FH_5 := Lib.hid hoH
    clear hoH
    go_wp2_with fail
    go_at_call 47
    refine (eqInt_same AH AW cH cW ps _ (by omega) (Law.Row.own FH_5.out) (FW_5.out)).mono ?_
    rintro e we2 ⟨rfl, m2, rfl⟩
    go_wp2_with fail
    go_at_call 51
    refine (heldInt_one ps.length cG AG _ hl ((Law.Row.drewN (FM_5.out) m2))).mono ?_
    rintro e w6 ⟨rfl, hb⟩
    have hz6 : Below w5.heap.size w5 w6 := by first | exact hb | exact Law.undraw hb
    have S6 : Hid (w5.heap.size ≤ w6.heap.size) := hz6.size
    have B6 : Hid (Below w.heap.size w w6) := Law.then_ B5.out hz6
    have FW_6 := Lib.hid (FW_5.out.stays hz6)
    have FM_6 := Lib.hid (FM_5.out.stays hz6)
    clear hz6
    clear hb
    go_wp2
    go_ret
    exact ⟨rfl, B6.out⟩
theorem walk (n : Int) (str : ByteArray) (w : World) (hn : (Lit.int .i64 n).wf = true) (hstr : str.size ≤ maxLen) (hL : laidMetH Try.prog Rows.fnExactParseRequestsRow.laid w) (hsh : w.ShapedOpen Try.prog) :
    Calls Try.prog 6 #[.int .i64 n, .string str] w fun e w' => e = .returned (.bool true) ∧ Below w.heap.size w w' := by
  clear hL hsh
  by_cases hls : str.size ≤ 1048576
  · refine walk_core n str (Q.parQ n str) w ?_ hls (fun W => specPar_any n str hls W) (fun W => impPar_any n str hls W)
    exact lenX n str
  · have hIs : ¬ (str.size : Int) ≤ 1048576 := by omega
    unfold maxLen at hstr
    go_enter Try.func6, Try.ntmps6
    go_wp2
    go_ret
    exact ⟨rfl, Below.refl _ _⟩
theorem lawOwn : ownKnob Try.prog.godebug = none := by kernel_rfl
theorem lawLaidOut : laidOutB Try.prog = true := by kernel_rfl
theorem contract (H : Type) (enc : TypeId × Value → H) (W : World) (base : Nat) (args : Array Value) (ds : List (DataW H)) (gs : List (DataW H)) (before : List MemPlace)
    (hval0 : ∀ (j : Nat) t v, Try.f6.params[j]? = some t → args[j]? = some v → Value.okWide Try.prog W .any base t v)
    (hW : DataW.Whole enc Try.prog Try.f6.params.toList Rows.fnExactParseRequestsSpec.vars false W args.toList ds gs before) (hL : laidMetH Try.prog Rows.fnExactParseRequestsRow.laid W) (hsh : W.ShapedOpen Try.prog) :
    Calls Try.prog 6 args W fun e W' => ∃ v, e = .returned v ∧ Rows.fnExactParseRequestsSpec.post enc Try.prog Try.f6 false true false false W args v W' := by
  have hval : ∀ (j : Nat) t v, Try.f6.params[j]? = some t → args[j]? = some v → Value.okWide Try.prog W .any base t v := hval0
  have hW' := hW
  obtain ⟨p, q, hA0, hV, rfl, hfz, hnd⟩ := hW
  have hA : DataW.TrodAll enc Try.prog W 0 (fun _ => true) true Try.f6.params.toList args.toList ds p := hA0
  rw [Try.params6] at hA hval
  obtain ⟨v0, vs0, d0, ds0, p0, q0, hargs0, rfl, rfl, h0, r0⟩ := trodAll_cons hA
  obtain ⟨v1, vs1, d1, ds1, p1, q1, hargs1, rfl, rfl, h1, r1⟩ := trodAll_cons r0
  obtain ⟨rfl, rfl, rfl⟩ := trodAll_nil r1
  obtain rfl : args = #[v0, v1] := by cases args; simp_all
  obtain ⟨rfl, rfl⟩ := trodVars_none hV
  obtain ⟨a0, rfl, rfl, rfl, w0⟩ := open_int Try.underlying3 (hval 0 3 v0 rfl rfl) h0
  obtain ⟨a1, rfl, rfl, rfl, w1⟩ := open_string Try.underlying9 (hval 1 9 v1 rfl rfl) h1
  clear hA0 hval0
  refine (walk a0 a1 W w0 w1 hL hsh).mono fun e W' ⟨he, hb⟩ => ?_
  subst he
  exact ⟨_, rfl, Law.close hW' rfl rfl lawLaidOut (by kernel_rfl) Try.underlying4 (by kernel_rfl) hb⟩
theorem reads (os : Os) {H : Type} (enc : TypeId × Value → H) : ∃ places, DataW.whole enc Try.prog ((World.holding Try.prog os ⟨#[], #[], []⟩).forCall (fun _ _ => 0) ⟨#[], #[.int .i64 0, .string ⟨#[]⟩], []⟩).memory Try.f6.params.toList Rows.fnExactParseRequestsSpec.vars false (#[.int .i64 0, .string ⟨#[]⟩] : Array Value).toList 8 = some ([.lit (.int .i64 0), .lit (.string [])], [], places) :=
  ⟨[], by kernel_rfl⟩
set_option maxRecDepth 100000 in
theorem lifted (os : Os) (started : os.Started) (H : Type) (enc : TypeId × Value → H) (F : Stop.Interp) :
    ReturnsInHanded {} Try.checked os 6 .any ((OpenSpec.ofChange Rows.fnExactParseRequestsSpec).preRow enc Try.prog Try.f6 Rows.fnExactParseRequestsRow.domain false Rows.fnExactParseRequestsRow.laid) (((OpenSpec.ofChange Rows.fnExactParseRequestsSpec).at F).post enc Try.prog Try.f6 false true false false) := by
  obtain ⟨places, hx⟩ := reads os enc
  refine returnsInHanded_of_row (C := Try.checked) (s := OpenSpec.ofChange Rows.fnExactParseRequestsSpec) lawOwn started (by kernel_rfl) Try.func6
    (witness_row_at (enc := enc) (C := Try.checked) false (World.holding Try.prog os ⟨#[], #[], []⟩) #[.int .i64 0, .string ⟨#[]⟩] rfl (by kernel_rfl) (by kernel_rfl) (by kernel_rfl)
      (OpenSpec.preRow_of_cond 8 hx (by kernel_rfl) (fun k hk => by cases hk) (by kernel_rfl) (laidMet_nil _ _))) ?_
  intro W base args ds gs before hval hW _ _ _ hL hsh _
  exact contract H enc W base args ds gs before hval hW hL hsh
theorem proved : Rows.FnExactParseRequestsSaid :=
  OpenClaim.holds_of_cond 6 Try.f6 rfl rfl rfl rfl rfl rfl rfl ⟨rfl, rfl, rfl, rfl, rfl⟩ rfl rfl rfl rfl rfl (by kernel_rfl) Try.func6 (by kernel_rfl)
    (of_decide_eq_true (by kernel_rfl)) (by unfold Func.isWrapper; first | (rw [if_pos (by decide +kernel)]; kernel_rfl) | (rw [if_neg (by decide +kernel)]; exact ⟨rfl, rfl⟩))
    (fun os started H enc _ F => by rw [OpenClaim.pre_eq_preRow]; exact lifted os started H enc F)
end LParseRequests
end Go.Proofs.Ytgnfmbdomofgcaa
