/-
  FnExactUniformMetric: UniformMetric answers as the model does, whatever it is given, and hands out a metric of its own.
  Conditions: none.
-/
import Derived.Test.YtndjpkeenbbgiaaRows
import Derived.Test.YtndjpkeenbbgiaaChecked
import Derived.Test.YtndjpkeenbbgiaaUniI
import Derived.Test.YtndjpkeenbbgiaaTcm
import Derived.Deep.DeepHandedRow
import Derived.Stop.Joined
namespace Go.Proofs.Ytndjpkeenbbgiaa
open Go.RowKit Go.ChangeShapes Go.WideShapes
set_option linter.unusedVariables false
namespace LUniformMetric
theorem szX (n d : Int) : szOk (Q.uniQ n d).1 = true := by
  refine szOk_iff.2 ?_
  unfold Q.uniQ
  split
  · rename_i h
    have hl := Q.uniK_len n.toNat d n.toNat
    have hm : ∀ l ∈ Q.uniK n.toNat d n.toNat, l.length ≤ 6 := fun l h' => by
      rw [Q.uniK_tab] at h'
      rw [Q.tabK_mem h']
      omega
    have := tot_by 6 _ hm
    show (Q.uniK n.toNat d n.toNat).length + totL (Q.uniK n.toNat d n.toNat) ≤ _
    omega
  · simp [totL]
set_option maxHeartbeats 6400000 in
theorem walk_core (n : Int) (d : Int) (X : List (List Int) × Bool) (w : World) (hs : szOk X.1 = true)
    (HG : Hid (∀ (W : World), Calls Try.prog 41 #[.int .i64 n, .int .i64 d] W (mrSays X W)))
    (HH : Hid (∀ (W : World), Calls Try.prog 42 #[.int .i64 n, .int .i64 d] W (mrSays X W))) :
    Calls Try.prog 11 #[.int .i64 n, .int .i64 d] w fun e w' => e = .returned (.bool true) ∧ Below w.heap.size w w' := by
  obtain ⟨T, ok⟩ := X
  simp only [] at hs
  obtain ⟨hl, _, htt⟩ := sz_rows hs
  have HZ := Lib.hid hs
  clear hs
  go_enter Try.func11, Try.ntmps11
  go_wp2_with fail
  go_at_call 41
  refine (HG.out _).mono ?_
  rintro e w1 ⟨v1, xsW, rfl, ho, hno, hb⟩
  simp only [] at ho hno
  obtain ⟨AW, cW, rfl, _, _, _⟩ := Law.own_len ho
  have HW1 := Lib.hid (NRow.of ho hno)
  have HB1 := Lib.hid hb
  clear ho hno hb
  go_wp2_with fail
  have b1 : Below w1.heap.size w1 (w1.alloc (.cells #[.slice AW T.length cW] 43)) := (Below.refl _ _).alloc (Nat.le_refl _) _
  have HWa := Lib.hid (HW1.out.stays b1)
  have M5 := Lib.hid (MBox.new w1 (.slice AW T.length cW))
  have HBa := Lib.hid (Law.then_ HB1.out b1)
  have SA : Hid (w1.heap.size < (w1.alloc (.cells #[.slice AW T.length cW] 43)).heap.size) := M5.out.lt
  clear b1
  generalize w1.alloc (.cells #[.slice AW T.length cW] 43) = wa at HWa M5 HBa SA ⊢
  go_at_call 42
  refine (HH.out _).mono ?_
  rintro e w2 ⟨v2, xsG, rfl, ho, hno, hb⟩
  simp only [] at ho hno
  obtain ⟨AG, cG, rfl, _, _, _⟩ := Law.own_len ho
  have HGo := Lib.hid ho
  have HGn := Lib.hid hno
  have HTop := Lib.hid hno.tops
  have BV := Lib.hid hb
  clear ho hno hb
  have b2 : Below w2.heap.size w2 (w2.alloc (.cells #[.slice AG T.length cG] 43)) := (Below.refl _ _).alloc (Nat.le_refl _) _
  have FGo := Lib.hid (own_past HGo.out b2)
  have FGn := Lib.hid (HGn.out.past b2)
  have M7 := Lib.hid (MBox.new w2 (.slice AG T.length cG))
  have BVb := Lib.hid (Law.then_ BV.out b2)
  have ST : Hid (wa.heap.size ≤ w2.heap.size) := BV.out.size
  clear b2 HGo HGn BV
  have hk7 := M7.out.cell
  have hk5 := (M5.out.on BVb.out).cell
  go_wp2_with fail
  generalize w2.alloc (.cells #[.slice AG T.length cG] 43) = wb at FGo FGn M7 BVb hk7 hk5 ⊢
  go_at_call 36
  refine (eqMet_same AG AW cG cW xsG xsW T _ HZ.out (NRow.of FGo.out FGn.out) (HWa.out.stays BVb.out)).mono ?_
  rintro e w3 ⟨rfl, hb⟩
  have FGo3 := Lib.hid (own_past FGo.out hb)
  have FGn3 := Lib.hid (FGn.out.past hb)
  have M73 := Lib.hid (M7.out.on hb)
  have BV3 := Lib.hid (Law.then_ BVb.out hb)
  clear hk5 hk7 hb FGo FGn M7 BVb
  have hk7 := M73.out.cell
  have HMk := Lib.hid (markMet_tt wa.heap.size w2.heap.size 1 AG cG xsG T w3 (by omega) (by omega) HZ.out FGo3.out FGn3.out HTop.out)
  cases ok
  all_goals
    go_wp2_with fail
    go_at_call 37
    refine HMk.out.mono ?_
    rintro e w4 ⟨rfl, ⟨ho, hno⟩, ht⟩
    have FM4 := Lib.hid (NRow.of ho hno)
    have M74 := Lib.hid (M73.out.tch ht (.inr (Nat.le_refl _)))
    have BV4 := Lib.hid (BV3.out.trans (ht.below BV3.out.size))
    clear hk7 ho hno ht
    have hk7 := M74.out.cell
    go_wp2_with fail
    go_at_call 38
    refine (heldMet_any 1 AG cG xsG T _ (by omega) (by omega) hl htt FM4.out).mono ?_
    rintro e w5 ⟨rfl, hb⟩
    have FM5 := Lib.hid (FM4.out.stays hb)
    have M75 := Lib.hid (M74.out.on hb)
    have BV5 := Lib.hid (Law.then_ BV4.out hb)
    clear hk7 hb
    have hk7 := M75.out.cell
    go_wp2_with fail
    go_at_call 42
    refine (HH.out _).mono ?_
    rintro e w6 ⟨v6, xsH, rfl, ho, hno, hb⟩
    simp only [] at ho hno
    obtain ⟨AH, cH, rfl, _, _, _⟩ := Law.own_len ho
    have HH6 := Lib.hid (NRow.of ho hno)
    have FM6 := Lib.hid (FM5.out.stays hb)
    have M76 := Lib.hid (M75.out.on hb)
    have BV6 := Lib.hid (Law.then_ BV5.out hb)
    clear hk7 ho hno hb
    have b6 : Below w6.heap.size w6 (w6.alloc (.cells #[.slice AH T.length cH] 43)) := (Below.refl _ _).alloc (Nat.le_refl _) _
    have HHc := Lib.hid (HH6.out.stays b6)
    have M11 := Lib.hid (MBox.new w6 (.slice AH T.length cH))
    have FMc := Lib.hid (FM6.out.stays b6)
    have M7c := Lib.hid (M76.out.on b6)
    have BVc := Lib.hid (Law.then_ BV6.out b6)
    clear b6
    have hk11 := M11.out.cell
    have hk5 := (M5.out.on BVc.out).cell
    have hk7 := M7c.out.cell
    go_wp2_with fail
    generalize w6.alloc (.cells #[.slice AH T.length cH] 43) = wc at HHc M11 FMc M7c BVc hk11 hk5 hk7 ⊢
    go_at_call 36
    refine (eqMet_same AH AW cH cW xsH xsW T _ HZ.out HHc.out (HWa.out.stays BVc.out)).mono ?_
    rintro e w7 ⟨rfl, hb⟩
    have FM7 := Lib.hid (FMc.out.stays hb)
    have M77 := Lib.hid (M7c.out.on hb)
    have BV7 := Lib.hid (Law.then_ BVc.out hb)
    clear hk11 hk5 hk7 hb
    have hk7 := M77.out.cell
    go_wp2_with fail
    go_at_call 38
    refine (heldMet_any 1 AG cG xsG T _ (by omega) (by omega) hl htt FM7.out).mono ?_
    rintro e w8 ⟨rfl, hb⟩
    have BV8 := Lib.hid (Law.then_ BV7.out hb)
    clear hk7 hb
    have HBE := Lib.hid (Law.then_ HBa.out BV8.out)
    go_wp2
    go_ret
    exact ⟨rfl, HBE.out⟩
theorem walk (n : Int) (d : Int) (w : World) (hn : (Lit.int .i64 n).wf = true) (hd : (Lit.int .i64 d).wf = true) (hL : laidMetH Try.prog Rows.fnExactUniformMetricRow.laid w) (hsh : w.ShapedOpen Try.prog) :
    Calls Try.prog 11 #[.int .i64 n, .int .i64 d] w fun e w' => e = .returned (.bool true) ∧ Below w.heap.size w w' := by
  clear hL hsh
  exact walk_core n d (Q.uniQ n d) w (szX n d) (fun W => specUni_any n d W) (fun W => impUni_any n d W)
theorem lawOwn : ownKnob Try.prog.godebug = none := by kernel_rfl
theorem lawLaidOut : laidOutB Try.prog = true := by kernel_rfl
set_option maxRecDepth 100000 in
theorem contract (H : Type) (enc : TypeId × Value → H) (W : World) (base : Nat) (args : Array Value) (ds : List (DataW H)) (gs : List (DataW H)) (before : List MemPlace)
    (hval0 : ∀ (j : Nat) t v, Try.f11.params[j]? = some t → args[j]? = some v → Value.okWide Try.prog W .any base t v)
    (hW : DataW.Whole enc Try.prog Try.f11.params.toList Rows.fnExactUniformMetricSpec.vars false W args.toList ds gs before) (hL : laidMetH Try.prog Rows.fnExactUniformMetricRow.laid W) (hsh : W.ShapedOpen Try.prog) :
    Calls Try.prog 11 args W fun e W' => ∃ v, e = .returned v ∧ Rows.fnExactUniformMetricSpec.post enc Try.prog Try.f11 false true false false W args v W' := by
  have hval : ∀ (j : Nat) t v, Try.f11.params[j]? = some t → args[j]? = some v → Value.okWide Try.prog W .any base t v := hval0
  have hW' := hW
  obtain ⟨p, q, hA0, hV, rfl, hfz, hnd⟩ := hW
  have hA : DataW.TrodAll enc Try.prog W 0 (fun _ => true) true Try.f11.params.toList args.toList ds p := hA0
  rw [Try.params11] at hA hval
  obtain ⟨v0, vs0, d0, ds0, p0, q0, hargs0, rfl, rfl, h0, r0⟩ := trodAll_cons hA
  obtain ⟨v1, vs1, d1, ds1, p1, q1, hargs1, rfl, rfl, h1, r1⟩ := trodAll_cons r0
  obtain ⟨rfl, rfl, rfl⟩ := trodAll_nil r1
  obtain rfl : args = #[v0, v1] := by cases args; simp_all
  obtain ⟨rfl, rfl⟩ := trodVars_none hV
  obtain ⟨a0, rfl, rfl, rfl, w0⟩ := open_int Try.underlying3 (hval 0 3 v0 rfl rfl) h0
  obtain ⟨a1, rfl, rfl, rfl, w1⟩ := open_int Try.underlying3 (hval 1 3 v1 rfl rfl) h1
  clear hA0 hval0
  refine (walk a0 a1 W w0 w1 hL hsh).mono fun e W' ⟨he, hb⟩ => ?_
  subst he
  exact ⟨_, rfl, Law.close hW' rfl rfl lawLaidOut (by kernel_rfl) Try.underlying4 (by kernel_rfl) hb⟩
theorem reads (os : Os) {H : Type} (enc : TypeId × Value → H) : ∃ places, DataW.whole enc Try.prog ((World.holding Try.prog os ⟨#[], #[], []⟩).forCall (fun _ _ => 0) ⟨#[], #[.int .i64 0, .int .i64 0], []⟩).memory Try.f11.params.toList Rows.fnExactUniformMetricSpec.vars false (#[.int .i64 0, .int .i64 0] : Array Value).toList 8 = some ([.lit (.int .i64 0), .lit (.int .i64 0)], [], places) :=
  ⟨[], by kernel_rfl⟩
set_option maxRecDepth 100000 in
theorem lifted (os : Os) (started : os.Started) (H : Type) (enc : TypeId × Value → H) (F : Stop.Interp) :
    ReturnsInHanded {} Try.checked os 11 .any ((OpenSpec.ofChange Rows.fnExactUniformMetricSpec).preRow enc Try.prog Try.f11 Rows.fnExactUniformMetricRow.domain false Rows.fnExactUniformMetricRow.laid) (((OpenSpec.ofChange Rows.fnExactUniformMetricSpec).at F).post enc Try.prog Try.f11 false true false false) := by
  obtain ⟨places, hx⟩ := reads os enc
  refine returnsInHanded_of_row (C := Try.checked) (s := OpenSpec.ofChange Rows.fnExactUniformMetricSpec) lawOwn started (by kernel_rfl) Try.func11
    (witness_row_at (enc := enc) (C := Try.checked) false (World.holding Try.prog os ⟨#[], #[], []⟩) #[.int .i64 0, .int .i64 0] rfl (by kernel_rfl) (by kernel_rfl) (by kernel_rfl)
      (OpenSpec.preRow_of_cond 8 hx (by kernel_rfl) (fun k hk => by cases hk) (by kernel_rfl) (laidMet_nil _ _))) ?_
  intro W base args ds gs before hval hW _ _ _ hL hsh _
  exact contract H enc W base args ds gs before hval hW hL hsh
theorem proved : Rows.FnExactUniformMetricSaid :=
  OpenClaim.holds_of_cond 11 Try.f11 rfl rfl rfl rfl rfl rfl rfl ⟨rfl, rfl, rfl, rfl, rfl⟩ rfl rfl rfl rfl rfl (by kernel_rfl) Try.func11 (by kernel_rfl)
    (of_decide_eq_true (by kernel_rfl)) (by unfold Func.isWrapper; first | (rw [if_pos (by decide +kernel)]; kernel_rfl) | (rw [if_neg (by decide +kernel)]; exact ⟨rfl, rfl⟩))
    (fun os started H enc _ F => by rw [OpenClaim.pre_eq_preRow]; exact lifted os started H enc F)
end LUniformMetric
end Go.Proofs.Ytndjpkeenbbgiaa
