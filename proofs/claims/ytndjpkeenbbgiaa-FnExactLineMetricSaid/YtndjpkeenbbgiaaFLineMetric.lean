/-
  FnExactLineMetric: LineMetric answers as the model does, whatever it is given, and hands out a metric of its own.
  Conditions: none.
-/
import Derived.Test.YtndjpkeenbbgiaaRows
import Derived.Test.YtndjpkeenbbgiaaChecked
import Derived.Test.YtndjpkeenbbgiaaTcm
import Derived.Test.YtndjpkeenbbgiaaLinT
import Derived.Deep.DeepHandedRow
import Derived.Stop.Joined
namespace Go.Proofs.Ytndjpkeenbbgiaa
open Go.RowKit Go.ChangeShapes Go.WideShapes
set_option linter.unusedVariables false
namespace LLineMetric
theorem szX (l : List Int) : szOk (Q.linQ l).1 = true := by
  refine szOk_iff.2 ?_
  unfold Q.linQ
  split
  · rename_i h
    have hl := Q.tabK_len (Q.linG l) l.length l.length
    have hm : ∀ r ∈ Q.tabK (Q.linG l) l.length l.length, r.length ≤ 6 := fun r h' => by
      rw [Q.tabK_mem h']
      omega
    have := tot_by 6 _ hm
    show (Q.tabK (Q.linG l) l.length l.length).length + totL (Q.tabK (Q.linG l) l.length l.length) ≤ _
    omega
  · simp [totL]
set_option maxHeartbeats 6400000 in
theorem walk_core (l : List Int) (A0 : Option Addr) (c0 : Nat) (X : List (List Int) × Bool) (w : World) (hs : szOk X.1 = true) (hn : l.length ≤ 1048576) (HR : Hid (Law.Row w A0 (ivs l)))
    (HG : Hid (∀ (A : Option Addr) (c : Nat) (W : World), l.length ≤ c → Law.Row W A (ivs l) → Calls Try.prog 34 #[.slice A l.length c] W (mrSays X W)))
    (HH : Hid (∀ (A : Option Addr) (c : Nat) (W : World), Law.Row W A (ivs l) → Calls Try.prog 35 #[.slice A l.length c] W (mrSays X W))) :
    Calls Try.prog 9 #[.slice A0 l.length c0] w fun e w' => e = .returned (.bool true) ∧ Below w.heap.size w w' := by
  obtain ⟨T, ok⟩ := X
  simp only [] at hs
  obtain ⟨hl, _, htt⟩ := sz_rows hs
  have HZ := Lib.hid hs
  clear hs
  have hI : (l.length : Int) ≤ 1048576 := by omega
  go_enter Try.func9, Try.ntmps9
  go_wp2_with fail
  go_at_call 16
  refine (toInt_any A0 c0 l _ hn HR.out).mono ?_
  rintro e w1 ⟨v1, rfl, ho, hb⟩
  have ho' : w1.ownsRow w.heap.size 3 1 v1 l.length (ivs l) := ho
  obtain ⟨Aa, ca, rfl, hca, _, _⟩ := Law.own_len ho'
  have HA1 := Lib.hid (Law.Row.own ho')
  have B1 := Lib.hid hb
  clear ho ho' hb
  go_wp2_with fail
  go_at_call 34
  refine (HG.out Aa ca _ hca HA1.out).mono ?_
  rintro e w2 ⟨v2, xsW, rfl, ho, hno, hb⟩
  simp only [] at ho hno
  obtain ⟨AW, cW, rfl, _, _, _⟩ := Law.own_len ho
  have HW2 := Lib.hid (NRow.of ho hno)
  have B2 := Lib.hid (Law.then_ B1.out hb)
  clear ho hno hb HA1 B1
  have b2 : Below w2.heap.size w2 (w2.alloc (.cells #[.slice AW T.length cW] 43)) := (Below.refl _ _).alloc (Nat.le_refl _) _
  have HWa := Lib.hid (HW2.out.stays b2)
  have M5 := Lib.hid (MBox.new w2 (.slice AW T.length cW))
  have Ba := Lib.hid (Law.then_ B2.out b2)
  clear b2 HW2 B2
  go_wp2_with fail
  generalize w2.alloc (.cells #[.slice AW T.length cW] 43) = wa at HWa M5 Ba ⊢
  go_at_call 16
  refine (toInt_any A0 c0 l _ hn (HR.out.stays Ba.out)).mono ?_
  rintro e w3 ⟨v3, rfl, ho, hb⟩
  have ho' : w3.ownsRow wa.heap.size 3 1 v3 l.length (ivs l) := ho
  obtain ⟨Ax, cx, rfl, _, _, _⟩ := Law.own_len ho'
  have IX : Hid (In wa.heap.size w3.heap.size Ax) := In.of ho'
  have FX3 := Lib.hid ho'
  have BV3 := Lib.hid hb
  clear ho ho' hb
  go_wp2_with fail
  go_at_call 35
  refine (HH.out Ax cx _ (Law.Row.own FX3.out)).mono ?_
  rintro e w4 ⟨v4, xsG, rfl, ho, hno, hb⟩
  simp only [] at ho hno
  obtain ⟨AG, cG, rfl, _, _, _⟩ := Law.own_len ho
  have HGo := Lib.hid ho
  have HGn := Lib.hid hno
  have HTop := Lib.hid hno.tops
  have FX4 := Lib.hid (own_on FX3.out hb)
  have BV4 := Lib.hid (Law.then_ BV3.out hb)
  have ST : Hid (w3.heap.size ≤ w4.heap.size) := hb.size
  have SV : Hid (wa.heap.size ≤ w3.heap.size) := BV3.out.size
  clear ho hno hb FX3 BV3
  have b4 : Below w4.heap.size w4 (w4.alloc (.cells #[.slice AG T.length cG] 43)) := (Below.refl _ _).alloc (Nat.le_refl _) _
  have FGo := Lib.hid (own_past HGo.out b4)
  have FGn := Lib.hid (HGn.out.past b4)
  have FXb := Lib.hid (own_on FX4.out b4)
  have M7 := Lib.hid (MBox.new w4 (.slice AG T.length cG))
  have BVb := Lib.hid (Law.then_ BV4.out b4)
  clear b4 HGo HGn FX4 BV4
  have hk7 := M7.out.cell
  have hk5 := (M5.out.on BVb.out).cell
  go_wp2_with fail
  generalize w4.alloc (.cells #[.slice AG T.length cG] 43) = wb at FGo FGn FXb M7 BVb hk7 hk5 ⊢
  go_at_call 36
  refine (eqMet_same AG AW cG cW xsG xsW T _ HZ.out (NRow.of FGo.out FGn.out) (HWa.out.stays BVb.out)).mono ?_
  rintro e w5 ⟨rfl, hb⟩
  have FGo5 := Lib.hid (own_past FGo.out hb)
  have FGn5 := Lib.hid (FGn.out.past hb)
  have FX5 := Lib.hid (own_on FXb.out hb)
  have M75 := Lib.hid (M7.out.on hb)
  have BV5 := Lib.hid (Law.then_ BVb.out hb)
  clear hk5 hk7 hb FGo FGn FXb M7 BVb
  cases ok
  all_goals
    go_wp2_with fail
    go_at_call 16
    refine (toInt_any A0 c0 l _ hn (HR.out.stays (Law.then_ Ba.out BV5.out))).mono ?_
    rintro e w6 ⟨v6, rfl, ho, hb⟩
    have ho' : w6.ownsRow w5.heap.size 3 1 v6 l.length (ivs l) := ho
    obtain ⟨Ay, cy, rfl, _, _, _⟩ := Law.own_len ho'
    have FY6 := Lib.hid (Law.Row.own ho')
    have FGo6 := Lib.hid (own_past FGo5.out hb)
    have FGn6 := Lib.hid (FGn5.out.past hb)
    have FX6 := Lib.hid (own_on FX5.out hb)
    have M76 := Lib.hid (M75.out.on hb)
    have BV6 := Lib.hid (Law.then_ BV5.out hb)
    clear ho ho' hb
    go_wp2_with fail
    go_at_call 18
    refine (eqInt_same Ax Ay cx cy l _ (by omega) (Law.Row.own FX6.out) FY6.out).mono ?_
    rintro e we ⟨rfl, m1, rfl⟩
    go_wp2_with fail
    go_at_call 19
    refine (markInt_one _ l.length cx m1 Ax (ivs l) w6 (by omega) FX6.out).mono ?_
    rintro e w7 ⟨rfl, _, hg⟩
    have FGo7 := Lib.hid (own_low FGo6.out hg IX.out (Nat.le_refl _))
    have FGn7 := Lib.hid (FGn6.out.low hg IX.out (Nat.le_refl _))
    have M77 := Lib.hid (M76.out.grown hg (fun e => by
      have h1 := (FX6.out.lt _ e).1
      cases Ax with
      | none => simp [Value.ownBlock] at e
      | some a =>
        have h2 := (IX.out a rfl).2
        have h3 := ST.out
        simp [Value.ownBlock] at e
        omega))
    have BV7 := Lib.hid (BV6.out.grown hg BV6.out.size (IX.out.base (Nat.le_refl _)))
    clear hg FX6 FGo6 FGn6 M76 BV6 FX5 FGo5 FGn5 M75 BV5 FY6
    have hk7 := M77.out.cell
    have hk5 := (M5.out.on BV7.out).cell
    go_wp2_with fail
    go_at_call 36
    refine (eqMet_same AG AW cG cW xsG xsW T _ HZ.out (NRow.of FGo7.out FGn7.out) (HWa.out.stays BV7.out)).mono ?_
    rintro e w8 ⟨rfl, hb⟩
    have FGo8 := Lib.hid (own_past FGo7.out hb)
    have FGn8 := Lib.hid (FGn7.out.past hb)
    have M78 := Lib.hid (M77.out.on hb)
    have BV8 := Lib.hid (Law.then_ BV7.out hb)
    clear hk5 hk7 hb FGo7 FGn7 M77 BV7
    have hk7 := M78.out.cell
    have HMk := Lib.hid (markMet_tt w3.heap.size w4.heap.size 1 AG cG xsG T w8 (by omega) (by omega) HZ.out FGo8.out FGn8.out HTop.out)
    have hS8 : w3.heap.size ≤ w8.heap.size := Nat.le_trans ST.out (Nat.le_of_lt M78.out.lt)
    go_wp2_with fail
    go_at_call 37
    refine HMk.out.mono ?_
    rintro e w9 ⟨rfl, ⟨ho, hno⟩, ht⟩
    have FM9 := Lib.hid (NRow.of ho hno)
    have M79 := Lib.hid (M78.out.tch ht (.inr (Nat.le_refl _)))
    have BV9 := Lib.hid (BV8.out.trans ((ht.below hS8).mono SV.out))
    clear hk7 ho hno ht hS8 HMk FGo8 FGn8
    have hk7 := M79.out.cell
    go_wp2_with fail
    go_at_call 38
    refine (heldMet_any 1 AG cG xsG T _ (by omega) (by omega) hl htt FM9.out).mono ?_
    rintro e wd ⟨rfl, hb⟩
    have FMd := Lib.hid (FM9.out.stays hb)
    have M7d := Lib.hid (M79.out.on hb)
    have BVd := Lib.hid (Law.then_ BV9.out hb)
    clear hk7 hb
    go_wp2_with fail
    go_at_call 16
    refine (toInt_any A0 c0 l _ hn (HR.out.stays (Law.then_ Ba.out BVd.out))).mono ?_
    rintro e wf ⟨vf, rfl, ho, hb⟩
    have ho' : wf.ownsRow wd.heap.size 3 1 vf l.length (ivs l) := ho
    obtain ⟨Az, cz, rfl, _, _, _⟩ := Law.own_len ho'
    have FZ := Lib.hid (Law.Row.own ho')
    have FMf := Lib.hid (FMd.out.stays hb)
    have M7f := Lib.hid (M7d.out.on hb)
    have BVf := Lib.hid (Law.then_ BVd.out hb)
    clear ho ho' hb
    go_wp2_with fail
    go_at_call 35
    refine (HH.out Az cz _ FZ.out).mono ?_
    rintro e wg ⟨vg, xsH, rfl, ho, hno, hb⟩
    simp only [] at ho hno
    obtain ⟨AH, cH, rfl, _, _, _⟩ := Law.own_len ho
    have HH6 := Lib.hid (NRow.of ho hno)
    have FM6 := Lib.hid (FMf.out.stays hb)
    have M76 := Lib.hid (M7f.out.on hb)
    have BV6 := Lib.hid (Law.then_ BVf.out hb)
    clear ho hno hb
    have b6 : Below wg.heap.size wg (wg.alloc (.cells #[.slice AH T.length cH] 43)) := (Below.refl _ _).alloc (Nat.le_refl _) _
    have HHc := Lib.hid (HH6.out.stays b6)
    have M11 := Lib.hid (MBox.new wg (.slice AH T.length cH))
    have FMc := Lib.hid (FM6.out.stays b6)
    have M7c := Lib.hid (M76.out.on b6)
    have BVc := Lib.hid (Law.then_ BV6.out b6)
    clear b6
    have hk11 := M11.out.cell
    have hk5 := (M5.out.on BVc.out).cell
    have hk7 := M7c.out.cell
    go_wp2_with fail
    generalize wg.alloc (.cells #[.slice AH T.length cH] 43) = wc at HHc M11 FMc M7c BVc hk11 hk5 hk7 ⊢
    go_at_call 36
    refine (eqMet_same AH AW cH cW xsH xsW T _ HZ.out HHc.out (HWa.out.stays BVc.out)).mono ?_
    rintro e wh ⟨rfl, hb⟩
    have FM7 := Lib.hid (FMc.out.stays hb)
    have M77 := Lib.hid (M7c.out.on hb)
    have BV7 := Lib.hid (Law.then_ BVc.out hb)
    clear hk11 hk5 hk7 hb
    have hk7 := M77.out.cell
    go_wp2_with fail
    go_at_call 38
    refine (heldMet_any 1 AG cG xsG T _ (by omega) (by omega) hl htt FM7.out).mono ?_
    rintro e wi ⟨rfl, hb⟩
    have HBE := Lib.hid (Law.then_ Ba.out (Law.then_ BV7.out hb))
    clear hk7 hb
    go_wp2
    go_ret
    exact ⟨rfl, HBE.out⟩
theorem walk (Al : Option Addr) (nl cl : Nat) (l : List Int) (w : World) (hl : l.length = nl ∧ nl ≤ cl ∧ cl ≤ maxLen ∧ (∀ z ∈ l, (Lit.int .i64 z).wf = true) ∧ Law.Row w Al (l.map (Value.int .i64))) (hL : laidMetH Try.prog Rows.fnExactLineMetricRow.laid w) (hsh : w.ShapedOpen Try.prog) :
    Calls Try.prog 9 #[.slice Al nl cl] w fun e w' => e = .returned (.bool true) ∧ Below w.heap.size w w' := by
  obtain ⟨rfl, hA, hB, _, hr⟩ := hl
  clear hL hsh
  by_cases hn : l.length ≤ 1048576
  · exact walk_core l Al cl (Q.linQ l) w (szX l) hn hr (fun A c W q h => specLin_any l A c W q h) (fun A c W h => impLin_any l A c W hn h)
  · have hI : ¬ (l.length : Int) ≤ 1048576 := by omega
    clear hr
    go_enter Try.func9, Try.ntmps9
    go_wp2
    go_ret
    exact ⟨rfl, Below.refl _ _⟩
theorem lawOwn : ownKnob Try.prog.godebug = none := by kernel_rfl
theorem lawLaidOut : laidOutB Try.prog = true := by kernel_rfl
set_option maxRecDepth 100000 in
theorem contract (H : Type) (enc : TypeId × Value → H) (W : World) (base : Nat) (args : Array Value) (ds : List (DataW H)) (gs : List (DataW H)) (before : List MemPlace)
    (hval0 : ∀ (j : Nat) t v, Try.f9.params[j]? = some t → args[j]? = some v → Value.okWide Try.prog W .any base t v)
    (hW : DataW.Whole enc Try.prog Try.f9.params.toList Rows.fnExactLineMetricSpec.vars false W args.toList ds gs before) (hL : laidMetH Try.prog Rows.fnExactLineMetricRow.laid W) (hsh : W.ShapedOpen Try.prog) :
    Calls Try.prog 9 args W fun e W' => ∃ v, e = .returned v ∧ Rows.fnExactLineMetricSpec.post enc Try.prog Try.f9 false true false false W args v W' := by
  have hval : ∀ (j : Nat) t v, Try.f9.params[j]? = some t → args[j]? = some v → Value.okWide Try.prog W .any base t v := hval0
  have hW' := hW
  obtain ⟨p, q, hA0, hV, rfl, hfz, hnd⟩ := hW
  have hA : DataW.TrodAll enc Try.prog W 0 (fun _ => true) true Try.f9.params.toList args.toList ds p := hA0
  rw [Try.params9] at hA hval
  obtain ⟨v0, vs0, d0, ds0, p0, q0, hargs0, rfl, rfl, h0, r0⟩ := trodAll_cons hA
  obtain ⟨rfl, rfl, rfl⟩ := trodAll_nil r0
  obtain rfl : args = #[v0] := by cases args; simp_all
  obtain ⟨rfl, rfl⟩ := trodVars_none hV
  obtain ⟨A0, n0, c0, xs0, rfl, w0⟩ := Law.in_ints Try.underlying22 Try.underlying3 (by kernel_rfl) (hval 0 22 v0 rfl rfl) h0 (fun x hx => hW'.lt x (by simp [hx]))
  clear hA0 hval0
  refine (walk A0 n0 c0 xs0 W w0 hL hsh).mono fun e W' ⟨he, hb⟩ => ?_
  subst he
  exact ⟨_, rfl, Law.close hW' rfl rfl lawLaidOut (by kernel_rfl) Try.underlying4 (by kernel_rfl) hb⟩
theorem reads (os : Os) {H : Type} (enc : TypeId × Value → H) : ∃ places, DataW.whole enc Try.prog ((World.holding Try.prog os ⟨#[], #[], []⟩).forCall (fun _ _ => 0) ⟨#[], #[.slice none 0 0], []⟩).memory Try.f9.params.toList Rows.fnExactLineMetricSpec.vars false (#[.slice none 0 0] : Array Value).toList 8 = some ([.nil], [], places) :=
  ⟨[], by kernel_rfl⟩
set_option maxRecDepth 100000 in
theorem lifted (os : Os) (started : os.Started) (H : Type) (enc : TypeId × Value → H) (F : Stop.Interp) :
    ReturnsInHanded {} Try.checked os 9 .any ((OpenSpec.ofChange Rows.fnExactLineMetricSpec).preRow enc Try.prog Try.f9 Rows.fnExactLineMetricRow.domain false Rows.fnExactLineMetricRow.laid) (((OpenSpec.ofChange Rows.fnExactLineMetricSpec).at F).post enc Try.prog Try.f9 false true false false) := by
  obtain ⟨places, hx⟩ := reads os enc
  refine returnsInHanded_of_row (C := Try.checked) (s := OpenSpec.ofChange Rows.fnExactLineMetricSpec) lawOwn started (by kernel_rfl) Try.func9
    (witness_row_at (enc := enc) (C := Try.checked) false (World.holding Try.prog os ⟨#[], #[], []⟩) #[.slice none 0 0] rfl (by kernel_rfl) (by kernel_rfl) (by kernel_rfl)
      (OpenSpec.preRow_of_cond 8 hx (by kernel_rfl) (fun k hk => by cases hk) (by kernel_rfl) (laidMet_nil _ _))) ?_
  intro W base args ds gs before hval hW _ _ _ hL hsh _
  exact contract H enc W base args ds gs before hval hW hL hsh
theorem proved : Rows.FnExactLineMetricSaid :=
  OpenClaim.holds_of_cond 9 Try.f9 rfl rfl rfl rfl rfl rfl rfl ⟨rfl, rfl, rfl, rfl, rfl⟩ rfl rfl rfl rfl rfl (by kernel_rfl) Try.func9 (by kernel_rfl)
    (of_decide_eq_true (by kernel_rfl)) (by unfold Func.isWrapper; first | (rw [if_pos (by decide +kernel)]; kernel_rfl) | (rw [if_neg (by decide +kernel)]; exact ⟨rfl, rfl⟩))
    (fun os started H enc _ F => by rw [OpenClaim.pre_eq_preRow]; exact lifted os started H enc F)
end LLineMetric
end Go.Proofs.Ytndjpkeenbbgiaa
