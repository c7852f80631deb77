/-
  FnExactIsTreeLike: IsTreeLike answers as the model does, whatever it is given, and writes into no argument.
  Conditions: none.
-/
import Derived.Test.YtajepnakbmfbkaaRRows
import Derived.Test.YtajepnakbmfbkaaRChecked
import Derived.Test.YtajepnakbmfbkaaRLawM
import Derived.Test.YtajepnakbmfbkaaRMet
import Derived.Test.YtajepnakbmfbkaaRTb
import Derived.Test.YtajepnakbmfbkaaRMarkI
import Derived.Test.YtajepnakbmfbkaaRTrl
import Derived.Deep.DeepHandedRow
import Derived.Stop.Joined
namespace Go.Proofs.YtajepnakbmfbkaaR
open Go.RowKit Go.ChangeShapes Go.WideShapes
set_option linter.unusedVariables false
namespace LIsTreeLike
set_option maxRecDepth 20000 in
set_option maxHeartbeats 6400000 in
theorem walk_core (A0 : Option Addr) (c0 : Nat) (xs0 : List Value) (L : List (List Int)) (y z : Bool) (w : World) (hs : szOk L = true) (hn0 : L.length ≤ maxLen) (hl0 : ∀ l ∈ L, l.length ≤ maxLen) (h : NRow w A0 xs0 L)
    (HG : Hid (∀ (A : Option Addr) (c : Nat) (xs : List Value) (W : World), NRow W A xs L → Calls Try.prog 8 #[mv A L.length c] W fun r W' => r = .returned (.tuple #[.bool y, .bool z]) ∧ Below W.heap.size W W'))
    (HH : Hid (∀ (A : Option Addr) (c : Nat) (xs : List Value) (W : World), NRow W A xs L → Calls Try.prog 10 #[mv A L.length c] W fun r W' => r = .returned (.tuple #[.bool y, .bool z]) ∧ Below W.heap.size W W')) :
    Calls Try.prog 3 #[mv A0 L.length c0] w fun e w' => e = .returned (.bool true) ∧ Below w.heap.size w w' := by
  have HM : Hid (MetIn w (w.alloc (.cells #[.slice A0 L.length c0] 24)) A0 c0 xs0 L) := Lib.hid (MetIn.start h 24)
  have HSz := Lib.hid fun (W : World) (h : NRow W A0 xs0 L) => szMet_any A0 c0 xs0 L W hn0 hl0 h
  have HTo := Lib.hid fun (W : World) (h : NRow W A0 xs0 L) => toMet_any A0 c0 xs0 L W hs h
  have HEq := Lib.hid fun (W : World) A B c d xs ys (h1 : NRow W A xs L) (h2 : NRow W B ys L) => eqMet_same A B c d xs ys L W hs h1 h2
  clear h hl0
  go_enter Try.func3, Try.ntmps3
  go_wp2_with fail
  generalize w.alloc (.cells #[.slice A0 L.length c0] 24) = w0 at HM ⊢
  have HM_0 := HM
  clear HM
  obtain ⟨p0, _, _⟩ := HM_0.out.bk
  go_wp2_with fail
  go_at_call 7
  refine (HSz.out w0 HM_0.out.rows).mono ?_
  rintro r w1 ⟨⟨sz, rfl, h1, h2⟩, hb⟩
  have hs0 : ¬ sz < 0 := by have := h1 hs; omega
  clear h1 h2
  have HM_1 := Lib.hid (HM_0.out.on hb)
  clear hb
  clear p0
  obtain ⟨p0, _, _⟩ := HM_1.out.bk
  go_wp2_with fail
  go_at_call 9
  refine (HTo.out w1 HM_1.out.rows).mono ?_
  rintro r w2 ⟨v2, ys2, rfl, ho, hn, hb⟩
  obtain ⟨A2, c2, rfl, _, _, _⟩ := Law.own_len ho
  have FV_2 := Lib.hid (NRow.of ho hn)
  clear ho hn
  have HM_2 := Lib.hid (HM_1.out.on hb)
  clear hb
  clear p0
  obtain ⟨p0, _, _⟩ := HM_2.out.bk
  go_wp2_with fail
  go_at_call 8
  refine (HG.out A2 c2 ys2 w2 FV_2.out).mono ?_
  rintro r w3 ⟨rfl, hb⟩
  have HM_3 := Lib.hid (HM_2.out.on hb)
  have FV_3 := Lib.hid (FV_2.out.stays hb)
  clear hb
  clear p0
  obtain ⟨p0, _, _⟩ := HM_3.out.bk
  go_wp2_with fail
  go_at_call 9
  refine (HTo.out w3 HM_3.out.rows).mono ?_
  rintro r w4 ⟨v4, ys4, rfl, ho, hn, hb⟩
  obtain ⟨A4, c4, rfl, _, _, _⟩ := Law.own_len ho
  have FX_4 := Lib.hid (NRow.of ho hn)
  clear ho hn
  have HM_4 := Lib.hid (HM_3.out.on hb)
  clear hb
  clear p0
  obtain ⟨p0, _, _⟩ := HM_4.out.bk
  have b5 : Below w4.heap.size w4 (w4.alloc (.cells #[.slice A4 L.length c4] 28)) := (Below.refl _ _).alloc (Nat.le_refl _) _
  have FQ_5 := Lib.hid (Bk1.new w4 (.slice A4 L.length c4) 28)
  obtain ⟨bq, hbq⟩ : ∃ bq, bq = w4.heap.size := ⟨_, rfl⟩
  have HM_5 := Lib.hid (HM_4.out.on b5)
  have FX_5 := Lib.hid (FX_4.out.stays b5)
  clear b5
  go_wp2_with fail
  generalize w4.alloc (.cells #[.slice A4 L.length c4] 28) = w5 at HM_5 FX_5 FQ_5 ⊢
  rw [← hbq] at FQ_5 ⊢
  clear hbq
  clear p0
  obtain ⟨p0, _, _⟩ := HM_5.out.bk
  obtain ⟨q0, _, _⟩ := FQ_5.out
  go_wp2_with fail
  go_at_call 10
  refine (HH.out A4 c4 ys4 w5 FX_5.out).mono ?_
  rintro r w6 ⟨rfl, hb⟩
  have HM_6 := Lib.hid (HM_5.out.on hb)
  have FX_6 := Lib.hid (FX_5.out.stays hb)
  have FQ_6 := Lib.hid (FQ_5.out.on hb)
  clear hb
  clear p0
  obtain ⟨p0, _, _⟩ := HM_6.out.bk
  clear q0
  cases y <;> cases z
  all_goals
    obtain ⟨q0, _, _⟩ := FQ_6.out
    go_wp2_with fail
    go_region_law ((first
      | (go_simp; go_at_call 9; refine (HTo.out _ (HM_6.out.rows.stays ((Below.refl _ _).drew))).mono ?_; rintro r w7 ⟨v7, ys7, rfl, ho, hn, hb⟩; have hb := ((Below.refl w6.heap.size w6).drew).trans hb; obtain ⟨A7, c7, rfl, _, _, _⟩ := Law.own_len ho; have FZ_7 := Lib.hid (NRow.of ho hn); clear ho hn; have HM_7 := Lib.hid (HM_6.out.on hb); have FX_7 := Lib.hid (FX_6.out.stays hb); have FQ_7 := Lib.hid (FQ_6.out.on hb); clear hb; clear q0; obtain ⟨q0, _, _⟩ := FQ_7.out)
      | (go_simp; go_at_call 11; refine (HEq.out _ A4 A7 c4 c7 ys4 ys7 FX_7.out FZ_7.out).mono ?_; rintro r w8 ⟨rfl, hb⟩; have HM_8 := Lib.hid (HM_7.out.on hb); have FX_8 := Lib.hid (FX_7.out.stays hb); have FQ_8 := Lib.hid (FQ_7.out.on hb); clear hb)))
    all_goals
      clear p0 q0
      go_wp2
      go_ret
      exact ⟨rfl, HM_8.out.bl⟩
set_option maxHeartbeats 1600000 in
theorem walk_big (A0 : Option Addr) (c0 : Nat) (xs0 : List Value) (L : List (List Int)) (w : World) (hs : szOk L = false) (hn0 : L.length ≤ maxLen) (hl0 : ∀ l ∈ L, l.length ≤ maxLen) (h : NRow w A0 xs0 L) :
    Calls Try.prog 3 #[mv A0 L.length c0] w fun e w' => e = .returned (.bool true) ∧ Below w.heap.size w w' := by
  have HM : Hid (MetIn w (w.alloc (.cells #[.slice A0 L.length c0] 24)) A0 c0 xs0 L) := Lib.hid (MetIn.start h 24)
  have HSz := Lib.hid fun (W : World) (h : NRow W A0 xs0 L) => szMet_any A0 c0 xs0 L W hn0 hl0 h
  clear h hl0
  go_enter Try.func3, Try.ntmps3
  go_wp2_with fail
  generalize w.alloc (.cells #[.slice A0 L.length c0] 24) = w0 at HM ⊢
  go_at_call 7
  refine (HSz.out w0 HM.out.rows).mono ?_
  rintro r w1 ⟨⟨sz, rfl, h1, h2⟩, hb⟩
  have hs0 : sz < 0 := by have := h2 hs; omega
  have HB := Lib.hid (HM.out.on hb).bl
  clear h1 h2 hb
  go_wp2
  go_ret
  exact ⟨rfl, HB.out⟩
theorem walk (A0 : Option Addr) (n0 c0 : Nat) (xs0 : List Value) (L : List (List Int)) (w : World) (h0 : L.length = n0 ∧ n0 ≤ c0 ∧ c0 ≤ maxLen ∧ (∀ l ∈ L, l.length ≤ maxLen) ∧ NRow w A0 xs0 L) (hL : laidMetH Try.prog Rows.fnExactIsTreeLikeRow.laid w) (hsh : w.ShapedOpen Try.prog) :
    Calls Try.prog 3 #[.agg #[.slice A0 n0 c0]] w fun e w' => e = .returned (.bool true) ∧ Below w.heap.size w w' := by
  obtain ⟨rfl, hcA, hcB, hlL, hrL⟩ := h0
  clear hL hsh
  cases hz : szOk L
  · exact walk_big A0 c0 xs0 L w hz (by omega) hlL hrL
  · have hz' := sz_rows hz
    exact walk_core A0 c0 xs0 L (Q.treQ L).1 (Q.treQ L).2 w hz (by omega) hlL hrL (fun A c xs W h => specTre_any A c xs L W h) (fun A c xs W h => impTre_any A c xs L W hz'.2.1 h)
theorem lawOwn : ownKnob Try.prog.godebug = none := by kernel_rfl
theorem lawLaidOut : laidOutB Try.prog = true := by kernel_rfl
set_option maxRecDepth 100000 in
theorem contract (H : Type) (enc : TypeId × Value → H) (W : World) (base : Nat) (args : Array Value) (ds : List (DataW H)) (gs : List (DataW H)) (before : List MemPlace)
    (hval0 : ∀ (j : Nat) t v, Try.f3.params[j]? = some t → args[j]? = some v → Value.okWide Try.prog W .any base t v)
    (hW : DataW.Whole enc Try.prog Try.f3.params.toList Rows.fnExactIsTreeLikeSpec.vars false W args.toList ds gs before) (hL : laidMetH Try.prog Rows.fnExactIsTreeLikeRow.laid W) (hsh : W.ShapedOpen Try.prog) :
    Calls Try.prog 3 args W fun e W' => ∃ v, e = .returned v ∧ Rows.fnExactIsTreeLikeSpec.post enc Try.prog Try.f3 false true false false W args v W' := by
  have hval : ∀ (j : Nat) t v, Try.f3.params[j]? = some t → args[j]? = some v → Value.okWide Try.prog W .any base t v := hval0
  have hW' := hW
  obtain ⟨p, q, hA0, hV, rfl, hfz, hnd⟩ := hW
  have hA : DataW.TrodAll enc Try.prog W 0 (fun _ => true) true Try.f3.params.toList args.toList ds p := hA0
  rw [Try.params3] at hA hval
  obtain ⟨v0, vs0, d0, ds0, p0, q0, hargs0, rfl, rfl, h0, r0⟩ := trodAll_cons hA
  obtain ⟨rfl, rfl, rfl⟩ := trodAll_nil r0
  obtain rfl : args = #[v0] := by cases args; simp_all
  obtain ⟨rfl, rfl⟩ := trodVars_none hV
  obtain ⟨A0, n0, c0, xs0, L0, rfl, w0⟩ := Law.in_metric Try.underlying24 Try.underlying22 Try.underlying32 Try.underlying3 (by kernel_rfl) (by kernel_rfl) (by kernel_rfl) (by kernel_rfl) (hval 0 24 v0 rfl rfl) h0
  clear hA0 hval0
  refine (walk A0 n0 c0 xs0 L0 W w0 hL hsh).mono fun e W' ⟨he, hb⟩ => ?_
  subst he
  exact ⟨_, rfl, Law.close hW' rfl rfl lawLaidOut (by kernel_rfl) Try.underlying4 (by kernel_rfl) hb⟩
theorem reads (os : Os) {H : Type} (enc : TypeId × Value → H) : ∃ places, DataW.whole enc Try.prog ((World.holding Try.prog os ⟨#[], #[], []⟩).forCall (fun _ _ => 0) ⟨#[], #[.agg #[.slice none 0 0]], []⟩).memory Try.f3.params.toList Rows.fnExactIsTreeLikeSpec.vars false (#[.agg #[.slice none 0 0]] : Array Value).toList 8 = some ([.agg [.nil]], [], places) :=
  ⟨[], by kernel_rfl⟩
set_option maxRecDepth 100000 in
theorem lifted (os : Os) (started : os.Started) (H : Type) (enc : TypeId × Value → H) (F : Stop.Interp) :
    ReturnsInHanded {} Try.checked os 3 .any ((OpenSpec.ofChange Rows.fnExactIsTreeLikeSpec).preRow enc Try.prog Try.f3 Rows.fnExactIsTreeLikeRow.domain false Rows.fnExactIsTreeLikeRow.laid) (((OpenSpec.ofChange Rows.fnExactIsTreeLikeSpec).at F).post enc Try.prog Try.f3 false true false false) := by
  obtain ⟨places, hx⟩ := reads os enc
  refine returnsInHanded_of_row (C := Try.checked) (s := OpenSpec.ofChange Rows.fnExactIsTreeLikeSpec) lawOwn started (by kernel_rfl) Try.func3
    (witness_row_at (enc := enc) (C := Try.checked) false (World.holding Try.prog os ⟨#[], #[], []⟩) #[.agg #[.slice none 0 0]] rfl (by kernel_rfl) (by kernel_rfl) (by kernel_rfl)
      (OpenSpec.preRow_of_cond 8 hx (by kernel_rfl) (fun k hk => by cases hk) (by kernel_rfl) (laidMet_nil _ _))) ?_
  intro W base args ds gs before hval hW _ _ _ hL hsh _
  exact contract H enc W base args ds gs before hval hW hL hsh
theorem proved : Rows.FnExactIsTreeLikeSaid :=
  OpenClaim.holds_of_cond 3 Try.f3 rfl rfl rfl rfl rfl rfl rfl ⟨rfl, rfl, rfl, rfl, rfl⟩ rfl rfl rfl rfl rfl (by kernel_rfl) Try.func3 (by kernel_rfl)
    (of_decide_eq_true (by kernel_rfl)) (by unfold Func.isWrapper; first | (rw [if_pos (by decide +kernel)]; kernel_rfl) | (rw [if_neg (by decide +kernel)]; exact ⟨rfl, rfl⟩))
    (fun os started H enc _ F => by rw [OpenClaim.pre_eq_preRow]; exact lifted os started H enc F)
end LIsTreeLike
end Go.Proofs.YtajepnakbmfbkaaR
