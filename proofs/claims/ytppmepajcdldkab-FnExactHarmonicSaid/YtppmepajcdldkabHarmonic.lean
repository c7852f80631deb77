/-
  FnExactHarmonic: Harmonic answers as the model does, whatever the number.
  Conditions: none.
-/
import Derived.Test.YtppmepajcdldkabRows
import Derived.Test.YtppmepajcdldkabHarm
import Derived.Test.YtppmepajcdldkabConv
import Derived.Deep.DeepHandedRow
import Derived.Stop.Joined
namespace Go.Proofs.Ytppmepajcdldkab
open Go.RowKit Go.ChangeShapes Go.WideShapes
set_option linter.unusedVariables false
set_option maxHeartbeats 800000 in
theorem l2Harmonic_any (n : Nat) (w : World) (hn : n ≤ 12) : Calls Try.prog 19 #[.int .i64 (n : Int)] w fun e w' => e = .returned (fr (F.harm n).1 (F.harm n).2) ∧ Below w.heap.size w w' := by
  go_enter Try.func19, Try.ntmps19
  go_wp2
  go_loopw [4] (fun i wr => ∃ k : Nat, k ≤ n ∧ i = .int .i64 ((k : Int) + 1) ∧ Hid (Loc w (F.harm k).1 (F.harm k).2 wr)) (fun i _ => n + 1 - (intOf i).toNat)
  case atStart => exact ⟨0, Nat.zero_le _, rfl, ⟨⟨by go_simp; rfl, by go_simp; rfl, by go_simp, by go_simp⟩, ⟨by go_simp, by go_simp, by go_simp, by go_simp⟩, ((Below.refl _ _).alloc (Nat.le_refl _) _).alloc (by simp) _, by simp⟩⟩
  case round =>
    obtain ⟨k, hk, rfl, hloc⟩ := hrel
    by_cases hlt : k < n
    · obtain ⟨g1, g2, g3⟩ := F.harm_step k (by omega)
      have hltI : (k : Int) + 1 ≤ (n : Int) := by omega
      have HA := Lib.hid fun W => l2Add_any (F.harm k).1 (F.harm k).2 1 ((k : Int) + 1) W g1 g2
      rw [g3] at HA
      have h0 := hloc.out
      generalize hN' : (F.harm (k + 1)).1 = N' at HA
      generalize hD' : (F.harm (k + 1)).2 = D' at HA
      have HN' := Lib.hid hN'
      have HD' := Lib.hid hD'
      generalize (F.harm k).1 = N at HA h0
      generalize (F.harm k).2 = D at HA h0
      replace HA : Hid (∀ W, Calls Try.prog 32 #[fr N D, fr 1 ((k : Int) + 1)] W fun e w' => e = .returned (.tuple #[.agg #[.int .i64 N', .int .i64 D'], .bool true]) ∧ Below W.heap.size W w') := HA
      obtain ⟨t0, t1, t2, t3⟩ := h0.tot
      have H0 := Lib.hid h0
      have B0 := Lib.hid h0.bel
      clear g1 g2 g3 hN' hD' hloc h0
      go_wp2_with fail
      go_at_call 32
      refine (HA.out _).mono ?_
      rintro e w1 ⟨rfl, hb1⟩
      have B1 : Hid (Below w.heap.size w w1) := Lib.hid (Law.then_ (by (repeat (first | exact Below.refl _ _ | refine Below.setCell ?_ (by first | omega | (simp; omega) | (simp; done)) _ | refine Below.drew ?_ | refine Law.up ?_ _ | refine Below.alloc ?_ (by first | omega | (simp; omega) | (simp; done)) _ | refine Law.then_ ?_ (Hid.out (by assumption))))) hb1)
      have sz1 := hb1.size; (try simp at sz1)
      have h5 := H0.out.call hb1
      obtain ⟨u0, u1, u2, u3⟩ := h5.tot
      have HP := Lib.hid (h5.put N' D')
      clear h5 hb1 HA
      go_wp2
      go_roundw
      case rel => exact ⟨k + 1, by omega, by go_num, by show Loc _ _ _ _; rw [HN'.out, HD'.out]; exact HP.out⟩
      case measure => simp [intOf]; omega
    · have hke : k = n := by omega
      have hltI : ¬ (k : Int) + 1 ≤ (n : Int) := by omega
      have h0 := hloc.out
      obtain ⟨t0, t1, t2, t3⟩ := h0.tot
      obtain ⟨r0, r1, r2, r3⟩ := h0.res
      have B0 := Lib.hid h0.bel
      have HK := Lib.hid hke
      clear h0 hloc hke
      go_wp2
      refine ret_frac1 rfl rfl rfl (Blk.set2 ⟨r0, r1, r2, r3⟩ _ _) ⟨by rw [HK.out], ?_⟩
      (repeat (first | exact Below.refl _ _ | refine Below.setCell ?_ (by first | omega | (simp; omega) | (simp; done)) _ | refine Below.drew ?_ | refine Law.up ?_ _ | refine Below.alloc ?_ (by first | omega | (simp; omega) | (simp; done)) _ | refine Law.then_ ?_ (Hid.out (by assumption))))
namespace F
def harmR (n : Int) : Int × Int × Bool := if 0 ≤ n ∧ n ≤ 12 then ((harm n.toNat).1, (harm n.toNat).2, true) else (0, 0, false)
end F
theorem specHarm_any (n : Int) (w : World) : Calls Try.prog 11 #[.int .i64 n] w fun e w' => e = .returned (res (F.harmR n)) ∧ Below w.heap.size w w' := by
  have HI := Lib.hid fun W => Law.of_same (l1In_any n 0 12 W)
  by_cases h : (decide ((0 : Int) ≤ n) && decide (n ≤ 12)) = true
  · rw [h] at HI
    simp only [Bool.and_eq_true, decide_eq_true_eq] at h
    rw [show F.harmR n = ((F.harm n.toNat).1, (F.harm n.toNat).2, true) from if_pos h]
    have HC := Lib.hid fun W => l2Harmonic_any n.toNat W (by omega)
    rw [show ((n.toNat : Nat) : Int) = n from by omega] at HC
    generalize (F.harm n.toNat).1 = N at HC ⊢
    generalize (F.harm n.toNat).2 = D at HC ⊢
    clear h
    go_enter Try.func11, Try.ntmps11
    go_wp2_with fail
    go_at_call 16
    refine (HI.out _).mono ?_
    rintro e w1 ⟨rfl, hb1⟩
    have B1 : Hid (Below w.heap.size w w1) := Lib.hid (Law.then_ (by (repeat (first | exact Below.refl _ _ | refine Below.setCell ?_ (by first | omega | (simp; omega) | (simp; done)) _ | refine Below.drew ?_ | refine Law.up ?_ _ | refine Below.alloc ?_ (by first | omega | (simp; omega) | (simp; done)) _ | refine Law.then_ ?_ (Hid.out (by assumption))))) hb1)
    have sz1 := hb1.size; (try simp at sz1)
    obtain ⟨c10, c11, f10, f11⟩ := Blk.below (b := w.heap.size) (x := .int .i64 0) (y := .int .i64 0) ⟨by go_simp, by go_simp, by go_simp, by go_simp⟩ hb1 (by first | omega | (simp; omega) | (simp; done))
    clear hb1
    go_wp2_with fail
    go_at_call 19
    refine (HC.out _).mono ?_
    rintro e w2 ⟨rfl, hb2⟩
    have B2 : Hid (Below w.heap.size w w2) := Lib.hid (Law.then_ (by (repeat (first | exact Below.refl _ _ | refine Below.setCell ?_ (by first | omega | (simp; omega) | (simp; done)) _ | refine Below.drew ?_ | refine Law.up ?_ _ | refine Below.alloc ?_ (by first | omega | (simp; omega) | (simp; done)) _ | refine Law.then_ ?_ (Hid.out (by assumption))))) hb2)
    have sz2 := hb2.size; (try simp at sz2)
    obtain ⟨c20, c21, f20, f21⟩ := Blk.below (b := w.heap.size) (x := .int .i64 0) (y := .int .i64 0) ⟨by go_simp, by go_simp, by go_simp, by go_simp⟩ hb2 (by first | omega | (simp; omega) | (simp; done))
    clear hb2
    go_wp2
    refine ret_frac rfl rfl rfl (Blk.set2 ⟨c20, c21, f20, f21⟩ _ _) rfl ⟨rfl, ?_⟩
    (repeat (first | exact Below.refl _ _ | refine Below.setCell ?_ (by first | omega | (simp; omega) | (simp; done)) _ | refine Below.drew ?_ | refine Law.up ?_ _ | refine Below.alloc ?_ (by first | omega | (simp; omega) | (simp; done)) _ | refine Law.then_ ?_ (Hid.out (by assumption))))
  · rw [show F.harmR n = (0, 0, false) from if_neg fun hc => h (by simp [hc.1, hc.2])]
    rw [Bool.eq_false_iff.2 h] at HI
    clear h
    go_enter Try.func11, Try.ntmps11
    go_wp2_with fail
    go_at_call 16
    refine (HI.out _).mono ?_
    rintro e w1 ⟨rfl, hb1⟩
    have B1 : Hid (Below w.heap.size w w1) := Lib.hid (Law.then_ (by (repeat (first | exact Below.refl _ _ | refine Below.setCell ?_ (by first | omega | (simp; omega) | (simp; done)) _ | refine Below.drew ?_ | refine Law.up ?_ _ | refine Below.alloc ?_ (by first | omega | (simp; omega) | (simp; done)) _ | refine Law.then_ ?_ (Hid.out (by assumption))))) hb1)
    have sz1 := hb1.size; (try simp at sz1)
    obtain ⟨c10, c11, f10, f11⟩ := Blk.below (b := w.heap.size) (x := .int .i64 0) (y := .int .i64 0) ⟨by go_simp, by go_simp, by go_simp, by go_simp⟩ hb1 (by first | omega | (simp; omega) | (simp; done))
    clear hb1
    go_wp2
    refine ret_frac rfl rfl rfl (Blk.set2 ⟨c10, c11, f10, f11⟩ _ _) rfl ⟨rfl, ?_⟩
    (repeat (first | exact Below.refl _ _ | refine Below.setCell ?_ (by first | omega | (simp; omega) | (simp; done)) _ | refine Below.drew ?_ | refine Law.up ?_ _ | refine Below.alloc ?_ (by first | omega | (simp; omega) | (simp; done)) _ | refine Law.then_ ?_ (Hid.out (by assumption))))
theorem implHarm_any (n : Int) (w : World) : Calls Try.prog 12 #[.int .i64 n] w fun e w' => e = .returned (res (F.harmR n)) ∧ Below w.heap.size w w' := by
  by_cases h : 0 ≤ n ∧ n ≤ 12
  · rw [show F.harmR n = ((F.harm n.toNat).1, (F.harm n.toNat).2, true) from if_pos h]
    have HC := Lib.hid fun W => sumHarm_any n.toNat W (by omega)
    rw [show ((n.toNat : Nat) : Int) = n from by omega] at HC
    generalize (F.harm n.toNat).1 = N at HC ⊢
    generalize (F.harm n.toNat).2 = D at HC ⊢
    obtain ⟨h1, h2⟩ := h
    go_enter Try.func12, Try.ntmps12
    go_wp2_with fail
    go_at_call 20
    refine (HC.out _).mono ?_
    rintro e w1 ⟨rfl, hb1⟩
    have B1 : Hid (Below w.heap.size w w1) := Lib.hid (Law.then_ (by (repeat (first | exact Below.refl _ _ | refine Below.setCell ?_ (by first | omega | (simp; omega) | (simp; done)) _ | refine Below.drew ?_ | refine Law.up ?_ _ | refine Below.alloc ?_ (by first | omega | (simp; omega) | (simp; done)) _ | refine Law.then_ ?_ (Hid.out (by assumption))))) hb1)
    have sz1 := hb1.size; (try simp at sz1)
    obtain ⟨c10, c11, f10, f11⟩ := Blk.below (b := w.heap.size) (x := .int .i64 0) (y := .int .i64 0) ⟨by go_simp, by go_simp, by go_simp, by go_simp⟩ hb1 (by first | omega | (simp; omega) | (simp; done))
    clear hb1
    go_wp2
    refine ret_frac rfl rfl rfl (Blk.set2 ⟨c10, c11, f10, f11⟩ _ _) rfl ⟨rfl, ?_⟩
    (repeat (first | exact Below.refl _ _ | refine Below.setCell ?_ (by first | omega | (simp; omega) | (simp; done)) _ | refine Below.drew ?_ | refine Law.up ?_ _ | refine Below.alloc ?_ (by first | omega | (simp; omega) | (simp; done)) _ | refine Law.then_ ?_ (Hid.out (by assumption))))
  · rw [show F.harmR n = (0, 0, false) from if_neg h]
    have H := Lib.hid h
    clear h
    by_cases h1 : n < 0
    · go_enter Try.func12, Try.ntmps12
      go_wp2
      refine ret_frac rfl rfl rfl (b := w.heap.size) (x := .int .i64 0) (y := .int .i64 0) ⟨by go_simp, by go_simp, by go_simp, by go_simp⟩ rfl ⟨rfl, ?_⟩
      (repeat (first | exact Below.refl _ _ | refine Below.setCell ?_ (by first | omega | (simp; omega) | (simp; done)) _ | refine Below.drew ?_ | refine Law.up ?_ _ | refine Below.alloc ?_ (by first | omega | (simp; omega) | (simp; done)) _ | refine Law.then_ ?_ (Hid.out (by assumption))))
    · have h2 : 12 < n := by have := H.out; omega
      go_enter Try.func12, Try.ntmps12
      go_wp2
      refine ret_frac rfl rfl rfl (b := w.heap.size) (x := .int .i64 0) (y := .int .i64 0) ⟨by go_simp, by go_simp, by go_simp, by go_simp⟩ rfl ⟨rfl, ?_⟩
      (repeat (first | exact Below.refl _ _ | refine Below.setCell ?_ (by first | omega | (simp; omega) | (simp; done)) _ | refine Below.drew ?_ | refine Law.up ?_ _ | refine Below.alloc ?_ (by first | omega | (simp; omega) | (simp; done)) _ | refine Law.then_ ?_ (Hid.out (by assumption))))
namespace FHarm
theorem walk (n : Int) (w : World) (wn : (Lit.int .i64 n).wf = true) (hL : laidMetH Try.prog Rows.fnExactHarmonicRow.laid w) (hsh : w.ShapedOpen Try.prog) :
    Calls Try.prog 4 #[.int .i64 n] w fun e w' => e = .returned (.bool true) ∧ Below w.heap.size w w' := by
  clear hL hsh wn
  have HG := Lib.hid (fun W => specHarm_any n W)
  have HH := Lib.hid (fun W => implHarm_any n W)
  generalize F.harmR n = X at HG HH
  obtain ⟨N, D, ok⟩ := X
  replace HG : Hid (∀ W, Calls Try.prog 11 #[.int .i64 n] W fun e w' => e = .returned (.tuple #[.agg #[.int .i64 N, .int .i64 D], .bool ok]) ∧ Below W.heap.size W w') := HG
  replace HH : Hid (∀ W, Calls Try.prog 12 #[.int .i64 n] W fun e w' => e = .returned (.tuple #[.agg #[.int .i64 N, .int .i64 D], .bool ok]) ∧ Below W.heap.size W w') := HH
  go_enter Try.func4, Try.ntmps4
  go_wp2_with fail
  go_at_call 11
  refine (HG.out _).mono ?_
  rintro e w1 ⟨rfl, hb1⟩
  have B1 : Hid (Below w.heap.size w w1) := Lib.hid (Law.then_ (by (repeat (first | exact Below.refl _ _ | refine Below.setCell ?_ (by first | omega | (simp; omega) | (simp; done)) _ | refine Below.drew ?_ | refine Law.up ?_ _ | refine Below.alloc ?_ (by first | omega | (simp; omega) | (simp; done)) _ | refine Law.then_ ?_ (Hid.out (by assumption))))) hb1)
  have sz1 := hb1.size; (try simp at sz1)
  clear hb1
  go_wp2_with fail
  go_at_call 12
  refine (HH.out _).mono ?_
  rintro e w2 ⟨rfl, hb2⟩
  have B2 : Hid (Below w.heap.size w w2) := Lib.hid (Law.then_ (by (repeat (first | exact Below.refl _ _ | refine Below.setCell ?_ (by first | omega | (simp; omega) | (simp; done)) _ | refine Below.drew ?_ | refine Law.up ?_ _ | refine Below.alloc ?_ (by first | omega | (simp; omega) | (simp; done)) _ | refine Law.then_ ?_ (Hid.out (by assumption))))) hb2)
  have sz2 := hb2.size; (try simp at sz2)
  obtain ⟨c20, c21, f20, f21⟩ := Blk.below (b := w1.heap.size) (x := .int .i64 N) (y := .int .i64 D) ⟨by go_simp, by go_simp, by go_simp, by go_simp⟩ hb2 (by first | omega | (simp; omega) | (simp; done))
  have lt12 : w1.heap.size < w2.heap.size := by omega
  clear hb2
  cases ok
  all_goals
    go_wp2_with fail
    go_at_call 9
    refine (eqFrac_yes N D _).mono ?_
    rintro e w3 ⟨rfl, hb3⟩
    have B3 : Hid (Below w.heap.size w w3) := Lib.hid (Law.then_ (by (repeat (first | exact Below.refl _ _ | refine Below.setCell ?_ (by first | omega | (simp; omega) | (simp; done)) _ | refine Below.drew ?_ | refine Law.up ?_ _ | refine Below.alloc ?_ (by first | omega | (simp; omega) | (simp; done)) _ | refine Law.then_ ?_ (Hid.out (by assumption))))) hb3)
    have sz3 := hb3.size; (try simp at sz3)
    clear hb3
    go_wp2
    go_ret
    refine ⟨rfl, ?_⟩
    (repeat (first | exact Below.refl _ _ | refine Below.setCell ?_ (by first | omega | (simp; omega) | (simp; done)) _ | refine Below.drew ?_ | refine Law.up ?_ _ | refine Below.alloc ?_ (by first | omega | (simp; omega) | (simp; done)) _ | refine Law.then_ ?_ (Hid.out (by assumption))))
theorem lawOwn : ownKnob Try.prog.godebug = none := by kernel_rfl
theorem lawLaidOut : laidOutB Try.prog = true := by kernel_rfl
theorem contract (H : Type) (enc : TypeId × Value → H) (W : World) (base : Nat) (args : Array Value) (ds : List (DataW H)) (gs : List (DataW H)) (before : List MemPlace)
    (hval0 : ∀ (j : Nat) t v, Try.f4.params[j]? = some t → args[j]? = some v → Value.okWide Try.prog W .any base t v)
    (hW : DataW.Whole enc Try.prog Try.f4.params.toList Rows.fnExactHarmonicSpec.vars false W args.toList ds gs before) (hL : laidMetH Try.prog Rows.fnExactHarmonicRow.laid W) (hsh : W.ShapedOpen Try.prog) :
    Calls Try.prog 4 args W fun e W' => ∃ v, e = .returned v ∧ Rows.fnExactHarmonicSpec.post enc Try.prog Try.f4 false true false false W args v W' := by
  have hval : ∀ (j : Nat) t v, Try.f4.params[j]? = some t → args[j]? = some v → Value.okWide Try.prog W .any base t v := hval0
  have hW' := hW
  obtain ⟨p, q, hA0, hV, rfl, hfz, hnd⟩ := hW
  have hA : DataW.TrodAll enc Try.prog W 0 (fun _ => true) true Try.f4.params.toList args.toList ds p := hA0
  rw [Try.params4] at hA hval
  obtain ⟨v0, vs0, d0, ds0, p0, q0, hargs0, rfl, rfl, h0, r0⟩ := trodAll_cons hA
  obtain ⟨rfl, rfl, rfl⟩ := trodAll_nil r0
  obtain rfl : args = #[v0] := by cases args; simp_all
  obtain ⟨rfl, rfl⟩ := trodVars_none hV
  obtain ⟨a0, rfl, rfl, rfl, w0⟩ := open_int Try.underlying3 (hval 0 3 v0 rfl rfl) h0
  clear hA0 hval0
  refine (walk a0 W w0 hL hsh).mono fun e W' ⟨he, hb⟩ => ?_
  subst he
  exact ⟨_, rfl, Law.close hW' rfl rfl lawLaidOut (by kernel_rfl) Try.underlying4 (by kernel_rfl) hb⟩
theorem reads (os : Os) {H : Type} (enc : TypeId × Value → H) : ∃ places, DataW.whole enc Try.prog ((World.holding Try.prog os ⟨#[], #[], []⟩).forCall (fun _ _ => 0) ⟨#[], #[.int .i64 0], []⟩).memory Try.f4.params.toList Rows.fnExactHarmonicSpec.vars false (#[.int .i64 0] : Array Value).toList 8 = some ([.lit (.int .i64 0)], [], places) :=
  ⟨[], by kernel_rfl⟩
set_option maxRecDepth 100000 in
theorem lifted (os : Os) (started : os.Started) (H : Type) (enc : TypeId × Value → H) (F : Stop.Interp) :
    ReturnsInHanded {} Try.checked os 4 .any ((OpenSpec.ofChange Rows.fnExactHarmonicSpec).preRow enc Try.prog Try.f4 Rows.fnExactHarmonicRow.domain false Rows.fnExactHarmonicRow.laid) (((OpenSpec.ofChange Rows.fnExactHarmonicSpec).at F).post enc Try.prog Try.f4 false true false false) := by
  obtain ⟨places, hx⟩ := reads os enc
  refine returnsInHanded_of_row (C := Try.checked) (s := OpenSpec.ofChange Rows.fnExactHarmonicSpec) lawOwn started (by kernel_rfl) Try.func4
    (witness_row_at (enc := enc) (C := Try.checked) false (World.holding Try.prog os ⟨#[], #[], []⟩) #[.int .i64 0] rfl (by kernel_rfl) (by kernel_rfl) (by kernel_rfl)
      (OpenSpec.preRow_of_cond 8 hx (by kernel_rfl) (fun k hk => by cases hk) (by kernel_rfl) (laidMet_nil _ _))) ?_
  intro W base args ds gs before hval hW _ _ _ hL hsh _
  exact contract H enc W base args ds gs before hval hW hL hsh
theorem proved : Rows.FnExactHarmonicSaid :=
  OpenClaim.holds_of_cond 4 Try.f4 rfl rfl rfl rfl rfl rfl rfl ⟨rfl, rfl, rfl, rfl, rfl⟩ rfl rfl rfl rfl rfl (by kernel_rfl) Try.func4 (by kernel_rfl)
    (of_decide_eq_true (by kernel_rfl)) (by unfold Func.isWrapper; first | (rw [if_pos (by decide +kernel)]; kernel_rfl) | (rw [if_neg (by decide +kernel)]; exact ⟨rfl, rfl⟩))
    (fun os started H enc _ F => by rw [OpenClaim.pre_eq_preRow]; exact lifted os started H enc F)
end FHarm
end Go.Proofs.Ytppmepajcdldkab
