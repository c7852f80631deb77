/-
  FnExactRunCache: RunCache answers as the model does, whatever it is given, writes into no argument and hands out memory of its own.
  Conditions: none.
-/
import Derived.Test.YtdjafooabpcbmaaRows
import Derived.Test.YtdjafooabpcbmaaChecked
import Derived.Test.YtdjafooabpcbmaaLawC
import Derived.Test.YtdjafooabpcbmaaMkD
import Derived.Test.YtdjafooabpcbmaaRun2
import Derived.Test.YtdjafooabpcbmaaRunL
import Derived.Deep.DeepHandedRow
import Derived.Stop.Joined
namespace Go.Proofs.Ytdjafooabpcbmaa
open Go.RowKit Go.ChangeShapes Go.WideShapes
set_option linter.unusedVariables false
namespace LRunCache
set_option maxHeartbeats 1600000 in
theorem walk_big1 (n : Int) (c : Ca) (A0 B0 : Option Addr) (d0 e0 : Nat) (zs : List Int) (Rq : Option Addr) (q : Nat) (hz : zs.length ≤ 1048576) (w : World) (hb1 : 1048576 < c.ps.length) (hm : c.ps.length ≤ maxLen) :
    Calls Try.prog 4 #[.int .i64 n, .agg #[.int .i64 c.p, .int .i64 c.s, .slice A0 c.ps.length d0, .slice B0 c.ms.length e0, .int .i64 c.h], .slice Rq zs.length q] w fun e w' => e = .returned (.bool true) ∧ Below w.heap.size w w' := by
  have HSz := Lib.hid fun X => sz_big1 X c A0 B0 d0 e0 hb1 hm
  have L0 : Hid (Below w.heap.size w (w.alloc (.cells #[.int .i64 c.p, .int .i64 c.s, .slice A0 c.ps.length d0, .slice B0 c.ms.length e0, .int .i64 c.h] 24))) := (Below.refl _ _).alloc (Nat.le_refl _) _
  have P0 := Lib.hid (blk5_of (heap_alloc_new w (.cells #[.int .i64 c.p, .int .i64 c.s, .slice A0 c.ps.length d0, .slice B0 c.ms.length e0, .int .i64 c.h] 24)))
  unfold caV at HSz
  have hIz : (zs.length : Int) ≤ 1048576 := by omega
  clear hb1 hm hz
  go_enter Try.func4, Try.ntmps4
  go_wp2_with fail
  generalize w.alloc (.cells #[.int .i64 c.p, .int .i64 c.s, .slice A0 c.ps.length d0, .slice B0 c.ms.length e0, .int .i64 c.h] 24) = X0 at L0 P0 ⊢
  obtain ⟨p0, p1, p2, p3, p4, _, _, _, _, _⟩ := P0.out
  go_wp2_with fail
  go_at_call 15
  refine (HSz.out X0).mono ?_
  rintro r w1 ⟨rfl, hb⟩
  have L1 := Lib.hid (L0.out.trans (hb.mono L0.out.size))
  clear hb p0 p1 p2 p3 p4
  go_wp2
  go_ret
  exact ⟨rfl, L1.out⟩
set_option maxHeartbeats 1600000 in
theorem walk_big2 (n : Int) (c : Ca) (A0 B0 : Option Addr) (d0 e0 : Nat) (zs : List Int) (Rq : Option Addr) (q : Nat) (hz : zs.length ≤ 1048576) (w : World) (hb1 : c.ps.length ≤ 1048576) (hb2 : 1048576 < c.ps.length + c.ms.length) (hm : c.ms.length ≤ maxLen) :
    Calls Try.prog 4 #[.int .i64 n, .agg #[.int .i64 c.p, .int .i64 c.s, .slice A0 c.ps.length d0, .slice B0 c.ms.length e0, .int .i64 c.h], .slice Rq zs.length q] w fun e w' => e = .returned (.bool true) ∧ Below w.heap.size w w' := by
  have HSz := Lib.hid fun X => sz_big2 X c A0 B0 d0 e0 hb1 hb2 hm
  have L0 : Hid (Below w.heap.size w (w.alloc (.cells #[.int .i64 c.p, .int .i64 c.s, .slice A0 c.ps.length d0, .slice B0 c.ms.length e0, .int .i64 c.h] 24))) := (Below.refl _ _).alloc (Nat.le_refl _) _
  have P0 := Lib.hid (blk5_of (heap_alloc_new w (.cells #[.int .i64 c.p, .int .i64 c.s, .slice A0 c.ps.length d0, .slice B0 c.ms.length e0, .int .i64 c.h] 24)))
  unfold caV at HSz
  have hIz : (zs.length : Int) ≤ 1048576 := by omega
  clear hb1 hm hz
  go_enter Try.func4, Try.ntmps4
  go_wp2_with fail
  generalize w.alloc (.cells #[.int .i64 c.p, .int .i64 c.s, .slice A0 c.ps.length d0, .slice B0 c.ms.length e0, .int .i64 c.h] 24) = X0 at L0 P0 ⊢
  obtain ⟨p0, p1, p2, p3, p4, _, _, _, _, _⟩ := P0.out
  go_wp2_with fail
  go_at_call 15
  refine (HSz.out X0).mono ?_
  rintro r w1 ⟨rfl, hb⟩
  have L1 := Lib.hid (L0.out.trans (hb.mono L0.out.size))
  clear hb p0 p1 p2 p3 p4
  go_wp2
  go_ret
  exact ⟨rfl, L1.out⟩
theorem walk_big3 (n : Int) (c : Ca) (A0 B0 : Option Addr) (d0 e0 : Nat) (zs : List Int) (Rq : Option Addr) (q : Nat) (hz : ¬ zs.length ≤ 1048576) (w : World) :
    Calls Try.prog 4 #[.int .i64 n, .agg #[.int .i64 c.p, .int .i64 c.s, .slice A0 c.ps.length d0, .slice B0 c.ms.length e0, .int .i64 c.h], .slice Rq zs.length q] w fun e w' => e = .returned (.bool true) ∧ Below w.heap.size w w' := by
  have hIz : ¬ (zs.length : Int) ≤ 1048576 := by omega
  have L0 : Hid (Below w.heap.size w (w.alloc (.cells #[.int .i64 c.p, .int .i64 c.s, .slice A0 c.ps.length d0, .slice B0 c.ms.length e0, .int .i64 c.h] 24))) := (Below.refl _ _).alloc (Nat.le_refl _) _
  clear hz
  go_enter Try.func4, Try.ntmps4
  go_wp2
  go_ret
  exact ⟨rfl, L0.out⟩
theorem walk (n : Int) (p s : Int) (A : Option Addr) (np d : Nat) (ps : List Int) (B : Option Addr) (nm e : Nat) (ms : List Int) (hh : Int) (Rq : Option Addr) (nz q : Nat) (zs : List Int) (w : World) (hn : (Lit.int .i64 n).wf = true) (hps : ps.length = np ∧ np ≤ d ∧ d ≤ maxLen ∧ Law.Row w A (ps.map (Value.int .i64))) (hms : ms.length = nm ∧ nm ≤ e ∧ e ≤ maxLen ∧ Law.Row w B (ms.map (Value.int .i64))) (hx : (Lit.int .i64 p).wf = true ∧ (Lit.int .i64 s).wf = true ∧ (Lit.int .i64 hh).wf = true) (hzs : zs.length = nz ∧ nz ≤ q ∧ q ≤ maxLen ∧ (∀ z ∈ zs, (Lit.int .i64 z).wf = true) ∧ Law.Row w Rq (zs.map (Value.int .i64))) (hL : laidMetH Try.prog Rows.fnExactRunCacheRow.laid w) (hsh : w.ShapedOpen Try.prog) :
    Calls Try.prog 4 #[.int .i64 n, .agg #[.int .i64 p, .int .i64 s, .slice A np d, .slice B nm e, .int .i64 hh], .slice Rq nz q] w fun e w' => e = .returned (.bool true) ∧ Below w.heap.size w w' := by
  obtain ⟨rfl, hA1, hA2, hA3⟩ := hps
  obtain ⟨rfl, hB1, hB2, hB3⟩ := hms
  obtain ⟨rfl, hR1, hR2, _, hrq⟩ := hzs
  clear hL hsh
  obtain ⟨c, hc⟩ : ∃ c : Ca, c = { p := p, s := s, ps := ps, ms := ms, h := hh } := ⟨_, rfl⟩
  have h : CaIn w A d B e c := by subst hc; exact ⟨⟨hA1, hA2, hA3⟩, hB1, hB2, hB3⟩
  have e1 : ps = c.ps := by rw [hc]
  have e2 : ms = c.ms := by rw [hc]
  have e3 : p = c.p := by rw [hc]
  have e4 : s = c.s := by rw [hc]
  have e5 : hh = c.h := by rw [hc]
  rw [e1, e2, e3, e4, e5]
  rw [e1] at hA1
  rw [e2] at hB1
  clear hc e1 e2 e3 e4 e5 hA3 hB3 hx
  by_cases hz : zs.length ≤ 1048576
  case neg => exact walk_big3 n c A B d e zs Rq q hz w
  by_cases hl : c.ps.length + c.ms.length ≤ 1048576
  · have hC := run_len n c zs
    exact walk_core n c zs A B d e Rq q (runC n c zs) (runF n c zs) (runOk n c zs) w h hl hz hrq hC.1 hC.2 (fun A d B e Rq q W h hr => specRun_all n zs Rq q h (by omega) (by omega) hz hr) (fun A d B e Rq q W h hr => impRun_all n zs Rq q h (by omega) (by omega) hz hr)
  · by_cases h1 : c.ps.length ≤ 1048576
    · exact walk_big2 n c A B d e zs Rq q hz w h1 (by omega) (by omega)
    · exact walk_big1 n c A B d e zs Rq q hz w (by omega) (by omega)
theorem lawOwn : ownKnob Try.prog.godebug = none := by kernel_rfl
theorem lawLaidOut : laidOutB Try.prog = true := by kernel_rfl
set_option maxRecDepth 100000 in
theorem contract (H : Type) (enc : TypeId × Value → H) (W : World) (base : Nat) (args : Array Value) (ds : List (DataW H)) (gs : List (DataW H)) (before : List MemPlace)
    (hval0 : ∀ (j : Nat) t v, Try.f4.params[j]? = some t → args[j]? = some v → Value.okWide Try.prog W .any base t v)
    (hW : DataW.Whole enc Try.prog Try.f4.params.toList Rows.fnExactRunCacheSpec.vars false W args.toList ds gs before) (hL : laidMetH Try.prog Rows.fnExactRunCacheRow.laid W) (hsh : W.ShapedOpen Try.prog) :
    Calls Try.prog 4 args W fun e W' => ∃ v, e = .returned v ∧ Rows.fnExactRunCacheSpec.post enc Try.prog Try.f4 false true false false W args v W' := by
  have hval : ∀ (j : Nat) t v, Try.f4.params[j]? = some t → args[j]? = some v → Value.okWide Try.prog W .any base t v := hval0
  have hW' := hW
  obtain ⟨p, q, hA0, hV, rfl, hfz, hnd⟩ := hW
  have hA : DataW.TrodAll enc Try.prog W 0 (fun _ => true) true Try.f4.params.toList args.toList ds p := hA0
  rw [Try.params4] at hA hval
  obtain ⟨v0, vs0, d0, ds0, p0, q0, hargs0, rfl, rfl, h0, r0⟩ := trodAll_cons hA
  obtain ⟨v1, vs1, d1, ds1, p1, q1, hargs1, rfl, rfl, h1, r1⟩ := trodAll_cons r0
  obtain ⟨v2, vs2, d2, ds2, p2, q2, hargs2, rfl, rfl, h2, r2⟩ := trodAll_cons r1
  obtain ⟨rfl, rfl, rfl⟩ := trodAll_nil r2
  obtain rfl : args = #[v0, v1, v2] := by cases args; simp_all
  obtain ⟨rfl, rfl⟩ := trodVars_none hV
  obtain ⟨a0, rfl, rfl, rfl, w0⟩ := open_int Try.underlying3 (hval 0 3 v0 rfl rfl) h0
  obtain ⟨a1, b1, A1, n1, c1, xs1, B1, m1, d1', ms1, g1, rfl, w1, u1, t1⟩ := Law.in_cache Try.underlying24 Try.underlying3 Try.underlying3 Try.underlying22 Try.underlying3 (by kernel_rfl) Try.underlying22 Try.underlying3 (by kernel_rfl) Try.underlying3 (by kernel_rfl) (by kernel_rfl) (hval 1 24 v1 rfl rfl) h1
  obtain ⟨A2, n2, c2, xs2, rfl, w2⟩ := Law.in_ints Try.underlying22 Try.underlying3 (by kernel_rfl) (hval 2 22 v2 rfl rfl) h2 (fun x hx => hW'.lt x (by simp [hx]))
  clear hA0 hval0
  refine (walk a0 a1 b1 A1 n1 c1 xs1 B1 m1 d1' ms1 g1 A2 n2 c2 xs2 W w0 w1 u1 t1 w2 hL hsh).mono fun e W' ⟨he, hb⟩ => ?_
  subst he
  exact ⟨_, rfl, Law.close hW' rfl rfl lawLaidOut (by kernel_rfl) Try.underlying4 (by kernel_rfl) hb⟩
theorem reads (os : Os) {H : Type} (enc : TypeId × Value → H) : ∃ places, DataW.whole enc Try.prog ((World.holding Try.prog os ⟨#[], #[], []⟩).forCall (fun _ _ => 0) ⟨#[], #[.int .i64 0, .agg #[.int .i64 0, .int .i64 0, .slice none 0 0, .slice none 0 0, .int .i64 0], .slice none 0 0], []⟩).memory Try.f4.params.toList Rows.fnExactRunCacheSpec.vars false (#[.int .i64 0, .agg #[.int .i64 0, .int .i64 0, .slice none 0 0, .slice none 0 0, .int .i64 0], .slice none 0 0] : Array Value).toList 8 = some ([.lit (.int .i64 0), .agg [.lit (.int .i64 0), .lit (.int .i64 0), .nil, .nil, .lit (.int .i64 0)], .nil], [], places) :=
  ⟨[], by kernel_rfl⟩
set_option maxRecDepth 100000 in
theorem lifted (os : Os) (started : os.Started) (H : Type) (enc : TypeId × Value → H) (F : Stop.Interp) :
    ReturnsInHanded {} Try.checked os 4 .any ((OpenSpec.ofChange Rows.fnExactRunCacheSpec).preRow enc Try.prog Try.f4 Rows.fnExactRunCacheRow.domain false Rows.fnExactRunCacheRow.laid) (((OpenSpec.ofChange Rows.fnExactRunCacheSpec).at F).post enc Try.prog Try.f4 false true false false) := by
  obtain ⟨places, hx⟩ := reads os enc
  refine returnsInHanded_of_row (C := Try.checked) (s := OpenSpec.ofChange Rows.fnExactRunCacheSpec) lawOwn started (by kernel_rfl) Try.func4
    (witness_row_at (enc := enc) (C := Try.checked) false (World.holding Try.prog os ⟨#[], #[], []⟩) #[.int .i64 0, .agg #[.int .i64 0, .int .i64 0, .slice none 0 0, .slice none 0 0, .int .i64 0], .slice none 0 0] rfl (by kernel_rfl) (by kernel_rfl) (by kernel_rfl)
      (OpenSpec.preRow_of_cond 8 hx (by kernel_rfl) (fun k hk => by cases hk) (by kernel_rfl) (laidMet_nil _ _))) ?_
  intro W base args ds gs before hval hW _ _ _ hL hsh _
  exact contract H enc W base args ds gs before hval hW hL hsh
theorem proved : Rows.FnExactRunCacheSaid :=
  OpenClaim.holds_of_cond 4 Try.f4 rfl rfl rfl rfl rfl rfl rfl ⟨rfl, rfl, rfl, rfl, rfl⟩ rfl rfl rfl rfl rfl (by kernel_rfl) Try.func4 (by kernel_rfl)
    (of_decide_eq_true (by kernel_rfl)) (by unfold Func.isWrapper; first | (rw [if_pos (by decide +kernel)]; kernel_rfl) | (rw [if_neg (by decide +kernel)]; exact ⟨rfl, rfl⟩))
    (fun os started H enc _ F => by rw [OpenClaim.pre_eq_preRow]; exact lifted os started H enc F)
end LRunCache
end Go.Proofs.Ytdjafooabpcbmaa
