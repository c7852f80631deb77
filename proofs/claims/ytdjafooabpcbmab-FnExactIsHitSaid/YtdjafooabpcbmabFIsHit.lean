/-
  FnExactIsHit: IsHit answers as the model does, whatever it is given, and writes into no argument.
  Conditions: none.
-/
import Derived.Test.YtdjafooabpcbmabRows
import Derived.Test.YtdjafooabpcbmabChecked
import Derived.Test.YtdjafooabpcbmabLawC
import Derived.Test.YtdjafooabpcbmabCaL
import Derived.Test.YtdjafooabpcbmabIsh
import Derived.Deep.DeepHandedRow
import Derived.Stop.Joined
namespace Go.Proofs.Ytdjafooabpcbmab
open Go.RowKit Go.ChangeShapes Go.WideShapes
set_option linter.unusedVariables false
namespace LIsHit
set_option maxRecDepth 20000 in
set_option maxHeartbeats 3200000 in
theorem walk_core (n : Int) (item : Int) (c : Ca) (A0 B0 : Option Addr) (d0 e0 : Nat) (y z : Bool) (w : World) (h : CaIn w A0 d0 B0 e0 c) (hl : c.ps.length + c.ms.length ≤ 1048576)
    (HG : Hid (∀ (A : Option Addr) (d : Nat) (B : Option Addr) (e : Nat) (W : World), CaIn W A d B e c → Calls Try.prog 22 #[.int .i64 n, .agg #[.int .i64 c.p, .int .i64 c.s, .slice A c.ps.length d, .slice B c.ms.length e, .int .i64 c.h], .int .i64 item] W fun r W' => r = .returned (.tuple #[.bool y, .bool z]) ∧ Below W.heap.size W W'))
    (HH : Hid (∀ (A : Option Addr) (d : Nat) (B : Option Addr) (e : Nat) (W : World), CaIn W A d B e c → Calls Try.prog 23 #[.int .i64 n, .agg #[.int .i64 c.p, .int .i64 c.s, .slice A c.ps.length d, .slice B c.ms.length e, .int .i64 c.h], .int .i64 item] W fun r W' => r = .returned (.tuple #[.bool y, .bool z]) ∧ Below W.heap.size W W')) :
    Calls Try.prog 5 #[.int .i64 n, .agg #[.int .i64 c.p, .int .i64 c.s, .slice A0 c.ps.length d0, .slice B0 c.ms.length e0, .int .i64 c.h], .int .i64 item] w fun e w' => e = .returned (.bool true) ∧ Below w.heap.size w w' := by
  have HSz := Lib.hid fun X => sz_fits X c A0 B0 d0 e0 hl
  have HTo := Lib.hid fun X (hb : Below w.heap.size w X) => toCache_any (h.stays hb) (by omega) (by omega)
  have HEq := Lib.hid fun X A' B' A2 B2 d' e' d2 e2 (h1 : CaIn X A' d' B' e' c) (h2 : CaIn X A2 d2 B2 e2 c) => eqCache_same h1 h2 (by omega) (by omega)
  have hL0 : ¬ 1048576 - (c.ps.length : Int) - (c.ms.length : Int) < 0 := by omega
  have L0 : Hid (Below w.heap.size w (w.alloc (.cells #[.int .i64 c.p, .int .i64 c.s, .slice A0 c.ps.length d0, .slice B0 c.ms.length e0, .int .i64 c.h] 24))) := (Below.refl _ _).alloc (Nat.le_refl _) _
  have P0 := Lib.hid (blk5_of (heap_alloc_new w (.cells #[.int .i64 c.p, .int .i64 c.s, .slice A0 c.ps.length d0, .slice B0 c.ms.length e0, .int .i64 c.h] 24)))
  have hs0 : w.heap.size < (w.alloc (.cells #[.int .i64 c.p, .int .i64 c.s, .slice A0 c.ps.length d0, .slice B0 c.ms.length e0, .int .i64 c.h] 24)).heap.size := by simp
  unfold toCaSays at HTo
  unfold caV at HSz HTo HEq
  go_enter Try.func5, Try.ntmps5
  go_wp2_with fail
  generalize w.alloc (.cells #[.int .i64 c.p, .int .i64 c.s, .slice A0 c.ps.length d0, .slice B0 c.ms.length e0, .int .i64 c.h] 24) = X0 at L0 P0 hs0 ⊢

  obtain ⟨p0, p1, p2, p3, p4, _, _, _, _, _⟩ := P0.out
  go_wp2_with fail
  go_at_call 13
  refine (HSz.out X0).mono ?_
  rintro r w1 ⟨rfl, hb⟩
  have L1 := Lib.hid (L0.out.trans (hb.mono L0.out.size))
  have P1 := Lib.hid (P0.out.kept (hb.block _ hs0))
  have hs1 : w.heap.size < w1.heap.size := Nat.lt_of_lt_of_le hs0 hb.size
  clear hb p0 p1 p2 p3 p4
  obtain ⟨p0, p1, p2, p3, p4, _, _, _, _, _⟩ := P1.out
  go_wp2_with fail
  go_at_call 15
  refine (HTo.out w1 L1.out).mono ?_
  rintro r w2 ⟨A1, d1, B1, e1, rfl, ho1, hm1, hdis1, hb⟩
  have L2 := Lib.hid (L1.out.trans (hb.mono L1.out.size))
  have P2 := Lib.hid (P1.out.kept (hb.block _ hs1))
  have hs2 : w.heap.size < w2.heap.size := Nat.lt_of_lt_of_le hs1 hb.size
  obtain ⟨_, _, hv1, hcp1, hcm1, _⟩ := Law.own_len ho1
  cases hv1
  obtain ⟨_, _, hv2, hcp2, hcm2, _⟩ := Law.own_len hm1
  cases hv2
  have C2 : Hid (CaIn w2 A1 d1 B1 e1 c) := Lib.hid ⟨⟨hcp1, hcm1, Law.Row.own ho1⟩, hcp2, hcm2, Law.Row.own hm1⟩
  clear hb ho1 hm1 hdis1 p0 p1 p2 p3 p4 hcp1 hcm1 hcp2 hcm2
  go_wp2_with fail
  go_at_call 22
  refine (HG.out A1 d1 B1 e1 w2 C2.out).mono ?_
  rintro r w3 ⟨rfl, hb⟩
  have L3 := Lib.hid (L2.out.trans (hb.mono L2.out.size))
  have P3 := Lib.hid (P2.out.kept (hb.block _ hs2))
  have hs3 : w.heap.size < w3.heap.size := Nat.lt_of_lt_of_le hs2 hb.size
  clear hb C2
  obtain ⟨p0, p1, p2, p3, p4, _, _, _, _, _⟩ := P3.out
  go_wp2_with fail
  go_at_call 15
  refine (HTo.out w3 L3.out).mono ?_
  rintro r w4 ⟨A2, d2, B2, e2, rfl, ho1, hm1, hdis1, hb⟩
  have L4 := Lib.hid (L3.out.trans (hb.mono L3.out.size))
  have P4 := Lib.hid (P3.out.kept (hb.block _ hs3))
  have hs4 : w.heap.size < w4.heap.size := Nat.lt_of_lt_of_le hs3 hb.size
  obtain ⟨_, _, hv1, hcp1, hcm1, _⟩ := Law.own_len ho1
  cases hv1
  obtain ⟨_, _, hv2, hcp2, hcm2, _⟩ := Law.own_len hm1
  cases hv2
  have C4 : Hid (CaIn w4 A2 d2 B2 e2 c) := Lib.hid ⟨⟨hcp1, hcm1, Law.Row.own ho1⟩, hcp2, hcm2, Law.Row.own hm1⟩
  clear hb ho1 hm1 hdis1 p0 p1 p2 p3 p4 hcp1 hcm1 hcp2 hcm2
  have b5 : Below w4.heap.size w4 (w4.alloc (.cells #[.int .i64 c.p, .int .i64 c.s, .slice A2 c.ps.length d2, .slice B2 c.ms.length e2, .int .i64 c.h] 27)) := (Below.refl _ _).alloc (Nat.le_refl _) _
  have L5 := Lib.hid (L4.out.trans (b5.mono L4.out.size))
  have P5 := Lib.hid (P4.out.kept (b5.block _ hs4))
  have Q5 := Lib.hid (blk5_of (heap_alloc_new w4 (.cells #[.int .i64 c.p, .int .i64 c.s, .slice A2 c.ps.length d2, .slice B2 c.ms.length e2, .int .i64 c.h] 27)))
  have C5 := Lib.hid (C4.out.stays b5)
  have hs5 : w4.heap.size < (w4.alloc (.cells #[.int .i64 c.p, .int .i64 c.s, .slice A2 c.ps.length d2, .slice B2 c.ms.length e2, .int .i64 c.h] 27)).heap.size := by simp
  clear b5 C4
  go_wp2_with fail
  generalize w4.alloc (.cells #[.int .i64 c.p, .int .i64 c.s, .slice A2 c.ps.length d2, .slice B2 c.ms.length e2, .int .i64 c.h] 27) = w5 at L5 P5 Q5 C5 hs5 ⊢
  obtain ⟨q0, q1, q2, q3, q4, _, _, _, _, _⟩ := Q5.out
  go_wp2_with fail
  go_at_call 23
  refine (HH.out A2 d2 B2 e2 w5 C5.out).mono ?_
  rintro r w6 ⟨rfl, hb⟩
  have L6 := Lib.hid (L5.out.trans (hb.mono L5.out.size))
  have P6 := Lib.hid (P5.out.kept (hb.block _ (by omega)))
  have Q6 := Lib.hid (Q5.out.kept (hb.block _ hs5))
  have C6 := Lib.hid (C5.out.stays hb)
  have hs6 : w4.heap.size < w6.heap.size := Nat.lt_of_lt_of_le hs5 hb.size
  clear hb q0 q1 q2 q3 q4
  cases y <;> cases z
  all_goals
    obtain ⟨p0, p1, p2, p3, p4, _, _, _, _, _⟩ := P6.out
    obtain ⟨q0, q1, q2, q3, q4, _, _, _, _, _⟩ := Q6.out
    go_wp2_with fail
    go_region_law ((first
      | (go_simp; go_at_call 15; refine (HTo.out _ (L6.out.drew)).mono ?_; rintro r w7 ⟨A3, d3, B3, e3, rfl, ho1, hm1, hdis1, hb⟩; have hb := ((Below.refl w6.heap.size w6).drew).trans hb; have L7 := Lib.hid (L6.out.trans (hb.mono L6.out.size)); obtain ⟨r0, r1, r2, r3, r4, _, _, _, _, _⟩ := Q6.out.kept (hb.block _ hs6); obtain ⟨_, _, hv1, hcp1, hcm1, _⟩ := Law.own_len ho1; cases hv1; obtain ⟨_, _, hv2, hcp2, hcm2, _⟩ := Law.own_len hm1; cases hv2; have C7 : Hid (CaIn w7 A3 d3 B3 e3 c) := Lib.hid ⟨⟨hcp1, hcm1, Law.Row.own ho1⟩, hcp2, hcm2, Law.Row.own hm1⟩; have D7 := Lib.hid (C6.out.stays hb); clear hb ho1 hm1 hdis1 hcp1 hcm1 hcp2 hcm2)
      | (go_simp; go_at_call 17; refine (HEq.out _ A2 B2 A3 B3 d2 e2 d3 e3 D7.out C7.out).mono ?_; rintro r w8 ⟨rfl, hb⟩; have L8 := Lib.hid (L7.out.trans (hb.mono L7.out.size)); clear hb)))
    all_goals
      go_wp2
      go_ret
      exact ⟨rfl, L8.out⟩
set_option maxHeartbeats 1600000 in
theorem walk_big1 (n : Int) (item : Int) (c : Ca) (A0 B0 : Option Addr) (d0 e0 : Nat) (w : World) (hb1 : 1048576 < c.ps.length) (hm : c.ps.length ≤ maxLen) :
    Calls Try.prog 5 #[.int .i64 n, .agg #[.int .i64 c.p, .int .i64 c.s, .slice A0 c.ps.length d0, .slice B0 c.ms.length e0, .int .i64 c.h], .int .i64 item] w fun e w' => e = .returned (.bool true) ∧ Below w.heap.size w w' := by
  have HSz := Lib.hid fun X => sz_big1 X c A0 B0 d0 e0 hb1 hm
  have L0 : Hid (Below w.heap.size w (w.alloc (.cells #[.int .i64 c.p, .int .i64 c.s, .slice A0 c.ps.length d0, .slice B0 c.ms.length e0, .int .i64 c.h] 24))) := (Below.refl _ _).alloc (Nat.le_refl _) _
  have P0 := Lib.hid (blk5_of (heap_alloc_new w (.cells #[.int .i64 c.p, .int .i64 c.s, .slice A0 c.ps.length d0, .slice B0 c.ms.length e0, .int .i64 c.h] 24)))
  unfold caV at HSz
  clear hb1 hm
  go_enter Try.func5, Try.ntmps5
  go_wp2_with fail
  generalize w.alloc (.cells #[.int .i64 c.p, .int .i64 c.s, .slice A0 c.ps.length d0, .slice B0 c.ms.length e0, .int .i64 c.h] 24) = X0 at L0 P0 ⊢
  obtain ⟨p0, p1, p2, p3, p4, _, _, _, _, _⟩ := P0.out
  go_wp2_with fail
  go_at_call 13
  refine (HSz.out X0).mono ?_
  rintro r w1 ⟨rfl, hb⟩
  have L1 := Lib.hid (L0.out.trans (hb.mono L0.out.size))
  clear hb p0 p1 p2 p3 p4
  go_wp2
  go_ret
  exact ⟨rfl, L1.out⟩
set_option maxHeartbeats 1600000 in
theorem walk_big2 (n : Int) (item : Int) (c : Ca) (A0 B0 : Option Addr) (d0 e0 : Nat) (w : World) (hb1 : c.ps.length ≤ 1048576) (hb2 : 1048576 < c.ps.length + c.ms.length) (hm : c.ms.length ≤ maxLen) :
    Calls Try.prog 5 #[.int .i64 n, .agg #[.int .i64 c.p, .int .i64 c.s, .slice A0 c.ps.length d0, .slice B0 c.ms.length e0, .int .i64 c.h], .int .i64 item] w fun e w' => e = .returned (.bool true) ∧ Below w.heap.size w w' := by
  have HSz := Lib.hid fun X => sz_big2 X c A0 B0 d0 e0 hb1 hb2 hm
  have L0 : Hid (Below w.heap.size w (w.alloc (.cells #[.int .i64 c.p, .int .i64 c.s, .slice A0 c.ps.length d0, .slice B0 c.ms.length e0, .int .i64 c.h] 24))) := (Below.refl _ _).alloc (Nat.le_refl _) _
  have P0 := Lib.hid (blk5_of (heap_alloc_new w (.cells #[.int .i64 c.p, .int .i64 c.s, .slice A0 c.ps.length d0, .slice B0 c.ms.length e0, .int .i64 c.h] 24)))
  unfold caV at HSz
  clear hb1 hm
  go_enter Try.func5, Try.ntmps5
  go_wp2_with fail
  generalize w.alloc (.cells #[.int .i64 c.p, .int .i64 c.s, .slice A0 c.ps.length d0, .slice B0 c.ms.length e0, .int .i64 c.h] 24) = X0 at L0 P0 ⊢
  obtain ⟨p0, p1, p2, p3, p4, _, _, _, _, _⟩ := P0.out
  go_wp2_with fail
  go_at_call 13
  refine (HSz.out X0).mono ?_
  rintro r w1 ⟨rfl, hb⟩
  have L1 := Lib.hid (L0.out.trans (hb.mono L0.out.size))
  clear hb p0 p1 p2 p3 p4
  go_wp2
  go_ret
  exact ⟨rfl, L1.out⟩
theorem walk (n : Int) (p s : Int) (A : Option Addr) (np d : Nat) (ps : List Int) (B : Option Addr) (nm e : Nat) (ms : List Int) (hh : Int) (item : Int) (w : World) (hn : (Lit.int .i64 n).wf = true) (hps : ps.length = np ∧ np ≤ d ∧ d ≤ maxLen ∧ Law.Row w A (ps.map (Value.int .i64))) (hms : ms.length = nm ∧ nm ≤ e ∧ e ≤ maxLen ∧ Law.Row w B (ms.map (Value.int .i64))) (hx : (Lit.int .i64 p).wf = true ∧ (Lit.int .i64 s).wf = true ∧ (Lit.int .i64 hh).wf = true) (hitem : (Lit.int .i64 item).wf = true) (hL : laidMetH Try.prog Rows.fnExactIsHitRow.laid w) (hsh : w.ShapedOpen Try.prog) :
    Calls Try.prog 5 #[.int .i64 n, .agg #[.int .i64 p, .int .i64 s, .slice A np d, .slice B nm e, .int .i64 hh], .int .i64 item] w fun e w' => e = .returned (.bool true) ∧ Below w.heap.size w w' := by
  obtain ⟨rfl, hA1, hA2, hA3⟩ := hps
  obtain ⟨rfl, hB1, hB2, hB3⟩ := hms
  clear hL hsh
  obtain ⟨c, hc⟩ : ∃ c : Ca, c = { p := p, s := s, ps := ps, ms := ms, h := hh } := ⟨_, rfl⟩
  have h : CaIn w A d B e c := by subst hc; exact ⟨⟨hA1, hA2, hA3⟩, hB1, hB2, hB3⟩
  have e1 : ps = c.ps := by rw [hc]
  have e2 : ms = c.ms := by rw [hc]
  have e3 : p = c.p := by rw [hc]
  have e4 : s = c.s := by rw [hc]
  have e5 : hh = c.h := by rw [hc]
  rw [e1, e2, e3, e4, e5]
  rw [e1] at hA1
  rw [e2] at hB1
  clear hc e1 e2 e3 e4 e5 hA3 hB3 hx
  by_cases hl : c.ps.length + c.ms.length ≤ 1048576
  · exact walk_core n item c A B d e ((ishQ n c item)).1 ((ishQ n c item)).2 w h hl (fun A d B e W h => specIsh_any n item h (by omega) (by omega)) (fun A d B e W h => impIsh_any n item h (by omega) (by omega))
  · by_cases h1 : c.ps.length ≤ 1048576
    · exact walk_big2 n item c A B d e w h1 (by omega) (by omega)
    · exact walk_big1 n item c A B d e w (by omega) (by omega)
theorem lawOwn : ownKnob Try.prog.godebug = none := by kernel_rfl
theorem lawLaidOut : laidOutB Try.prog = true := by kernel_rfl
set_option maxRecDepth 100000 in
theorem contract (H : Type) (enc : TypeId × Value → H) (W : World) (base : Nat) (args : Array Value) (ds : List (DataW H)) (gs : List (DataW H)) (before : List MemPlace)
    (hval0 : ∀ (j : Nat) t v, Try.f5.params[j]? = some t → args[j]? = some v → Value.okWide Try.prog W .any base t v)
    (hW : DataW.Whole enc Try.prog Try.f5.params.toList Rows.fnExactIsHitSpec.vars false W args.toList ds gs before) (hL : laidMetH Try.prog Rows.fnExactIsHitRow.laid W) (hsh : W.ShapedOpen Try.prog) :
    Calls Try.prog 5 args W fun e W' => ∃ v, e = .returned v ∧ Rows.fnExactIsHitSpec.post enc Try.prog Try.f5 false true false false W args v W' := by
  have hval : ∀ (j : Nat) t v, Try.f5.params[j]? = some t → args[j]? = some v → Value.okWide Try.prog W .any base t v := hval0
  have hW' := hW
  obtain ⟨p, q, hA0, hV, rfl, hfz, hnd⟩ := hW
  have hA : DataW.TrodAll enc Try.prog W 0 (fun _ => true) true Try.f5.params.toList args.toList ds p := hA0
  rw [Try.params5] at hA hval
  obtain ⟨v0, vs0, d0, ds0, p0, q0, hargs0, rfl, rfl, h0, r0⟩ := trodAll_cons hA
  obtain ⟨v1, vs1, d1, ds1, p1, q1, hargs1, rfl, rfl, h1, r1⟩ := trodAll_cons r0
  obtain ⟨v2, vs2, d2, ds2, p2, q2, hargs2, rfl, rfl, h2, r2⟩ := trodAll_cons r1
  obtain ⟨rfl, rfl, rfl⟩ := trodAll_nil r2
  obtain rfl : args = #[v0, v1, v2] := by cases args; simp_all
  obtain ⟨rfl, rfl⟩ := trodVars_none hV
  obtain ⟨a0, rfl, rfl, rfl, w0⟩ := open_int Try.underlying3 (hval 0 3 v0 rfl rfl) h0
  obtain ⟨a1, b1, A1, n1, c1, xs1, B1, m1, d1', ms1, g1, rfl, w1, u1, t1⟩ := Law.in_cache Try.underlying24 Try.underlying3 Try.underlying3 Try.underlying22 Try.underlying3 (by kernel_rfl) Try.underlying22 Try.underlying3 (by kernel_rfl) Try.underlying3 (by kernel_rfl) (by kernel_rfl) (hval 1 24 v1 rfl rfl) h1
  obtain ⟨a2, rfl, rfl, rfl, w2⟩ := open_int Try.underlying3 (hval 2 3 v2 rfl rfl) h2
  clear hA0 hval0
  refine (walk a0 a1 b1 A1 n1 c1 xs1 B1 m1 d1' ms1 g1 a2 W w0 w1 u1 t1 w2 hL hsh).mono fun e W' ⟨he, hb⟩ => ?_
  subst he
  exact ⟨_, rfl, Law.close hW' rfl rfl lawLaidOut (by kernel_rfl) Try.underlying4 (by kernel_rfl) hb⟩
theorem reads (os : Os) {H : Type} (enc : TypeId × Value → H) : ∃ places, DataW.whole enc Try.prog ((World.holding Try.prog os ⟨#[], #[], []⟩).forCall (fun _ _ => 0) ⟨#[], #[.int .i64 0, .agg #[.int .i64 0, .int .i64 0, .slice none 0 0, .slice none 0 0, .int .i64 0], .int .i64 0], []⟩).memory Try.f5.params.toList Rows.fnExactIsHitSpec.vars false (#[.int .i64 0, .agg #[.int .i64 0, .int .i64 0, .slice none 0 0, .slice none 0 0, .int .i64 0], .int .i64 0] : Array Value).toList 8 = some ([.lit (.int .i64 0), .agg [.lit (.int .i64 0), .lit (.int .i64 0), .nil, .nil, .lit (.int .i64 0)], .lit (.int .i64 0)], [], places) :=
  ⟨[], by kernel_rfl⟩
set_option maxRecDepth 100000 in
theorem lifted (os : Os) (started : os.Started) (H : Type) (enc : TypeId × Value → H) (F : Stop.Interp) :
    ReturnsInHanded {} Try.checked os 5 .any ((OpenSpec.ofChange Rows.fnExactIsHitSpec).preRow enc Try.prog Try.f5 Rows.fnExactIsHitRow.domain false Rows.fnExactIsHitRow.laid) (((OpenSpec.ofChange Rows.fnExactIsHitSpec).at F).post enc Try.prog Try.f5 false true false false) := by
  obtain ⟨places, hx⟩ := reads os enc
  refine returnsInHanded_of_row (C := Try.checked) (s := OpenSpec.ofChange Rows.fnExactIsHitSpec) lawOwn started (by kernel_rfl) Try.func5
    (witness_row_at (enc := enc) (C := Try.checked) false (World.holding Try.prog os ⟨#[], #[], []⟩) #[.int .i64 0, .agg #[.int .i64 0, .int .i64 0, .slice none 0 0, .slice none 0 0, .int .i64 0], .int .i64 0] rfl (by kernel_rfl) (by kernel_rfl) (by kernel_rfl)
      (OpenSpec.preRow_of_cond 8 hx (by kernel_rfl) (fun k hk => by cases hk) (by kernel_rfl) (laidMet_nil _ _))) ?_
  intro W base args ds gs before hval hW _ _ _ hL hsh _
  exact contract H enc W base args ds gs before hval hW hL hsh
theorem proved : Rows.FnExactIsHitSaid :=
  OpenClaim.holds_of_cond 5 Try.f5 rfl rfl rfl rfl rfl rfl rfl ⟨rfl, rfl, rfl, rfl, rfl⟩ rfl rfl rfl rfl rfl (by kernel_rfl) Try.func5 (by kernel_rfl)
    (of_decide_eq_true (by kernel_rfl)) (by unfold Func.isWrapper; first | (rw [if_pos (by decide +kernel)]; kernel_rfl) | (rw [if_neg (by decide +kernel)]; exact ⟨rfl, rfl⟩))
    (fun os started H enc _ F => by rw [OpenClaim.pre_eq_preRow]; exact lifted os started H enc F)
end LIsHit
end Go.Proofs.Ytdjafooabpcbmab
