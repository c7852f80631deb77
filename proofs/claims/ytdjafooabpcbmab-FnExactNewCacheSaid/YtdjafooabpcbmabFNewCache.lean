/-
  FnExactNewCache: NewCache answers as the model does, whatever it is given, and hands out memory of its own.
  Conditions: none.
-/
import Derived.Test.YtdjafooabpcbmabRows
import Derived.Test.YtdjafooabpcbmabChecked
import Derived.Test.YtdjafooabpcbmabNewB
import Derived.Test.YtdjafooabpcbmabMkC
import Derived.Deep.DeepHandedRow
import Derived.Stop.Joined
namespace Go.Proofs.Ytdjafooabpcbmab
open Go.RowKit Go.ChangeShapes Go.WideShapes
set_option linter.unusedVariables false
/-- What the model hands out: an empty cache, its lists empty, made or not. -/
def specNewSays (P S : Int) (ok : Bool) (W : World) (r : Ending) (W' : World) : Prop := ∃ A d B e, r = .returned (.tuple #[.agg #[.int .i64 P, .int .i64 S, .slice A 0 d, .slice B 0 e, .int .i64 0], .bool ok]) ∧ d ≤ maxLen ∧ e ≤ maxLen ∧ Below W.heap.size W W'
theorem l4New_empty (p s : Int) (W : World) : Calls Try.prog 79 #[.int .i64 p, .int .i64 s] W fun r W' => ∃ A B, r = .returned (.agg #[.int .i64 p, .int .i64 s, .slice A 0 0, .slice B 0 0, .int .i64 0]) ∧ Below W.heap.size W W' := by
  go_enter Try.func79, Try.ntmps79
  go_wp2
  have h3 := al3 W (.cells #[.int .i64 p, .int .i64 s, .slice (some ⟨W.heap.size + 1, 0, none⟩) 0 0, .slice (some ⟨W.heap.size + 1 + 1, 0, none⟩) 0 0, .int .i64 0] 27) (.cells #[] 3) (.cells #[] 3)
  exact ret_ca1 rfl rfl rfl (blk5_of h3.1) ⟨some ⟨W.heap.size + 1, 0, none⟩, some ⟨W.heap.size + 1 + 1, 0, none⟩, rfl, h3.2.2.2.2⟩
theorem sizes_and (p s : Int) : Q.sizes p s = (Q.okP p && Q.okS s) := by
  rw [Bool.eq_iff_iff, Bool.and_eq_true, Q.okP_iff, Q.okS_iff]
  simp [Q.sizes]
set_option maxRecDepth 20000 in
set_option maxHeartbeats 1600000 in
theorem specNew_any (n p s : Int) (W : World) : Calls Try.prog 18 #[.int .i64 n, .int .i64 p, .int .i64 s] W (specNewSays (if (Q.okN n && Q.sizes p s) then p else 0) (if (Q.okN n && Q.sizes p s) then s else 0) (Q.okN n && Q.sizes p s) W) := by
  have HI := Lib.hid fun X => l3Items_any n X
  have HS := Lib.hid fun X => l4Sizes_any p s X
  have HN := Lib.hid fun X => l4New_empty p s X
  have P0 := Lib.hid (blk5_of (heap_alloc_new W (.cells #[.int .i64 0, .int .i64 0, .slice none 0 0, .slice none 0 0, .int .i64 0] 27)))
  have L0 : Hid (Below W.heap.size W (W.alloc (.cells #[.int .i64 0, .int .i64 0, .slice none 0 0, .slice none 0 0, .int .i64 0] 27))) := (Below.refl _ _).alloc (Nat.le_refl _) _
  have hs0 : W.heap.size < (W.alloc (.cells #[.int .i64 0, .int .i64 0, .slice none 0 0, .slice none 0 0, .int .i64 0] 27)).heap.size := by simp
  rw [sizes_and]
  cases hn : Q.okN n
  · rw [hn] at HI
    clear hn HS HN
    go_enter Try.func18, Try.ntmps18
    go_wp2_with fail
    generalize W.alloc (.cells #[.int .i64 0, .int .i64 0, .slice none 0 0, .slice none 0 0, .int .i64 0] 27) = X at P0 L0 hs0 ⊢
    go_at_call 77
    refine (HI.out X).mono ?_
    rintro r w' ⟨rfl, hw'⟩
    obtain rfl := hw'.symm
    clear hw'
    obtain ⟨p0, p1, p2, p3, p4, q0, q1, q2, q3, q4⟩ := P0.out
    go_wp2
    exact ret_ca rfl rfl rfl (P0.out.all _ _ _ _ _) rfl ⟨none, 0, none, 0, rfl, Nat.zero_le _, Nat.zero_le _, below5 L0.out (Nat.le_refl _) _ _ _ _ _⟩
  · rw [hn] at HI
    cases hps : (Q.okP p && Q.okS s)
    · rw [hps] at HS
      clear hn hps HN
      go_enter Try.func18, Try.ntmps18
      go_wp2_with fail
      generalize W.alloc (.cells #[.int .i64 0, .int .i64 0, .slice none 0 0, .slice none 0 0, .int .i64 0] 27) = X at P0 L0 hs0 ⊢
      go_at_call 77
      refine (HI.out X).mono ?_
      rintro r w' ⟨rfl, hw'⟩
      obtain rfl := hw'.symm
      clear hw'
      go_wp2_with fail
      go_at_call 78
      refine (HS.out _).mono ?_
      rintro e w' ⟨rfl, hw'⟩
      obtain rfl := hw'.symm
      clear hw'
      obtain ⟨p0, p1, p2, p3, p4, q0, q1, q2, q3, q4⟩ := P0.out
      go_wp2
      exact ret_ca rfl rfl rfl (P0.out.all _ _ _ _ _) rfl ⟨none, 0, none, 0, rfl, Nat.zero_le _, Nat.zero_le _, below5 L0.out (Nat.le_refl _) _ _ _ _ _⟩
    · rw [hps] at HS
      clear hn hps
      go_enter Try.func18, Try.ntmps18
      go_wp2_with fail
      generalize W.alloc (.cells #[.int .i64 0, .int .i64 0, .slice none 0 0, .slice none 0 0, .int .i64 0] 27) = X at P0 L0 hs0 ⊢
      go_at_call 77
      refine (HI.out X).mono ?_
      rintro r w' ⟨rfl, hw'⟩
      obtain rfl := hw'.symm
      clear hw'
      go_wp2_with fail
      go_at_call 78
      refine (HS.out _).mono ?_
      rintro e w' ⟨rfl, hw'⟩
      obtain rfl := hw'.symm
      clear hw'
      go_wp2_with fail
      go_at_call 79
      refine (HN.out X).mono ?_
      rintro r w1 ⟨A, B, rfl, hb⟩
      have P1 := Lib.hid (P0.out.kept (hb.block _ hs0))
      have L1 := Lib.hid (L0.out.trans (hb.mono (by omega)))
      clear hb
      obtain ⟨p0, p1, p2, p3, p4, q0, q1, q2, q3, q4⟩ := P1.out
      go_wp2
      exact ret_ca rfl rfl rfl (P1.out.all _ _ _ _ _) rfl ⟨A, 0, B, 0, rfl, Nat.zero_le _, Nat.zero_le _, below5 L1.out (Nat.le_refl _) _ _ _ _ _⟩
namespace LNewCache
set_option maxRecDepth 20000 in
set_option maxHeartbeats 3200000 in
theorem walk_core (n p s P S : Int) (ok : Bool) (w : World)
    (HG : Hid (∀ W, Calls Try.prog 18 #[.int .i64 n, .int .i64 p, .int .i64 s] W (specNewSays P S ok W)))
    (HH : Hid (∀ W, Calls Try.prog 19 #[.int .i64 n, .int .i64 p, .int .i64 s] W fun r W' => r = .returned (.tuple #[.agg #[.int .i64 P, .int .i64 S, .slice none 0 0, .slice none 0 0, .int .i64 0], .bool ok]) ∧ Below W.heap.size W W')) :
    Calls Try.prog 4 #[.int .i64 n, .int .i64 p, .int .i64 s] w fun e w' => e = .returned (.bool true) ∧ Below w.heap.size w w' := by
  have HEq : Hid (∀ X A B d e, CaIn X A d B e { p := P, s := S, ps := [], ms := [], h := 0 } → Calls Try.prog 17 #[.agg #[.int .i64 P, .int .i64 S, .slice none 0 0, .slice none 0 0, .int .i64 0], .agg #[.int .i64 P, .int .i64 S, .slice A 0 d, .slice B 0 e, .int .i64 0]] X fun r W' => r = .returned (.bool true) ∧ Below X.heap.size X W') := Lib.hid fun X A B d e h => eqCache_same (c := { p := P, s := S, ps := [], ms := [], h := 0 }) (A := none) (B := none) (d := 0) (e := 0) ⟨⟨Nat.le_refl _, Nat.zero_le _, fun h => absurd rfl h⟩, Nat.le_refl _, Nat.zero_le _, fun h => absurd rfl h⟩ h (Nat.zero_le _) (Nat.zero_le _)
  have HMk : Hid (∀ X, Calls Try.prog 20 #[.agg #[.int .i64 P, .int .i64 S, .slice none 0 0, .slice none 0 0, .int .i64 0], .int .i64 1] X fun r W' => r = .returned (.int .i64 1) ∧ Below X.heap.size X W') := Lib.hid fun X => (markCache_any (c := { p := P, s := S, ps := [], ms := [], h := 0 }) (A := none) (B := none) (d := 0) (e := 0) (lo := 0) (hi := 0) (k := 1) ⟨rfl, .inl ⟨rfl, rfl⟩⟩ ⟨rfl, .inl ⟨rfl, rfl⟩⟩ (fun a b h => by cases h) (fun a h => by cases h) (fun a h => by cases h) (Nat.zero_le _) (by omega) (by simp)).mono fun r W' ⟨h1, _, _, h4⟩ => ⟨h1, ⟨h4.os, h4.tape, h4.output, h4.size, fun k hk => h4.block k hk (.inr (Nat.zero_le _))⟩⟩
  have HHd : Hid (∀ X, Calls Try.prog 21 #[.agg #[.int .i64 P, .int .i64 S, .slice none 0 0, .slice none 0 0, .int .i64 0], .int .i64 1] X fun r W' => r = .returned (.int .i64 1) ∧ Below X.heap.size X W') := Lib.hid fun X => heldCache_any (c := { p := P, s := S, ps := [], ms := [], h := 0 }) (A := none) (B := none) (d := 0) (e := 0) (k := 1) (by omega) (by simp) (fun h => absurd rfl h) (fun h => absurd rfl h)
  unfold specNewSays at HG
  go_enter Try.func4, Try.ntmps4
  go_wp2_with fail
  go_at_call 18
  refine (HG.out w).mono ?_
  rintro r w1 ⟨A, d, B, e, rfl, hd, he, hb⟩
  have L1 := Lib.hid (Law.then_ (Below.refl _ _) hb)
  have hz1 := hb.size
  clear hb
  have HCI : Hid (∀ X, CaIn X A d B e { p := P, s := S, ps := [], ms := [], h := 0 }) := Lib.hid fun X => ⟨⟨Nat.zero_le _, hd, fun h => absurd rfl h⟩, Nat.zero_le _, he, fun h => absurd rfl h⟩
  clear hd he
  have b1 : Below w1.heap.size w1 (w1.alloc (.cells #[.int .i64 P, .int .i64 S, .slice A 0 d, .slice B 0 e, .int .i64 0] 27)) := (Below.refl _ _).alloc (Nat.le_refl _) _
  have L1b := Lib.hid (Law.then_ L1.out b1)
  have K1b := Lib.hid (blk5_of (heap_alloc_new w1 (.cells #[.int .i64 P, .int .i64 S, .slice A 0 d, .slice B 0 e, .int .i64 0] 27)))
  have hy1 : (w1.alloc (.cells #[.int .i64 P, .int .i64 S, .slice A 0 d, .slice B 0 e, .int .i64 0] 27)).heap.size = w1.heap.size + 1 := by simp
  clear b1
  go_wp2_with fail
  generalize w1.alloc (.cells #[.int .i64 P, .int .i64 S, .slice A 0 d, .slice B 0 e, .int .i64 0] 27) = w1b at L1b K1b hy1 ⊢
  go_wp2_with fail
  go_at_call 19
  refine (HH.out w1b).mono ?_
  rintro r w2 ⟨rfl, hb⟩
  have L2 := Lib.hid (Law.then_ L1b.out hb)
  have K2 := Lib.hid (K1b.out.kept (hb.block _ (by omega)))
  have hz2 := hb.size
  clear hb
  have b2 : Below w2.heap.size w2 (w2.alloc (.cells #[.int .i64 P, .int .i64 S, .slice none 0 0, .slice none 0 0, .int .i64 0] 27)) := (Below.refl _ _).alloc (Nat.le_refl _) _
  have L2b := Lib.hid (Law.then_ L2.out b2)
  have J2b := Lib.hid (blk5_of (heap_alloc_new w2 (.cells #[.int .i64 P, .int .i64 S, .slice none 0 0, .slice none 0 0, .int .i64 0] 27)))
  have hy2 : (w2.alloc (.cells #[.int .i64 P, .int .i64 S, .slice none 0 0, .slice none 0 0, .int .i64 0] 27)).heap.size = w2.heap.size + 1 := by simp
  have K2b := Lib.hid (K2.out.kept (b2.block _ (by omega)))
  clear b2
  obtain ⟨k0, k1, k2, k3, k4, _, _, _, _, _⟩ := K2b.out
  obtain ⟨j0, j1, j2, j3, j4, _, _, _, _, _⟩ := J2b.out
  go_wp2_with fail
  generalize w2.alloc (.cells #[.int .i64 P, .int .i64 S, .slice none 0 0, .slice none 0 0, .int .i64 0] 27) = w2b at L2b J2b hy2 K2b k0 k1 k2 k3 k4 j0 j1 j2 j3 j4 ⊢
  go_wp2_with fail
  go_at_call 17
  refine (HEq.out w2b A B d e (HCI.out _)).mono ?_
  rintro r w3 ⟨rfl, hb⟩
  have L3 := Lib.hid (Law.then_ L2b.out hb)
  have K3 := Lib.hid (K2b.out.kept (hb.block _ (by omega)))
  have J3 := Lib.hid (J2b.out.kept (hb.block _ (by omega)))
  have hz3 := hb.size
  clear hb
  clear k0 k1 k2 k3 k4 j0 j1 j2 j3 j4
  cases ok
  all_goals
    obtain ⟨j0, j1, j2, j3, j4, _, _, _, _, _⟩ := J3.out
    go_wp2_with fail
    go_at_call 20
    refine (HMk.out w3).mono ?_
    rintro r w4 ⟨rfl, hb⟩
    have L4 := Lib.hid (Law.then_ L3.out hb)
    have K4 := Lib.hid (K3.out.kept (hb.block _ (by omega)))
    have J4 := Lib.hid (J3.out.kept (hb.block _ (by omega)))
    have hz4 := hb.size
    clear hb
    clear j0 j1 j2 j3 j4
    obtain ⟨j0, j1, j2, j3, j4, _, _, _, _, _⟩ := J4.out
    go_wp2_with fail
    go_at_call 21
    refine (HHd.out w4).mono ?_
    rintro r w5 ⟨rfl, hb⟩
    have L5 := Lib.hid (Law.then_ L4.out hb)
    have K5 := Lib.hid (K4.out.kept (hb.block _ (by omega)))
    have J5 := Lib.hid (J4.out.kept (hb.block _ (by omega)))
    have hz5 := hb.size
    clear hb
    clear j0 j1 j2 j3 j4
    go_wp2_with fail
    go_at_call 19
    refine (HH.out w5).mono ?_
    rintro r w6 ⟨rfl, hb⟩
    have L6 := Lib.hid (Law.then_ L5.out hb)
    have K6 := Lib.hid (K5.out.kept (hb.block _ (by omega)))
    have J6 := Lib.hid (J5.out.kept (hb.block _ (by omega)))
    have hz6 := hb.size
    clear hb
    have b6 : Below w6.heap.size w6 (w6.alloc (.cells #[.int .i64 P, .int .i64 S, .slice none 0 0, .slice none 0 0, .int .i64 0] 27)) := (Below.refl _ _).alloc (Nat.le_refl _) _
    have L6b := Lib.hid (Law.then_ L6.out b6)
    have H6b := Lib.hid (blk5_of (heap_alloc_new w6 (.cells #[.int .i64 P, .int .i64 S, .slice none 0 0, .slice none 0 0, .int .i64 0] 27)))
    have hy6 : (w6.alloc (.cells #[.int .i64 P, .int .i64 S, .slice none 0 0, .slice none 0 0, .int .i64 0] 27)).heap.size = w6.heap.size + 1 := by simp
    have K6b := Lib.hid (K6.out.kept (b6.block _ (by omega)))
    have J6b := Lib.hid (J6.out.kept (b6.block _ (by omega)))
    clear b6
    obtain ⟨k0, k1, k2, k3, k4, _, _, _, _, _⟩ := K6b.out
    obtain ⟨j0, j1, j2, j3, j4, _, _, _, _, _⟩ := H6b.out
    go_wp2_with fail
    generalize w6.alloc (.cells #[.int .i64 P, .int .i64 S, .slice none 0 0, .slice none 0 0, .int .i64 0] 27) = w6b at L6b H6b hy6 K6b J6b k0 k1 k2 k3 k4 j0 j1 j2 j3 j4 ⊢
    go_wp2_with fail
    go_at_call 17
    refine (HEq.out w6b A B d e (HCI.out _)).mono ?_
    rintro r w7 ⟨rfl, hb⟩
    have L7 := Lib.hid (Law.then_ L6b.out hb)
    have J7 := Lib.hid (J6b.out.kept (hb.block _ (by omega)))
    have hz7 := hb.size
    clear hb
    clear k0 k1 k2 k3 k4 j0 j1 j2 j3 j4
    obtain ⟨j0, j1, j2, j3, j4, _, _, _, _, _⟩ := J7.out
    go_wp2_with fail
    go_at_call 21
    refine (HHd.out w7).mono ?_
    rintro r w8 ⟨rfl, hb⟩
    have L8 := Lib.hid (Law.then_ L7.out hb)
    have hz8 := hb.size
    clear hb
    clear j0 j1 j2 j3 j4
    go_wp2
    go_ret
    exact ⟨rfl, L8.out⟩
theorem walk (n p s : Int) (w : World) (hn : (Lit.int .i64 n).wf = true) (hp : (Lit.int .i64 p).wf = true) (hs : (Lit.int .i64 s).wf = true) (hL : laidMetH Try.prog Rows.fnExactNewCacheRow.laid w) (hsh : w.ShapedOpen Try.prog) :
    Calls Try.prog 4 #[.int .i64 n, .int .i64 p, .int .i64 s] w fun e w' => e = .returned (.bool true) ∧ Below w.heap.size w w' := by
  clear hL hsh
  refine walk_core n p s _ _ _ w (Lib.hid fun W => specNew_any n p s W) (Lib.hid fun W => ?_)
  have h := impNew_any n p s W
  cases hok : (Q.okN n && Q.sizes p s)
  · rw [hok] at h
    exact h
  · rw [hok] at h
    exact h
theorem lawOwn : ownKnob Try.prog.godebug = none := by kernel_rfl
theorem lawLaidOut : laidOutB Try.prog = true := by kernel_rfl
set_option maxRecDepth 100000 in
theorem contract (H : Type) (enc : TypeId × Value → H) (W : World) (base : Nat) (args : Array Value) (ds : List (DataW H)) (gs : List (DataW H)) (before : List MemPlace)
    (hval0 : ∀ (j : Nat) t v, Try.f4.params[j]? = some t → args[j]? = some v → Value.okWide Try.prog W .any base t v)
    (hW : DataW.Whole enc Try.prog Try.f4.params.toList Rows.fnExactNewCacheSpec.vars false W args.toList ds gs before) (hL : laidMetH Try.prog Rows.fnExactNewCacheRow.laid W) (hsh : W.ShapedOpen Try.prog) :
    Calls Try.prog 4 args W fun e W' => ∃ v, e = .returned v ∧ Rows.fnExactNewCacheSpec.post enc Try.prog Try.f4 false true false false W args v W' := by
  have hval : ∀ (j : Nat) t v, Try.f4.params[j]? = some t → args[j]? = some v → Value.okWide Try.prog W .any base t v := hval0
  have hW' := hW
  obtain ⟨p, q, hA0, hV, rfl, hfz, hnd⟩ := hW
  have hA : DataW.TrodAll enc Try.prog W 0 (fun _ => true) true Try.f4.params.toList args.toList ds p := hA0
  rw [Try.params4] at hA hval
  obtain ⟨v0, vs0, d0, ds0, p0, q0, hargs0, rfl, rfl, h0, r0⟩ := trodAll_cons hA
  obtain ⟨v1, vs1, d1, ds1, p1, q1, hargs1, rfl, rfl, h1, r1⟩ := trodAll_cons r0
  obtain ⟨v2, vs2, d2, ds2, p2, q2, hargs2, rfl, rfl, h2, r2⟩ := trodAll_cons r1
  obtain ⟨rfl, rfl, rfl⟩ := trodAll_nil r2
  obtain rfl : args = #[v0, v1, v2] := by cases args; simp_all
  obtain ⟨rfl, rfl⟩ := trodVars_none hV
  obtain ⟨a0, rfl, rfl, rfl, w0⟩ := open_int Try.underlying3 (hval 0 3 v0 rfl rfl) h0
  obtain ⟨a1, rfl, rfl, rfl, w1⟩ := open_int Try.underlying3 (hval 1 3 v1 rfl rfl) h1
  obtain ⟨a2, rfl, rfl, rfl, w2⟩ := open_int Try.underlying3 (hval 2 3 v2 rfl rfl) h2
  clear hA0 hval0
  refine (walk a0 a1 a2 W w0 w1 w2 hL hsh).mono fun e W' ⟨he, hb⟩ => ?_
  subst he
  exact ⟨_, rfl, Law.close hW' rfl rfl lawLaidOut (by kernel_rfl) Try.underlying4 (by kernel_rfl) hb⟩
theorem reads (os : Os) {H : Type} (enc : TypeId × Value → H) : ∃ places, DataW.whole enc Try.prog ((World.holding Try.prog os ⟨#[], #[], []⟩).forCall (fun _ _ => 0) ⟨#[], #[.int .i64 0, .int .i64 0, .int .i64 0], []⟩).memory Try.f4.params.toList Rows.fnExactNewCacheSpec.vars false (#[.int .i64 0, .int .i64 0, .int .i64 0] : Array Value).toList 8 = some ([.lit (.int .i64 0), .lit (.int .i64 0), .lit (.int .i64 0)], [], places) :=
  ⟨[], by kernel_rfl⟩
set_option maxRecDepth 100000 in
theorem lifted (os : Os) (started : os.Started) (H : Type) (enc : TypeId × Value → H) (F : Stop.Interp) :
    ReturnsInHanded {} Try.checked os 4 .any ((OpenSpec.ofChange Rows.fnExactNewCacheSpec).preRow enc Try.prog Try.f4 Rows.fnExactNewCacheRow.domain false Rows.fnExactNewCacheRow.laid) (((OpenSpec.ofChange Rows.fnExactNewCacheSpec).at F).post enc Try.prog Try.f4 false true false false) := by
  obtain ⟨places, hx⟩ := reads os enc
  refine returnsInHanded_of_row (C := Try.checked) (s := OpenSpec.ofChange Rows.fnExactNewCacheSpec) lawOwn started (by kernel_rfl) Try.func4
    (witness_row_at (enc := enc) (C := Try.checked) false (World.holding Try.prog os ⟨#[], #[], []⟩) #[.int .i64 0, .int .i64 0, .int .i64 0] rfl (by kernel_rfl) (by kernel_rfl) (by kernel_rfl)
      (OpenSpec.preRow_of_cond 8 hx (by kernel_rfl) (fun k hk => by cases hk) (by kernel_rfl) (laidMet_nil _ _))) ?_
  intro W base args ds gs before hval hW _ _ _ hL hsh _
  exact contract H enc W base args ds gs before hval hW hL hsh
theorem proved : Rows.FnExactNewCacheSaid :=
  OpenClaim.holds_of_cond 4 Try.f4 rfl rfl rfl rfl rfl rfl rfl ⟨rfl, rfl, rfl, rfl, rfl⟩ rfl rfl rfl rfl rfl (by kernel_rfl) Try.func4 (by kernel_rfl)
    (of_decide_eq_true (by kernel_rfl)) (by unfold Func.isWrapper; first | (rw [if_pos (by decide +kernel)]; kernel_rfl) | (rw [if_neg (by decide +kernel)]; exact ⟨rfl, rfl⟩))
    (fun os started H enc _ F => by rw [OpenClaim.pre_eq_preRow]; exact lifted os started H enc F)
end LNewCache
end Go.Proofs.Ytdjafooabpcbmab
