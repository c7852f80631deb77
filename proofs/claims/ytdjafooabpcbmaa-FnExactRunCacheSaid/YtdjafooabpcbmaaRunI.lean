/-
  The code's RunCache.
-/
import Derived.Test.YtdjafooabpcbmaaRqd
import Derived.Test.YtdjafooabpcbmaaFK
import Derived.Test.YtdjafooabpcbmaaFplI
import Derived.Test.YtdjafooabpcbmaaCaL
namespace Go.Proofs.Ytdjafooabpcbmaa
open Go.RowKit
set_option linter.unusedVariables false
/-- A return of a cache that lies in a block, a number and a flag. -/
theorem ret_ca2 {fn : Func} {R : Ending → World → Prop} {a : Act} {w : World} {pt u v : Tmp} {b : Nat} {v0 v1 v2 v3 v4 f g : Value}
    (h : fn.results = #[.cell pt 26, .tmp u, .tmp v]) (hd : a.defers = []) (hp : a.tmps.getD pt undef = .pointer (some ⟨b, 0, none⟩)) (hB : Blk5 w b v0 v1 v2 v3 v4) (hf : a.tmps.getD u undef = f) (hg : a.tmps.getD v undef = g)
    (hR : R (.returned (.tuple #[.agg #[v0, v1, v2, v3, v4], f, g])) w) : bodyPost Try.prog fn R .ret a w := by
  refine bodyPost_ret_by (v := .tuple #[.agg #[v0, v1, v2, v3, v4], f, g]) ?_ hd hR
  obtain ⟨c0, c1, c2, c3, c4, _, _, _, _, _⟩ := hB
  have key : (results fn a.tmps).run Try.prog w = ((asAddr (a.tmps.getD pt undef)).run Try.prog w).andThen fun q w1 => ((loadVar 26 q).run Try.prog w1).andThen fun x w2 => .ok (.tuple #[x, a.tmps.getD u undef, a.tmps.getD v undef]) w2 := by
    simp only [results, h]
    simp [Sem.run_bind, Result.andThen]
  rw [key, hp, hf, hg]
  go_simp
/-- What a run says that fails. -/
def runNo (W : World) (r : Ending) (W' : World) : Prop := r = .returned (.tuple #[.agg #[.int .i64 0, .int .i64 0, .slice none 0 0, .slice none 0 0, .int .i64 0], .int .i64 0, .bool false]) ∧ Below W.heap.size W W'
/-- .. and one that hands out a cache of its own. -/
def runYes (c' : Ca) (f : Nat) (W : World) (r : Ending) (W' : World) : Prop := ∃ A d B e, r = .returned (.tuple #[caV c' A d B e, .int .i64 (f : Int), .bool true]) ∧ W'.ownsRow W.heap.size 3 1 (.slice A c'.ps.length d) c'.ps.length (ivs c'.ps) ∧ W'.ownsRow W.heap.size 3 1 (.slice B c'.ms.length e) c'.ms.length (ivs c'.ms) ∧ Dis A B ∧ Below W.heap.size W W'
theorem ob_addr {A : Option Addr} {n d g : Nat} (hg : (Value.slice A n d).ownBlock = some g) : ∃ a, A = some a ∧ a.block = g := by
  cases A with
  | none => simp [Value.ownBlock] at hg
  | some a =>
    obtain ⟨b, o, sp⟩ := a
    refine ⟨_, rfl, ?_⟩
    cases sp <;> simp [Value.ownBlock] at hg <;> exact hg
theorem own_ob {w : World} {base n d : Nat} {A : Option Addr} {a : Addr} {xs : List Value} (h : w.ownsRow base 3 1 (.slice A n d) n xs) (ha : A = some a) : (Value.slice A n d).ownBlock = some a.block := by
  rcases h.2 with ⟨hv, _⟩ | ⟨g, cap, cur, hv, hb, hg, _⟩
  · injection hv with h1; rw [h1] at ha; cases ha
  · injection hv with h1
    rw [h1] at ha ⊢
    injection ha with ha
    rw [← ha]
    rfl
theorem own_setn {w : World} {base n : Nat} {v : Value} {xs : List Value} (h : w.ownsRow base 3 1 v n xs) (p : Addr) (hne : v.ownBlock ≠ some p.block) (u : Value) : (w.setCell p u).ownsRow base 3 1 v n xs := h.kept (setBy w p u) (.inr hne)
theorem own5n {w : World} {base n b : Nat} {v : Value} {xs : List Value} (h : w.ownsRow base 3 1 v n xs) (hne : v.ownBlock ≠ some b) (u0 u1 u2 u3 u4 : Value) : (World.set5 w b u0 u1 u2 u3 u4).ownsRow base 3 1 v n xs :=
  own_setn (own_setn (own_setn (own_setn (own_setn h ⟨b, 0, none⟩ hne u0) ⟨b, 1, none⟩ hne u1) ⟨b, 2, none⟩ hne u2) ⟨b, 3, none⟩ hne u3) ⟨b, 4, none⟩ hne u4
/-- The cache of a call's own, its rows cloned, ahead of the run. -/
theorem fk_start {W wz : World} {c : Ca} {v2 v3 : Value} {Ap Am : Option Addr} {np nm : Nat} {zs : List Int} (hP : Blk5 wz W.heap.size (.int .i64 c.p) (.int .i64 c.s) v2 v3 (.int .i64 c.h)) (hs : W.heap.size + 1 + 1 ≤ wz.heap.size)
    (hp : wz.ownsRow (W.heap.size + 1 + 1) 3 1 (.slice Ap c.ps.length np) c.ps.length (ivs c.ps)) (hm : wz.ownsRow (W.heap.size + 1 + 1) 3 1 (.slice Am c.ms.length nm) c.ms.length (ivs c.ms)) (hd : Dis Ap Am) :
    FK W.heap.size (fun k => k = W.heap.size + 1) ((wz.setCell ⟨W.heap.size, 2, none⟩ (.slice Ap c.ps.length np)).setCell ⟨W.heap.size, 3, none⟩ (.slice Am c.ms.length nm)) (Q.runK c zs 0) := by
  have kp : ∀ {v : Value} {n : Nat} {xs : List Value}, wz.ownsRow (W.heap.size + 1 + 1) 3 1 v n xs → ((wz.setCell ⟨W.heap.size, 2, none⟩ (.slice Ap c.ps.length np)).setCell ⟨W.heap.size, 3, none⟩ (.slice Am c.ms.length nm)).ownsRow W.heap.size 3 1 v n xs := fun h =>
    own_down (own_lo (own_lo h ⟨W.heap.size, 2, none⟩ (by simp; omega) _) ⟨W.heap.size, 3, none⟩ (by simp; omega) _) (by omega)
  have np' : ∀ {v : Value} {n : Nat} {xs : List Value} (k : Nat), k < W.heap.size + 1 + 1 → wz.ownsRow (W.heap.size + 1 + 1) 3 1 v n xs → v.ownBlock ≠ some k := fun k hk h e => by have := (h.lt _ e).1; omega
  refine ⟨fun _ => none, .slice Ap c.ps.length np, .slice Am c.ms.length nm, ⟨(hP.set2 _).set3 _, Nat.le_refl _, by simp; omega, kp hp, kp hm, np' _ (by omega) hp, np' _ (by omega) hm, ?_, fun k o e => by cases e⟩, ?_⟩
  · intro g e e'
    obtain ⟨a, ha, rfl⟩ := ob_addr e
    obtain ⟨b, hb, hbe⟩ := ob_addr e'
    exact hd a b ha hb hbe.symm
  · rintro k rfl
    exact ⟨by simp; omega, by omega, np' _ (by omega) hp, np' _ (by omega) hm⟩
section
variable {W : World} {A B : Option Addr} {d e : Nat} {c : Ca}
set_option maxRecDepth 100000 in
set_option maxHeartbeats 3200000 in
theorem impRun_no (n : Int) (zs : List Int) (Rq : Option Addr) (q : Nat) (h : CaIn W A d B e c) (hl : c.ps.length ≤ 1048576) (hl2 : c.ms.length ≤ 1048576) (hz : zs.length ≤ 1048576) (hr : Law.Row W Rq (ivs zs)) (hno : ¬ (Q.okC n c ∧ Q.good n zs = true)) :
    Calls Try.prog 24 #[.int .i64 n, .agg #[.int .i64 c.p, .int .i64 c.s, .slice A c.ps.length d, .slice B c.ms.length e, .int .i64 c.h], .slice Rq zs.length q] W (runNo W) := by
  have HC := Lib.hid fun X (hb : Below W.heap.size W X) => impIsCache_any n (h.stays hb) hl hl2
  have HQ := Lib.hid fun X (hb : Below W.heap.size W X) => impIsReq_any n Rq q zs X hz (hr.stays hb)
  unfold isSays at HC
  unfold caV at HC
  unfold runNo
  clear h hr
  by_cases hk : Q.okC n c
  · rw [bo_true hk] at HC
    have hg : Q.good n zs = false := by
      cases hg : Q.good n zs
      · rfl
      · exact absurd ⟨hk, hg⟩ hno
    rw [hg] at HQ
    clear hk hno hg
    go_enter Try.func24, Try.ntmps24
    go_wp2_with fail
    have H2 := Lib.hid (al2 W (.cells #[.int .i64 c.p, .int .i64 c.s, .slice A c.ps.length d, .slice B c.ms.length e, .int .i64 c.h] 26) (.cells #[.int .i64 0, .int .i64 0, .slice none 0 0, .slice none 0 0, .int .i64 0] 26))
    generalize (W.alloc (.cells #[.int .i64 c.p, .int .i64 c.s, .slice A c.ps.length d, .slice B c.ms.length e, .int .i64 c.h] 26)).alloc (.cells #[.int .i64 0, .int .i64 0, .slice none 0 0, .slice none 0 0, .int .i64 0] 26) = X at H2 ⊢
    have P0 := Lib.hid (blk5_of H2.out.1)
    have R0 := Lib.hid (blk5_of H2.out.2.1)
    have L0 := Lib.hid H2.out.2.2.2
    have hs0 := H2.out.2.2.1
    clear H2
    obtain ⟨p0, p1, p2, p3, p4, _, _, _, _, _⟩ := P0.out
    go_wp2_with fail
    go_at_call 66
    refine (HC.out X L0.out).mono ?_
    rintro r w1 ⟨rfl, hb⟩
    have L1 := Lib.hid (L0.out.trans (hb.mono L0.out.size))
    have P1 := Lib.hid (P0.out.kept (hb.block _ (by omega)))
    have R1 := Lib.hid (R0.out.kept (hb.block _ (by omega)))
    have hs1 : W.heap.size + 1 + 1 ≤ w1.heap.size := by have := hb.size; omega
    clear hb p0 p1 p2 p3 p4
    go_wp2_with fail
    go_at_call 67
    refine (HQ.out _ L1.out).mono ?_
    rintro e w' ⟨rfl, hw'⟩
    obtain rfl := hw'.symm
    clear hw'
    obtain ⟨q0, q1, q2, q3, q4, q5, q6, q7, q8, q9⟩ := R1.out
    go_wp2
    exact ret_ca2 rfl rfl rfl (R1.out.all _ _ _ _ _) rfl rfl ⟨rfl, below5 L1.out (by omega) _ _ _ _ _⟩
  · rw [bo_false hk] at HC
    clear hk hno HQ
    go_enter Try.func24, Try.ntmps24
    go_wp2_with fail
    have H2 := Lib.hid (al2 W (.cells #[.int .i64 c.p, .int .i64 c.s, .slice A c.ps.length d, .slice B c.ms.length e, .int .i64 c.h] 26) (.cells #[.int .i64 0, .int .i64 0, .slice none 0 0, .slice none 0 0, .int .i64 0] 26))
    generalize (W.alloc (.cells #[.int .i64 c.p, .int .i64 c.s, .slice A c.ps.length d, .slice B c.ms.length e, .int .i64 c.h] 26)).alloc (.cells #[.int .i64 0, .int .i64 0, .slice none 0 0, .slice none 0 0, .int .i64 0] 26) = X at H2 ⊢
    have P0 := Lib.hid (blk5_of H2.out.1)
    have R0 := Lib.hid (blk5_of H2.out.2.1)
    have L0 := Lib.hid H2.out.2.2.2
    have hs0 := H2.out.2.2.1
    clear H2
    obtain ⟨p0, p1, p2, p3, p4, _, _, _, _, _⟩ := P0.out
    go_wp2_with fail
    go_at_call 66
    refine (HC.out X L0.out).mono ?_
    rintro r w1 ⟨rfl, hb⟩
    have L1 := Lib.hid (L0.out.trans (hb.mono L0.out.size))
    have P1 := Lib.hid (P0.out.kept (hb.block _ (by omega)))
    have R1 := Lib.hid (R0.out.kept (hb.block _ (by omega)))
    have hs1 : W.heap.size + 1 + 1 ≤ w1.heap.size := by have := hb.size; omega
    clear hb p0 p1 p2 p3 p4
    obtain ⟨q0, q1, q2, q3, q4, q5, q6, q7, q8, q9⟩ := R1.out
    go_wp2
    exact ret_ca2 rfl rfl rfl (R1.out.all _ _ _ _ _) rfl rfl ⟨rfl, below5 L1.out (by omega) _ _ _ _ _⟩
set_option maxRecDepth 100000 in
set_option maxHeartbeats 3200000 in
theorem impRun_yes (n : Int) (zs : List Int) (Rq : Option Addr) (q : Nat) (h : CaIn W A d B e c) (hok : Q.okC n c) (hg : Q.good n zs = true) (hr : Law.Row W Rq (ivs zs)) :
    Calls Try.prog 24 #[.int .i64 n, .agg #[.int .i64 c.p, .int .i64 c.s, .slice A c.ps.length d, .slice B c.ms.length e, .int .i64 c.h], .slice Rq zs.length q] W (runYes (Q.runK c zs zs.length) (Q.fltK c zs zs.length).length W) := by
  have hgi := Q.good_iff.1 hg
  have hl6 : c.ps.length ≤ 6 := by have := hok.2.2.1; have := hok.2.2.2.1; omega
  have hm6 : c.ms.length ≤ 6 := by
    have h7 := ((okC_iff n c).1 hok).2.2.2.2.2.2.1
    unfold marksP at h7
    split at h7
    · omega
    · split at h7
      · omega
      · rw [h7]; exact Nat.zero_le _
  have HC := Lib.hid fun X (hb : Below W.heap.size W X) => impIsCache_any n (h.stays hb) (by omega) (by omega)
  have HQ := Lib.hid fun X (hb : Below W.heap.size W X) => impIsReq_any n Rq q zs X (by omega) (hr.stays hb)
  have HK1 := Lib.hid fun X (hb : Below W.heap.size W X) => clone_row (c := d) (h.1.2.2.stays hb) (by omega)
  have HK2 := Lib.hid fun X (hb : Below W.heap.size W X) => clone_row (c := e) (h.2.2.2.stays hb) (by omega)
  have HOK := Lib.hid fun k => Q.run_ok hok hgi.2.2 k
  have HR := Lib.hid hr
  have h3 := hgi.2.1
  unfold isSays at HC
  rw [bo_true hok] at HC
  rw [hg] at HQ
  unfold caV at HC
  clear h hr hok hg hgi
  go_enter Try.func24, Try.ntmps24
  go_wp2_with fail
  have H2 := Lib.hid (al2 W (.cells #[.int .i64 c.p, .int .i64 c.s, .slice A c.ps.length d, .slice B c.ms.length e, .int .i64 c.h] 26) (.cells #[.int .i64 0, .int .i64 0, .slice none 0 0, .slice none 0 0, .int .i64 0] 26))
  generalize (W.alloc (.cells #[.int .i64 c.p, .int .i64 c.s, .slice A c.ps.length d, .slice B c.ms.length e, .int .i64 c.h] 26)).alloc (.cells #[.int .i64 0, .int .i64 0, .slice none 0 0, .slice none 0 0, .int .i64 0] 26) = X at H2 ⊢
  have P0 := Lib.hid (blk5_of H2.out.1)
  have R0 := Lib.hid (blk5_of H2.out.2.1)
  have L0 := Lib.hid H2.out.2.2.2
  have hs0 := H2.out.2.2.1
  clear H2
  obtain ⟨p0, p1, p2, p3, p4, _, _, _, _, _⟩ := P0.out
  go_wp2_with fail
  go_at_call 66
  refine (HC.out X L0.out).mono ?_
  rintro r w1 ⟨rfl, hb⟩
  have L1 := Lib.hid (L0.out.trans (hb.mono L0.out.size))
  have P1 := Lib.hid (P0.out.kept (hb.block _ (by omega)))
  have R1 := Lib.hid (R0.out.kept (hb.block _ (by omega)))
  have hs1 : W.heap.size + 1 + 1 ≤ w1.heap.size := by have := hb.size; omega
  clear hb p0 p1 p2 p3 p4
  go_wp2_with fail
  go_at_call 67
  refine (HQ.out _ L1.out).mono ?_
  rintro e w' ⟨rfl, hw'⟩
  obtain rfl := hw'.symm
  clear hw'
  obtain ⟨p0, p1, p2, p3, p4, p5, p6, p7, p8, p9⟩ := P1.out
  go_wp2_with fail
  go_region_law ((first
    | (go_simp; go_at_call 68; refine (HK1.out _ L1.out.drew).mono ?_; rintro r wp ⟨vp, rfl, hop, hb⟩; obtain ⟨Ap, np, rfl, _, _, _⟩ := Law.own_len hop; have hb := ((Below.refl w1.heap.size w1).drew).trans hb; have Lp := Lib.hid (L1.out.trans (hb.mono L1.out.size)); have Pp := Lib.hid (P1.out.kept (hb.block _ (by omega))); have Rp := Lib.hid (R1.out.kept (hb.block _ (by omega))); have Op := Lib.hid (own_down (base' := W.heap.size + 1 + 1) hop hs1); have hsp : W.heap.size + 1 + 1 ≤ wp.heap.size := Nat.le_trans hs1 hb.size; obtain ⟨t0, t1, t2, t3, t4, t5, t6, t7, t8, t9⟩ := Pp.out; clear hb hop)
    | (go_simp; go_at_call 68; refine (HK2.out _ L1.out.drew).mono ?_; rintro r wm ⟨vm, rfl, hom, hb⟩; obtain ⟨Am, nm, rfl, _, _, _⟩ := Law.own_len hom; have hb := ((Below.refl w1.heap.size w1).drew).trans hb; have Lm := Lib.hid (L1.out.trans (hb.mono L1.out.size)); have Pm := Lib.hid (P1.out.kept (hb.block _ (by omega))); have Rm := Lib.hid (R1.out.kept (hb.block _ (by omega))); have Om := Lib.hid (own_down (base' := W.heap.size + 1 + 1) hom hs1); have hsm : W.heap.size + 1 + 1 ≤ wm.heap.size := Nat.le_trans hs1 hb.size; obtain ⟨t0, t1, t2, t3, t4, t5, t6, t7, t8, t9⟩ := Pm.out; clear hb hom)
    | (go_simp; go_at_call 68; refine (HK1.out _ Lm.out).mono ?_; rintro r wz ⟨vp, rfl, hop, hb⟩; obtain ⟨Ap, np, rfl, _, _, _⟩ := Law.own_len hop; have L2 := Lib.hid (Lm.out.trans (hb.mono Lm.out.size)); have P2 := Lib.hid (Pm.out.kept (hb.block _ (by omega))); have R2 := Lib.hid (Rm.out.kept (hb.block _ (by omega))); have Op2 := Lib.hid (own_down (base' := W.heap.size + 1 + 1) hop hsm); have Om2 := Lib.hid (own_past Om.out hb); have D2 : Hid (Dis Ap Am) := Lib.hid (fun a b ha hb' => by (have h1 := (In.of hop _ ha).1; have h2 := (In.of Om.out _ hb').2; omega)); have hs2 : W.heap.size + 1 + 1 ≤ wz.heap.size := Nat.le_trans hsm hb.size; obtain ⟨q0, q1, q2, q3, q4, q5, q6, q7, q8, q9⟩ := P2.out; clear hb hop)
    | (go_simp; go_at_call 68; refine (HK2.out _ Lp.out).mono ?_; rintro r wz ⟨vm, rfl, hom, hb⟩; obtain ⟨Am, nm, rfl, _, _, _⟩ := Law.own_len hom; have L2 := Lib.hid (Lp.out.trans (hb.mono Lp.out.size)); have P2 := Lib.hid (Pp.out.kept (hb.block _ (by omega))); have R2 := Lib.hid (Rp.out.kept (hb.block _ (by omega))); have Om2 := Lib.hid (own_down (base' := W.heap.size + 1 + 1) hom hsp); have Op2 := Lib.hid (own_past Op.out hb); have D2 : Hid (Dis Ap Am) := Lib.hid (fun a b ha hb' => by (have h1 := (In.of hom _ hb').1; have h2 := (In.of Op.out _ ha).2; omega)); have hs2 : W.heap.size + 1 + 1 ≤ wz.heap.size := Nat.le_trans hsp hb.size; obtain ⟨q0, q1, q2, q3, q4, q5, q6, q7, q8, q9⟩ := P2.out; clear hb hom)))
  all_goals
    have HFK : Hid (FK W.heap.size (fun k => k = W.heap.size + 1) ((wz.setCell ⟨W.heap.size, 2, none⟩ (.slice Ap c.ps.length np)).setCell ⟨W.heap.size, 3, none⟩ (.slice Am c.ms.length nm)) (Q.runK c zs 0)) := Lib.hid (fk_start P2.out hs2 Op2.out Om2.out D2.out)
    have HRZ : Hid (Blk5 ((wz.setCell ⟨W.heap.size, 2, none⟩ (.slice Ap c.ps.length np)).setCell ⟨W.heap.size, 3, none⟩ (.slice Am c.ms.length nm)) (W.heap.size + 1) (.int .i64 0) (.int .i64 0) (.slice none 0 0) (.slice none 0 0) (.int .i64 0)) := Lib.hid ((R2.out.other _ (by simp) _).other _ (by simp) _)
    have HLZ : Hid (Below W.heap.size W ((wz.setCell ⟨W.heap.size, 2, none⟩ (.slice Ap c.ps.length np)).setCell ⟨W.heap.size, 3, none⟩ (.slice Am c.ms.length nm))) := Lib.hid ((L2.out.setCell (p := ⟨W.heap.size, 2, none⟩) (Nat.le_refl _) _).setCell (p := ⟨W.heap.size, 3, none⟩) (Nat.le_refl _) _)
    go_wp2_with fail
    generalize (wz.setCell ⟨W.heap.size, 2, none⟩ (.slice Ap c.ps.length np)).setCell ⟨W.heap.size, 3, none⟩ (.slice Am c.ms.length nm) = wy at HFK HRZ HLZ ⊢
    clear q0 q1 q2 q3 q4 q5 q6 q7 q8 q9
    go_loopw [9, 33] (fun f i wr => ∃ k : Nat, k ≤ zs.length ∧ i = .int .i64 k ∧ f = .int .i64 ((Q.fltK c zs k).length : Nat) ∧ Hid (FK W.heap.size (fun k => k = W.heap.size + 1) wr (Q.runK c zs k)) ∧ Hid (Blk5 wr (W.heap.size + 1) (.int .i64 0) (.int .i64 0) (.slice none 0 0) (.slice none 0 0) (.int .i64 0)) ∧ Hid (Below W.heap.size W wr)) (fun _ i _ => zs.length - (intOf i).toNat)
    case atStart => exact ⟨0, Nat.zero_le _, rfl, rfl, HFK, HRZ, HLZ⟩
    case round =>
      obtain ⟨k, hk, rfl, rfl, hfb, hz, hb⟩ := hrel
      by_cases hlt : k < zs.length
      · have hltI : (k : Int) < (zs.length : Int) := by omega
        obtain ⟨x, hx⟩ : ∃ x, zs[k]? = some x := ⟨_, List.getElem?_eq_getElem hlt⟩
        obtain ⟨bb, off, rfl, hbl, hc⟩ := (HR.out.stays hb.out).at_ (ivs_some hx)
        have hrk := Q.runK_succ c hx
        have hf1 := Q.fltK_hit c hx
        have hf2 := Q.fltK_no c hx
        have hfl := Q.fltK_len c zs k
        have hReq := hfb.out.request (x := x) (HOK.out k)
        generalize Q.runK c zs k = ck at *
        generalize Q.fltK c zs k = fk at *
        have HRK : Hid (Q.runK c zs (k + 1) = Q.stepC ck x) := Lib.hid hrk
        clear hx hrk hfb
        by_cases hm : x ∈ ck.ps
        · have HFk := Lib.hid (hf1 hm)
          rw [show decide (x ∉ ck.ps) = false by simpa using hm] at hReq
          have HRq := Lib.hid hReq
          clear hf1 hf2 hm hReq
          go_wp2_with fail
          go_at_call 69
          refine HRq.out.mono ?_
          rintro r w9 ⟨rfl, hfb2, hk2, hb2⟩
          have HFB := Lib.hid hfb2
          have HZ9 := Lib.hid (hz.out.kept (hk2 _ rfl))
          have HB9 := Lib.hid (hb.out.trans hb2)
          clear hfb2 hk2 hb2
          go_wp2
          go_roundw
          case rel => exact ⟨k + 1, by omega, by go_num, by rw [HFk.out], (by rw [HRK.out]; exact HFB), HZ9, HB9⟩
          case measure => simp [intOf]; omega
        · have HFk := Lib.hid (hf2 hm)
          rw [show decide (x ∉ ck.ps) = true by simpa using hm] at hReq
          have HRq := Lib.hid hReq
          clear hf1 hf2 hm hReq
          go_wp2_with fail
          go_at_call 69
          refine HRq.out.mono ?_
          rintro r w9 ⟨rfl, hfb2, hk2, hb2⟩
          have HFB := Lib.hid hfb2
          have HZ9 := Lib.hid (hz.out.kept (hk2 _ rfl))
          have HB9 := Lib.hid (hb.out.trans hb2)
          clear hfb2 hk2 hb2
          go_wp2
          go_roundw
          case rel => exact ⟨k + 1, by omega, by go_num, (by rw [HFk.out, List.length_append]; go_num), (by rw [HRK.out]; exact HFB), HZ9, HB9⟩
          case measure => simp [intOf]; omega
      · have hke : k = zs.length := by omega
        have hltI : ¬ (k : Int) < (zs.length : Int) := by omega
        subst hke
        obtain ⟨Z, vp, vm, hcb, hd⟩ := hfb.out.ex
        have HD := Lib.hid (hd _ rfl)
        obtain ⟨A9, n9, rfl, _, _, _⟩ := Law.own_len hcb.op
        obtain ⟨B9, m9, rfl, _, _, _⟩ := Law.own_len hcb.om
        have HCB := Lib.hid hcb
        obtain ⟨c0, c1, c2, c3, c4, _, _, _, _, _⟩ := hcb.blk
        obtain ⟨z0, z1, z2, z3, z4, z5, z6, z7, z8, z9⟩ := hz.out
        clear hcb hd hfb
        go_wp2
        refine ret_ca2 rfl rfl rfl (hz.out.all _ _ _ _ _) rfl rfl ⟨A9, n9, B9, m9, rfl, own5n HCB.out.op HD.out.2.2.1 _ _ _ _ _, own5n HCB.out.om HD.out.2.2.2 _ _ _ _ _, ?_, below5 hb.out (by omega) _ _ _ _ _⟩
        exact fun a b ha hb' e => HCB.out.ne _ (own_ob HCB.out.op ha) (by rw [e]; exact own_ob HCB.out.om hb')
end
end Go.Proofs.Ytdjafooabpcbmaa
