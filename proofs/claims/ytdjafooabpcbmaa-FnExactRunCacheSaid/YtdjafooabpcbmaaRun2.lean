/-
  RunCache: the model's.
-/
import Derived.Test.YtdjafooabpcbmaaStp3
namespace Go.Proofs.Ytdjafooabpcbmaa
open Go.RowKit
set_option linter.unusedVariables false
def spGives3 (c' : Ca) (f : Nat) (ok : Bool) (W : World) (r : Ending) (W' : World) : Prop := ∃ A d B e, r = .returned (.tuple #[caV c' A d B e, .int .i64 (f : Int), .bool ok]) ∧ CaIn W' A d B e c' ∧ Below W.heap.size W W'
def imGives3 (c' : Ca) (f : Nat) (ok : Bool) (W : World) (r : Ending) (W' : World) : Prop := ∃ A d B e, r = .returned (.tuple #[caV c' A d B e, .int .i64 (f : Int), .bool ok]) ∧ W'.ownsRow W.heap.size 3 1 (.slice A c'.ps.length d) c'.ps.length (ivs c'.ps) ∧ W'.ownsRow W.heap.size 3 1 (.slice B c'.ms.length e) c'.ms.length (ivs c'.ms) ∧ Dis A B ∧ Below W.heap.size W W'
noncomputable def runOk (n : Int) (c : Ca) (zs : List Int) : Bool := bo (Q.okC n c ∧ Q.good n zs = true)
noncomputable def runC (n : Int) (c : Ca) (zs : List Int) : Ca := match runOk n c zs with
  | true => Q.runK c zs zs.length
  | false => zeroC
noncomputable def runF (n : Int) (c : Ca) (zs : List Int) : Nat := match runOk n c zs with
  | true => (Q.fltK c zs zs.length).length
  | false => 0
section
variable {W : World} {A B : Option Addr} {d e : Nat} {c : Ca}
theorem impRun_all (n : Int) (zs : List Int) (Rq : Option Addr) (q : Nat) (h : CaIn W A d B e c) (hl : c.ps.length ≤ 1048576) (hl2 : c.ms.length ≤ 1048576) (hz : zs.length ≤ 1048576) (hr : Law.Row W Rq (ivs zs)) :
    Calls Try.prog 24 #[.int .i64 n, .agg #[.int .i64 c.p, .int .i64 c.s, .slice A c.ps.length d, .slice B c.ms.length e, .int .i64 c.h], .slice Rq zs.length q] W (imGives3 (runC n c zs) (runF n c zs) (runOk n c zs) W) := by
  unfold imGives3 runC runF
  by_cases hy : Q.okC n c ∧ Q.good n zs = true
  · rw [show runOk n c zs = true from bo_true hy]
    exact impRun_yes n zs Rq q h hy.1 hy.2 hr
  · rw [show runOk n c zs = false from bo_false hy]
    refine (impRun_no n zs Rq q h hl hl2 hz hr hy).mono ?_
    rintro r W' ⟨rfl, hb⟩
    exact ⟨none, 0, none, 0, rfl, ⟨rfl, .inl ⟨rfl, rfl⟩⟩, ⟨rfl, .inl ⟨rfl, rfl⟩⟩, (fun a b h => by cases h), hb⟩
set_option maxRecDepth 100000 in
set_option maxHeartbeats 3200000 in
theorem specRun_all (n : Int) (zs : List Int) (Rq : Option Addr) (q : Nat) (h : CaIn W A d B e c) (hl : c.ps.length ≤ 1048576) (hl2 : c.ms.length ≤ 1048576) (hz : zs.length ≤ 1048576) (hr : Law.Row W Rq (ivs zs)) :
    Calls Try.prog 22 #[.int .i64 n, .agg #[.int .i64 c.p, .int .i64 c.s, .slice A c.ps.length d, .slice B c.ms.length e, .int .i64 c.h], .slice Rq zs.length q] W (spGives3 (runC n c zs) (runF n c zs) (runOk n c zs) W) := by
  have HC := Lib.hid fun X (hb : Below W.heap.size W X) => l4Good_any n (h.stays hb) hl hl2
  have HQ := Lib.hid fun X (hb : Below W.heap.size W X) => l3Good_any n Rq q zs X hz (hr.stays hb)
  unfold isSays at HC
  unfold caV at HC
  unfold spGives3 runC runF
  by_cases hk : Q.okC n c
  · rw [bo_true hk] at HC
    cases hg : Q.good n zs
    · rw [show runOk n c zs = false from bo_false fun h => by rw [h.2] at hg; cases hg]
      rw [hg] at HQ
      clear h hk hg hr
      go_enter Try.func22, Try.ntmps22
      go_wp2_with fail
      have H2 := Lib.hid (al2 W (.cells #[.int .i64 c.p, .int .i64 c.s, .slice A c.ps.length d, .slice B c.ms.length e, .int .i64 c.h] 26) (.cells #[.int .i64 0, .int .i64 0, .slice none 0 0, .slice none 0 0, .int .i64 0] 26))
      generalize (W.alloc (.cells #[.int .i64 c.p, .int .i64 c.s, .slice A c.ps.length d, .slice B c.ms.length e, .int .i64 c.h] 26)).alloc (.cells #[.int .i64 0, .int .i64 0, .slice none 0 0, .slice none 0 0, .int .i64 0] 26) = X at H2 ⊢
      have P0 := Lib.hid (blk5_of H2.out.1)
      have R0 := Lib.hid (blk5_of H2.out.2.1)
      have L0 := Lib.hid H2.out.2.2.2
      have hs0 := H2.out.2.2.1
      clear H2
      obtain ⟨p0, p1, p2, p3, p4, _, _, _, _, _⟩ := P0.out
      go_wp2_with fail
      go_at_call 59
      refine (HC.out X L0.out).mono ?_
      rintro r w1 ⟨rfl, hb⟩
      have L1 := Lib.hid (L0.out.trans (hb.mono L0.out.size))
      have P1 := Lib.hid (P0.out.kept (hb.block _ (by omega)))
      have R1 := Lib.hid (R0.out.kept (hb.block _ (by omega)))
      have hs1 : W.heap.size + 1 + 1 ≤ w1.heap.size := by have := hb.size; omega
      clear hb p0 p1 p2 p3 p4
      go_wp2_with fail
      go_at_call 63
      refine (HQ.out _ L1.out).mono ?_
      rintro e w' ⟨rfl, hw'⟩
      obtain rfl := hw'.symm
      clear hw'
      obtain ⟨q0, q1, q2, q3, q4, q5, q6, q7, q8, q9⟩ := R1.out
      go_wp2
      exact ret_ca2 rfl rfl rfl (R1.out.all _ _ _ _ _) rfl rfl ⟨none, 0, none, 0, rfl, in_zero _, below5 L1.out (by omega) _ _ _ _ _⟩
    · rw [show runOk n c zs = true from bo_true ⟨hk, hg⟩]
      rw [hg] at HQ
      have hgi := Q.good_iff.1 hg
      have hl6 := ok_len (Q.run_ok hk hgi.2.2 zs.length)
      have hRun := fun X (hb : Below W.heap.size W X) => l4Run_any (q := q) (h.stays hb) hk zs hgi.2.2 hgi.2.1 (hr.stays hb)
      have hPl := fun X (hb : Below W.heap.size W X) => l4Places_any (q := q) (h.stays hb) hk zs hgi.2.2 hgi.2.1 (hr.stays hb)
      have hCp := fun X A' d' B' e' (hX : CaIn X A' d' B' e' (Q.runK c zs zs.length)) => l4Copy_any hX (by omega) (by omega)
      have HF : Hid (Q.flt c zs = Q.fltK c zs zs.length) := Lib.hid rfl
      rw [HF.out] at hPl
      unfold givesCa at hRun
      unfold toCaGives at hCp
      unfold caV at hRun hPl hCp
      have HRun := Lib.hid hRun
      have HPl := Lib.hid hPl
      have HCp := Lib.hid hCp
      clear h hk hg hr hRun hPl hCp hgi hl6 HF
      show Calls _ _ _ _ _
      generalize Q.runK c zs zs.length = c1 at HRun HCp ⊢
      generalize Q.fltK c zs zs.length = fl at HPl ⊢
      go_enter Try.func22, Try.ntmps22
      go_wp2_with fail
      have H2 := Lib.hid (al2 W (.cells #[.int .i64 c.p, .int .i64 c.s, .slice A c.ps.length d, .slice B c.ms.length e, .int .i64 c.h] 26) (.cells #[.int .i64 0, .int .i64 0, .slice none 0 0, .slice none 0 0, .int .i64 0] 26))
      generalize (W.alloc (.cells #[.int .i64 c.p, .int .i64 c.s, .slice A c.ps.length d, .slice B c.ms.length e, .int .i64 c.h] 26)).alloc (.cells #[.int .i64 0, .int .i64 0, .slice none 0 0, .slice none 0 0, .int .i64 0] 26) = X at H2 ⊢
      have P0 := Lib.hid (blk5_of H2.out.1)
      have R0 := Lib.hid (blk5_of H2.out.2.1)
      have L0 := Lib.hid H2.out.2.2.2
      have hs0 := H2.out.2.2.1
      clear H2
      obtain ⟨p0, p1, p2, p3, p4, _, _, _, _, _⟩ := P0.out
      go_wp2_with fail
      go_at_call 59
      refine (HC.out X L0.out).mono ?_
      rintro r w1 ⟨rfl, hb⟩
      have L1 := Lib.hid (L0.out.trans (hb.mono L0.out.size))
      have P1 := Lib.hid (P0.out.kept (hb.block _ (by omega)))
      have R1 := Lib.hid (R0.out.kept (hb.block _ (by omega)))
      have hs1 : W.heap.size + 1 + 1 ≤ w1.heap.size := by have := hb.size; omega
      clear hb p0 p1 p2 p3 p4
      go_wp2_with fail
      go_at_call 63
      refine (HQ.out _ L1.out).mono ?_
      rintro e w' ⟨rfl, hw'⟩
      obtain rfl := hw'.symm
      clear hw'
      have Lx : Hid (Below W.heap.size W w1.drew) := Lib.hid L1.out.drew
      have Px : Hid (Blk5 w1.drew W.heap.size (.int .i64 c.p) (.int .i64 c.s) (.slice A c.ps.length d) (.slice B c.ms.length e) (.int .i64 c.h)) := Lib.hid (P1.out.kept rfl)
      have Rx : Hid (Blk5 w1.drew (W.heap.size + 1) (.int .i64 0) (.int .i64 0) (.slice none 0 0) (.slice none 0 0) (.int .i64 0)) := Lib.hid (R1.out.kept rfl)
      have hsx : W.heap.size + 1 + 1 ≤ w1.drew.heap.size := hs1
      obtain ⟨p0, p1, p2, p3, p4, _, _, _, _, _⟩ := P1.out
      go_wp2_with fail
      go_region_law ((first
        | (go_simp; go_at_call 64; refine (HRun.out _ Lx.out).mono ?_; rintro r w2 ⟨A2, d2, B2, e2, rfl, hI2, hb⟩; have Lx := Lib.hid (Lx.out.trans (hb.mono Lx.out.size)); have Px := Lib.hid (Px.out.kept (hb.block _ (by omega))); have Rx := Lib.hid (Rx.out.kept (hb.block _ (by omega))); have hsx := Nat.le_trans hsx hb.size; have CR := Lib.hid hI2; clear hb hI2; obtain ⟨t0, t1, t2, t3, t4, _, _, _, _, _⟩ := Px.out; obtain ⟨q0, q1, q2, q3, q4, q5, q6, q7, q8, q9⟩ := Rx.out)
        | (go_simp; go_at_call 61; refine (HCp.out _ A2 d2 B2 e2 CR.out).mono ?_; rintro r w3 ⟨A3, d3, B3, e3, rfl, ho3, hm3, hb⟩; have Lx := Lib.hid (Lx.out.trans (hb.mono Lx.out.size)); have Px := Lib.hid (Px.out.kept (hb.block _ (by omega))); have Rx := Lib.hid (Rx.out.kept (hb.block _ (by omega))); have hsx := Nat.le_trans hsx hb.size; have O3 := Lib.hid (own_down (base' := W.heap.size + 1 + 1) ho3 (by first | exact hsx0 | omega)); have M3 := Lib.hid (own_down (base' := W.heap.size + 1 + 1) hm3 (by first | exact hsx0 | omega)); clear hb ho3 hm3; obtain ⟨t0, t1, t2, t3, t4, _, _, _, _, _⟩ := Px.out; obtain ⟨q0, q1, q2, q3, q4, q5, q6, q7, q8, q9⟩ := Rx.out)
        | (go_simp; go_at_call 65; refine (HPl.out _ Lx.out).mono ?_; rintro r w4 ⟨v4, rfl, ho4, hb⟩; obtain ⟨A4, d4, rfl, _, _, _⟩ := Law.own_len ho4; (try have CR := Lib.hid (CR.out.stays hb)); (try have O3 := Lib.hid (own_past O3.out hb)); (try have M3 := Lib.hid (own_past M3.out hb)); have Lx := Lib.hid (Lx.out.trans (hb.mono Lx.out.size)); have Px := Lib.hid (Px.out.kept (hb.block _ (by omega))); have Rx := Lib.hid (Rx.out.kept (hb.block _ (by omega))); have hsx := Nat.le_trans hsx hb.size; clear hb ho4; obtain ⟨t0, t1, t2, t3, t4, _, _, _, _, _⟩ := Px.out; obtain ⟨q0, q1, q2, q3, q4, q5, q6, q7, q8, q9⟩ := Rx.out)))
      all_goals
        go_wp2
        obtain ⟨_, _, hv1, hcp1, hcm1, _⟩ := Law.own_len O3.out
        cases hv1
        obtain ⟨_, _, hv2, hcp2, hcm2, _⟩ := Law.own_len M3.out
        cases hv2
        exact ret_ca2 rfl rfl rfl (Rx.out.all _ _ _ _ _) rfl rfl ⟨A3, d3, B3, e3, rfl, ⟨⟨hcp1, hcm1, Law.Row.own (own5 O3.out (by omega) _ _ _ _ _)⟩, hcp2, hcm2, Law.Row.own (own5 M3.out (by omega) _ _ _ _ _)⟩, below5 Lx.out (by omega) _ _ _ _ _⟩
  · rw [show runOk n c zs = false from bo_false fun h => hk h.1]
    rw [bo_false hk] at HC
    clear h hk hr HQ
    go_enter Try.func22, Try.ntmps22
    go_wp2_with fail
    have H2 := Lib.hid (al2 W (.cells #[.int .i64 c.p, .int .i64 c.s, .slice A c.ps.length d, .slice B c.ms.length e, .int .i64 c.h] 26) (.cells #[.int .i64 0, .int .i64 0, .slice none 0 0, .slice none 0 0, .int .i64 0] 26))
    generalize (W.alloc (.cells #[.int .i64 c.p, .int .i64 c.s, .slice A c.ps.length d, .slice B c.ms.length e, .int .i64 c.h] 26)).alloc (.cells #[.int .i64 0, .int .i64 0, .slice none 0 0, .slice none 0 0, .int .i64 0] 26) = X at H2 ⊢
    have P0 := Lib.hid (blk5_of H2.out.1)
    have R0 := Lib.hid (blk5_of H2.out.2.1)
    have L0 := Lib.hid H2.out.2.2.2
    have hs0 := H2.out.2.2.1
    clear H2
    obtain ⟨p0, p1, p2, p3, p4, _, _, _, _, _⟩ := P0.out
    go_wp2_with fail
    go_at_call 59
    refine (HC.out X L0.out).mono ?_
    rintro r w1 ⟨rfl, hb⟩
    have L1 := Lib.hid (L0.out.trans (hb.mono L0.out.size))
    have P1 := Lib.hid (P0.out.kept (hb.block _ (by omega)))
    have R1 := Lib.hid (R0.out.kept (hb.block _ (by omega)))
    have hs1 : W.heap.size + 1 + 1 ≤ w1.heap.size := by have := hb.size; omega
    clear hb p0 p1 p2 p3 p4
    obtain ⟨q0, q1, q2, q3, q4, q5, q6, q7, q8, q9⟩ := R1.out
    go_wp2
    exact ret_ca2 rfl rfl rfl (R1.out.all _ _ _ _ _) rfl rfl ⟨none, 0, none, 0, rfl, in_zero _, below5 L1.out (by omega) _ _ _ _ _⟩
end
end Go.Proofs.Ytdjafooabpcbmaa
