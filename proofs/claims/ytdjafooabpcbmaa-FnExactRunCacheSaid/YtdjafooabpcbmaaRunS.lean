/-
  The model's RunCache and StepCache.
-/
import Derived.Test.YtdjafooabpcbmaaMsb
import Derived.Test.YtdjafooabpcbmaaCaL
import Derived.Test.YtdjafooabpcbmaaGos2
import Derived.Test.YtdjafooabpcbmaaRunI
namespace Go.Proofs.Ytdjafooabpcbmaa
open Go.RowKit
set_option linter.unusedVariables false
/-- What a call says that gives a cache by value. -/
def givesCa (c' : Ca) (W : World) (r : Ending) (W' : World) : Prop := ∃ A d B e, r = .returned (caV c' A d B e) ∧ CaIn W' A d B e c' ∧ Below W.heap.size W W'
/-- .. the model's run. -/
def runYesS (c' : Ca) (f : Nat) (W : World) (r : Ending) (W' : World) : Prop := ∃ A d B e, r = .returned (.tuple #[caV c' A d B e, .int .i64 (f : Int), .bool true]) ∧ CaIn W' A d B e c' ∧ Below W.heap.size W W'
/-- A copy: rows of its own. -/
def toCaGives (c' : Ca) (W : World) (r : Ending) (W' : World) : Prop := ∃ A d B e, r = .returned (caV c' A d B e) ∧ W'.ownsRow W.heap.size 3 1 (.slice A c'.ps.length d) c'.ps.length (ivs c'.ps) ∧ W'.ownsRow W.heap.size 3 1 (.slice B c'.ms.length e) c'.ms.length (ivs c'.ms) ∧ Below W.heap.size W W'
theorem row_aw {W w : World} {A : Option Addr} {zs : List Int} (hr : Law.Row W A (ivs zs)) {k : Nat} (hk : W.heap.size ≤ k) : Aw (some k) A zs := fun hz a e e' => by
  obtain ⟨b, off, e2, hb, _⟩ := hr (fun h0 => hz (by simpa [ivs] using h0))
  rw [e] at e2
  injection e2 with e2
  injection e' with e'
  rw [e2] at e'
  simp only [] at e'
  omega
section
variable {W : World} {A B : Option Addr} {d e : Nat} {c : Ca}
set_option maxRecDepth 100000 in
set_option maxHeartbeats 3200000 in
theorem l4Run_any {n : Int} {R : Option Addr} {q : Nat} (h : CaIn W A d B e c) (hok : Q.okC n c) (zs : List Int) (hz : ∀ z ∈ zs, 0 ≤ z ∧ z ≤ n - 1) (h3 : zs.length ≤ 60) (hr : Law.Row W R (ivs zs)) :
    Calls Try.prog 64 #[caV c A d B e, .slice R zs.length q] W (givesCa (Q.runK c zs zs.length) W) := by
  have HR := Lib.hid hr
  have HOK := Lib.hid fun k => Q.run_ok hok hz k
  have HI := Lib.hid h
  unfold caV
  clear h hok hz hr
  go_enter Try.func64, Try.ntmps64
  go_wp2_with fail
  have H2 := Lib.hid (al2 W (.cells #[.int .i64 c.p, .int .i64 c.s, .slice A c.ps.length d, .slice B c.ms.length e, .int .i64 c.h] 26) (.cells #[.int .i64 0, .int .i64 0, .slice none 0 0, .slice none 0 0, .int .i64 0] 26))
  generalize (W.alloc (.cells #[.int .i64 c.p, .int .i64 c.s, .slice A c.ps.length d, .slice B c.ms.length e, .int .i64 c.h] 26)).alloc (.cells #[.int .i64 0, .int .i64 0, .slice none 0 0, .slice none 0 0, .int .i64 0] 26) = X at H2 ⊢
  go_loopw [5] (fun i wr => ∃ (k : Nat) (A' : Option Addr) (d' : Nat) (B' : Option Addr) (e' : Nat), k ≤ zs.length ∧ i = .int .i64 k ∧ W.heap.size + 1 + 1 ≤ wr.heap.size ∧ Hid (CbIn W.heap.size wr (.slice (some ⟨W.heap.size + 1, 0, none⟩) 0 0) A' d' B' e' (Q.runK c zs k)) ∧ Hid (Blk5 wr (W.heap.size + 1) (.int .i64 0) (.int .i64 0) (.slice none 0 0) (.slice none 0 0) (.int .i64 0)) ∧ Hid (Below W.heap.size W wr)) (fun i _ => zs.length - (intOf i).toNat)
  case atStart =>
    have h2 := H2.out
    refine ⟨0, A, d, B, e, Nat.zero_le _, rfl, by omega, Lib.hid ⟨blk5_of h2.1, HI.out.stays h2.2.2.2, row_aw (w := W) HI.out.1.2.2 (Nat.le_refl _), row_aw (w := W) HI.out.2.2.2 (Nat.le_refl _), row_aw (w := W) (k := W.heap.size + 1) HI.out.1.2.2 (by omega), row_aw (w := W) (k := W.heap.size + 1) HI.out.2.2.2 (by omega), by omega⟩, Lib.hid (blk5_of h2.2.1), Lib.hid h2.2.2.2⟩
  case round =>
    obtain ⟨k, A', d', B', e', hk, rfl, hsz, hcb, hz, hb⟩ := hrel
    by_cases hlt : k < zs.length
    · have hltI : (k : Int) < (zs.length : Int) := by omega
      obtain ⟨x, hx⟩ : ∃ x, zs[k]? = some x := ⟨_, List.getElem?_eq_getElem hlt⟩
      obtain ⟨b, off, rfl, hbl, hc⟩ := (HR.out.stays hb.out).at_ (ivs_some hx)
      have hokk := HOK.out k
      have hrk := Q.runK_succ c hx
      generalize Q.runK c zs k = ck at *
      have hSt := fun X (hX : CaIn X A' d' B' e' ck) => l4Step_any (x := x) hX hokk
      unfold caV at hSt
      have HSt := Lib.hid hSt
      have HRK : Hid (Q.runK c zs (k + 1) = Q.stepC ck x) := Lib.hid hrk
      clear hSt hokk hrk hx
      generalize Q.stepC ck x = c1 at HSt HRK
      obtain ⟨p0, p1, p2, p3, p4, _, _, _, _, _⟩ := hcb.out.blk
      go_wp2_with fail
      go_region_law ((go_simp; go_at_call 62; refine (HSt.out _ (CaIn.drew hcb.out.rows)).mono ?_; rintro r w1 ⟨A1, d1, B1, e1, rfl, hI1, hb1, hf1, hf2⟩; unfold caV; have hbw : Below wr.heap.size wr w1 := ((Below.refl _ _).drew).trans hb1; have CB1 := Lib.hid (hcb.out.step (fun g e => (by have e' : W.heap.size + 1 = g := Option.some.inj e; omega)) hI1 hbw hf1 hf2); have HB1 := Lib.hid (hbw.block W.heap.size hcb.out.lo); have HZ1 := Lib.hid ((hz.out.kept (hbw.block (W.heap.size + 1) (by omega)))); obtain ⟨t0, t1, t2, t3, t4, r0, r1, r2, r3, r4⟩ := hcb.out.blk.kept HB1.out; have HL1 := Lib.hid (hb.out.trans (hbw.mono hb.out.size)); have hsz1 := hbw.size; clear hI1 hb1 hf1 hf2 hbw))
      all_goals
        go_wp2
        go_roundw
        case rel => exact ⟨k + 1, A1, d1, B1, e1, by omega, by go_num, (by simp; omega), (by rw [HRK.out]; exact CB1), Lib.hid (((((HZ1.out.other _ (by simp) _).other _ (by simp) _).other _ (by simp) _).other _ (by simp) _).other _ (by simp) _), Lib.hid (below5 HL1.out (Nat.le_refl _) _ _ _ _ _)⟩
        case measure => simp [intOf]; omega
    · have hke : k = zs.length := by omega
      have hltI : ¬ (k : Int) < (zs.length : Int) := by omega
      subst hke
      obtain ⟨c0, c1, c2, c3, c4, _, _, _, _, _⟩ := hcb.out.blk
      obtain ⟨z0, z1, z2, z3, z4, z5, z6, z7, z8, z9⟩ := hz.out
      go_wp2
      have hrow : ∀ {A : Option Addr} {ys : List Int}, Aw (some (W.heap.size + 1)) A ys → Law.Row wr A (ivs ys) → ∀ u0 u1 u2 u3 u4, Law.Row (World.set5 wr (W.heap.size + 1) u0 u1 u2 u3 u4) A (ivs ys) := fun q r u0 u1 u2 u3 u4 =>
        row_put (p := ⟨W.heap.size + 1, 4, none⟩) (row_put (p := ⟨W.heap.size + 1, 3, none⟩) (row_put (p := ⟨W.heap.size + 1, 2, none⟩) (row_put (p := ⟨W.heap.size + 1, 1, none⟩) (row_put (p := ⟨W.heap.size + 1, 0, none⟩) r q _) q _) q _) q _) q _
      exact ret_ca1 rfl rfl rfl (hz.out.all _ _ _ _ _) ⟨A', d', B', e', rfl, ⟨⟨hcb.out.rows.1.1, hcb.out.rows.1.2.1, hrow hcb.out.v1 hcb.out.rows.1.2.2 _ _ _ _ _⟩, hcb.out.rows.2.1, hcb.out.rows.2.2.1, hrow hcb.out.v2 hcb.out.rows.2.2.2 _ _ _ _ _⟩, below5 hb.out (by omega) _ _ _ _ _⟩
set_option maxRecDepth 20000 in
set_option maxHeartbeats 1600000 in
theorem l4Copy_any (h : CaIn W A d B e c) (hl : c.ps.length ≤ 1000000) (hl2 : c.ms.length ≤ 1000000) : Calls Try.prog 61 #[caV c A d B e] W (toCaGives c W) := by
  have HI := Lib.hid h
  unfold caV
  clear h
  go_enter Try.func61, Try.ntmps61
  go_wp2_with fail
  have HS1 := Lib.hid (tri_new (al3 W (.cells #[.int .i64 c.p, .int .i64 c.s, .slice A c.ps.length d, .slice B c.ms.length e, .int .i64 c.h] 26) (.cells #[.int .i64 0, .int .i64 0, .slice none 0 0, .slice none 0 0, .int .i64 0] 26) (.cells #[.int .i64 c.p, .int .i64 c.s, .slice A c.ps.length d, .slice B c.ms.length e, .int .i64 c.h] 26)))
  generalize ((W.alloc (.cells #[.int .i64 c.p, .int .i64 c.s, .slice A c.ps.length d, .slice B c.ms.length e, .int .i64 c.h] 26)).alloc (.cells #[.int .i64 0, .int .i64 0, .slice none 0 0, .slice none 0 0, .int .i64 0] 26)).alloc (.cells #[.int .i64 c.p, .int .i64 c.s, .slice A c.ps.length d, .slice B c.ms.length e, .int .i64 c.h] 26) = X at HS1 ⊢
  refine (l1Own_any A d c.ps X hl (HI.out.1.2.2.stays HS1.out.bl)).mono ?_
  rintro r w1 ⟨v1, rfl, ho1, hb1⟩
  obtain ⟨A1, n1, rfl, hr1, hq1, _⟩ := Law.own_len ho1
  have HS2 := Lib.hid (HS1.out.call hb1)
  have HO2 := Lib.hid (own_down ho1 HS1.out.lo)
  clear ho1 hb1
  obtain ⟨⟨c0, c1, c2, c3, c4, f0, f1, f2, f3, f4⟩, _, ⟨d0, d1, d2, d3, d4, e0, e1, e2, e3, e4⟩, hlo, hbl⟩ := HS2.out
  go_wp2_with fail
  clear c0 c1 c2 c3 c4 f0 f1 f2 f3 f4 d0 d1 d2 d3 d4 e0 e1 e2 e3 e4 hlo hbl
  have HS3 := Lib.hid (HS2.out.put2 (.slice A1 c.ps.length n1))
  have HO3 := Lib.hid (own_lo HO2.out ⟨W.heap.size + 1 + 1, 2, none⟩ (by simp) (.slice A1 c.ps.length n1))
  generalize w1.setCell ⟨W.heap.size + 1 + 1, 2, none⟩ (.slice A1 c.ps.length n1) = Y at HS3 HO3 ⊢
  refine (l1Own_any B e c.ms Y hl2 (HI.out.2.2.2.stays HS3.out.bl)).mono ?_
  rintro r w4 ⟨v4, rfl, ho4, hb4⟩
  obtain ⟨A4, n4, rfl, hr4, hq4, _⟩ := Law.own_len ho4
  have HS4 := Lib.hid (HS3.out.call hb4)
  have HO4 := Lib.hid (own_past HO3.out hb4)
  have HM4 := Lib.hid (own_down ho4 HS3.out.lo)
  clear ho4 hb4
  obtain ⟨⟨c0, c1, c2, c3, c4, f0, f1, f2, f3, f4⟩, ⟨z0, z1, z2, z3, z4, y0, y1, y2, y3, y4, k0, k1, k2, k3, k4⟩, ⟨d0, d1, d2, d3, d4, e0, e1, e2, e3, e4⟩, hlo, hbl⟩ := HS4.out
  go_wp2
  have HS5 := Lib.hid (HS4.out.put3 (.slice A4 c.ms.length n4))
  have HO5 := Lib.hid (own_lo HO4.out ⟨W.heap.size + 1 + 1, 3, none⟩ (by simp) (.slice A4 c.ms.length n4))
  have HM5 := Lib.hid (own_lo HM4.out ⟨W.heap.size + 1 + 1, 3, none⟩ (by simp) (.slice A4 c.ms.length n4))
  have HR := Lib.hid (own5 HO5.out (b := W.heap.size + 1) (by omega) (.int .i64 c.p) (.int .i64 c.s) (.slice A1 c.ps.length n1) (.slice A4 c.ms.length n4) (.int .i64 c.h))
  have HQ := Lib.hid (own5 HM5.out (b := W.heap.size + 1) (by omega) (.int .i64 c.p) (.int .i64 c.s) (.slice A1 c.ps.length n1) (.slice A4 c.ms.length n4) (.int .i64 c.h))
  have HF := Lib.hid (below5 HS5.out.bl (b := W.heap.size + 1) (by omega) (.int .i64 c.p) (.int .i64 c.s) (.slice A1 c.ps.length n1) (.slice A4 c.ms.length n4) (.int .i64 c.h))
  obtain ⟨_, _, _, _, _, hb1⟩ := HS5.out.b1
  exact ret_ca1 rfl rfl rfl (hb1.all _ _ _ _ _) ⟨A1, n1, A4, n4, rfl, own_down HR.out (by omega), own_down HQ.out (by omega), HF.out⟩
end
end Go.Proofs.Ytdjafooabpcbmaa
