/-
  The model's l4Good, a part: case E.
-/
import Derived.Test.YtdjafooabpcbmaaGos1
namespace Go.Proofs.Ytdjafooabpcbmaa
open Go.RowKit
set_option linter.unusedVariables false
set_option maxRecDepth 20000 in
set_option maxHeartbeats 3200000 in
theorem good_E {W : World} {A B : Option Addr} {d e : Nat} {c : Ca} (n : Int) {ds : List Int}
    (HIt : Hid (∀ X, Calls Try.prog 96 #[.int .i64 n] X fun e w' => e = .returned (.bool true) ∧ w' = X))
    (HS : Hid (∀ X, Calls Try.prog 97 #[.int .i64 c.p, .int .i64 c.s] X fun e w' => e = .returned (.bool true) ∧ w' = X))
    (HG : Hid (∀ X, Below W.heap.size W X → Calls Try.prog 98 #[.int .i64 n, .slice A c.ps.length d] X fun e w' => e = .returned (.bool true) ∧ w' = X))
    (HD : Hid (∀ X, Below W.heap.size W X → Calls Try.prog 89 #[.slice A c.ps.length d] X (listSays ds X)))
    (hlen : ¬ c.s < (c.ps.length : Int)) (hlb : decide (c.s < (c.ps.length : Int)) = false)
    (hdb : ((ds.length : Int) == (c.ps.length : Int)) = true) (hdI : (ds.length : Int) = (c.ps.length : Int))
    (HMk : Hid (∀ X, Below W.heap.size W X → Calls Try.prog 99 #[.agg #[.int .i64 c.p, .int .i64 c.s, .slice A c.ps.length d, .slice B c.ms.length e, .int .i64 c.h]] X fun r W' => r = .returned (.bool true) ∧ Below X.heap.size X W'))
    (hp6b : (c.p == 6) = true) (hsb : ((c.ps.length : Int) == c.s) = false) :
    Calls Try.prog 59 #[.int .i64 n, .agg #[.int .i64 c.p, .int .i64 c.s, .slice A c.ps.length d, .slice B c.ms.length e, .int .i64 c.h]] W fun r W' => r = .returned (.bool (c.h == 0)) ∧ Below W.heap.size W W' := by
  go_enter Try.func59, Try.ntmps59
  go_wp2_with fail
  have HB0 : Hid (Below W.heap.size W (W.alloc (.cells #[.int .i64 c.p, .int .i64 c.s, .slice A c.ps.length d, .slice B c.ms.length e, .int .i64 c.h] 26))) := (Below.refl _ _).alloc (Nat.le_refl _) _
  have HBB := Lib.hid (blk5_of (heap_alloc_new W (.cells #[.int .i64 c.p, .int .i64 c.s, .slice A c.ps.length d, .slice B c.ms.length e, .int .i64 c.h] 26)))
  generalize W.alloc (.cells #[.int .i64 c.p, .int .i64 c.s, .slice A c.ps.length d, .slice B c.ms.length e, .int .i64 c.h] 26) = X at HB0 HBB ⊢
  obtain ⟨c0, c1, c2, c3, c4, f0, f1, f2, f3, f4⟩ := HBB.out
  go_region_law ((first
    | (go_simp; go_at_call 96; refine (HIt.out _).mono ?_; rintro r w' ⟨rfl, hw'⟩; obtain rfl := hw'.symm; clear hw')
    | (go_simp; go_at_call 97; refine (HS.out _).mono ?_; rintro r w' ⟨rfl, hw'⟩; obtain rfl := hw'.symm; clear hw')
    | (go_simp; go_at_call 98; refine (HG.out _ (HB0.out.drew)).mono ?_; rintro r w' ⟨rfl, hw'⟩; obtain rfl := hw'.symm; clear hw')
    | (go_simp; go_at_call 89; refine (HD.out _ (HB0.out.drew)).mono ?_; rintro r w1 ⟨B1, d1, rfl, _, _, _, hb1⟩; have hb1 := ((Below.refl X.heap.size X).drew).trans hb1; have HB1 := Lib.hid (HB0.out.trans (hb1.mono HB0.out.size)); have HBK := Lib.hid (HBB.out.kept (hb1.block W.heap.size (Law.cell_in c0))); obtain ⟨d0, d1', d2, d3, d4, _, _, _, _, _⟩ := HBK.out; clear hb1)
    | (go_simp; go_at_call 99; refine (HMk.out _ HB1.out).mono ?_; rintro r w2 ⟨rfl, hb2⟩; have HB2 := Lib.hid (HB1.out.trans (hb2.mono HB1.out.size)); have HBL := Lib.hid (HBK.out.kept (hb2.block W.heap.size (Law.cell_in d0))); obtain ⟨e0, e1, e2, e3, e4, _, _, _, _, _⟩ := HBL.out; clear hb2)))
  all_goals
    go_wp2
    go_ret
    exact ⟨rfl, HB2.out⟩
end Go.Proofs.Ytdjafooabpcbmaa
