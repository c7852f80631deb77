/-
  The model's test that both fractions are valid.
-/
import Derived.Test.YtppmepajcdldkaaOps
namespace Go.Proofs.Ytppmepajcdldkaa
open Go.RowKit
set_option linter.unusedVariables false
theorem l2Two_any (n1 d1 n2 d2 : Int) (w : World) : Calls Try.prog 43 #[fr n1 d1, fr n2 d2] w fun e w' => e = .returned (.bool (F.good n1 d1 && F.good n2 d2)) ∧ Below w.heap.size w w' := by
  have HG1 := Lib.hid fun W => l2Good_any n1 d1 W
  have HG2 := Lib.hid fun W => l2Good_any n2 d2 W
  generalize F.good n1 d1 = g1 at HG1 ⊢
  generalize F.good n2 d2 = g2 at HG2 ⊢
  go_enter Try.func43, Try.ntmps43
  go_wp2_with fail
  go_at_call 38
  refine (HG1.out _).mono ?_
  rintro e w1 ⟨rfl, hb1⟩
  have B1 : Hid (Below w.heap.size w w1) := Lib.hid (Law.then_ (by (repeat (first | exact Below.refl _ _ | refine Below.setCell ?_ (by first | omega | (simp; omega) | (simp; done)) _ | refine Below.drew ?_ | refine Law.up ?_ _ | refine Below.alloc ?_ (by first | omega | (simp; omega) | (simp; done)) _ | refine Law.then_ ?_ (Hid.out (by assumption))))) hb1)
  have sz1 := hb1.size; (try simp at sz1)
  obtain ⟨c10, c11, f10, f11⟩ := Blk.below (b := w.heap.size + 1) (x := .int .i64 n2) (y := .int .i64 d2) ⟨by go_simp, by go_simp, by go_simp, by go_simp⟩ hb1 (by first | omega | (simp; omega) | (simp; done))
  clear hb1
  cases g1
  · go_wp2
    go_ret
    refine ⟨rfl, ?_⟩
    (repeat (first | exact Below.refl _ _ | refine Below.setCell ?_ (by first | omega | (simp; omega) | (simp; done)) _ | refine Below.drew ?_ | refine Law.up ?_ _ | refine Below.alloc ?_ (by first | omega | (simp; omega) | (simp; done)) _ | refine Law.then_ ?_ (Hid.out (by assumption))))
  · go_wp2_with fail
    go_at_call 38
    refine (HG2.out _).mono ?_
    rintro e w2 ⟨rfl, hb2⟩
    have B2 : Hid (Below w.heap.size w w2) := Lib.hid (Law.then_ (by (repeat (first | exact Below.refl _ _ | refine Below.setCell ?_ (by first | omega | (simp; omega) | (simp; done)) _ | refine Below.drew ?_ | refine Law.up ?_ _ | refine Below.alloc ?_ (by first | omega | (simp; omega) | (simp; done)) _ | refine Law.then_ ?_ (Hid.out (by assumption))))) hb2)
    have sz2 := hb2.size; (try simp at sz2)
    clear hb2
    go_wp2
    go_ret
    refine ⟨by simp, ?_⟩
    (repeat (first | exact Below.refl _ _ | refine Below.setCell ?_ (by first | omega | (simp; omega) | (simp; done)) _ | refine Below.drew ?_ | refine Law.up ?_ _ | refine Below.alloc ?_ (by first | omega | (simp; omega) | (simp; done)) _ | refine Law.then_ ?_ (Hid.out (by assumption))))
end Go.Proofs.Ytppmepajcdldkaa
