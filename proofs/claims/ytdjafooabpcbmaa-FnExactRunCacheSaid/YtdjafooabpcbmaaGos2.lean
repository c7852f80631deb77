/-
  The model's l4Good: whether a cache is valid.
-/
import Derived.Test.YtdjafooabpcbmaaGosA
import Derived.Test.YtdjafooabpcbmaaGosB
import Derived.Test.YtdjafooabpcbmaaGosC
import Derived.Test.YtdjafooabpcbmaaGosD
import Derived.Test.YtdjafooabpcbmaaGosE
import Derived.Test.YtdjafooabpcbmaaGosq1
import Derived.Test.YtdjafooabpcbmaaGosq2
import Derived.Test.YtdjafooabpcbmaaGosq3
import Derived.Test.YtdjafooabpcbmaaGosq4
namespace Go.Proofs.Ytdjafooabpcbmaa
open Go.RowKit
set_option linter.unusedVariables false
section
variable {W : World} {A B : Option Addr} {d e : Nat} {c : Ca}
set_option maxRecDepth 20000 in
set_option maxHeartbeats 6400000 in
theorem l4Good_any (n : Int) (h : CaIn W A d B e c) (hl : c.ps.length ≤ 1048576) (hl2 : c.ms.length ≤ 1048576) : Calls Try.prog 59 #[.int .i64 n, caV c A d B e] W (isSays n c W) := by
  have HIt := Lib.hid fun X => l3Items_any n X
  have HS := Lib.hid fun X => l4Sizes_any c.p c.s X
  have HMk := Lib.hid fun X (hb : Below W.heap.size W X) => sMarks_any (h.stays hb) hl2 hl
  have HQ := Lib.hid (okC_iff n c)
  have HR := Lib.hid h.1.2.2
  unfold isSays
  unfold caV at HMk ⊢
  clear h
  cases hn : Q.okN n
  · have HN : Hid (bo (Q.okC n c) = false) := bo_false fun h => by have := Q.okN_iff.2 (HQ.out.1 h).1; rw [hn] at this; cases this
    rw [hn] at HIt
    clear hn HS HMk
    rw [HN.out]
    exact good_q1 n HIt
  · rw [hn] at HIt
    have hn' := Q.okN_iff.1 hn
    cases hps : (Q.okP c.p && Q.okS c.s)
    · have HN : Hid (bo (Q.okC n c) = false) := bo_false fun h => by
        have h1 := Q.okP_iff.2 (HQ.out.1 h).2.1
        have h2 := Q.okS_iff.2 (HQ.out.1 h).2.2.1
        rw [h1, h2] at hps
        cases hps
      rw [hps] at HS
      clear hn hps HMk hn'
      rw [HN.out]
      exact good_q2 n HIt HS
    · rw [hps] at HS
      have hp' := Q.okP_iff.1 ((Bool.and_eq_true _ _).mp hps).1
      have hs' := Q.okS_iff.1 ((Bool.and_eq_true _ _).mp hps).2
      by_cases hlen : c.s < (c.ps.length : Int)
      · have HN : Hid (bo (Q.okC n c) = false) := bo_false fun h => by have := (HQ.out.1 h).2.2.2.1; omega
        clear hn hps HMk hn' hp' hs'
        rw [HN.out]
        exact good_q3 n HIt HS hlen
      · have HG : Hid (∀ X, Below W.heap.size W X → Calls Try.prog 98 #[.int .i64 n, .slice A c.ps.length d] X fun e w' => e = .returned (.bool (Q.okList n c.ps)) ∧ w' = X) := Lib.hid fun X hb => l3List_any n A d c.ps X hn'.1 hn'.2 hl (HR.out.stays hb)
        have hgl : Q.okList n c.ps = Q.good n c.ps := by
          have h60 : c.ps.length ≤ 60 := by omega
          simp [Q.good, hn, h60]
        rw [hgl] at HG
        cases hg : Q.good n c.ps
        · have HN : Hid (bo (Q.okC n c) = false) := bo_false fun h => by
            have h' := HQ.out.1 h
            have := Q.good_iff.2 ⟨h'.1, by have := h'.2.2.2.1; omega, h'.2.2.2.2.1⟩
            rw [hg] at this; cases this
          rw [hg] at HG
          clear hn hps HMk hn' hp' hs' hg hgl
          rw [HN.out]
          exact good_q4 n HIt HS HG hlen (by simpa using hlen)
        · rw [hg] at HG
          have hgi := Q.good_iff.1 hg
          have HD : Hid (∀ X, Below W.heap.size W X → Calls Try.prog 89 #[.slice A c.ps.length d] X (listSays (Q.diffs c.ps) X)) := Lib.hid fun X hb => l3Dif_any A d c.ps X (by omega) (HR.out.stays hb)
          have hdl : (Q.diffs c.ps).length = Q.dif c.ps := (Q.diffs_ok c.ps).2.2
          have hlb : decide (c.s < (c.ps.length : Int)) = false := by simpa using hlen
          generalize Q.diffs c.ps = ds at HD hdl
          by_cases hd : Q.dif c.ps = c.ps.length
          · have hdb : ((ds.length : Int) == (c.ps.length : Int)) = true := by rw [hdl, hd]; simp
            have hdI : (ds.length : Int) = (c.ps.length : Int) := by rw [hdl, hd]
            have HN : bo (Q.okC n c) = bo (marksP c.p c.ps c.ms ∧ handP c.p c.s c.ps.length c.h) := bo_iff ⟨fun h => (HQ.out.1 h).2.2.2.2.2.2, fun h => HQ.out.2 ⟨hgi.1, hp', hs', by omega, hgi.2.2, (Q.dif_nodup _).1 hd, h⟩⟩
            rw [HN]
            cases hmk : bo (marksP c.p c.ps c.ms)
            · rw [show bo (marksP c.p c.ps c.ms ∧ handP c.p c.s c.ps.length c.h) = false from bo_false fun h => by rw [bo_true h.1] at hmk; cases hmk]
              rw [hmk] at HMk
              exact good_B n HIt HS HG HD hlen hlb hdb hdI HMk
            · rw [show bo (marksP c.p c.ps c.ms ∧ handP c.p c.s c.ps.length c.h) = bo (handP c.p c.s c.ps.length c.h) from bo_iff ⟨fun h => h.2, fun h => ⟨Classical.byContradiction fun h' => (by rw [bo_false h'] at hmk; exact absurd hmk (by decide)), h⟩⟩]
              rw [hmk] at HMk
              by_cases h6 : c.p = 6 ∧ (c.ps.length : Int) = c.s
              · rw [show bo (handP c.p c.s c.ps.length c.h) = (decide (0 ≤ c.h) && decide (c.h ≤ c.s - 1)) by
                  unfold handP
                  rw [if_pos h6]
                  by_cases hh : 0 ≤ c.h ∧ c.h < c.s
                  · rw [bo_true hh, decide_eq_true hh.1, decide_eq_true (show c.h ≤ c.s - 1 by omega)]; rfl
                  · rw [bo_false hh]
                    symm
                    rw [Bool.and_eq_false_iff]
                    simp
                    omega]
                exact good_C n HIt HS HG HD hlen hlb hdb hdI HMk _ (Lib.hid fun X => l1In_any c.h 0 (c.s - 1) X) (by simpa using h6.1) (by simpa using h6.2) (by rw [IntKind.wrap_i64]; omega)
              · rw [show bo (handP c.p c.s c.ps.length c.h) = (c.h == 0) by
                  unfold handP
                  rw [if_neg h6]
                  by_cases h0 : c.h = 0
                  · rw [bo_true h0]; simp [h0]
                  · rw [bo_false h0]; simp [h0]]
                by_cases hq : c.p = 6
                · exact good_E n HIt HS HG HD hlen hlb hdb hdI HMk (by simpa using hq) (by have : ¬ (c.ps.length : Int) = c.s := fun e => h6 ⟨hq, e⟩; simpa using this)
                · exact good_D n HIt HS HG HD hlen hlb hdb hdI HMk (by simpa using hq)
          · rw [show bo (Q.okC n c) = false from bo_false fun h => hd ((Q.dif_nodup _).2 (HQ.out.1 h).2.2.2.2.2.1)]
            have hdI : ¬ (ds.length : Int) = (c.ps.length : Int) := by omega
            exact good_A n HIt HS HG HD hlen hlb (by simpa using hdI) hdI
end
end Go.Proofs.Ytdjafooabpcbmaa
