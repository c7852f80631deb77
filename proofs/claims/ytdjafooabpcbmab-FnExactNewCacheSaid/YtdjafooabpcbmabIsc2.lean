/-
  The code's IsCache: whether a cache is valid.
-/
import Derived.Test.YtdjafooabpcbmabIsc1
namespace Go.Proofs.Ytdjafooabpcbmab
open Go.RowKit
set_option linter.unusedVariables false
theorem Q.dif_nodup (l : List Int) : Q.dif l = l.length ↔ l.Nodup := by
  have key : ∀ m : List Int, Q.difR m ≤ m.length ∧ (Q.difR m = m.length ↔ m.Nodup) := by
    intro m
    induction m with
    | nil => simp [Q.difR]
    | cons x m ih =>
      obtain ⟨h1, h2⟩ := ih
      unfold Q.difR
      by_cases hx : x ∈ m
      · simp [hx]; omega
      · simp [hx, ← h2]; omega
  have := (key l.reverse).2
  rw [(List.reverse_perm l).nodup_iff, List.length_reverse] at this
  exact this
/-- What IsCache answers. -/
def isSays (n : Int) (c : Ca) (W : World) (r : Ending) (W' : World) : Prop := r = .returned (.bool (bo (Q.okC n c))) ∧ Below W.heap.size W W'
section
variable {W : World} {A B : Option Addr} {d e : Nat} {c : Ca}
set_option maxRecDepth 20000 in
set_option maxHeartbeats 3200000 in
theorem impIsCache_any (n : Int) (h : CaIn W A d B e c) (hl : c.ps.length ≤ 1048576) (hl2 : c.ms.length ≤ 1048576) : Calls Try.prog 16 #[.int .i64 n, caV c A d B e] W (isSays n c W) := by
  have HG : Hid (∀ X, Below W.heap.size W X → Calls Try.prog 73 #[.int .i64 n, .slice A c.ps.length d] X fun e w' => e = .returned (.bool (Q.good n c.ps)) ∧ w' = X) := Lib.hid fun X hb => impIsReq_any n A d c.ps X hl (h.1.2.2.stays hb)
  have HP := Lib.hid fun X => isPolicy_any c.p X
  have HS := Lib.hid fun X => isSize_any c.s X
  have HMk := Lib.hid fun X (hb : Below W.heap.size W X) => validMarks_any (h.stays hb) hl2 hl
  have HHd := Lib.hid fun X => validHand_any X c A B d e
  have HQ := Lib.hid (okC_iff n c)
  have HR := Lib.hid h.1.2.2
  unfold isSays
  unfold caV at HMk HHd ⊢
  clear h
  cases hp : Q.okP c.p
  · have HN : Hid (bo (Q.okC n c) = false) := bo_false fun h => by have := Q.okP_iff.2 (HQ.out.1 h).2.1; rw [hp] at this; cases this
    rw [hp] at HP
    clear hp
    go_enter Try.func16, Try.ntmps16
    go_wp2_with fail
    have HB0 : Hid (Below W.heap.size W (W.alloc (.cells #[.int .i64 c.p, .int .i64 c.s, .slice A c.ps.length d, .slice B c.ms.length e, .int .i64 c.h] 27))) := (Below.refl _ _).alloc (Nat.le_refl _) _
    have HBB := Lib.hid (blk5_of (heap_alloc_new W (.cells #[.int .i64 c.p, .int .i64 c.s, .slice A c.ps.length d, .slice B c.ms.length e, .int .i64 c.h] 27)))
    generalize W.alloc (.cells #[.int .i64 c.p, .int .i64 c.s, .slice A c.ps.length d, .slice B c.ms.length e, .int .i64 c.h] 27) = X at HB0 HBB ⊢
    go_at_call 71
    refine (HP.out _).mono ?_
    rintro r w' ⟨rfl, hw'⟩
    obtain rfl := hw'.symm
    clear hw'
    obtain ⟨c0, c1, c2, c3, c4, f0, f1, f2, f3, f4⟩ := HBB.out
    go_wp2
    go_ret
    exact ⟨by rw [HN.out]; rfl, HB0.out⟩
  · rw [hp] at HP
    have hp' := Q.okP_iff.1 hp
    clear hp
    cases hs : Q.okS c.s
    · have HN : Hid (bo (Q.okC n c) = false) := bo_false fun h => by have := Q.okS_iff.2 (HQ.out.1 h).2.2.1; rw [hs] at this; cases this
      rw [hs] at HS
      clear hs hp'
      go_enter Try.func16, Try.ntmps16
      go_wp2_with fail
      have HB0 : Hid (Below W.heap.size W (W.alloc (.cells #[.int .i64 c.p, .int .i64 c.s, .slice A c.ps.length d, .slice B c.ms.length e, .int .i64 c.h] 27))) := (Below.refl _ _).alloc (Nat.le_refl _) _
      have HBB := Lib.hid (blk5_of (heap_alloc_new W (.cells #[.int .i64 c.p, .int .i64 c.s, .slice A c.ps.length d, .slice B c.ms.length e, .int .i64 c.h] 27)))
      generalize W.alloc (.cells #[.int .i64 c.p, .int .i64 c.s, .slice A c.ps.length d, .slice B c.ms.length e, .int .i64 c.h] 27) = X at HB0 HBB ⊢
      go_at_call 71
      refine (HP.out _).mono ?_
      rintro r w' ⟨rfl, hw'⟩
      obtain rfl := hw'.symm
      clear hw'
      obtain ⟨c0, c1, c2, c3, c4, f0, f1, f2, f3, f4⟩ := HBB.out
      go_wp2_with fail
      go_at_call 72
      refine (HS.out _).mono ?_
      rintro r w' ⟨rfl, hw'⟩
      obtain rfl := hw'.symm
      clear hw'
      go_wp2
      go_ret
      exact ⟨by rw [HN.out]; rfl, HB0.out⟩
    · rw [hs] at HS
      have hs' := Q.okS_iff.1 hs
      clear hs
      by_cases hlen : c.s < (c.ps.length : Int)
      · have HN : Hid (bo (Q.okC n c) = false) := bo_false fun h => by have := (HQ.out.1 h).2.2.2.1; omega
        clear hp' hs'
        go_enter Try.func16, Try.ntmps16
        go_wp2_with fail
        have HB0 : Hid (Below W.heap.size W (W.alloc (.cells #[.int .i64 c.p, .int .i64 c.s, .slice A c.ps.length d, .slice B c.ms.length e, .int .i64 c.h] 27))) := (Below.refl _ _).alloc (Nat.le_refl _) _
        have HBB := Lib.hid (blk5_of (heap_alloc_new W (.cells #[.int .i64 c.p, .int .i64 c.s, .slice A c.ps.length d, .slice B c.ms.length e, .int .i64 c.h] 27)))
        generalize W.alloc (.cells #[.int .i64 c.p, .int .i64 c.s, .slice A c.ps.length d, .slice B c.ms.length e, .int .i64 c.h] 27) = X at HB0 HBB ⊢
        go_at_call 71
        refine (HP.out _).mono ?_
        rintro r w' ⟨rfl, hw'⟩
        obtain rfl := hw'.symm
        clear hw'
        obtain ⟨c0, c1, c2, c3, c4, f0, f1, f2, f3, f4⟩ := HBB.out
        go_wp2_with fail
        go_at_call 72
        refine (HS.out _).mono ?_
        rintro r w' ⟨rfl, hw'⟩
        obtain rfl := hw'.symm
        clear hw'
        go_wp2
        go_ret
        exact ⟨by rw [HN.out]; rfl, HB0.out⟩
      · cases hg : Q.good n c.ps
        · have HN : Hid (bo (Q.okC n c) = false) := bo_false fun h => by
            have h' := HQ.out.1 h
            have := Q.good_iff.2 ⟨h'.1, by have := h'.2.2.2.1; omega, h'.2.2.2.2.1⟩
            rw [hg] at this; cases this
          rw [hg] at HG
          clear hg hp'
          go_enter Try.func16, Try.ntmps16
          go_wp2_with fail
          have HB0 : Hid (Below W.heap.size W (W.alloc (.cells #[.int .i64 c.p, .int .i64 c.s, .slice A c.ps.length d, .slice B c.ms.length e, .int .i64 c.h] 27))) := (Below.refl _ _).alloc (Nat.le_refl _) _
          have HBB := Lib.hid (blk5_of (heap_alloc_new W (.cells #[.int .i64 c.p, .int .i64 c.s, .slice A c.ps.length d, .slice B c.ms.length e, .int .i64 c.h] 27)))
          generalize W.alloc (.cells #[.int .i64 c.p, .int .i64 c.s, .slice A c.ps.length d, .slice B c.ms.length e, .int .i64 c.h] 27) = X at HB0 HBB ⊢
          go_at_call 71
          refine (HP.out _).mono ?_
          rintro r w' ⟨rfl, hw'⟩
          obtain rfl := hw'.symm
          clear hw'
          obtain ⟨c0, c1, c2, c3, c4, f0, f1, f2, f3, f4⟩ := HBB.out
          go_wp2_with fail
          go_at_call 72
          refine (HS.out _).mono ?_
          rintro r w' ⟨rfl, hw'⟩
          obtain rfl := hw'.symm
          clear hw'
          go_wp2_with fail
          go_quiet ((go_at_call 73; exact Calls.quiet_of_same (HG.out _ (Law.up HB0.out _))))
          go_wp2
          go_ret
          exact ⟨by rw [HN.out]; rfl, Law.up HB0.out _⟩
        · rw [hg] at HG
          have hgi := Q.good_iff.1 hg
          have HD : Hid (∀ X, Below W.heap.size W X → Calls Try.prog 74 #[.slice A c.ps.length d] X fun e w' => e = .returned (.int .i64 (Q.dif c.ps : Nat)) ∧ Below X.heap.size X w') := Lib.hid fun X hb => difItems_any A d c.ps X (by omega) (fun k hk => by
            obtain ⟨N, hN, _, hN8, _, hx⟩ := Q.good_nat hg
            obtain ⟨x, hx1, hx2⟩ := hx k hk
            exact ⟨x, hx1, by omega⟩) (HR.out.stays hb)
          by_cases hd : Q.dif c.ps = c.ps.length
          · rw [hd] at HD
            have HN : Hid (bo (Q.okC n c) = bo (marksP c.p c.ps c.ms ∧ handP c.p c.s c.ps.length c.h)) := bo_iff ⟨fun h => (HQ.out.1 h).2.2.2.2.2.2, fun h => HQ.out.2 ⟨hgi.1, hp', hs', by omega, hgi.2.2, (Q.dif_nodup _).1 hd, h⟩⟩
            clear hg hd hgi hp'
            go_enter Try.func16, Try.ntmps16
            go_wp2_with fail
            have HB0 : Hid (Below W.heap.size W (W.alloc (.cells #[.int .i64 c.p, .int .i64 c.s, .slice A c.ps.length d, .slice B c.ms.length e, .int .i64 c.h] 27))) := (Below.refl _ _).alloc (Nat.le_refl _) _
            have HBB := Lib.hid (blk5_of (heap_alloc_new W (.cells #[.int .i64 c.p, .int .i64 c.s, .slice A c.ps.length d, .slice B c.ms.length e, .int .i64 c.h] 27)))
            generalize W.alloc (.cells #[.int .i64 c.p, .int .i64 c.s, .slice A c.ps.length d, .slice B c.ms.length e, .int .i64 c.h] 27) = X at HB0 HBB ⊢
            go_at_call 71
            refine (HP.out _).mono ?_
            rintro r w' ⟨rfl, hw'⟩
            obtain rfl := hw'.symm
            clear hw'
            obtain ⟨c0, c1, c2, c3, c4, f0, f1, f2, f3, f4⟩ := HBB.out
            go_wp2_with fail
            go_at_call 72
            refine (HS.out _).mono ?_
            rintro r w' ⟨rfl, hw'⟩
            obtain rfl := hw'.symm
            clear hw'
            go_wp2_with fail
            clear c0 c1 c2 c3 c4 f0 f1 f2 f3 f4
            obtain ⟨c0, c1, c2, c3, c4, _, _, _, _, _⟩ := HBB.out
            go_region_law ((first
              | (go_simp; go_at_call 73; refine (HG.out _ (HB0.out.drew)).mono ?_; rintro r w' ⟨rfl, hw'⟩; obtain rfl := hw'.symm; clear hw')
              | (go_simp; go_at_call 74; refine (HD.out _ (HB0.out.drew)).mono ?_; rintro r w1 ⟨rfl, hb1⟩; have hb1 := ((Below.refl X.heap.size X).drew).trans hb1; have HB1 := Lib.hid (HB0.out.trans (hb1.mono HB0.out.size)); have HBK := Lib.hid (HBB.out.kept (hb1.block W.heap.size (Law.cell_in c0))); obtain ⟨d0, d1, d2, d3, d4, _, _, _, _, _⟩ := HBK.out; clear hb1)))
            all_goals
              go_wp2_with fail
              go_at_call 75
              refine (HMk.out _ HB1.out).mono ?_
              rintro r w2 ⟨rfl, hb2⟩
              have HBL := Lib.hid (HBK.out.kept (hb2.block W.heap.size (Law.cell_in HBK.out.c0)))
              have HB2 := Lib.hid (HB1.out.trans (hb2.mono HB1.out.size))
              clear hb2
              obtain ⟨e0, e1, e2, e3, e4, _, _, _, _, _⟩ := HBL.out
              cases hmk : bo (marksP c.p c.ps c.ms)
              · have HN2 : Hid (bo (marksP c.p c.ps c.ms ∧ handP c.p c.s c.ps.length c.h) = false) := bo_false fun h => by rw [bo_true h.1] at hmk; cases hmk
                clear hmk
                go_wp2
                go_ret
                exact ⟨by rw [HN.out, HN2.out]; rfl, HB2.out⟩
              · have HN2 : Hid (bo (marksP c.p c.ps c.ms ∧ handP c.p c.s c.ps.length c.h) = bo (handP c.p c.s c.ps.length c.h)) := bo_iff ⟨fun h => h.2, fun h => ⟨Classical.byContradiction fun h' => (by rw [bo_false h'] at hmk; exact absurd hmk (by decide)), h⟩⟩
                clear hmk
                generalize bo (handP c.p c.s c.ps.length c.h) = y at HN2 HHd
                go_wp2_with fail
                go_at_call 76
                refine (HHd.out _).mono ?_
                rintro r w3 ⟨rfl, hb3⟩
                have HB3 := Lib.hid (HB2.out.trans (hb3.mono HB2.out.size))
                clear hb3
                go_wp2
                go_ret
                exact ⟨by rw [HN.out, HN2.out]; rfl, HB3.out⟩
          · have HN : Hid (bo (Q.okC n c) = false) := bo_false fun h => hd ((Q.dif_nodup _).2 (HQ.out.1 h).2.2.2.2.2.1)
            have hdI : ¬ ((Q.dif c.ps : Nat) : Int) = (c.ps.length : Int) := by omega
            have hdb : (((Q.dif c.ps : Nat) : Int) == (c.ps.length : Int)) = false := by simpa using hdI
            clear hg hd hgi hp'
            generalize Q.dif c.ps = q at *
            go_enter Try.func16, Try.ntmps16
            go_wp2_with fail
            have HB0 : Hid (Below W.heap.size W (W.alloc (.cells #[.int .i64 c.p, .int .i64 c.s, .slice A c.ps.length d, .slice B c.ms.length e, .int .i64 c.h] 27))) := (Below.refl _ _).alloc (Nat.le_refl _) _
            have HBB := Lib.hid (blk5_of (heap_alloc_new W (.cells #[.int .i64 c.p, .int .i64 c.s, .slice A c.ps.length d, .slice B c.ms.length e, .int .i64 c.h] 27)))
            generalize W.alloc (.cells #[.int .i64 c.p, .int .i64 c.s, .slice A c.ps.length d, .slice B c.ms.length e, .int .i64 c.h] 27) = X at HB0 HBB ⊢
            go_at_call 71
            refine (HP.out _).mono ?_
            rintro r w' ⟨rfl, hw'⟩
            obtain rfl := hw'.symm
            clear hw'
            obtain ⟨c0, c1, c2, c3, c4, f0, f1, f2, f3, f4⟩ := HBB.out
            go_wp2_with fail
            go_at_call 72
            refine (HS.out _).mono ?_
            rintro r w' ⟨rfl, hw'⟩
            obtain rfl := hw'.symm
            clear hw'
            go_wp2_with fail
            clear c0 c1 c2 c3 c4 f0 f1 f2 f3 f4
            obtain ⟨c0, c1, c2, c3, c4, _, _, _, _, _⟩ := HBB.out
            go_region_law ((first
              | (go_simp; go_at_call 73; refine (HG.out _ (HB0.out.drew)).mono ?_; rintro r w' ⟨rfl, hw'⟩; obtain rfl := hw'.symm; clear hw')
              | (go_simp; go_at_call 74; refine (HD.out _ (HB0.out.drew)).mono ?_; rintro r w1 ⟨rfl, hb1⟩; have hb1 := ((Below.refl X.heap.size X).drew).trans hb1; have HB1 := Lib.hid (HB0.out.trans (hb1.mono HB0.out.size)); have HBK := Lib.hid (HBB.out.kept (hb1.block W.heap.size (Law.cell_in c0))); obtain ⟨d0, d1, d2, d3, d4, _, _, _, _, _⟩ := HBK.out; clear hb1)))
            all_goals
              go_wp2
              go_ret
              exact ⟨by rw [HN.out]; rfl, HB1.out⟩
end
end Go.Proofs.Ytdjafooabpcbmab
