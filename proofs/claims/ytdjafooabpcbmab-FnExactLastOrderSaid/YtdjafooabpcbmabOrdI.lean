/-
  The code's LastOrder.
-/
import Derived.Test.YtdjafooabpcbmabBack
import Derived.Test.YtdjafooabpcbmabImpQ
import Derived.Test.YtdjafooabpcbmabApp
import Derived.RangeFuncNested
namespace Go.Proofs.Ytdjafooabpcbmab
open Go.RowKit Go.Shelf
set_option linter.unusedVariables false
attribute [local go_sem] Oper.semAt_some
abbrev ordP (pre : List (Nat × Int)) : List Int := (pre.map (·.2)).foldl Q.stepO []
theorem ordP_snoc (pre : List (Nat × Int)) (x : Nat × Int) : ordP (pre ++ [x]) = Q.stepO (ordP pre) x.2 := by
  unfold ordP; rw [List.map_append]; exact Q.fold_stepO _ _
theorem ordP_len (pre : List (Nat × Int)) : (ordP pre).length ≤ pre.length := by
  have := Q.fold_len (pre.map (·.2)) []
  simpa using this
set_option maxRecDepth 100000 in
set_option maxHeartbeats 2000000 in
theorem lastGood_in (A : Option Addr) (c : Nat) (zs : List Int) (N : Nat) (h3 : zs.length ≤ 60) (HQ : Hid (∀ W, Law.Row W A (ivs zs) → Calls Try.prog 73 #[.int .i64 (N : Int), .slice A zs.length c] W fun e w' => e = .returned (.bool true) ∧ w' = W))
    (w : World) (hr : Law.Row w A (ivs zs)) :
    CallsIn Fence.wide 3 Try.prog 26 #[.int .i64 (N : Int), .slice A zs.length c] w fun e W' => ∃ v, e = .returned (.tuple #[v, .bool true]) ∧ W'.ownsRow w.heap.size 3 1 v (Q.ordD zs 0).length (ivs (Q.ordD zs 0)) ∧ Below w.heap.size w W' := by
  have hro : Fence.wide.round = none := rfl
  obtain ⟨i0, hi, hz0, hz1, hz2⟩ := info_parts infoInts
  have HR := Lib.hid hr
  have hf1 : Fence.wide.fn 73 := trivial
  have hf2 : Fence.wide.fn 86 := trivial
  have hf3 : Fence.wide.fn 115 := trivial
  have hf4 : Fence.wide.fn 83 := trivial
  refine callsIn_of_wp_marks Try.func26 rfl trivial ?_ hro
  simp only [Try.ntmps26, List.size_toArray, List.length_cons, List.length_nil, Nat.reduceAdd, Nat.reduceSub, Array.replicate_succ, Array.replicate_zero, List.push_toArray, List.append_toArray, List.nil_append, List.cons_append]
  gi_wp2_with (first | (gi_at_call 73; refine (callsIn_wide.2 (HQ.out _ HR.out)).mono ?_; rintro e w' ⟨rfl, hw'⟩; obtain rfl := hw'.symm; clear hw') | (gi_at_call 86; refine (back_in Fence.wide 2 trivial hro _ _ _ _).mono ?_; rintro e w' ⟨rfl, rfl⟩))
  have b0 := (((ownsRow_nil w 3).alloc (.cells #[.slice (some ⟨w.heap.size, 0, none⟩) 0 0] 22)).alloc (.cells #[.slice A zs.length c] 22))
  have bO := ((Boxed.new (w.alloc (.cells #[] 3)) 22 (.slice (some ⟨w.heap.size, 0, none⟩) 0 0)).alloc (.cells #[.slice A zs.length c] 22))
  rw [World.size_alloc] at bO
  have bS := (Boxed.new ((w.alloc (.cells #[] 3)).alloc (.cells #[.slice (some ⟨w.heap.size, 0, none⟩) 0 0] 22)) 22 (.slice A zs.length c))
  rw [World.size_alloc, World.size_alloc] at bS
  have hB0 : Below w.heap.size w (((w.alloc (.cells #[] 3)).alloc (.cells #[.slice (some ⟨w.heap.size, 0, none⟩) 0 0] 22)).alloc (.cells #[.slice A zs.length c] 22)) := (((Below.refl _ w).alloc (Nat.le_refl _) _).alloc (by simp) _).alloc (by first | (simp; done) | (simp; omega)) _
  refine wpIn_rangeFunc_ownG hro (by omega) (gf := 115) (lb := #[.pointer (some ⟨w.heap.size + 1 + 1, 0, none⟩)]) rfl trivial (enters_of Try.func115 (by kernel_rfl) rfl)
    (back_stops Fence.wide (3 - 1) trivial hro (by omega) (w.heap.size + 1 + 1) w.heap.size A c zs h3 _ (by first | (simp; done) | (simp; omega)) bS.cell (RowB.of hr (Nat.le_refl _) hB0) (by first | (simp; done) | (simp; omega))) keepsB_t (fun W l o o' _ h1 h2 _ => keepsB_b _ _ W l o o' h1 h2) (Below.refl _ _) (fun _ => rfl)
    (fun pre W => (∃ v, Boxed W (w.heap.size + 1) 22 v ∧ W.ownsRow w.heap.size 3 1 v (ordP pre).length (ivs (ordP pre)) ∧ True) ∧ Boxed W (w.heap.size + 1 + 1) 22 (.slice A zs.length c) ∧ Below w.heap.size w W)
    (fun _ _ _ => False)
    (OwnFrom.and (Own.from (holdsRow_own w.heap.size (w.heap.size + 1) 22 3 1 (fun pre : List (Nat × Int) => (ordP pre).length) (fun pre => ivs (ordP pre)) (fun _ _ => True)) _) (OwnFrom.and (Own.from (boxed_own _ _ _) _) (ownFrom_below (Nat.le_refl _) (by first | (simp; done) | (simp; omega)))))
    (fun _ _ _ _ _ hs _ _ => hs)
    ⟨⟨_, bO, b0, trivial⟩, bS, hB0⟩
    (fun x => { tmps := #[.int .i64 (N : Int), .slice A zs.length c, undef, undef, .slice none 0 0, .bool false, .pointer (some ⟨w.heap.size + 1, 0, none⟩), undef, .int .i64 x.2, .int .i64 (N : Int), .slice A zs.length c, .bool true, .bool false, undef,
      .slice (some ⟨w.heap.size, 0, none⟩) 0 0, .slice A zs.length c, .func (.func 115) #[] #[.pointer (some ⟨w.heap.size + 1 + 1, 0, none⟩)], .int .i64 ((x.1 : Nat) : Int), .int .i64 x.2, undef, undef, undef, undef, undef, undef, undef, undef, undef], defers := [] }) ?assign ?body ?done ?stop
  case assign =>
    intro l x W K hK
    gi_wp2
    exact hK
  case body =>
    rintro l pre ⟨i, x⟩ W ⟨⟨v, hv, hrow, _⟩, hbx, hB⟩ hlt
    have hpl : (ordP pre).length ≤ 60 := by have := ordP_len pre; omega
    have HS := Lib.hid (ordP_snoc pre (i, x))
    obtain ⟨ps, hps⟩ : ∃ ps, ps = ordP pre := ⟨_, rfl⟩
    rw [← hps] at hrow hpl HS
    obtain ⟨A', c', rfl, hc1, hc2, hl'⟩ := Law.own_len hrow
    have HH := Lib.hid (has_row (c := c') (Law.Row.own hrow) (by omega) x)
    have hc := hv.cell
    clear hc1 hc2 hl' hps
    by_cases hm : x ∈ ps
    · rw [decide_eq_true hm] at HH
      have HE : Hid (ordP (pre ++ [(i, x)]) = ps) := by show _ = _; rw [HS.out]; exact if_pos hm
      clear hm HS
      gi_wp2_with (gi_at_call 83; refine (CallsIn.inRound l (callsIn_wide.2 HH.out)).mono ?_; rintro e w' ⟨rfl, hw'⟩; obtain rfl := hw'.symm; clear hw')
      exact ⟨KeepsFrom.refl _ _, ⟨fun u hu => hu, fun a u _ hu => hu⟩, ⟨_, hv, by rw [HE.out]; exact hrow, trivial⟩, hbx, hB⟩
    · rw [decide_eq_false hm] at HH
      have HE : Hid (ordP (pre ++ [(i, x)]) = ps ++ [x]) := by show _ = _; rw [HS.out]; exact if_neg hm
      clear hm HS
      gi_wp2_with (first | (gi_at_call 83; refine (CallsIn.inRound l (callsIn_wide.2 HH.out)).mono ?_; rintro e w' ⟨rfl, hw'⟩; obtain rfl := hw'.symm; clear hw') | (gi_at_builtin; refine wpListIn_append_own _ rfl _ _ 22 rfl w.heap.size 3 i0 (.int .i64 0) 1 8 Try.underlying22 hi hz0 hz1 hz2 rfl (by decide) _ _ _ rfl (hrow.alloc _) ⟨W.heap.size, 0, none⟩ 1 1 [.int .i64 x] rfl rfl (cell_one_new _ _ _) (by simp [Value.oneCell']) (by unfold maxLen; omega) (by omega) (by have := hB.size; simp; omega) ?_; intro v' w1 hown' hgrow _; obtain ⟨g', cap', rfl⟩ := ownsRow_succ hown'; obtain ⟨hv1, hv2, hr2, hk2, hb2⟩ := hv.appended (by decide) hrow hB.size (by omega) hown' hgrow; have hx1 := ((hbx.alloc _).kept hgrow (hbx.not_row (by decide) hrow)); have HX := Lib.hid (fun u : Value => hx1.other (B' := w.heap.size + 1) (by omega) u); clear hx1; have hc1 := hv1.cell; have hf1 := hv1.frozen))
      have HBf := hB.trans hb2
      exact ⟨hk2.from _, ⟨fun u hu => by have e1 := hbx.cell; rw [hu] at e1; cases e1; exact (HX.out _).cell, fun a u ha hu => (HBf.cell ha).trans ((hB.cell ha).symm.trans hu)⟩, ⟨_, hv2, by rw [HE.out, ivs_snoc]; simpa using hr2, trivial⟩, HX.out _, HBf⟩
  case done =>
    rintro D ys W hD rfl ⟨⟨v, hv, hrow, _⟩, _, hB⟩ hK
    have hc := hv.cell
    rw [show ordP (bkR zs 0) = Q.ordD zs 0 from bkR_ord zs.length 0 rfl] at hrow
    have HW := Lib.hid hrow
    clear hrow
    gi_wp2
    refine ⟨by simp, .inl ⟨_, _, rfl, run_takeDeferred hK, ?_⟩⟩
    exact ⟨_, results_tmp2 rfl _ _ _, v, rfl, ownsRow_putObj HW.out _ hK rfl, hB.trans (belowK_b (w := w) (Nat.le_refl _) W D _ _ (by simp at hD; omega) hK rfl rfl)⟩
  case stop =>
    rintro D c pre W _ _ h _
    exact h.elim
theorem impLast_any (n : Int) (zs : List Int) (A : Option Addr) (c : Nat) (hl : zs.length ≤ 1048576) (w : World) (hr : Law.Row w A (ivs zs)) :
    Calls Try.prog 26 #[.int .i64 n, .slice A zs.length c] w (rowSays (Q.ordQ n zs) w) := by
  have HQ := Lib.hid fun W hr => impIsReq_any n A c zs W hl hr
  cases hg : Q.good n zs
  · rw [show Q.ordQ n zs = ([], false) from if_neg (by simp [hg])]
    rw [hg] at HQ
    have HQ' := Lib.hid (HQ.out w hr)
    clear hr hg HQ
    go_enter Try.func26, Try.ntmps26
    go_wp2_with fail
    go_at_call 73
    refine (HQ'.out).mono ?_
    rintro e w' ⟨rfl, hw'⟩
    obtain rfl := hw'.symm
    clear hw'
    go_wp2
    go_ret2
    exact ⟨_, rfl, ownsRow_nil _ _, (Below.refl _ _).alloc (Nat.le_refl _) _⟩
  · obtain ⟨N, rfl, h1, h2, h3, _⟩ := Q.good_nat hg
    rw [show Q.ordQ N zs = (Q.ordD zs 0, true) from if_pos hg]
    rw [hg] at HQ
    exact (callsIn_wide (n := 3)).1 (lastGood_in A c zs N h3 HQ w hr)
theorem ordQ_len (n : Int) (zs : List Int) : (Q.ordQ n zs).1.length ≤ 1048576 := by
  unfold Q.ordQ
  split
  · rename_i h
    have h0 := (Q.good_iff.1 h).2.1
    exact Nat.le_trans (Q.ordD_len _ _) (by omega)
  · simp
end Go.Proofs.Ytdjafooabpcbmab
