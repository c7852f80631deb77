/-
  The model's RunsOf, and the code's for whatever it is given.
-/
import Derived.Test.YtgnfmbdomofgcaaRunsI
namespace Go.Proofs.Ytgnfmbdomofgcaa
open Go.RowKit
set_option linter.unusedVariables false
theorem new_cell2 (W : World) (u v : Value) (t : TypeId) : (W.alloc (.cells #[u, v] t)).cell? ⟨W.heap.size, 0, none⟩ = some u ∧ (W.alloc (.cells #[u, v] t)).cell? ⟨W.heap.size, 1, none⟩ = some v := ⟨by simp, by simp⟩
theorem own2_put2 {w : World} {base g n c : Nat} {e : TypeId} {l : List (Int × Int)} {x q : Int} (h : w.ownsRow base e 2 (.slice (some ⟨g, 0, none⟩) n c) n (pvs (l ++ [(x, q)]))) (x' q' : Int) :
    ((w.setCell ⟨g, l.length * 2, none⟩ (.int .i64 x')).setCell ⟨g, l.length * 2 + 1, none⟩ (.int .i64 q')).ownsRow base e 2 (.slice (some ⟨g, 0, none⟩) n c) n (pvs (l ++ [(x', q')])) := by
  have e1 : pvs (l ++ [(x', q')]) = ((pvs (l ++ [(x, q)])).set (l.length * 2) (.int .i64 x')).set (l.length * 2 + 1) (.int .i64 q') := by
    rw [pvs_snoc, pvs_snoc, List.set_append, if_neg (by rw [pvs_len]; omega), pvs_len, Nat.sub_self, List.set_append, if_neg (by rw [pvs_len]; omega), pvs_len, show l.length * 2 + 1 - l.length * 2 = 1 by omega]; rfl
  rw [e1]
  exact ((h.stored _ _).1.stored _ _).1
theorem impRuns_any (n : Int) (zs : List Int) (A : Option Addr) (c : Nat) (hl : zs.length ≤ 1048576) (w : World) (hr : Law.Row w A (ivs zs)) :
    Calls Try.prog 15 #[.int .i64 n, .slice A zs.length c] w (rowSays2 (Q.runsQ n zs) w) := by
  cases hg : Q.good n zs
  · rw [show Q.runsQ n zs = ([], false) by simp [Q.runsQ, hg]]
    have HQ := Lib.hid (impIsReq_any n A c zs w hl hr)
    rw [hg] at HQ
    clear hr hg
    go_enter Try.func15, Try.ntmps15
    go_wp2_with (go_at_call 46; refine HQ.out.mono ?_; rintro e w' ⟨rfl, hw'⟩; obtain rfl := hw'.symm)
    go_ret2
    exact ⟨_, rfl, own2_nil _ _, (Below.refl _ _).alloc (Nat.le_refl _) _⟩
  · rw [show Q.runsQ n zs = (Q.runsK zs zs.length, true) by simp [Q.runsQ, hg]]
    obtain ⟨N, rfl, h1, h2, h3, hx⟩ := Q.good_nat hg
    exact impRuns_good N A c zs w hg h3 hr
set_option maxHeartbeats 1600000 in
theorem specRuns_good (n : Int) (A : Option Addr) (c : Nat) (zs : List Int) (w : World) (hg : Q.good n zs = true) (h3 : zs.length ≤ 60) (hr : Law.Row w A (ivs zs)) :
    Calls Try.prog 16 #[.int .i64 n, .slice A zs.length c] w (rowSays2 (Q.runsK zs zs.length, true) w) := by
  obtain ⟨i0, hi, hz0, hz1, hz2⟩ := info_parts infoA2
  have b0 : Below w.heap.size w (w.alloc (.cells #[] 57)) := (Below.refl _ _).alloc (Nat.le_refl _) _
  have HQ := Lib.hid (l3Good_any n A c zs _ (by omega) (hr.stays b0))
  rw [hg] at HQ
  have HR := Lib.hid hr
  clear hr hg b0
  go_enter Try.func16, Try.ntmps16
  go_wp2_with fail
  go_at_call 64
  refine (HQ.out).mono ?_
  rintro e w' ⟨rfl, hw'⟩
  obtain rfl := hw'.symm
  clear hw'
  go_wp2_with fail
  go_loopw [6, 7] (fun v i wr => ∃ k : Nat, k ≤ zs.length ∧ i = .int .i64 k ∧ Hid (wr.ownsRow w.heap.size 57 2 v (Q.runsK zs k).length (pvs (Q.runsK zs k))) ∧ Hid (Below w.heap.size w wr)) (fun _ i _ => zs.length - (intOf i).toNat)
  case atStart => exact ⟨0, Nat.zero_le _, rfl, own2_nil _ _, (Below.refl _ _).alloc (Nat.le_refl _) _⟩
  case round =>
    obtain ⟨k, hk, rfl, ho, hb⟩ := hrel
    by_cases hlt : k < zs.length
    · obtain ⟨x, hx⟩ : ∃ x, zs[k]? = some x := ⟨_, List.getElem?_eq_getElem hlt⟩
      obtain ⟨b, off, rfl, hbl, hc⟩ := (HR.out.stays hb.out).at_ (ivs_some hx)
      have hltI : (k : Int) < (zs.length : Int) := by omega
      by_cases hs : 0 < k ∧ zs[k]? = zs[k - 1]?
      · obtain ⟨p, rfl⟩ : ∃ p, k = p + 1 := ⟨k - 1, by omega⟩
        have hy : zs[p]? = some x := by rw [← hx, hs.2]; rfl
        obtain ⟨b', off', hbb, hbl', hc'⟩ := (HR.out.stays hb.out).at_ (ivs_some hy)
        injection hbb with hbb
        injection hbb with hb1 hb2 _
        subst hb1 hb2
        obtain ⟨l, x9, q, hl⟩ := Q.last_split (Q.runsK_pos zs (p + 1) (by omega))
        have HN := Lib.hid (Q.runs_same hs hl)
        have hq := Q.runsK_cnt zs (p + 1) (x9, q) (by rw [hl]; simp)
        simp only [] at hq
        rw [hl] at ho
        have hlk : l.length ≤ 59 := by have := Q.runsK_le zs (p + 1); rw [hl] at this; simp at this; omega
        rw [show (l ++ [(x9, q)]).length = l.length + 1 by simp] at ho
        obtain ⟨g, cc, hv, hnn, hge, hgl, c0, c1⟩ := own2_some ho.out
        subst hv
        have HK : Hid (∀ m, (wr.drewN m).cell? ⟨g, l.length * 2, none⟩ = some (.int .i64 x9) ∧ (wr.drewN m).cell? ⟨g, l.length * 2 + 1, none⟩ = some (.int .i64 q) ∧ (wr.drewN m).frozen? ⟨g, l.length * 2, none⟩ = false ∧ (wr.drewN m).frozen? ⟨g, l.length * 2 + 1, none⟩ = false ∧ g < (wr.drewN m).heap.size ∧ ∀ W', Below (wr.drewN m).heap.size (wr.drewN m) W' → ((W'.setCell ⟨g, l.length * 2, none⟩ (.int .i64 x9)).setCell ⟨g, l.length * 2 + 1, none⟩ (.int .i64 (q + 1))).ownsRow w.heap.size 57 2 (.slice (some ⟨g, 0, none⟩) (l.length + 1) cc) (l.length + 1) (pvs (l ++ [(x9, q + 1)])) ∧ Below w.heap.size w ((W'.setCell ⟨g, l.length * 2, none⟩ (.int .i64 x9)).setCell ⟨g, l.length * 2 + 1, none⟩ (.int .i64 (q + 1)))) :=
          fun m => ⟨c0, c1, ho.out.frozenAt _, ho.out.frozenAt _, hgl, fun W' h => ⟨own2_put2 (own_past (show World.ownsRow (wr.drewN m) _ _ _ _ _ _ from ho.out) h) x9 (q + 1), Below.setCell (p := ⟨g, l.length * 2 + 1, none⟩) (Below.setCell (p := ⟨g, l.length * 2, none⟩) (Law.then_ (Law.up hb.out m) h) hge _) hge _⟩⟩
        have hfO := ho.out.frozenAt (l.length * 2 + 1)
        have hfO0 := ho.out.frozenAt (l.length * 2)
        simp only [] at c0 c1
        generalize hL : l.length = L at c0 c1 HK hfO hfO0 hlk ⊢
        have HL := Lib.hid hL
        have hwL : IntKind.i64.wrap (L : Int) = (L : Int) := IntWalk.i64_in _ (by omega)
        have hLI : (L : Int) < (L : Int) + 1 := by omega
        have hwq : IntKind.i64.wrap (q + 1) = q + 1 := IntWalk.i64_in _ (by omega)
        have hpp : (0 : Int) < (p : Int) + 1 := by omega
        clear hL hnn ho hb hl hx hy hs
        go_wp2_with fail
        go_quiet (fail)
        clear c0 c1 hfO hfO0 hgl
        have HA := HK.out nq
        clear HK
        generalize wr.drewN nq = wq at HA ⊢
        obtain ⟨c0, c1, hfO0, hfO, hgl, hK⟩ := HA
        have HK := Lib.hid hK
        clear hK
        go_wp2
        go_roundw
        case rel =>
          have hh := HK.out _ (Below.refl _ _)
          exact ⟨p + 2, by omega, by go_num, (by show World.ownsRow _ _ _ _ _ _ _; rw [HN.out]; simp only [List.length_append, List.length_cons, List.length_nil, HL.out]; exact hh.1.alloc _), hh.2.alloc hh.2.size _⟩
        case measure => simp [intOf]; omega
      · obtain ⟨l, hl⟩ : ∃ l, l = Q.runsK zs k := ⟨_, rfl⟩
        have HN := Lib.hid (Q.runs_new hx hs)
        rw [← hl] at ho HN
        have hlk : l.length ≤ 59 := by have := Q.runsK_le zs k; rw [← hl] at this; omega
        clear hl
        have HA : Hid ((k = 0 ∧ True) ∨ ∃ p y, k = p + 1 ∧ wr.cell? ⟨b, off + p, none⟩ = some (.int .i64 y) ∧ y ≠ x) := by
          by_cases hk0 : k = 0
          · exact .inl ⟨hk0, trivial⟩
          · obtain ⟨p, rfl⟩ : ∃ p, k = p + 1 := ⟨k - 1, by omega⟩
            obtain ⟨y, hy⟩ : ∃ y, zs[p]? = some y := ⟨_, List.getElem?_eq_getElem (by omega)⟩
            obtain ⟨b', off', hbb, hbl', hc'⟩ := (HR.out.stays hb.out).at_ (ivs_some hy)
            injection hbb with hbb
            injection hbb with hb1 hb2 _
            subst hb1 hb2
            refine .inr ⟨p, y, rfl, hc', fun e => hs ⟨by omega, ?_⟩⟩
            rw [hx, show p + 1 - 1 = p by omega, hy, e]
        clear hx hs
        rcases HA.out with ⟨hk0, _⟩ | ⟨p, y, hkp, hc', hyx⟩
        · subst hk0
          rw [Nat.add_zero] at hc
          replace hltI : (0 : Int) < (zs.length : Int) := by omega
          clear HA
          go_wp2_with fail
          go_quiet (fail)
          have hsz9 : w.heap.size ≤ (wr).heap.size := (hb.out).size
          have HM9 := Lib.hid fun (M : Nat) => And.intro (show World.ownsRow ((wr).drewN M) _ _ _ _ _ _ from ho.out) (Law.up (hb.out) M)
          go_wp2_with (at_builtin; refine wpList_append_own _ rfl _ _ 27 rfl w.heap.size 57 i0 (.agg #[.int .i64 0, .int .i64 0]) 2 16 Try.underlying27 hi hz0 hz1 hz2 rfl (by decide) _ _ _ rfl ((HM9.out _).1.alloc _) ⟨(wr).heap.size, 0, none⟩ 1 1 [.int .i64 (x), .int .i64 (1)] rfl rfl ?ca9a ?ca9b ?ca9c ?ca9d ?ca9e ?_)
          case ca9a =>
            intro j' u hj'
            match j', hj' with
            | 0, hj' => simp at hj'; subst hj'; simp [Addr.add]; exact (new_cell2 (World.drewN (wr) _) _ _ _).1
            | 1, hj' => simp at hj'; subst hj'; simp [Addr.add]; exact (new_cell2 (World.drewN (wr) _) _ _ _).2
          case ca9b => intro u hu; simp at hu; rcases hu with rfl | rfl <;> rfl
          case ca9c => unfold maxLen; omega
          case ca9d => omega
          case ca9e => simp; omega
          intro v9 w9 hm9 hg9 _
          have HB9 := Lib.hid (((HM9.out _).2.alloc hsz9 (.cells #[.int .i64 (x), .int .i64 (1)] 57)).grown hg9 (by simp; omega) (fun j e => ((ho.out).lt j e).1))
          clear hg9 HM9
          have HO9 : Hid (w9.ownsRow w.heap.size 57 2 v9 (l ++ [(x, 1)]).length (pvs (l ++ [(x, 1)]))) := by show World.ownsRow _ _ _ _ _ _ _; rw [pvs_snoc, show (l ++ [(x, (1 : Int))]).length = l.length + 1 by simp]; exact hm9
          clear hm9 ho hb
          go_wp2
          go_roundw
          case rel => exact ⟨1, by omega, by go_num, (by show World.ownsRow _ _ _ _ _ _ _; rw [HN.out]; exact HO9.out), HB9.out⟩
          case measure => simp [intOf]; omega
        · subst hkp
          have hyE : (x == y) = false := by simp; exact fun e => hyx e.symm
          have hxy : ¬ x = y := fun e => hyx e.symm
          have hpp : (0 : Int) < (p : Int) + 1 := by omega
          clear HA
          go_wp2_with fail
          go_quiet (fail)
          have hsz8 : w.heap.size ≤ (wr).heap.size := (hb.out).size
          have HM8 := Lib.hid fun (M : Nat) => And.intro (show World.ownsRow ((wr).drewN M) _ _ _ _ _ _ from ho.out) (Law.up (hb.out) M)
          go_wp2_with (at_builtin; refine wpList_append_own _ rfl _ _ 27 rfl w.heap.size 57 i0 (.agg #[.int .i64 0, .int .i64 0]) 2 16 Try.underlying27 hi hz0 hz1 hz2 rfl (by decide) _ _ _ rfl ((HM8.out _).1.alloc _) ⟨(wr).heap.size, 0, none⟩ 1 1 [.int .i64 (x), .int .i64 (1)] rfl rfl ?ca8a ?ca8b ?ca8c ?ca8d ?ca8e ?_)
          case ca8a =>
            intro j' u hj'
            match j', hj' with
            | 0, hj' => simp at hj'; subst hj'; simp [Addr.add]; exact (new_cell2 (World.drewN (wr) _) _ _ _).1
            | 1, hj' => simp at hj'; subst hj'; simp [Addr.add]; exact (new_cell2 (World.drewN (wr) _) _ _ _).2
          case ca8b => intro u hu; simp at hu; rcases hu with rfl | rfl <;> rfl
          case ca8c => unfold maxLen; omega
          case ca8d => omega
          case ca8e => simp; omega
          intro v8 w8 hm8 hg8 _
          have HB8 := Lib.hid (((HM8.out _).2.alloc hsz8 (.cells #[.int .i64 (x), .int .i64 (1)] 57)).grown hg8 (by simp; omega) (fun j e => ((ho.out).lt j e).1))
          clear hg8 HM8
          have HO8 : Hid (w8.ownsRow w.heap.size 57 2 v8 (l ++ [(x, 1)]).length (pvs (l ++ [(x, 1)]))) := by show World.ownsRow _ _ _ _ _ _ _; rw [pvs_snoc, show (l ++ [(x, (1 : Int))]).length = l.length + 1 by simp]; exact hm8
          clear hm8 ho hb
          go_wp2
          go_roundw
          case rel => exact ⟨p + 2, by omega, by go_num, (by show World.ownsRow _ _ _ _ _ _ _; rw [HN.out]; exact HO8.out), HB8.out⟩
          case measure => simp [intOf]; omega
    · have hke : k = zs.length := by omega
      have hltI : ¬ (k : Int) < (zs.length : Int) := by omega
      have HK := Lib.hid hke
      clear hke
      go_wp2
      go_ret2
      have h := ho.out
      rw [HK.out] at h
      exact ⟨_, rfl, h, hb.out⟩
theorem specRuns_any (n : Int) (zs : List Int) (A : Option Addr) (c : Nat) (hl : zs.length ≤ 1048576) (w : World) (hr : Law.Row w A (ivs zs)) :
    Calls Try.prog 16 #[.int .i64 n, .slice A zs.length c] w (rowSays2 (Q.runsQ n zs) w) := by
  cases hg : Q.good n zs
  · rw [show Q.runsQ n zs = ([], false) by simp [Q.runsQ, hg]]
    have b0 : Below w.heap.size w (w.alloc (.cells #[] 57)) := (Below.refl _ _).alloc (Nat.le_refl _) _
    have HQ := Lib.hid (l3Good_any n A c zs _ hl (hr.stays b0))
    rw [hg] at HQ
    clear hr hg b0
    go_enter Try.func16, Try.ntmps16
    go_wp2_with fail
    go_at_call 64
    refine (HQ.out).mono ?_
    rintro e w' ⟨rfl, hw'⟩
    obtain rfl := hw'.symm
    clear hw'
    go_wp2
    go_ret2
    exact ⟨_, rfl, own2_nil _ _, (Below.refl _ _).alloc (Nat.le_refl _) _⟩
  · rw [show Q.runsQ n zs = (Q.runsK zs zs.length, true) by simp [Q.runsQ, hg]]
    obtain ⟨N, rfl, h1, h2, h3, hx⟩ := Q.good_nat hg
    exact specRuns_good N A c zs w hg h3 hr
end Go.Proofs.Ytgnfmbdomofgcaa
