/-
  The code's RunsOf.
-/
import Derived.Test.YtgnfmbdomofgcaaArr2
import Derived.Test.YtgnfmbdomofgcaaGood
import Derived.Test.YtgnfmbdomofgcaaImpQ
namespace Go.Proofs.Ytgnfmbdomofgcaa
open Go.RowKit
set_option linter.unusedVariables false
/-- What a call says that gives a new row of arrays of two ints and whether it is one. -/
def rowSays2 (X : List (Int × Int) × Bool) (w : World) (e : Ending) (w' : World) : Prop :=
  ∃ v, e = .returned (.tuple #[v, .bool X.2]) ∧ w'.ownsRow w.heap.size 57 2 v X.1.length (pvs X.1) ∧ Below w.heap.size w w'
namespace Q
theorem bump_snoc (l : List (Int × Int)) (x q : Int) : bump (l ++ [(x, q)]) = l ++ [(x, q + 1)] := by
  simp [bump]
theorem runsK_cnt (zs : List Int) : ∀ k, ∀ z ∈ runsK zs k, 0 ≤ z.2 ∧ z.2 ≤ (k : Int)
  | 0 => fun z h => by simp [runsK] at h
  | k + 1 => fun z h => by
    have ih := runsK_cnt zs k
    unfold runsK at h
    split at h
    · rename_i hh
      have hp := runsK_pos zs k hh.1
      unfold bump at h
      rcases List.mem_or_eq_of_mem_set h with h | h
      · have := ih z h; omega
      · have hm : (runsK zs k).getD ((runsK zs k).length - 1) (0, 0) ∈ runsK zs k := by
          rw [List.getD_eq_getElem?_getD, List.getElem?_eq_getElem (by omega)]; exact List.getElem_mem _
        have := ih _ hm
        rw [h]
        simp only []
        omega
    · rcases List.mem_append.1 h with h | h
      · have := ih z h; omega
      · rw [List.mem_singleton.1 h]; simp only []; omega
theorem last_split {l : List (Int × Int)} (h : 0 < l.length) : ∃ l' x q, l = l' ++ [(x, q)] :=
  ⟨l.dropLast, (l.getLast (List.length_pos_iff.1 h)).1, (l.getLast (List.length_pos_iff.1 h)).2, (List.dropLast_concat_getLast _).symm⟩
theorem runs_new {zs : List Int} {k : Nat} {x : Int} (hx : zs[k]? = some x) (h : ¬ (0 < k ∧ zs[k]? = zs[k - 1]?)) : runsK zs (k + 1) = runsK zs k ++ [(x, 1)] := by
  rw [runsK, if_neg h, List.getD_eq_getElem?_getD, hx]; rfl
theorem runs_same {zs : List Int} {k : Nat} (h : 0 < k ∧ zs[k]? = zs[k - 1]?) {l : List (Int × Int)} {x q : Int} (hl : runsK zs k = l ++ [(x, q)]) : runsK zs (k + 1) = l ++ [(x, q + 1)] := by
  rw [runsK, if_pos h, hl, bump_snoc]
def runsQ (n : Int) (zs : List Int) : List (Int × Int) × Bool := if good n zs then (runsK zs zs.length, true) else ([], false)
end Q
theorem own2_nil (w : World) (e : TypeId) : (w.alloc (.cells #[] e)).ownsRow w.heap.size e 2 (.slice (some ⟨w.heap.size, 0, none⟩) 0 0) 0 (pvs []) :=
  ⟨rfl, .inr ⟨w.heap.size, 0, #[], rfl, Nat.le_refl _, heap_alloc_new w _, Nat.le_refl _, Nat.zero_le _, rfl, rfl⟩⟩
theorem own2_some {w : World} {base n : Nat} {e : TypeId} {v : Value} {l : List (Int × Int)} {z : Int × Int} (h : w.ownsRow base e 2 v n (pvs (l ++ [z]))) :
    ∃ g c, v = .slice (some ⟨g, 0, none⟩) (l.length + 1) c ∧ n = l.length + 1 ∧ base ≤ g ∧ g < w.heap.size ∧ w.cell? ⟨g, l.length * 2, none⟩ = some (.int .i64 z.1) ∧ w.cell? ⟨g, l.length * 2 + 1, none⟩ = some (.int .i64 z.2) := by
  have hl := h.1
  rw [pvs_len] at hl
  simp at hl
  have hn : n = l.length + 1 := by omega
  subst hn
  obtain ⟨a, b⟩ := pvs_at (zs := l ++ [z]) (k := l.length) (z := z) (by simp)
  rcases h.2 with ⟨_, h0⟩ | ⟨g, cap, cur, hv, hb, hg, _⟩
  · omega
  · subst hv
    have c0 := (h.cellAt (l.length * 2) (by omega)).trans a
    have c1 := (h.cellAt (l.length * 2 + 1) (by omega)).trans b
    exact ⟨g, cap, rfl, rfl, hb, (Array.getElem?_eq_some_iff.1 hg).1, c0, c1⟩
theorem own2_put {w : World} {base g n c : Nat} {e : TypeId} {l : List (Int × Int)} {x q : Int} (h : w.ownsRow base e 2 (.slice (some ⟨g, 0, none⟩) n c) n (pvs (l ++ [(x, q)]))) (q' : Int) :
    (w.setCell ⟨g, l.length * 2 + 1, none⟩ (.int .i64 q')).ownsRow base e 2 (.slice (some ⟨g, 0, none⟩) n c) n (pvs (l ++ [(x, q')])) := by
  have e1 : pvs (l ++ [(x, q')]) = (pvs (l ++ [(x, q)])).set (l.length * 2 + 1) (.int .i64 q') := by
    rw [pvs_snoc, pvs_snoc, List.set_append, if_neg (by rw [pvs_len]; omega), pvs_len, show l.length * 2 + 1 - l.length * 2 = 1 by omega]; rfl
  rw [e1]
  exact (h.stored _ _).1
set_option maxHeartbeats 1600000 in
theorem impRuns_good (n : Int) (A : Option Addr) (c : Nat) (zs : List Int) (w : World) (hg : Q.good n zs = true) (h3 : zs.length ≤ 60) (hr : Law.Row w A (ivs zs)) :
    Calls Try.prog 15 #[.int .i64 n, .slice A zs.length c] w (rowSays2 (Q.runsK zs zs.length, true) w) := by
  obtain ⟨i0, hi, hz0, hz1, hz2⟩ := info_parts infoA2
  have HQ := Lib.hid (impIsReq_any n A c zs w (by omega) hr)
  rw [hg] at HQ
  have HR := Lib.hid hr
  clear hr hg
  go_enter Try.func15, Try.ntmps15
  go_wp2_with fail
  go_at_call 46
  refine (HQ.out).mono ?_
  rintro e w' ⟨rfl, hw'⟩
  obtain rfl := hw'.symm
  clear hw'
  go_wp2_with fail
  go_loopw [6, 17] (fun v i wr => ∃ k : Nat, k ≤ zs.length ∧ i = .int .i64 k ∧ Hid (wr.ownsRow w.heap.size 57 2 v (Q.runsK zs k).length (pvs (Q.runsK zs k))) ∧ Hid (Below w.heap.size w wr)) (fun _ i _ => zs.length - (intOf i).toNat)
  case atStart => exact ⟨0, Nat.zero_le _, rfl, own2_nil _ _, (Below.refl _ _).alloc (Nat.le_refl _) _⟩
  case round =>
    obtain ⟨k, hk, rfl, ho, hb⟩ := hrel
    by_cases hlt : k < zs.length
    · obtain ⟨x, hx⟩ : ∃ x, zs[k]? = some x := ⟨_, List.getElem?_eq_getElem hlt⟩
      obtain ⟨b, off, rfl, hbl, hc⟩ := (HR.out.stays hb.out).at_ (ivs_some hx)
      have hltI : (k : Int) < (zs.length : Int) := by omega
      by_cases hs : 0 < k ∧ zs[k]? = zs[k - 1]?
      · obtain ⟨p, rfl⟩ : ∃ p, k = p + 1 := ⟨k - 1, by omega⟩
        have hy : zs[p]? = some x := by rw [← hx, hs.2]; rfl
        obtain ⟨b', off', hbb, hbl', hc'⟩ := (HR.out.stays hb.out).at_ (ivs_some hy)
        injection hbb with hbb
        injection hbb with hb1 hb2 _
        subst hb1 hb2
        obtain ⟨l, x9, q, hl⟩ := Q.last_split (Q.runsK_pos zs (p + 1) (by omega))
        have HN := Lib.hid (Q.runs_same hs hl)
        have hq := Q.runsK_cnt zs (p + 1) (x9, q) (by rw [hl]; simp)
        simp only [] at hq
        rw [hl] at ho
        have hlk : l.length ≤ 59 := by have := Q.runsK_le zs (p + 1); rw [hl] at this; simp at this; omega
        have ho2 : Hid (wr.ownsRow w.heap.size 57 2 u6 (l.length + 1) (pvs (l ++ [(x9, q)]))) := by
          show World.ownsRow _ _ _ _ _ _ _
          have h := ho.out
          rw [show (l ++ [(x9, q)]).length = l.length + 1 by simp] at h
          exact h
        clear ho hl hx hy hs
        obtain ⟨g, cc, hv, hnn, hge, hgl, c0, c1⟩ := own2_some ho2.out
        subst hv
        have HP := Lib.hid (own2_put ho2.out (q + 1))
        have HBB := Lib.hid (hb.out.setCell (p := ⟨g, l.length * 2 + 1, none⟩) hge (.int .i64 (q + 1)))
        have hfO := ho2.out.frozenAt (l.length * 2 + 1)
        simp only [] at c0 c1
        generalize hL : l.length = L at c0 c1 HP HBB hfO hlk ⊢
        have HL := Lib.hid hL
        have hwL : IntKind.i64.wrap (L : Int) = (L : Int) := IntWalk.i64_in _ (by omega)
        have hLI : (L : Int) < (L : Int) + 1 := by omega
        have hwq : IntKind.i64.wrap (q + 1) = q + 1 := IntWalk.i64_in _ (by omega)
        clear hL hnn
        go_wp2_with fail
        go_region
        go_wp2
        go_roundw
        case rel => exact ⟨p + 2, by omega, by go_num, (by show World.ownsRow _ _ _ _ _ _ _; rw [HN.out]; simp only [List.length_append, List.length_cons, List.length_nil, HL.out]; first | exact HP.out.drew | exact HP.out), (by first | exact HBB.out.drew | exact HBB.out)⟩
        case measure => simp [intOf]; omega
      · obtain ⟨l, hl⟩ : ∃ l, l = Q.runsK zs k := ⟨_, rfl⟩
        have HN := Lib.hid (Q.runs_new hx hs)
        rw [← hl] at ho HN
        have hlk : l.length ≤ 59 := by have := Q.runsK_le zs k; rw [← hl] at this; omega
        clear hl
        have HA : Hid ((k = 0 ∧ True) ∨ ∃ p y, k = p + 1 ∧ wr.cell? ⟨b, off + p, none⟩ = some (.int .i64 y) ∧ y ≠ x) := by
          by_cases hk0 : k = 0
          · exact .inl ⟨hk0, trivial⟩
          · obtain ⟨p, rfl⟩ : ∃ p, k = p + 1 := ⟨k - 1, by omega⟩
            obtain ⟨y, hy⟩ : ∃ y, zs[p]? = some y := ⟨_, List.getElem?_eq_getElem (by omega)⟩
            obtain ⟨b', off', hbb, hbl', hc'⟩ := (HR.out.stays hb.out).at_ (ivs_some hy)
            injection hbb with hbb
            injection hbb with hb1 hb2 _
            subst hb1 hb2
            refine .inr ⟨p, y, rfl, hc', fun e => hs ⟨by omega, ?_⟩⟩
            rw [hx, show p + 1 - 1 = p by omega, hy, e]
        have HX := Lib.hid hx
        clear hx hs
        rcases HA.out with ⟨hk0, _⟩ | ⟨p, y, hkp, hc', hyx⟩
        · subst hk0
          rw [Nat.add_zero] at hc
          replace hltI : (0 : Int) < (zs.length : Int) := by omega
          clear HA
          have hsz9 := (hb.out).size
          go_wp2_with (at_builtin; refine wpList_append_own _ rfl _ _ 27 rfl w.heap.size 57 i0 (.agg #[.int .i64 0, .int .i64 0]) 2 16 Try.underlying27 hi hz0 hz1 hz2 rfl (by decide) _ _ _ rfl ((ho.out).alloc _) ⟨(wr).heap.size, 0, none⟩ 1 1 [.int .i64 (x), .int .i64 (0)] rfl rfl ?ca9a ?ca9b ?ca9c ?ca9d ?ca9e ?_)
          case ca9a =>
            intro j' u hj'
            match j', hj' with
            | 0, hj' => simp at hj'; subst hj'; simp [Addr.add]
            | 1, hj' => simp at hj'; subst hj'; simp [Addr.add]
          case ca9b => intro u hu; simp at hu; rcases hu with rfl | rfl <;> rfl
          case ca9c => unfold maxLen; omega
          case ca9d => omega
          case ca9e => simp; omega
          intro v9 w9 hm9 hg9 _
          have HB9 := Lib.hid (((hb.out).alloc hsz9 (.cells #[.int .i64 (x), .int .i64 (0)] 57)).grown hg9 (by simp; omega) (fun j e => ((ho.out).lt j e).1))
          clear hg9
          have ho2 : Hid (w9.ownsRow w.heap.size 57 2 v9 (l.length + 1) (pvs (l ++ [(x, 0)]))) := by show World.ownsRow _ _ _ _ _ _ _; rw [pvs_snoc]; exact hm9
          clear hm9 ho hb
          obtain ⟨g, cc, hv, hnn, hge, hgl, c0, c1⟩ := own2_some ho2.out
          subst hv
          have HP := Lib.hid (own2_put ho2.out 1)
          have HBB := Lib.hid (HB9.out.setCell (p := ⟨g, l.length * 2 + 1, none⟩) hge (.int .i64 1))
          have hfO := ho2.out.frozenAt (l.length * 2 + 1)
          simp only [] at c0 c1
          generalize hL : l.length = L at c0 c1 HP HBB hfO hlk ⊢
          have HL := Lib.hid hL
          have hwL : IntKind.i64.wrap (L : Int) = (L : Int) := IntWalk.i64_in _ (by omega)
          have hLI : (L : Int) < (L : Int) + 1 := by omega
          have hwq : IntKind.i64.wrap (1 : Int) = 1 := IntWalk.i64_in _ (by omega)
          clear hL hnn
          go_wp2_with fail
          go_region
          go_wp2
          go_roundw
          case rel => exact ⟨1, by omega, by go_num, (by show World.ownsRow _ _ _ _ _ _ _; rw [HN.out]; simp only [List.length_append, List.length_cons, List.length_nil, HL.out]; first | exact HP.out.drew | exact HP.out), (by first | exact HBB.out.drew | exact HBB.out)⟩
          case measure => simp [intOf]; omega
        · subst hkp
          have hyE : (y == x) = false := by simp [hyx]
          have hyN : (y != x) = true := by simp [hyx]
          have hp1 : ((p : Int) + 1 == 0) = false := by simp; omega
          clear HA
          have hsz8 := (hb.out).size
          go_wp2_with (at_builtin; refine wpList_append_own _ rfl _ _ 27 rfl w.heap.size 57 i0 (.agg #[.int .i64 0, .int .i64 0]) 2 16 Try.underlying27 hi hz0 hz1 hz2 rfl (by decide) _ _ _ rfl ((ho.out).alloc _) ⟨(wr).heap.size, 0, none⟩ 1 1 [.int .i64 (x), .int .i64 (0)] rfl rfl ?ca8a ?ca8b ?ca8c ?ca8d ?ca8e ?_)
          case ca8a =>
            intro j' u hj'
            match j', hj' with
            | 0, hj' => simp at hj'; subst hj'; simp [Addr.add]
            | 1, hj' => simp at hj'; subst hj'; simp [Addr.add]
          case ca8b => intro u hu; simp at hu; rcases hu with rfl | rfl <;> rfl
          case ca8c => unfold maxLen; omega
          case ca8d => omega
          case ca8e => simp; omega
          intro v8 w8 hm8 hg8 _
          have HB8 := Lib.hid (((hb.out).alloc hsz8 (.cells #[.int .i64 (x), .int .i64 (0)] 57)).grown hg8 (by simp; omega) (fun j e => ((ho.out).lt j e).1))
          clear hg8
          have ho2 : Hid (w8.ownsRow w.heap.size 57 2 v8 (l.length + 1) (pvs (l ++ [(x, 0)]))) := by show World.ownsRow _ _ _ _ _ _ _; rw [pvs_snoc]; exact hm8
          clear hm8 ho hb
          obtain ⟨g, cc, hv, hnn, hge, hgl, c0, c1⟩ := own2_some ho2.out
          subst hv
          have HP := Lib.hid (own2_put ho2.out 1)
          have HBB := Lib.hid (HB8.out.setCell (p := ⟨g, l.length * 2 + 1, none⟩) hge (.int .i64 1))
          have hfO := ho2.out.frozenAt (l.length * 2 + 1)
          simp only [] at c0 c1
          generalize hL : l.length = L at c0 c1 HP HBB hfO hlk ⊢
          have HL := Lib.hid hL
          have hwL : IntKind.i64.wrap (L : Int) = (L : Int) := IntWalk.i64_in _ (by omega)
          have hLI : (L : Int) < (L : Int) + 1 := by omega
          have hwq : IntKind.i64.wrap (1 : Int) = 1 := IntWalk.i64_in _ (by omega)
          clear hL hnn
          go_wp2_with fail
          go_region
          go_wp2
          go_roundw
          case rel => exact ⟨p + 2, by omega, by go_num, (by show World.ownsRow _ _ _ _ _ _ _; rw [HN.out]; simp only [List.length_append, List.length_cons, List.length_nil, HL.out]; first | exact HP.out.drew | exact HP.out), (by first | exact HBB.out.drew | exact HBB.out)⟩
          case measure => simp [intOf]; omega
    · have hke : k = zs.length := by omega
      have hltI : ¬ (k : Int) < (zs.length : Int) := by omega
      have HK := Lib.hid hke
      clear hke
      go_wp2
      go_ret2
      have h := ho.out
      rw [HK.out] at h
      exact ⟨_, rfl, h, hb.out⟩
end Go.Proofs.Ytgnfmbdomofgcaa
