/-
  One row of rows of one's own grows in its place. A matrix turned: transposed of the code, l11Turned of the model.
-/
import Derived.Test.YtammlkaclooohaaAp3
import Derived.Test.YtammlkaclooohaaMet
import Derived.Test.YtammlkaclooohaaMga
/- One row of rows of one's own grows in its place. -/
namespace Go.Proofs.Ytammlkaclooohaa
open Go.RowKit
set_option linter.unusedVariables false
theorem own_sliceN {w : World} {b s n : Nat} {e : TypeId} {v : Value} {xs : List Value} (h : w.ownsRow b e s v n xs) : ∃ A c, v = .slice A n c := by
  rcases h.2 with ⟨e, h0⟩ | ⟨g, cap, cur, e, _⟩
  · subst h0; exact ⟨none, 0, e⟩
  · exact ⟨_, _, e⟩
theorem ints_neN : (3 : TypeId) ≠ 25 := by decide
theorem NOwn.upd {W w' : World} {base j : Nat} {xs : List Value} {L : List (List Int)} {x v' : Value} {l l' : List Int} (h : NOwn W base xs L) (hx : xs[j]? = some x) (hl : L[j]? = some l) (hg : W.grownBy w' x.ownBlock) (hn : w'.ownsRow base 3 1 v' l'.length (ivs l')) (ha : atOrNew x W v') :
    NOwn w' base (xs.set j v') (L.set j l') := by
  have hjx := (List.getElem?_eq_some_iff.1 hx).1
  have hjl := (List.getElem?_eq_some_iff.1 hl).1
  have hlt : ∀ (k : Nat) (y : Value) (b : Nat), xs[k]? = some y → y.ownBlock = some b → b < W.heap.size := fun k y b hy hb => by
    obtain ⟨m, hm⟩ := h.some_ hy
    exact ((h.own k y m hy hm).lt b hb).2
  refine ⟨by simp [h.len], fun k y m h1 h2 => ?_, fun i k y z b hik h1 h2 h3 h4 => ?_⟩
  · by_cases e : j = k
    · subst e
      rw [List.getElem?_set_self hjx] at h1
      rw [List.getElem?_set_self hjl] at h2
      injection h1 with h1
      injection h2 with h2
      subst h1 h2
      exact hn
    · rw [List.getElem?_set_ne e] at h1 h2
      refine (h.own k y m h1 h2).kept hg ?_
      cases hb : y.ownBlock with
      | none => exact .inl rfl
      | some b =>
        refine .inr fun e2 => ?_
        rcases Nat.lt_or_ge j k with hh | hh
        · exact h.apart j k x y b hh hx h1 e2.symm hb
        · exact h.apart k j y x b (by omega) h1 hx hb e2.symm
  · by_cases e : j = i
    · subst e
      rw [List.getElem?_set_self hjx] at h1
      rw [List.getElem?_set_ne (by omega)] at h2
      injection h1 with h1
      subst h1
      rcases ha with e2 | e2
      · exact h.apart j k x z b hik hx h2 (e2 ▸ h3) h4
      · rw [e2] at h3
        injection h3 with h3
        have := hlt k z b h2 h4
        omega
    · rw [List.getElem?_set_ne e] at h1
      by_cases e' : j = k
      · subst e'
        rw [List.getElem?_set_self hjx] at h2
        injection h2 with h2
        subst h2
        rcases ha with e2 | e2
        · exact h.apart i j y x b hik h1 hx h3 (e2 ▸ h4)
        · rw [e2] at h4
          injection h4 with h4
          have := hlt i y b h1 h3
          omega
      · rw [List.getElem?_set_ne e'] at h2
        exact h.apart i k y z b hik h1 h2 h3 h4
theorem rep_at {α : Type} {a x : α} {n j : Nat} (h : (List.replicate n a)[j]? = some x) : x = a := by
  rw [List.getElem?_replicate] at h
  split at h
  · injection h with h
    exact h.symm
  · cases h
theorem NOwn.nils (w : World) (base m : Nat) : NOwn w base (List.replicate m (.slice none 0 0)) (List.replicate m []) := by
  refine ⟨by simp, fun j x l h1 h2 => ?_, fun i j x y b hij h1 h2 h3 => ?_⟩
  · rw [rep_at h1, rep_at h2]
    exact ⟨rfl, .inl ⟨rfl, rfl⟩⟩
  · rw [rep_at h1] at h3
    simp [Value.ownBlock] at h3
theorem nils_cells (n : Nat) : (madeCells #[Value.slice none 0 0] n).toList = List.replicate n (.slice none 0 0) := by
  apply List.ext_getElem (by simp [size_madeCells])
  intro k h1 h2
  simp [madeCells, Nat.mod_one]
end Go.Proofs.Ytammlkaclooohaa

/- A matrix turned: transposed of the code, l11Turned of the model. -/
namespace Go.Proofs.Ytammlkaclooohaa
open Go.RowKit
set_option linter.unusedVariables false
namespace Q
/-- The first k numbers of a column. -/
def cK (M : List (List Int)) (j k : Nat) : List Int := (List.range k).map fun i => dst M i j
theorem cK_snoc (M : List (List Int)) (j k : Nat) : cK M j (k + 1) = cK M j k ++ [dst M k j] := by simp [cK, List.range_succ]
theorem cK_len (M : List (List Int)) (j k : Nat) : (cK M j k).length = k := by simp [cK]
/-- The columns behind k rows, and of the row k the first q numbers. -/
def tcK (M : List (List Int)) (m k q : Nat) : List (List Int) := (List.range m).map fun j => cK M j (if j < q then k + 1 else k)
def trQ (M : List (List Int)) (m : Nat) : List (List Int) := (List.range m).map fun j => cK M j M.length
theorem tcK_zero (M : List (List Int)) (m : Nat) : tcK M m 0 0 = List.replicate m [] := by simp [tcK, cK, List.map_const']
theorem tcK_row (M : List (List Int)) (m k : Nat) : tcK M m k m = tcK M m (k + 1) 0 := by
  unfold tcK
  refine List.map_congr_left fun j hj => ?_
  rw [if_pos (List.mem_range.1 hj), if_neg (by omega)]
theorem tcK_end (M : List (List Int)) (m : Nat) : tcK M m M.length 0 = trQ M m := by
  unfold tcK trQ
  refine List.map_congr_left fun j hj => ?_
  rw [if_neg (by omega)]
theorem tcK_at {M : List (List Int)} {m k q : Nat} (hq : q < m) : (tcK M m k q)[q]? = some (cK M q k) := by simp [tcK, hq]
theorem tcK_len (M : List (List Int)) (m k q : Nat) : (tcK M m k q).length = m := by simp [tcK]
theorem trQ_len (M : List (List Int)) (m : Nat) : (trQ M m).length = m := by simp [trQ]
theorem tcK_set {M : List (List Int)} {m k q : Nat} : (tcK M m k q).set q (cK M q k ++ [dst M k q]) = tcK M m k (q + 1) := by
  rw [← cK_snoc]
  apply List.ext_getElem (by simp [tcK])
  intro j h1 h2
  simp [tcK] at h1
  rw [List.getElem_set]
  simp only [tcK, List.getElem_map, List.getElem_range]
  by_cases e : q = j
  · subst e; simp
  · rw [if_neg e]
    by_cases hj : j < q
    · rw [if_pos hj, if_pos (by omega)]
    · rw [if_neg hj, if_neg (by omega)]
def trP (M : List (List Int)) : Nat → List (List Int)
  | 0 => []
  | j + 1 => trP M j ++ [cK M j M.length]
theorem trP_end (M : List (List Int)) : ∀ m, trP M m = trQ M m
  | 0 => rfl
  | m + 1 => by rw [trP, trP_end M m]; simp [trQ, List.range_succ]
theorem trP_len (M : List (List Int)) (m : Nat) : (trP M m).length = m := by rw [trP_end, trQ_len]
theorem dst_of {M : List (List Int)} {l : List Int} {i j : Nat} {z : Int} (hl : M[i]? = some l) (hz : l[j]? = some z) : dst M i j = z := by
  unfold Q.dst
  rw [List.getD_eq_getElem?_getD (l := M), hl]
  simp only [Option.getD_some]
  rw [List.getD_eq_getElem?_getD, hz]
  rfl
/-- The turned matrix is one, too. -/
theorem Mx.turn {M : List (List Int)} {m : Nat} (h : Mx M m) : Mx (trQ M m) M.length := by
  refine ⟨by rw [trQ_len]; exact h.m1, by rw [trQ_len]; exact h.m3, h.n1, h.n3, fun l hl => ?_⟩
  obtain ⟨j, hj, rfl⟩ := List.mem_map.1 hl
  refine ⟨cK_len _ _ _, List.all_eq_true.2 fun z hz => ?_⟩
  obtain ⟨i, hi, rfl⟩ := List.mem_map.1 hz
  have := h.dst (List.mem_range.1 hi) (List.mem_range.1 hj)
  simp [okW]
  omega
end Q
section
variable (A : Option Addr) (c : Nat) (xs : List Value) (M : List (List Int)) (w : World)
set_option maxRecDepth 100000 in
set_option maxHeartbeats 1600000 in
theorem transposed_any (m : Nat) (h : Q.Mx M m) (hM : NRow w A xs M) :
    Calls Try.prog 126 #[.slice A M.length c] w (nrSays (Q.trQ M m) w) := by
  obtain ⟨i0, hi, hz0, hz1, hz2⟩ := info_parts infoInts
  obtain ⟨i1, hj', hq0, hq1, hq2⟩ := info_parts infoII
  obtain ⟨bA, oA, rfl⟩ := hM.some_ h.n1
  have HMw := Lib.hid hM
  have HTd := Lib.hid fun (W : World) (hb : Below w.heap.size w W) => (hM.stays hb).tab (n := m) (fun l hl => (h.row l hl).1) h.m1
  have HP0 := Lib.hid (Q.tcK_zero M m)
  have HPr := Lib.hid (Q.tcK_row M m)
  have HPe := Lib.hid (Q.tcK_end M m)
  have HPa := Lib.hid fun k q (hq : q < m) => Q.tcK_at (M := M) (k := k) hq
  have HPs := Lib.hid fun k q => Q.tcK_set (M := M) (m := m) (k := k) (q := q)
  have HPl := Lib.hid fun k q => Q.tcK_len M m k q
  have HCl := Lib.hid fun j k => Q.cK_len M j k
  have HRl := Lib.hid fun (l : List Int) (hl : l ∈ M) => (h.row l hl).1
  have hm3 := h.m3
  have hm1 := h.m1
  have hn3 := h.n3
  have hlM := h.n1
  have hn1I : (0 : Int) < (M.length : Int) := by omega
  obtain ⟨l0, hl0⟩ : ∃ l0, M[0]? = some l0 := ⟨_, List.getElem?_eq_getElem (by omega)⟩
  obtain ⟨b1, o1, X0, d0, e1, hbb, hc0, _⟩ := hM.row_at hl0
  cases e1
  rw [Nat.add_zero, (h.row l0 (List.mem_of_getElem? hl0)).1] at hc0
  have hln := Q.trQ_len M m
  unfold nrSays
  rw [hln]
  generalize Q.trQ M m = R at HPe ⊢
  generalize Q.tcK M m = P at *
  obtain ⟨F, hF⟩ : ∃ F : Nat → Nat → List Int, ∀ j k, Q.cK M j k = F j k := ⟨_, fun _ _ => rfl⟩
  simp only [hF] at HPa HPs HCl
  clear h hM hl0 hln hF hbb
  go_enter Try.func126, Try.ntmps126
  go_wp2_with (at_make; refine wpList_make_full _ rfl _ _ 22 rfl (w.heap.size) 25 i1 (.slice none 0 0) 1 Try.underlying22 hj' hq0 hq1 .i64 .i64 _ _ m rfl rfl rfl rfl ?c1 ?c2 ?c3 ?_)
  case c1 => rw [hq2]; omega
  case c2 => unfold maxLen; omega
  case c3 => first | exact Nat.le_refl _ | omega | (simp; done) | (simp; omega)
  intro w1 hown hgr
  rw [nils_cells] at hown
  have HB1 : Hid (Below w.heap.size w w1) := (Below.refl _ _).grown hgr (Nat.le_refl _) (fun k e => by cases e)
  have HO1 : Hid (∃ ys, w1.ownsRow w.heap.size 25 1 (.slice (some ⟨w.heap.size, 0, none⟩) m m) m ys ∧ NOwn w1 w.heap.size ys (P 0 0)) := ⟨_, hown, by rw [HP0.out]; exact NOwn.nils _ _ _⟩
  clear hown hgr
  go_wp2_with fail
  go_loopw [15] (fun i wr => ∃ k : Nat, k ≤ M.length ∧ i = .int .i64 (k : Int) ∧ Hid (∃ ys, wr.ownsRow w.heap.size 25 1 (.slice (some ⟨w.heap.size, 0, none⟩) m m) m ys ∧ NOwn wr w.heap.size ys (P k 0)) ∧ Hid (Below w.heap.size w wr)) (fun i _ => M.length - (intOf i).toNat)
  case atStart => exact ⟨0, Nat.zero_le _, rfl, HO1.out, HB1.out⟩
  case round =>
    obtain ⟨k, hk, rfl, ho, hb⟩ := hrel
    obtain ⟨wo, hwo⟩ : ∃ wo, wo = wr := ⟨_, rfl⟩
    rw [← hwo] at ho hb ⊢
    clear hwo
    by_cases hlt : k < M.length
    · have hltI : (k : Int) < (M.length : Int) := by omega
      obtain ⟨l, hlk⟩ : ∃ l, M[k]? = some l := ⟨_, List.getElem?_eq_getElem hlt⟩
      obtain ⟨b2, o2, X, dX, e2, hbb, hcw, hrow⟩ := HMw.out.row_at hlk
      cases e2
      have hc := (hb.out.cell (p := ⟨bA, oA + k, none⟩) hbb).trans hcw
      clear hcw
      have hll := HRl.out l (List.mem_of_getElem? hlk)
      have HRow := Lib.hid fun W (h : Below w.heap.size w W) => hrow.stays h
      have HE := Lib.hid fun q (hq : q < m) => show ∃ z, l[q]? = some z ∧ Q.dst M k q = z from ⟨l[q]'(by omega), List.getElem?_eq_getElem (by omega), Q.dst_of hlk (List.getElem?_eq_getElem (by omega))⟩
      rw [hll] at hc
      clear hlk hrow hbb hll
      go_wp2_with fail
      go_loopw [21] (fun i wq => ∃ q : Nat, q ≤ m ∧ i = .int .i64 (q : Int) ∧ Hid (∃ ys, wq.ownsRow w.heap.size 25 1 (.slice (some ⟨w.heap.size, 0, none⟩) m m) m ys ∧ NOwn wq w.heap.size ys (P k q)) ∧ Hid (Below w.heap.size w wq)) (fun i _ => m - (intOf i).toNat)
      case atStart => exact ⟨0, Nat.zero_le _, rfl, ho.out, hb.out⟩
      case round =>
        obtain ⟨q, hq, rfl, hoq, hbq⟩ := hrel
        by_cases hltq : q < m
        · have hltqI : (q : Int) < (m : Int) := by omega
          obtain ⟨z, hz, hzd⟩ := HE.out q hltq
          obtain ⟨bX, oX, rfl, hbX, hcX⟩ := (HRow.out wr hbq.out).at_ (ivs_some hz)
          obtain ⟨ys, hoy, hny⟩ := hoq.out
          have hyl : ys.length = m := by rw [hny.len, HPl.out]
          obtain ⟨y, hy⟩ : ∃ y, ys[q]? = some y := ⟨_, List.getElem?_eq_getElem (by omega)⟩
          have hyo := hny.own q y _ hy (HPa.out k q hltq)
          rw [HCl.out] at hyo
          obtain ⟨Ay, cy, rfl⟩ := own_sliceN hyo
          have hcO := (hoy.cellAt q (by omega)).trans hy
          have hPs := HPs.out k q
          rw [hzd] at hPs
          have HPS := Lib.hid hPs
          have HPA := Lib.hid (HPa.out k q hltq)
          have HY := Lib.hid hy
          have HHo := Lib.hid hoy
          have HHn := Lib.hid hny
          have hFk := HCl.out q k
          generalize hFq : F q k = fq at hyo HPS HPA hFk
          have HFl := Lib.hid hFk
          have hszr := hbq.out.size
          clear hoq hoy hny hz hzd hbX hy hPs hyl hFk hFq
          go_wp2_with (at_builtin; refine list_app1 rfl _ _ 25 rfl Try.underlying25 hi hz0 hz1 hz2 rfl (hyo.alloc _) rfl (new_cell (wr) (.int .i64 (z)) 3) ?ca ?cb ?_)
          case ca => omega
          case cb => (show w.heap.size ≤ _; simp; omega)
          intro v9 w9 hm9 hg9 ha9
          have hn9 := (HHn.out.alloc (.cells #[.int .i64 z] 3)).upd HY.out HPA.out hg9 (l' := fq ++ [z]) (by rw [List.length_append, HFl.out, ivs_snoc]; exact hm9) ha9
          rw [HPS.out] at hn9
          have ho9 := (HHo.out.alloc (.cells #[.int .i64 z] 3)).kept hg9 (own_types (Ne.symm ints_neN) (HHo.out.alloc (.cells #[.int .i64 z] 3)) (hyo.alloc (.cells #[.int .i64 z] 3)))
          have hb9 := (hbq.out.alloc hszr (.cells #[.int .i64 z] 3)).grown hg9 (by simp; omega) (fun j e => ((hyo.alloc (.cells #[.int .i64 z] 3)).lt j e).1)
          obtain ⟨A9, c9, rfl⟩ := own_sliceN hm9
          have hfO := ho9.frozenAt q
          have hcO9 := (ho9.cellAt q (by omega)).trans HY.out
          have hst := ho9.stored q (.slice A9 (k + 1) c9)
          have HO2 := Lib.hid hst.1
          have HN2 := Lib.hid (hn9.outer ints_neN ho9 hst.2)
          have HB2 := Lib.hid (hb9.setCell (p := ⟨w.heap.size, q, none⟩) (Nat.le_refl _) (.slice A9 (k + 1) c9))
          clear hn9 ho9 hb9 hst hm9 hg9 ha9 hyo hcO HHo HHn hcX
          go_wp2
          go_roundw
          case rel => exact ⟨q + 1, by omega, by go_num, ⟨_, HO2.out, HN2.out⟩, HB2.out⟩
          case measure => simp [intOf]; omega
        · have hqe : q = m := by omega
          have hltqI : ¬ (q : Int) < (m : Int) := by omega
          have HN : Hid (P k q = P (k + 1) 0) := by show _ = _; rw [hqe]; exact HPr.out k
          have HOq := Lib.hid hoq.out
          rw [HN.out] at HOq
          clear hqe ho hb hoq
          go_wp2
          go_roundw
          case rel => exact ⟨k + 1, by omega, by go_num, HOq.out, hbq.out⟩
          case measure => simp [intOf]; omega
    · have hke : k = M.length := by omega
      have hltI : ¬ (k : Int) < (M.length : Int) := by omega
      have HN : Hid (P k 0 = R) := by show _ = _; rw [hke]; exact HPe.out
      clear hke
      obtain ⟨ys, ho1, ho2⟩ := ho.out
      have HO := Lib.hid ho1
      have HN2 := Lib.hid ho2
      clear ho1 ho2 ho
      go_wp2
      go_ret
      refine ⟨_, rfl, ys, HO.out, ?_, hb.out⟩
      have hq := HN2.out
      rw [HN.out] at hq
      exact hq
set_option maxRecDepth 100000 in
set_option maxHeartbeats 1600000 in
theorem l11Turned_any (m : Nat) (h : Q.Mx M m) (hM : NRow w A xs M) :
    Calls Try.prog 125 #[.slice A M.length c] w (nrSays (Q.trQ M m) w) := by
  obtain ⟨i0, hi, hz0, hz1, hz2⟩ := info_parts infoInts
  obtain ⟨i1, hj', hq0, hq1, hq2⟩ := info_parts infoII
  obtain ⟨bA, oA, rfl⟩ := hM.some_ h.n1
  have HTd := Lib.hid fun (W : World) (hb : Below w.heap.size w W) => (hM.stays hb).tab (n := m) (fun l hl => (h.row l hl).1) h.m1
  have HCs := Lib.hid fun j k => Q.cK_snoc M j k
  have HCl := Lib.hid fun j k => Q.cK_len M j k
  have HC0 : Hid (∀ j, Q.cK M j 0 = []) := fun j => rfl
  have HTs : Hid (∀ j, Q.trP M (j + 1) = Q.trP M j ++ [Q.cK M j M.length]) := fun j => rfl
  have HTe := Lib.hid (Q.trP_end M m)
  have HT0 : Hid (Q.trP M 0 = []) := rfl
  have hm3 := h.m3
  have hm1 := h.m1
  have hn3 := h.n3
  have hlM := h.n1
  have hn1I : (0 : Int) < (M.length : Int) := by omega
  obtain ⟨l0, hl0⟩ : ∃ l0, M[0]? = some l0 := ⟨_, List.getElem?_eq_getElem (by omega)⟩
  obtain ⟨b1, o1, X0, d0, e1, hbb, hc0w, _⟩ := hM.row_at hl0
  cases e1
  rw [Nat.add_zero, (h.row l0 (List.mem_of_getElem? hl0)).1] at hc0w
  have HC0w := Lib.hid fun (W : World) (hb : Below w.heap.size w W) => (hb.cell (p := ⟨bA, oA, none⟩) hbb).trans hc0w
  have hln := Q.trQ_len M m
  unfold nrSays
  rw [hln]
  generalize Q.trQ M m = R at HTe ⊢
  generalize Q.trP M = P at *
  obtain ⟨F, hF⟩ : ∃ F : Nat → Nat → List Int, ∀ j k, Q.cK M j k = F j k := ⟨_, fun _ _ => rfl⟩
  simp only [hF] at HCs HCl HC0 HTs
  clear h hM hl0 hln hF hbb hc0w
  have HO0 := Lib.hid (ownsRow_nil w 25)
  have HB0 : Hid (Below w.heap.size w (w.alloc (.cells #[] 25))) := (Below.refl _ _).alloc (Nat.le_refl _) _
  go_enter Try.func125, Try.ntmps125
  go_wp2_with fail
  go_loopw [3, 4] (fun u i wr => ∃ j : Nat, j ≤ m ∧ i = .int .i64 (j : Int) ∧ Hid (∃ ys, wr.ownsRow w.heap.size 25 1 u j ys ∧ NOwn wr w.heap.size ys (P j)) ∧ Hid (Below w.heap.size w wr)) (fun _ i _ => m - (intOf i).toNat)
  case atStart => exact ⟨0, Nat.zero_le _, rfl, ⟨[], HO0.out, by rw [HT0.out]; exact NOwn.nil _ _⟩, HB0.out⟩
  case round =>
    obtain ⟨j, hj, rfl, hv, hb⟩ := hrel
    obtain ⟨w2, hw2⟩ : ∃ w2, w2 = wr := ⟨_, rfl⟩
    rw [← hw2] at hv hb ⊢
    clear hw2 HO0 HB0
    have hc0 := HC0w.out w2 hb.out
    by_cases hltj : j < m
    · have hltjI : (j : Int) < (m : Int) := by omega
      have HR0 : Hid ((w2.alloc (.cells #[] 3)).ownsRow w2.heap.size 3 1 (.slice (some ⟨w2.heap.size, 0, none⟩) 0 0) 0 (ivs (F j 0))) := by show World.ownsRow _ _ _ _ _ _ _; rw [HC0.out]; exact ownsRow_nil w2 3
      have HB2 : Hid (Below w2.heap.size w2 (w2.alloc (.cells #[] 3))) := (Below.refl _ _).alloc (Nat.le_refl _) _
      go_wp2
      clear hc0
      go_loopw [5, 6] (fun o i wq => ∃ k : Nat, k ≤ M.length ∧ i = .int .i64 (k : Int) ∧ Hid (wq.ownsRow w2.heap.size 3 1 o k (ivs (F j k))) ∧ Hid (Below w2.heap.size w2 wq)) (fun _ i _ => M.length - (intOf i).toNat)
      case atStart => exact ⟨0, Nat.zero_le _, rfl, HR0.out, HB2.out⟩
      case round =>
        obtain ⟨k, hk, rfl, hro, hrb⟩ := hrel
        clear HR0 HB2
        by_cases hltk : k < M.length
        · have hltkI : (k : Int) < (M.length : Int) := by omega
          obtain ⟨w3, hw3⟩ : ∃ w3, w3 = wr := ⟨_, rfl⟩
          rw [← hw3] at hro hrb ⊢
          clear hw3
          obtain ⟨b2, o2, d2, hc2, hcs2⟩ := HTd.out w3 (Law.then_ hb.out hrb.out) k hltk
          have hv2 := hcs2 j hltj
          have HRR := Lib.hid (HCs.out j k)
          generalize Q.dst M k j = z at hv2 HRR
          have hoo := hro.out
          have hbo := hrb.out
          clear hro hrb hcs2
          generalize F j k = lr at hoo HRR
          have hsz9 := (hbo).size
          go_wp2_with (at_builtin; refine wpList_append_own _ rfl _ _ 25 rfl (w2.heap.size) 3 i0 (.int .i64 0) 1 8 Try.underlying25 hi hz0 hz1 hz2 rfl (by decide) _ _ _ rfl ((hoo).alloc _) ⟨(w3).heap.size, 0, none⟩ 1 1 [.int .i64 (z)] rfl rfl ?ca9a ?ca9b ?ca9c ?ca9d ?ca9e ?_)
          try (case ca9a => (intro j' u hj'; match j', hj' with | 0, hj' => (simp at hj'; subst hj'; simp [Addr.add])))
          case ca9b => first | (intro u hu; simp at hu; subst hu; rfl) | rfl
          case ca9c => unfold maxLen; omega
          case ca9d => omega
          case ca9e => first | omega | (simp; done) | (simp; omega)
          intro v9 w9 hm9 hg9 _
          have HB9 := Lib.hid (((hbo).alloc hsz9 (.cells #[.int .i64 (z)] 3)).grown hg9 (by simp; omega) (fun j e => Nat.le_trans (by omega) ((hoo).lt j e).1))
          rw [← ivs_snoc, ← HRR.out] at hm9
          have HO := Lib.hid hm9
          clear hm9 hg9 hoo hbo hc2 hv2
          go_wp2
          go_roundw
          case rel => exact ⟨k + 1, by omega, by go_num, HO.out, HB9.out⟩
          case measure => simp [intOf]; omega
        · have hke : k = M.length := by omega
          have hltkI : ¬ (k : Int) < (M.length : Int) := by omega
          obtain ⟨ys2, hy1, hy2⟩ := hv.out
          have hX9 : wr.ownsRow w2.heap.size 3 1 u5 M.length (ivs (F j M.length)) := by
            rw [← hke]
            exact hro.out
          have HTT := Lib.hid (HTs.out j)
          have HO9 := Lib.hid (own_past hy1 hrb.out)
          have HN9 := Lib.hid (NOwn.snoc hy2 (hy2.past hrb.out) (l := F j M.length) (x := u5) (by rw [HCl.out]; exact hX9) hb.out.size)
          rw [← HTT.out] at HN9
          have HBW := Lib.hid (Law.then_ hb.out hrb.out)
          have hszw := HBW.out.size
          obtain ⟨A9, c9, rfl, _, _, _⟩ := Law.own_len hX9
          have hyl : ys2.length = j := by have := hy1.1; omega
          clear HTT hX9 hy1 hy2 hv hro hrb hke
          go_wp2_with (at_builtin; refine wpList_append_own _ rfl _ _ 22 rfl w.heap.size 25 i1 (.slice none 0 0) 1 24 Try.underlying22 hj' hq0 hq1 hq2 rfl (by decide) _ _ _ rfl (HO9.out.alloc _) ⟨wr.heap.size, 0, none⟩ 1 1 [.slice A9 M.length c9] rfl rfl ?ca ?cb ?cc ?cd ?ce ?_)
          try (case ca => (intro j' u hj'; match j', hj' with | 0, hj' => (simp at hj'; subst hj'; simp [Addr.add])))
          case cb => first | (intro u hu; simp at hu; subst hu; rfl) | rfl
          case cc => unfold maxLen; omega
          case cd => omega
          case ce => first | omega | (simp; done) | (simp; omega)
          intro v10 w10 hm10 hg10 _
          have HB10 := Lib.hid ((HBW.out.alloc hszw (.cells #[.slice A9 M.length c9] 25)).grown hg10 (by simp; omega) (fun j e => (HO9.out.lt j e).1))
          have HV10 : Hid (∃ xs, w10.ownsRow w.heap.size 25 1 v10 (j + 1) xs ∧ NOwn w10 w.heap.size xs (P (j + 1))) :=
            ⟨_, hm10, (HN9.out.alloc _).outer ints_neN (HO9.out.alloc _) hg10⟩
          clear hm10 hg10
          go_wp2
          go_roundw
          case rel => exact ⟨j + 1, by omega, by go_num, HV10.out, HB10.out⟩
          case measure => simp [intOf]; omega
    · have hje : j = m := by omega
      have hltjI : ¬ (j : Int) < (m : Int) := by omega
      obtain ⟨ys, ho, hn⟩ := hv.out
      rw [hje] at ho hn
      rw [HTe.out] at hn
      have HO' := Lib.hid ho
      have HN' := Lib.hid hn
      clear hje hv ho hn
      go_wp2
      go_ret
      first
        | exact ⟨_, rfl, ys, HO'.out, HN'.out, hb.out⟩
        | exact ⟨_, ys, rfl, HO'.out, HN'.out, hb.out⟩
end
end Go.Proofs.Ytammlkaclooohaa
