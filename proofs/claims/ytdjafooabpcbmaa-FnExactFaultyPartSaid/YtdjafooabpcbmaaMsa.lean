/-
  The model's small functions on lists of pages and marks. The model's l4Without: a list without the element with an index. A struct of five cells in a block (a cache): its cells, stores, a return of it. A cache by value: its lists in the heap, what a call says that gives one, blocks of five cells. The model's l4Hit: a hit of the page with an index, policy by policy.
-/
import Derived.Test.YtdjafooabpcbmaaBa
import Derived.Test.YtdjafooabpcbmaaCm
import Derived.Laws.ResultCell
/- The model's small functions on lists of pages and marks. -/
namespace Go.Proofs.Ytdjafooabpcbmaa
open Go.RowKit
set_option linter.unusedVariables false
set_option maxHeartbeats 400000 in
theorem l4At_core (A : Option Addr) (c : Nat) (zs : List Int) (x T : Int) (hT : Hid (T = if x ∈ zs then ((Q.pos x zs : Nat) : Int) else -1)) (w : World) (hn : zs.length ≤ 1048576) (hr : Law.Row w A (ivs zs)) :
    Calls Try.prog 101 #[.slice A zs.length c, .int .i64 x] w fun e w' => e = .returned (.int .i64 T) ∧ w' = w := by
  have HR := Lib.hid hr
  clear hr
  go_enter Try.func101, Try.ntmps101
  go_wp2
  go_loop [5] (fun i => ∃ k : Nat, k ≤ zs.length ∧ i = .int .i64 k ∧ Hid (∀ j y, j < k → zs[j]? = some y → y ≠ x)) (fun i => zs.length - (intOf i).toNat)
  case atStart => exact ⟨0, Nat.zero_le _, rfl, fun j y h => by omega⟩
  case round =>
    obtain ⟨k, hk, rfl, hall⟩ := hrel
    by_cases hlt : k < zs.length
    · have hltI : (k : Int) < (zs.length : Int) := by omega
      obtain ⟨y, hy⟩ : ∃ y, zs[k]? = some y := ⟨_, List.getElem?_eq_getElem hlt⟩
      obtain ⟨b, off, rfl, hbl, hc⟩ := HR.out.at_ (ivs_some hy)
      by_cases hyx : y = x
      · subst hyx
        have HE : Hid (T = (k : Int)) := by
          show _ = _
          rw [hT.out, if_pos (List.mem_of_getElem? hy), Q.pos_of hy hall.out]
        clear hy hall
        go_wp2
        go_ret
        exact ⟨by rw [HE.out]; rfl, rfl⟩
      · have HN : Hid (∀ j z, j < k + 1 → zs[j]? = some z → z ≠ x) := fun j z hj hz => by
          rcases Nat.lt_or_ge j k with h | h
          · exact hall.out j z h hz
          · obtain rfl : j = k := by omega
            rw [hy] at hz
            injection hz with hz
            exact hz ▸ hyx
        have hyb : (y == x) = false := by simpa using hyx
        clear hy hall hyx
        go_wp2
        go_round
        case rel => exact ⟨k + 1, by omega, by go_num, HN.out⟩
        case measure => simp [intOf]; omega
    · have HE : Hid (T = -1) := by
        show _ = _
        rw [hT.out, if_neg]
        intro hm
        obtain ⟨j, hj⟩ := List.getElem?_of_mem hm
        have := (List.getElem?_eq_some_iff.1 hj).1
        exact hall.out j x (by omega) hj rfl
      have hltI : ¬ (k : Int) < (zs.length : Int) := by omega
      clear hall
      go_wp2
      go_ret
      exact ⟨by rw [HE.out]; rfl, rfl⟩
theorem l4At_any (A : Option Addr) (c : Nat) (zs : List Int) (x : Int) (w : World) (hn : zs.length ≤ 1048576) (hr : Law.Row w A (ivs zs)) :
    Calls Try.prog 101 #[.slice A zs.length c, .int .i64 x] w fun e w' => e = .returned (.int .i64 (if x ∈ zs then ((Q.pos x zs : Nat) : Int) else -1)) ∧ w' = w := l4At_core A c zs x _ (Lib.hid rfl) w hn hr
theorem l1Least_any (a b : Int) (w : World) : Calls Try.prog 129 #[.int .i64 a, .int .i64 b] w fun e w' => e = .returned (.int .i64 (min a b)) ∧ w' = w := by
  by_cases h : a < b
  · have HE : Hid (min a b = a) := by show _ = _; omega
    go_enter Try.func129, Try.ntmps129
    go_wp2
    go_ret
    exact ⟨by rw [HE.out]; rfl, rfl⟩
  · have HE : Hid (min a b = b) := by show _ = _; omega
    go_enter Try.func129, Try.ntmps129
    go_wp2
    go_ret
    exact ⟨by rw [HE.out]; rfl, rfl⟩
set_option maxHeartbeats 400000 in
theorem l4With_any (A : Option Addr) (c : Nat) (zs : List Int) (k : Nat) (x : Int) (w : World) (hk : k < zs.length) (hn : zs.length ≤ 1000) (hr : Law.Row w A (ivs zs)) :
    Calls Try.prog 134 #[.slice A zs.length c, .int .i64 (k : Int), .int .i64 x] w (rowSays1 (zs.set k x) w) := by
  have HO := Lib.hid (l1Own_any A c zs w (by omega) hr)
  have hkI : (k : Int) < (zs.length : Int) := by omega
  obtain ⟨y, hy⟩ : ∃ y, zs[k]? = some y := ⟨_, List.getElem?_eq_getElem hk⟩
  have HY := Lib.hid hy
  clear hr hy
  go_enter Try.func134, Try.ntmps134
  go_wp2_with fail
  go_at_call 100
  refine HO.out.mono ?_
  rintro e w1 ⟨v1, rfl, ho, hb⟩
  obtain ⟨g, d, rfl, hg1, hg2⟩ := own_some ho (by omega)
  have hcx := own_cell ho HY.out
  have hfx := ho.frozenAt k
  have HS := Lib.hid (own_put ho k x)
  have HB := Lib.hid (hb.setCell (p := ⟨g, k, none⟩) hg1 (.int .i64 x))
  clear ho hb
  go_wp2
  go_ret
  exact ⟨_, rfl, by rw [List.length_set]; exact HS.out, HB.out⟩
set_option maxHeartbeats 400000 in
theorem l4Front_any (A : Option Addr) (c : Nat) (zs : List Int) (x : Int) (w : World) (hn : zs.length ≤ 1000) (hr : Law.Row w A (ivs zs)) :
    Calls Try.prog 132 #[.slice A zs.length c, .int .i64 x] w (rowSays1 (x :: zs) w) := by
  obtain ⟨i0, hi, hz0, hz1, hz2⟩ := info_parts infoInts
  have b0 : Below w.heap.size w (w.alloc (.cells #[.int .i64 x] 3)) := (Below.refl _ _).alloc (Nat.le_refl _) _
  have HR := Lib.hid (hr.stays b0)
  have H0 : Hid ((w.alloc (.cells #[.int .i64 x] 3)).ownsRow w.heap.size 3 1 (.slice (some ⟨w.heap.size, 0, none⟩) 1 1) 1 (ivs [x])) := own_new (base := w.heap.size) (e := 3) w #[.int .i64 x] 1 (by simp) (by simp [maxLen]) (Nat.le_refl _)
  have HB0 := Lib.hid b0
  clear hr b0
  go_enter Try.func132, Try.ntmps132
  go_wp2_with (at_builtin; refine list_app rfl _ _ 22 rfl Try.underlying22 hi hz0 hz1 hz2 rfl H0.out rfl rfl HR.out ?c1 ?c2 ?_)
  case c1 => simp
  case c2 => omega
  intro v w1 ho hg
  have HB := Lib.hid (HB0.out.grown hg (by simp) (fun k e => (H0.out.lt k e).1))
  have HO := Lib.hid ho
  clear ho hg
  go_wp2
  go_ret
  exact ⟨_, rfl, by rw [List.length_cons, Nat.add_comm]; exact HO.out, HB.out⟩
set_option maxHeartbeats 400000 in
theorem l4Rarest_any (A : Option Addr) (c : Nat) (zs : List Int) (w : World) (h1 : 0 < zs.length) (hn : zs.length ≤ 1000) (hr : Law.Row w A (ivs zs)) :
    Calls Try.prog 138 #[.slice A zs.length c] w fun e w' => e = .returned (.int .i64 (Q.rare zs : Nat)) ∧ ∃ m, w' = w.drewN m := by
  have HR := Lib.hid hr
  clear hr
  go_enter Try.func138, Try.ntmps138
  go_wp2
  go_loopw [3, 4] (fun l i wr => ∃ k m : Nat, 1 ≤ k ∧ k ≤ zs.length ∧ i = .int .i64 k ∧ l = .int .i64 (Q.rareK zs k : Nat) ∧ wr = w.drewN m) (fun _ i _ => zs.length - (intOf i).toNat)
  case atStart => exact ⟨1, 0, Nat.le_refl _, h1, rfl, by rw [Q.rareK_one]; rfl, rfl⟩
  case round =>
    obtain ⟨k, m, hk1, hk, rfl, rfl, rfl⟩ := hrel
    by_cases hlt : k < zs.length
    · have hltI : (k : Int) < (zs.length : Int) := by omega
      obtain ⟨x, hx⟩ : ∃ x, zs[k]? = some x := ⟨_, List.getElem?_eq_getElem hlt⟩
      obtain ⟨b, off, rfl, hbl, hcx⟩ := HR.out.at_ (ivs_some hx)
      have hrk := Q.rareK_lt zs k (by omega)
      obtain ⟨y, hy⟩ : ∃ y, zs[Q.rareK zs k]? = some y := ⟨_, List.getElem?_eq_getElem (by omega)⟩
      obtain ⟨b', off', hbb, _, hcy⟩ := HR.out.at_ (ivs_some hy)
      injection hbb with hbb
      injection hbb with hb1 hb2 _
      subst hb1 hb2
      have HE : Hid (Q.rareK zs (k + 1) = if x ≤ y then k else Q.rareK zs k) := by
        show _ = _
        rw [Q.rareK, List.getD_eq_getElem?_getD, List.getD_eq_getElem?_getD, hx, hy]
        rfl
      generalize Q.rareK zs k = r at *
      have hrI : (r : Int) < (zs.length : Int) := by omega
      clear hx hy
      by_cases hxy : x ≤ y
      · rw [if_pos hxy] at HE
        go_wp2
        go_quiet (fail)
        go_wp2
        go_roundw
        case rel => exact ⟨k + 1, _, by omega, by omega, by go_num, by rw [HE.out], rfl⟩
        case measure => simp [intOf]; omega
      · rw [if_neg hxy] at HE
        have hxyb : decide (x ≤ y) = false := by simpa using hxy
        go_wp2
        go_quiet (fail)
        go_wp2
        go_roundw
        case rel => exact ⟨k + 1, _, by omega, by omega, by go_num, by rw [HE.out], rfl⟩
        case measure => simp [intOf]; omega
    · have hke : k = zs.length := by omega
      have hltI : ¬ (k : Int) < (zs.length : Int) := by omega
      have HE : Hid (Q.rareK zs k = Q.rare zs) := by show _ = _; rw [hke]; rfl
      clear hke
      go_wp2
      go_ret
      exact ⟨by rw [HE.out]; rfl, _, rfl⟩
end Go.Proofs.Ytdjafooabpcbmaa

/- The model's l4Without: a list without the element with an index. -/
namespace Go.Proofs.Ytdjafooabpcbmaa
open Go.RowKit
set_option linter.unusedVariables false
set_option maxRecDepth 20000 in
set_option maxHeartbeats 800000 in
theorem l4Without_any (b off : Nat) (c : Nat) (zs : List Int) (k : Nat) (w : World) (hk : k < zs.length) (hn : zs.length ≤ 1000) (hcap : zs.length ≤ c) (hr : Law.Row w (some ⟨b, off, none⟩) (ivs zs)) :
    Calls Try.prog 133 #[.slice (some ⟨b, off, none⟩) zs.length c, .int .i64 (k : Int)] w (rowSays1 (zs.eraseIdx k) w) := by
  obtain ⟨i0, hi, hz0, hz1, hz2⟩ := info_parts infoInts
  have htl : (zs.take k).length = k := by rw [List.length_take]; omega
  have hO := fun W (h : Law.Row W (some ⟨b, off, none⟩) (ivs (zs.take k))) => l1Own_any (some ⟨b, off, none⟩) c (zs.take k) W (by omega) h
  rw [htl] at hO
  have HTL := Lib.hid htl
  have HO := Lib.hid hO
  have HT : Hid (∀ W, Below w.heap.size w W → Law.Row W (some ⟨b, off, none⟩) (ivs (zs.take k))) := fun W h => row_take (hr.stays h) k
  have HD : Hid (∀ W, Below w.heap.size w W → Law.Row W (if c = k + 1 then some ⟨b, off, none⟩ else some ⟨b, off + (k + 1), none⟩) (ivs (zs.drop (k + 1)))) := fun W h => by
    have h' := row_drop (hr.stays h) (k + 1) c hcap
    by_cases e : c = k + 1
    · rw [if_pos e] at h' ⊢
      exact h'
    · rw [if_neg e] at h' ⊢
      simpa [Law.add_plain] using h'
  have HLD : Hid ((zs.drop (k + 1)).length = zs.length - (k + 1)) := Lib.hid List.length_drop
  have HE : Hid (zs.take k ++ zs.drop (k + 1) = zs.eraseIdx k) := by show _ = _; rw [List.eraseIdx_eq_take_drop_succ]
  have HLe : Hid ((zs.eraseIdx k).length = k + (zs.length - (k + 1))) := by show _ = _; rw [List.length_eraseIdx, if_pos hk]; omega
  have hkI : (k : Int) < (zs.length : Int) := by omega
  have hzI : (zs.length : Int) ≤ 1000 := by omega
  have hcI : (zs.length : Int) ≤ (c : Int) := by omega
  have hkc : (k : Int) ≤ (c : Int) := by omega
  have hkc1 : (k : Int) + 1 ≤ (c : Int) := by omega
  have hw1 : IntKind.i64.wrap ((k : Int) + 1) = (k : Int) + 1 := by rw [IntKind.wrap_i64]; omega
  have h01 : (0 : Int) ≤ (k : Int) + 1 := by omega
  have hkz : (k : Int) + 1 ≤ (zs.length : Int) := by omega
  clear hr hO htl
  go_enter Try.func133, Try.ntmps133
  go_wp2_with fail
  go_region_law ((first
    | (go_simp; go_at_call 100; refine (HO.out _ (HT.out _ ((Below.refl _ _).drew))).mono ?_; rintro e w1 ⟨v1, rfl, ho1, hb1⟩; rw [HTL.out] at ho1; have B1 := Lib.hid (((Below.refl w.heap.size w).drew).trans hb1); have S1 := B1.out.size; have S1b := hb1.size)
    | (refine step_app (by rfl) (.tmp 8) (.tmp 12) 22 (by rfl) Try.underlying22 hi hz0 hz1 hz2 (by rfl) (v := v1) (n := k) (zs := zs.take k) (by exact ho1) (A := if c = k + 1 then some ⟨b, off, none⟩ else some ⟨b, off + (k + 1), none⟩) (m := zs.length - (k + 1)) (c := c - (k + 1)) (ns := zs.drop (k + 1)) (by rfl) HLD.out (HD.out _ B1.out) (by omega) (by omega) ?_; intro v2 w2 ho2 hg2; have B2 := Lib.hid (B1.out.grown hg2 (by omega) (fun j e => (ho1.lt j e).1)))))
  all_goals
    go_simp
    go_wp2
    all_goals
      go_ret
      refine ⟨_, rfl, ?_, B2.out⟩
      rw [HLe.out, ← HE.out]
      exact own_down ho2 (Nat.le_refl _)
end Go.Proofs.Ytdjafooabpcbmaa

/- A struct of five cells in a block (a cache): its cells, stores, a return of it. -/
namespace Go.Proofs.Ytdjafooabpcbmaa
open Go.RowKit
set_option linter.unusedVariables false
/-- A struct of five cells in a block: its cells, and that none is frozen. -/
structure Blk5 (w : World) (b : Nat) (v0 v1 v2 v3 v4 : Value) : Prop where
  c0 : w.cell? ⟨b, 0, none⟩ = some v0
  c1 : w.cell? ⟨b, 1, none⟩ = some v1
  c2 : w.cell? ⟨b, 2, none⟩ = some v2
  c3 : w.cell? ⟨b, 3, none⟩ = some v3
  c4 : w.cell? ⟨b, 4, none⟩ = some v4
  f0 : w.frozen? ⟨b, 0, none⟩ = false
  f1 : w.frozen? ⟨b, 1, none⟩ = false
  f2 : w.frozen? ⟨b, 2, none⟩ = false
  f3 : w.frozen? ⟨b, 3, none⟩ = false
  f4 : w.frozen? ⟨b, 4, none⟩ = false
theorem Blk5.kept {w w' : World} {b : Nat} {v0 v1 v2 v3 v4 : Value} (h : Blk5 w b v0 v1 v2 v3 v4) (hb : w'.heap[b]? = w.heap[b]?) : Blk5 w' b v0 v1 v2 v3 v4 := by
  have q : ∀ i, w'.cell? ⟨b, i, none⟩ = w.cell? ⟨b, i, none⟩ := fun i => World.cell?_of_block (a := ⟨b, i, none⟩) hb
  have r : ∀ i, w'.frozen? ⟨b, i, none⟩ = w.frozen? ⟨b, i, none⟩ := fun i => World.frozen?_of_block (a := ⟨b, i, none⟩) hb
  exact ⟨(q 0).trans h.c0, (q 1).trans h.c1, (q 2).trans h.c2, (q 3).trans h.c3, (q 4).trans h.c4, (r 0).trans h.f0, (r 1).trans h.f1, (r 2).trans h.f2, (r 3).trans h.f3, (r 4).trans h.f4⟩
theorem off_ne {b i j : Nat} (h : i ≠ j) : (⟨b, i, none⟩ : Addr) ≠ ⟨b, j, none⟩ := fun e => by injection e with _ e; exact h e
theorem Blk5.set2 {w : World} {b : Nat} {v0 v1 v2 v3 v4 : Value} (h : Blk5 w b v0 v1 v2 v3 v4) (u : Value) : Blk5 (w.setCell ⟨b, 2, none⟩ u) b v0 v1 u v3 v4 :=
  ⟨by rw [World.cell?_setCell_other (h := off_ne (by decide))]; exact h.c0, by rw [World.cell?_setCell_other (h := off_ne (by decide))]; exact h.c1, by rw [World.cell?_setCell_same (h := h.c2)], by rw [World.cell?_setCell_other (h := off_ne (by decide))]; exact h.c3, by rw [World.cell?_setCell_other (h := off_ne (by decide))]; exact h.c4,
    by simp [h.f0], by simp [h.f1], by simp [h.f2], by simp [h.f3], by simp [h.f4]⟩
theorem Blk5.set3 {w : World} {b : Nat} {v0 v1 v2 v3 v4 : Value} (h : Blk5 w b v0 v1 v2 v3 v4) (u : Value) : Blk5 (w.setCell ⟨b, 3, none⟩ u) b v0 v1 v2 u v4 :=
  ⟨by rw [World.cell?_setCell_other (h := off_ne (by decide))]; exact h.c0, by rw [World.cell?_setCell_other (h := off_ne (by decide))]; exact h.c1, by rw [World.cell?_setCell_other (h := off_ne (by decide))]; exact h.c2, by rw [World.cell?_setCell_same (h := h.c3)], by rw [World.cell?_setCell_other (h := off_ne (by decide))]; exact h.c4,
    by simp [h.f0], by simp [h.f1], by simp [h.f2], by simp [h.f3], by simp [h.f4]⟩
theorem Blk5.set4 {w : World} {b : Nat} {v0 v1 v2 v3 v4 : Value} (h : Blk5 w b v0 v1 v2 v3 v4) (u : Value) : Blk5 (w.setCell ⟨b, 4, none⟩ u) b v0 v1 v2 v3 u :=
  ⟨by rw [World.cell?_setCell_other (h := off_ne (by decide))]; exact h.c0, by rw [World.cell?_setCell_other (h := off_ne (by decide))]; exact h.c1, by rw [World.cell?_setCell_other (h := off_ne (by decide))]; exact h.c2, by rw [World.cell?_setCell_other (h := off_ne (by decide))]; exact h.c3, by rw [World.cell?_setCell_same (h := h.c4)],
    by simp [h.f0], by simp [h.f1], by simp [h.f2], by simp [h.f3], by simp [h.f4]⟩
/-- A return of a cache that lies in a block of the call's own. -/
theorem ret_ca1 {fn : Func} {R : Ending → World → Prop} {a : Act} {w : World} {pt : Tmp} {b : Nat} {v0 v1 v2 v3 v4 : Value}
    (h : fn.results = #[.cell pt 26]) (hd : a.defers = []) (hp : a.tmps.getD pt undef = .pointer (some ⟨b, 0, none⟩)) (hB : Blk5 w b v0 v1 v2 v3 v4)
    (hR : R (.returned (.agg #[v0, v1, v2, v3, v4])) w) : bodyPost Try.prog fn R .ret a w := by
  refine bodyPost_ret_by (v := .agg #[v0, v1, v2, v3, v4]) ?_ hd hR
  obtain ⟨c0, c1, c2, c3, c4, _, _, _, _, _⟩ := hB
  have key : (results fn a.tmps).run Try.prog w = ((asAddr (a.tmps.getD pt undef)).run Try.prog w).andThen fun q w1 => (loadVar 26 q).run Try.prog w1 := by
    simp only [results, h]
    simp [Sem.run_bind, Result.andThen]
  rw [key, hp]
  go_simp
theorem ret_ca {fn : Func} {R : Ending → World → Prop} {a : Act} {w : World} {pt u : Tmp} {b : Nat} {v0 v1 v2 v3 v4 f : Value}
    (h : fn.results = #[.cell pt 26, .tmp u]) (hd : a.defers = []) (hp : a.tmps.getD pt undef = .pointer (some ⟨b, 0, none⟩)) (hB : Blk5 w b v0 v1 v2 v3 v4) (hf : a.tmps.getD u undef = f)
    (hR : R (.returned (.tuple #[.agg #[v0, v1, v2, v3, v4], f])) w) : bodyPost Try.prog fn R .ret a w := by
  refine bodyPost_ret_by (v := .tuple #[.agg #[v0, v1, v2, v3, v4], f]) ?_ hd hR
  rw [results_cell_tmp h, hp, hf]
  obtain ⟨c0, c1, c2, c3, c4, _, _, _, _, _⟩ := hB
  go_simp
end Go.Proofs.Ytdjafooabpcbmaa

/- A cache by value: its lists in the heap, what a call says that gives one, blocks of five cells. -/
namespace Go.Proofs.Ytdjafooabpcbmaa
open Go.RowKit
set_option linter.unusedVariables false
/-- A cache by value whose lists lie in the heap. -/
def CaIn (W : World) (A : Option Addr) (d : Nat) (B : Option Addr) (e : Nat) (c : Ca) : Prop :=
  (c.ps.length ≤ d ∧ d ≤ maxLen ∧ Law.Row W A (ivs c.ps)) ∧ (c.ms.length ≤ e ∧ e ≤ maxLen ∧ Law.Row W B (ivs c.ms))
def caV (c : Ca) (A : Option Addr) (d : Nat) (B : Option Addr) (e : Nat) : Value := .agg #[.int .i64 c.p, .int .i64 c.s, .slice A c.ps.length d, .slice B c.ms.length e, .int .i64 c.h]
theorem CaIn.stays {W W' : World} {A B : Option Addr} {d e : Nat} {c : Ca} (h : CaIn W A d B e c) (hb : Below W.heap.size W W') : CaIn W' A d B e c := ⟨⟨h.1.1, h.1.2.1, h.1.2.2.stays hb⟩, ⟨h.2.1, h.2.2.1, h.2.2.2.stays hb⟩⟩
/-- A row is the old one with the same numbers, or it lies in new memory. -/
def Fr (W : World) (A : Option Addr) (zs : List Int) (A' : Option Addr) (zs' : List Int) : Prop := (A' = A ∧ zs' = zs) ∨ ∀ a, A' = some a → W.heap.size ≤ a.block
theorem fresh_of {Y W : World} {base n d : Nat} {A A' : Option Addr} {zs zs' : List Int} {xs : List Value} (h : Y.ownsRow base 3 1 (.slice A' n d) n xs) (hb : W.heap.size ≤ base) : Fr W A zs A' zs' := .inr fun a ha => Nat.le_trans hb (In.of h a ha).1
theorem Fr.mono {W X : World} {A A' : Option Addr} {zs zs' : List Int} (h : Fr X A zs A' zs') (hs : W.heap.size ≤ X.heap.size) : Fr W A zs A' zs' := by
  rcases h with h | h
  · exact .inl h
  · exact .inr fun a ha => Nat.le_trans hs (h a ha)
theorem Fr.trans {W X : World} {A A' A2 : Option Addr} {zs zs' zs2 : List Int} (h : Fr W A zs A' zs') (k : Fr X A' zs' A2 zs2) (hs : W.heap.size ≤ X.heap.size) : Fr W A zs A2 zs2 := by
  rcases k with ⟨rfl, rfl⟩ | k
  · exact h
  · exact .inr fun a ha => Nat.le_trans hs (k a ha)
/-- A store into a block between stays out of the row. -/
theorem row_off {W X w : World} {A0 A : Option Addr} {zs0 zs : List Int} (h : Law.Row w A (ivs zs)) (hf : Fr X A0 zs0 A zs) (h0 : Law.Row W A0 (ivs zs0)) {b : Nat} (h1 : W.heap.size ≤ b) (h2 : b < X.heap.size) (p : Addr) (hp : p.block = b) (u : Value) : Law.Row (w.setCell p u) A (ivs zs) := fun hx => by
  obtain ⟨k, off, rfl, hk, hc⟩ := h hx
  have hne : k ≠ b := by
    rcases hf with ⟨e, ez⟩ | hfr
    · subst ez
      obtain ⟨k', off', e', hk', _⟩ := h0 hx
      rw [e'] at e
      injection e with e
      injection e with e1 _ _
      omega
    · have := hfr _ rfl
      simp only [] at this
      omega
  refine ⟨k, off, rfl, by simpa using hk, fun j u' hu => ?_⟩
  exact (World.cell?_of_block (a := ⟨k, off + j, none⟩) (Below.heap_setCell _ _ _ _ (by rw [hp]; exact hne))).trans (hc j u' hu)
/-- What a call says that gives a cache by value. -/
def caSays (c c' : Ca) (A B : Option Addr) (W : World) (r : Ending) (W' : World) : Prop := ∃ A' d B' e, r = .returned (caV c' A' d B' e) ∧ CaIn W' A' d B' e c' ∧ Below W.heap.size W W' ∧ Fr W A c.ps A' c'.ps ∧ Fr W B c.ms B' c'.ms
theorem blk5_of {w : World} {b : Nat} {v0 v1 v2 v3 v4 : Value} {t : TypeId} (h : w.heap[b]? = some (.cells #[v0, v1, v2, v3, v4] t)) : Blk5 w b v0 v1 v2 v3 v4 := by
  constructor <;> simp [World.cell?, World.frozen?, h]
theorem al3 (W : World) (o0 o1 o2 : Obj) : (((W.alloc o0).alloc o1).alloc o2).heap[W.heap.size]? = some o0 ∧ (((W.alloc o0).alloc o1).alloc o2).heap[W.heap.size + 1]? = some o1 ∧ (((W.alloc o0).alloc o1).alloc o2).heap[W.heap.size + 1 + 1]? = some o2 ∧ (((W.alloc o0).alloc o1).alloc o2).heap.size = W.heap.size + 1 + 1 + 1 ∧ Below W.heap.size W (((W.alloc o0).alloc o1).alloc o2) := by
  have a1 : Below (W.alloc o0).heap.size (W.alloc o0) ((W.alloc o0).alloc o1) := (Below.refl _ _).alloc (Nat.le_refl _) _
  have a2 : Below ((W.alloc o0).alloc o1).heap.size ((W.alloc o0).alloc o1) (((W.alloc o0).alloc o1).alloc o2) := (Below.refl _ _).alloc (Nat.le_refl _) _
  have s1 : (W.alloc o0).heap.size = W.heap.size + 1 := by simp
  have s2 : ((W.alloc o0).alloc o1).heap.size = W.heap.size + 1 + 1 := by simp
  refine ⟨?_, ?_, ?_, by simp, (((Below.refl W.heap.size W).alloc (Nat.le_refl _) _).alloc (by simp) _).alloc (by first | omega | (simp; omega)) _⟩
  · rw [a2.block _ (by omega), a1.block _ (by omega)]
    exact heap_alloc_new W o0
  · rw [a2.block _ (by omega), ← s1]
    exact heap_alloc_new _ o1
  · rw [← s2]
    exact heap_alloc_new _ o2
theorem Blk5.set0 {w : World} {b : Nat} {v0 v1 v2 v3 v4 : Value} (h : Blk5 w b v0 v1 v2 v3 v4) (u : Value) : Blk5 (w.setCell ⟨b, 0, none⟩ u) b u v1 v2 v3 v4 :=
  ⟨by rw [World.cell?_setCell_same (h := h.c0)], by rw [World.cell?_setCell_other (h := off_ne (by decide))]; exact h.c1, by rw [World.cell?_setCell_other (h := off_ne (by decide))]; exact h.c2, by rw [World.cell?_setCell_other (h := off_ne (by decide))]; exact h.c3, by rw [World.cell?_setCell_other (h := off_ne (by decide))]; exact h.c4,
    by simp [h.f0], by simp [h.f1], by simp [h.f2], by simp [h.f3], by simp [h.f4]⟩
theorem Blk5.set1 {w : World} {b : Nat} {v0 v1 v2 v3 v4 : Value} (h : Blk5 w b v0 v1 v2 v3 v4) (u : Value) : Blk5 (w.setCell ⟨b, 1, none⟩ u) b v0 u v2 v3 v4 :=
  ⟨by rw [World.cell?_setCell_other (h := off_ne (by decide))]; exact h.c0, by rw [World.cell?_setCell_same (h := h.c1)], by rw [World.cell?_setCell_other (h := off_ne (by decide))]; exact h.c2, by rw [World.cell?_setCell_other (h := off_ne (by decide))]; exact h.c3, by rw [World.cell?_setCell_other (h := off_ne (by decide))]; exact h.c4,
    by simp [h.f0], by simp [h.f1], by simp [h.f2], by simp [h.f3], by simp [h.f4]⟩
/-- A cell of another block is set. -/
theorem Blk5.other {w : World} {b : Nat} {v0 v1 v2 v3 v4 : Value} (h : Blk5 w b v0 v1 v2 v3 v4) (p : Addr) (hp : p.block ≠ b) (u : Value) : Blk5 (w.setCell p u) b v0 v1 v2 v3 v4 :=
  h.kept (Below.heap_setCell _ _ _ _ hp.symm)
/-- All five cells are set. -/
def World.set5 (w : World) (b : Nat) (u0 u1 u2 u3 u4 : Value) : World := ((((w.setCell ⟨b, 0, none⟩ u0).setCell ⟨b, 1, none⟩ u1).setCell ⟨b, 2, none⟩ u2).setCell ⟨b, 3, none⟩ u3).setCell ⟨b, 4, none⟩ u4
theorem Blk5.all {w : World} {b : Nat} {v0 v1 v2 v3 v4 : Value} (h : Blk5 w b v0 v1 v2 v3 v4) (u0 u1 u2 u3 u4 : Value) : Blk5 (World.set5 w b u0 u1 u2 u3 u4) b u0 u1 u2 u3 u4 := ((((h.set0 u0).set1 u1).set2 u2).set3 u3).set4 u4
theorem below5 {n : Nat} {W w : World} (h : Below n W w) {b : Nat} (hb : n ≤ b) (u0 u1 u2 u3 u4 : Value) : Below n W (World.set5 w b u0 u1 u2 u3 u4) :=
  ((((h.setCell (p := ⟨b, 0, none⟩) hb u0).setCell (p := ⟨b, 1, none⟩) hb u1).setCell (p := ⟨b, 2, none⟩) hb u2).setCell (p := ⟨b, 3, none⟩) hb u3).setCell (p := ⟨b, 4, none⟩) hb u4
theorem own_lo {w : World} {base n : Nat} {e : TypeId} {v : Value} {xs : List Value} (h : w.ownsRow base e 1 v n xs) (p : Addr) (hp : p.block < base) (u : Value) : (w.setCell p u).ownsRow base e 1 v n xs :=
  h.kept (setBy w p u) (.inr fun e => by have := (h.lt _ e).1; omega)
theorem own5 {w : World} {base n : Nat} {e : TypeId} {v : Value} {xs : List Value} (h : w.ownsRow base e 1 v n xs) {b : Nat} (hb : b < base) (u0 u1 u2 u3 u4 : Value) : (World.set5 w b u0 u1 u2 u3 u4).ownsRow base e 1 v n xs :=
  own_lo (own_lo (own_lo (own_lo (own_lo h ⟨b, 0, none⟩ hb u0) ⟨b, 1, none⟩ hb u1) ⟨b, 2, none⟩ hb u2) ⟨b, 3, none⟩ hb u3) ⟨b, 4, none⟩ hb u4
end Go.Proofs.Ytdjafooabpcbmaa

/- The model's l4Hit: a hit of the page with an index, policy by policy. -/
namespace Go.Proofs.Ytdjafooabpcbmaa
open Go.RowKit
set_option linter.unusedVariables false
section
variable {W : World} {A B : Option Addr} {d e : Nat} {c : Ca}
set_option maxRecDepth 20000 in
set_option maxHeartbeats 400000 in
theorem l4Hit_2 (h : CaIn W A d B e c) (hp : c.p = 2) (k : Nat) : Calls Try.prog 102 #[caV c A d B e, .int .i64 (k : Int)] W (caSays c c A B W) := by
  have HI := Lib.hid h
  have HE := Lib.hid (show caV c A d B e = .agg #[.int .i64 2, .int .i64 c.s, .slice A c.ps.length d, .slice B c.ms.length e, .int .i64 c.h] by rw [← hp]; rfl)
  rw [HE.out]
  clear h hp
  go_enter Try.func102, Try.ntmps102
  go_wp2
  have F3 := Lib.hid (al3 W (.cells #[.int .i64 2, .int .i64 c.s, .slice A c.ps.length d, .slice B c.ms.length e, .int .i64 c.h] 26) (.cells #[.int .i64 2, .int .i64 c.s, .slice A c.ps.length d, .slice B c.ms.length e, .int .i64 c.h] 26) (.cells #[.int .i64 2, .int .i64 c.s, .slice A c.ps.length d, .slice B c.ms.length e, .int .i64 c.h] 26))
  generalize ((W.alloc (.cells #[.int .i64 2, .int .i64 c.s, .slice A c.ps.length d, .slice B c.ms.length e, .int .i64 c.h] 26)).alloc (.cells #[.int .i64 2, .int .i64 c.s, .slice A c.ps.length d, .slice B c.ms.length e, .int .i64 c.h] 26)).alloc (.cells #[.int .i64 2, .int .i64 c.s, .slice A c.ps.length d, .slice B c.ms.length e, .int .i64 c.h] 26) = X at F3 ⊢
  exact ret_ca1 rfl rfl rfl (blk5_of F3.out.2.1) ⟨A, d, B, e, by rw [HE.out], HI.out.stays F3.out.2.2.2.2, F3.out.2.2.2.2, .inl ⟨rfl, rfl⟩, .inl ⟨rfl, rfl⟩⟩
set_option maxRecDepth 20000 in
set_option maxHeartbeats 800000 in
theorem l4Hit_6 (h : CaIn W A d B e c) (hp : c.p = 6) {k : Nat} (hk : k < c.ms.length) (hn : c.ms.length ≤ 1000) : Calls Try.prog 102 #[caV c A d B e, .int .i64 (k : Int)] W (caSays c { c with ms := c.ms.set k 1 } A B W) := by
  have HI := Lib.hid h
  have HE := Lib.hid (show caV c A d B e = .agg #[.int .i64 6, .int .i64 c.s, .slice A c.ps.length d, .slice B c.ms.length e, .int .i64 c.h] by rw [← hp]; rfl)
  have HP := Lib.hid hp
  have HW := Lib.hid fun X (r : Law.Row X B (ivs c.ms)) => l4With_any B e c.ms k 1 X hk hn r
  rw [HE.out]
  clear h hp
  go_enter Try.func102, Try.ntmps102
  go_wp2_with fail
  have F3 := Lib.hid (al3 W (.cells #[.int .i64 6, .int .i64 c.s, .slice A c.ps.length d, .slice B c.ms.length e, .int .i64 c.h] 26) (.cells #[.int .i64 0, .int .i64 0, .slice none 0 0, .slice none 0 0, .int .i64 0] 26) (.cells #[.int .i64 6, .int .i64 c.s, .slice A c.ps.length d, .slice B c.ms.length e, .int .i64 c.h] 26))
  generalize ((W.alloc (.cells #[.int .i64 6, .int .i64 c.s, .slice A c.ps.length d, .slice B c.ms.length e, .int .i64 c.h] 26)).alloc (.cells #[.int .i64 0, .int .i64 0, .slice none 0 0, .slice none 0 0, .int .i64 0] 26)).alloc (.cells #[.int .i64 6, .int .i64 c.s, .slice A c.ps.length d, .slice B c.ms.length e, .int .i64 c.h] 26) = X at F3 ⊢
  refine (HW.out X (HI.out.2.2.2.stays F3.out.2.2.2.2)).mono ?_
  rintro r w1 ⟨v1, rfl, ho1, hb1⟩
  obtain ⟨B1, n1, rfl, hq1, hq2, hq3⟩ := Law.own_len ho1
  have hsz := F3.out.2.2.2.1
  have h1 := hb1.size
  obtain ⟨c0, c1, c2, c3, c4, f0, f1, f2, f3, f4⟩ := (blk5_of F3.out.2.2.1).kept (hb1.block _ (by omega))
  obtain ⟨d0, d1, d2, d3, d4, e0, e1, e2, e3, e4⟩ := (blk5_of F3.out.2.1).kept (hb1.block _ (by omega))
  have HO := Lib.hid ho1
  have HB := Lib.hid hb1
  clear ho1 hb1
  go_wp2
  have HF := Lib.hid (below5 ((F3.out.2.2.2.2.trans (HB.out.mono (by omega))).setCell (p := ⟨W.heap.size + 1 + 1, 3, none⟩) (by first | omega | (simp; omega)) (.slice B1 c.ms.length n1)) (b := W.heap.size + 1) (by omega) (.int .i64 6) (.int .i64 c.s) (.slice A c.ps.length d) (.slice B1 c.ms.length n1) (.int .i64 c.h))
  have HR := Lib.hid (Law.Row.own (own5 (own_lo HO.out ⟨W.heap.size + 1 + 1, 3, none⟩ (by first | omega | (simp; omega)) (.slice B1 c.ms.length n1)) (b := W.heap.size + 1) (by omega) (.int .i64 6) (.int .i64 c.s) (.slice A c.ps.length d) (.slice B1 c.ms.length n1) (.int .i64 c.h)))
  refine ret_ca1 rfl rfl rfl (((Blk5.mk d0 d1 d2 d3 d4 e0 e1 e2 e3 e4).other ⟨W.heap.size + 1 + 1, 3, none⟩ (by simp) _).all _ _ _ _ _) ⟨A, d, B1, n1, ?_, ⟨⟨HI.out.1.1, HI.out.1.2.1, HI.out.1.2.2.stays HF.out⟩, hq1, hq2, HR.out⟩, HF.out, .inl ⟨rfl, rfl⟩, fresh_of HO.out (by first | omega | (simp; omega))⟩
  unfold caV
  rw [HP.out, List.length_set]
set_option maxRecDepth 20000 in
set_option maxHeartbeats 400000 in
theorem l4Hit_5 (h : CaIn W A d B e c) (hp : c.p = 5) {k : Nat} (hk : k < c.ms.length) (hn : c.ms.length ≤ 1000) (hm : ∀ z ∈ c.ms, 1 ≤ z ∧ z ≤ 60) : Calls Try.prog 102 #[caV c A d B e, .int .i64 (k : Int)] W (caSays c { c with ms := c.ms.set k (min (c.ms.getD k 0 + 1) 60) } A B W) := by
  have HI := Lib.hid h
  have HE := Lib.hid (show caV c A d B e = .agg #[.int .i64 5, .int .i64 c.s, .slice A c.ps.length d, .slice B c.ms.length e, .int .i64 c.h] by rw [← hp]; rfl)
  have HP := Lib.hid hp
  obtain ⟨z, hz⟩ : ∃ z, c.ms[k]? = some z := ⟨_, List.getElem?_eq_getElem hk⟩
  have hzb := hm z (List.mem_of_getElem? hz)
  rw [show c.ms.getD k 0 = z by rw [List.getD_eq_getElem?_getD, hz]; rfl]
  obtain ⟨gb, go, rfl, hgb, hgc⟩ := h.2.2.2.at_ (ivs_some hz)
  have HG := Lib.hid hgc
  have HW := Lib.hid fun X (r : Law.Row X (some ⟨gb, go, none⟩) (ivs c.ms)) => l4With_any (some ⟨gb, go, none⟩) e c.ms k (min (z + 1) 60) X hk hn r
  rw [HE.out]
  clear h hp hm hz hgc
  have hkI : (k : Int) < (c.ms.length : Int) := by omega
  have hw1 : IntKind.i64.wrap (z + 1) = z + 1 := by rw [IntKind.wrap_i64]; omega
  go_enter Try.func102, Try.ntmps102
  go_wp2_with fail
  have F3 := Lib.hid (al3 W (.cells #[.int .i64 5, .int .i64 c.s, .slice A c.ps.length d, .slice (some ⟨gb, go, none⟩) c.ms.length e, .int .i64 c.h] 26) (.cells #[.int .i64 0, .int .i64 0, .slice none 0 0, .slice none 0 0, .int .i64 0] 26) (.cells #[.int .i64 5, .int .i64 c.s, .slice A c.ps.length d, .slice (some ⟨gb, go, none⟩) c.ms.length e, .int .i64 c.h] 26))
  generalize ((W.alloc (.cells #[.int .i64 5, .int .i64 c.s, .slice A c.ps.length d, .slice (some ⟨gb, go, none⟩) c.ms.length e, .int .i64 c.h] 26)).alloc (.cells #[.int .i64 0, .int .i64 0, .slice none 0 0, .slice none 0 0, .int .i64 0] 26)).alloc (.cells #[.int .i64 5, .int .i64 c.s, .slice A c.ps.length d, .slice (some ⟨gb, go, none⟩) c.ms.length e, .int .i64 c.h] 26) = X at F3 ⊢
  have hsz := F3.out.2.2.2.1
  have hgX := (F3.out.2.2.2.2.cell (p := ⟨gb, go + k, none⟩) hgb).trans HG.out
  obtain ⟨x0, x1, x2, x3, x4, _, _, _, _, _⟩ := blk5_of F3.out.1
  go_region_law ((first
    | (go_simp; go_at_call 129; refine (l1Least_any _ _ _).mono ?_; rintro r w' ⟨rfl, hw'⟩; obtain rfl := hw'.symm; clear hw')
    | (go_simp; go_at_call 134; refine (HW.out _ (HI.out.2.2.2.stays F3.out.2.2.2.2.drew)).mono ?_; rintro r w1 ⟨v1, rfl, ho1, hb1⟩; obtain ⟨B1, n1, rfl, hq1, hq2, hq3⟩ := Law.own_len ho1; have hb1 := ((Below.refl X.heap.size X).drew).trans hb1; have h1 := hb1.size;
        obtain ⟨c0, c1, c2, c3, c4, f0, f1, f2, f3, f4⟩ := (blk5_of F3.out.2.2.1).kept (hb1.block _ (by omega)); obtain ⟨d0, d1, d2, d3, d4, e0, e1, e2, e3, e4⟩ := (blk5_of F3.out.2.1).kept (hb1.block _ (by omega)); have HO := Lib.hid ho1; have HB := Lib.hid hb1; clear ho1 hb1)))
  all_goals
    go_wp2
    have HF := Lib.hid (below5 ((F3.out.2.2.2.2.trans (HB.out.mono (by omega))).setCell (p := ⟨W.heap.size + 1 + 1, 3, none⟩) (by first | omega | (simp; omega)) (.slice B1 c.ms.length n1)) (b := W.heap.size + 1) (by omega) (.int .i64 5) (.int .i64 c.s) (.slice A c.ps.length d) (.slice B1 c.ms.length n1) (.int .i64 c.h))
    have HR := Lib.hid (Law.Row.own (own5 (own_lo HO.out ⟨W.heap.size + 1 + 1, 3, none⟩ (by first | omega | (simp; omega)) (.slice B1 c.ms.length n1)) (b := W.heap.size + 1) (by first | omega | (simp; omega)) (.int .i64 5) (.int .i64 c.s) (.slice A c.ps.length d) (.slice B1 c.ms.length n1) (.int .i64 c.h)))
    refine ret_ca1 rfl rfl rfl (((Blk5.mk d0 d1 d2 d3 d4 e0 e1 e2 e3 e4).other ⟨W.heap.size + 1 + 1, 3, none⟩ (by simp) _).all _ _ _ _ _) ⟨A, d, B1, n1, ?_, ⟨⟨HI.out.1.1, HI.out.1.2.1, HI.out.1.2.2.stays HF.out⟩, hq1, hq2, HR.out⟩, HF.out, .inl ⟨rfl, rfl⟩, fresh_of HO.out (by first | omega | (simp; omega))⟩
    unfold caV
    rw [HP.out, List.length_set]
set_option maxRecDepth 20000 in
set_option maxHeartbeats 800000 in
theorem l4Hit_1 (h : CaIn W A d B e c) (hp : c.p = 1) {k : Nat} (hk : k < c.ps.length) (hn : c.ps.length ≤ 1000) : Calls Try.prog 102 #[caV c A d B e, .int .i64 (k : Int)] W (caSays c { c with ps := c.ps.getD k 0 :: c.ps.eraseIdx k } A B W) := by
  have HI := Lib.hid h
  have HE := Lib.hid (show caV c A d B e = .agg #[.int .i64 1, .int .i64 c.s, .slice A c.ps.length d, .slice B c.ms.length e, .int .i64 c.h] by rw [← hp]; rfl)
  have HP := Lib.hid hp
  obtain ⟨z, hz⟩ : ∃ z, c.ps[k]? = some z := ⟨_, List.getElem?_eq_getElem hk⟩
  rw [show c.ps.getD k 0 = z by rw [List.getD_eq_getElem?_getD, hz]; rfl]
  obtain ⟨gb, go, rfl, hgb, hgc⟩ := h.1.2.2.at_ (ivs_some hz)
  have HG := Lib.hid hgc
  have hW := fun X (r : Law.Row X (some ⟨gb, go, none⟩) (ivs c.ps)) => l4Without_any gb go d c.ps k X hk hn h.1.1 r
  obtain ⟨es, hes⟩ : ∃ es, es = c.ps.eraseIdx k := ⟨_, rfl⟩
  rw [← hes] at hW ⊢
  have hel : es.length ≤ 1000 := by rw [hes, List.length_eraseIdx]; split <;> omega
  have HW := Lib.hid hW
  rw [HE.out]
  clear h hp hz hgc hW hes
  have hkI : (k : Int) < (c.ps.length : Int) := by omega
  go_enter Try.func102, Try.ntmps102
  go_wp2_with fail
  have F3 := Lib.hid (al3 W (.cells #[.int .i64 1, .int .i64 c.s, .slice (some ⟨gb, go, none⟩) c.ps.length d, .slice B c.ms.length e, .int .i64 c.h] 26) (.cells #[.int .i64 0, .int .i64 0, .slice none 0 0, .slice none 0 0, .int .i64 0] 26) (.cells #[.int .i64 1, .int .i64 c.s, .slice (some ⟨gb, go, none⟩) c.ps.length d, .slice B c.ms.length e, .int .i64 c.h] 26))
  generalize ((W.alloc (.cells #[.int .i64 1, .int .i64 c.s, .slice (some ⟨gb, go, none⟩) c.ps.length d, .slice B c.ms.length e, .int .i64 c.h] 26)).alloc (.cells #[.int .i64 0, .int .i64 0, .slice none 0 0, .slice none 0 0, .int .i64 0] 26)).alloc (.cells #[.int .i64 1, .int .i64 c.s, .slice (some ⟨gb, go, none⟩) c.ps.length d, .slice B c.ms.length e, .int .i64 c.h] 26) = X at F3 ⊢
  have hsz := F3.out.2.2.2.1
  have hgX := (F3.out.2.2.2.2.cell (p := ⟨gb, go + k, none⟩) hgb).trans HG.out
  have hgx : gb < X.heap.size := by omega
  obtain ⟨x0, x1, x2, x3, x4, _, _, _, _, _⟩ := blk5_of F3.out.1
  go_region_law ((first
    | (go_simp; go_at_call 133; refine (HW.out _ (HI.out.1.2.2.stays F3.out.2.2.2.2.drew)).mono ?_; rintro r w1 ⟨v1, rfl, ho1, hb1⟩; obtain ⟨A1, n1, rfl, hq1, hq2, hq3⟩ := Law.own_len ho1; have hb1 := ((Below.refl X.heap.size X).drew).trans hb1; have h1 := hb1.size;
        obtain ⟨y0, y1, y2, y3, y4, _, _, _, _, _⟩ := (blk5_of F3.out.1).kept (hb1.block _ (by omega)); have hg1 := (hb1.cell (p := ⟨gb, go + k, none⟩) hgx).trans hgX; have HR1 := Lib.hid (Law.Row.own ho1); have HB1 := Lib.hid hb1; clear ho1 hb1)
    | (go_simp; go_at_call 132; refine (l4Front_any A1 n1 es z _ hel HR1.out).mono ?_; rintro r w2 ⟨v2, rfl, ho2, hb2⟩; obtain ⟨A2, n2, rfl, hr1, hr2, hr3⟩ := Law.own_len ho2; have hb2 := HB1.out.trans (hb2.mono h1); have h2 := hb2.size;
        obtain ⟨c0, c1, c2, c3, c4, f0, f1, f2, f3, f4⟩ := (blk5_of F3.out.2.2.1).kept (hb2.block _ (by omega)); obtain ⟨d0, d1, d2, d3, d4, e0, e1, e2, e3, e4⟩ := (blk5_of F3.out.2.1).kept (hb2.block _ (by omega)); have HO := Lib.hid ho2; have HB := Lib.hid hb2; clear ho2 hb2)))
  all_goals
    go_wp2
    have HF := Lib.hid (below5 ((F3.out.2.2.2.2.trans (HB.out.mono (by omega))).setCell (p := ⟨W.heap.size + 1 + 1, 2, none⟩) (by first | omega | (simp; omega)) (.slice A2 (es.length + 1) n2)) (b := W.heap.size + 1) (by omega) (.int .i64 1) (.int .i64 c.s) (.slice A2 (es.length + 1) n2) (.slice B c.ms.length e) (.int .i64 c.h))
    have HR := Lib.hid (Law.Row.own (own5 (own_lo HO.out ⟨W.heap.size + 1 + 1, 2, none⟩ (by first | omega | (simp; omega)) (.slice A2 (es.length + 1) n2)) (b := W.heap.size + 1) (by first | omega | (simp; omega)) (.int .i64 1) (.int .i64 c.s) (.slice A2 (es.length + 1) n2) (.slice B c.ms.length e) (.int .i64 c.h)))
    refine ret_ca1 rfl rfl rfl (((Blk5.mk d0 d1 d2 d3 d4 e0 e1 e2 e3 e4).other ⟨W.heap.size + 1 + 1, 2, none⟩ (by simp) _).all _ _ _ _ _) ⟨A2, n2, B, e, ?_, ⟨⟨hr1, hr2, HR.out⟩, HI.out.2.1, HI.out.2.2.1, HI.out.2.2.2.stays HF.out⟩, HF.out, fresh_of HO.out (by first | omega | (simp; omega)), .inl ⟨rfl, rfl⟩⟩
    unfold caV
    rw [HP.out]
    rfl
set_option maxRecDepth 20000 in
set_option maxHeartbeats 800000 in
theorem l4Hit_7 (h : CaIn W A d B e c) (hp : c.p = 7) {k : Nat} (hk : k < c.ps.length) (hn : c.ps.length ≤ 1000) : Calls Try.prog 102 #[caV c A d B e, .int .i64 (k : Int)] W (caSays c { c with ps := c.ps.getD k 0 :: c.ps.eraseIdx k } A B W) := by
  have HI := Lib.hid h
  have HE := Lib.hid (show caV c A d B e = .agg #[.int .i64 7, .int .i64 c.s, .slice A c.ps.length d, .slice B c.ms.length e, .int .i64 c.h] by rw [← hp]; rfl)
  have HP := Lib.hid hp
  obtain ⟨z, hz⟩ : ∃ z, c.ps[k]? = some z := ⟨_, List.getElem?_eq_getElem hk⟩
  rw [show c.ps.getD k 0 = z by rw [List.getD_eq_getElem?_getD, hz]; rfl]
  obtain ⟨gb, go, rfl, hgb, hgc⟩ := h.1.2.2.at_ (ivs_some hz)
  have HG := Lib.hid hgc
  have hW := fun X (r : Law.Row X (some ⟨gb, go, none⟩) (ivs c.ps)) => l4Without_any gb go d c.ps k X hk hn h.1.1 r
  obtain ⟨es, hes⟩ : ∃ es, es = c.ps.eraseIdx k := ⟨_, rfl⟩
  rw [← hes] at hW ⊢
  have hel : es.length ≤ 1000 := by rw [hes, List.length_eraseIdx]; split <;> omega
  have HW := Lib.hid hW
  rw [HE.out]
  clear h hp hz hgc hW hes
  have hkI : (k : Int) < (c.ps.length : Int) := by omega
  go_enter Try.func102, Try.ntmps102
  go_wp2_with fail
  have F3 := Lib.hid (al3 W (.cells #[.int .i64 7, .int .i64 c.s, .slice (some ⟨gb, go, none⟩) c.ps.length d, .slice B c.ms.length e, .int .i64 c.h] 26) (.cells #[.int .i64 0, .int .i64 0, .slice none 0 0, .slice none 0 0, .int .i64 0] 26) (.cells #[.int .i64 7, .int .i64 c.s, .slice (some ⟨gb, go, none⟩) c.ps.length d, .slice B c.ms.length e, .int .i64 c.h] 26))
  generalize ((W.alloc (.cells #[.int .i64 7, .int .i64 c.s, .slice (some ⟨gb, go, none⟩) c.ps.length d, .slice B c.ms.length e, .int .i64 c.h] 26)).alloc (.cells #[.int .i64 0, .int .i64 0, .slice none 0 0, .slice none 0 0, .int .i64 0] 26)).alloc (.cells #[.int .i64 7, .int .i64 c.s, .slice (some ⟨gb, go, none⟩) c.ps.length d, .slice B c.ms.length e, .int .i64 c.h] 26) = X at F3 ⊢
  have hsz := F3.out.2.2.2.1
  have hgX := (F3.out.2.2.2.2.cell (p := ⟨gb, go + k, none⟩) hgb).trans HG.out
  have hgx : gb < X.heap.size := by omega
  obtain ⟨x0, x1, x2, x3, x4, _, _, _, _, _⟩ := blk5_of F3.out.1
  go_region_law ((first
    | (go_simp; go_at_call 133; refine (HW.out _ (HI.out.1.2.2.stays F3.out.2.2.2.2.drew)).mono ?_; rintro r w1 ⟨v1, rfl, ho1, hb1⟩; obtain ⟨A1, n1, rfl, hq1, hq2, hq3⟩ := Law.own_len ho1; have hb1 := ((Below.refl X.heap.size X).drew).trans hb1; have h1 := hb1.size;
        obtain ⟨y0, y1, y2, y3, y4, _, _, _, _, _⟩ := (blk5_of F3.out.1).kept (hb1.block _ (by omega)); have hg1 := (hb1.cell (p := ⟨gb, go + k, none⟩) hgx).trans hgX; have HR1 := Lib.hid (Law.Row.own ho1); have HB1 := Lib.hid hb1; clear ho1 hb1)
    | (go_simp; go_at_call 132; refine (l4Front_any A1 n1 es z _ hel HR1.out).mono ?_; rintro r w2 ⟨v2, rfl, ho2, hb2⟩; obtain ⟨A2, n2, rfl, hr1, hr2, hr3⟩ := Law.own_len ho2; have hb2 := HB1.out.trans (hb2.mono h1); have h2 := hb2.size;
        obtain ⟨c0, c1, c2, c3, c4, f0, f1, f2, f3, f4⟩ := (blk5_of F3.out.2.2.1).kept (hb2.block _ (by omega)); obtain ⟨d0, d1, d2, d3, d4, e0, e1, e2, e3, e4⟩ := (blk5_of F3.out.2.1).kept (hb2.block _ (by omega)); have HO := Lib.hid ho2; have HB := Lib.hid hb2; clear ho2 hb2)))
  all_goals
    go_wp2
    have HF := Lib.hid (below5 ((F3.out.2.2.2.2.trans (HB.out.mono (by omega))).setCell (p := ⟨W.heap.size + 1 + 1, 2, none⟩) (by first | omega | (simp; omega)) (.slice A2 (es.length + 1) n2)) (b := W.heap.size + 1) (by omega) (.int .i64 7) (.int .i64 c.s) (.slice A2 (es.length + 1) n2) (.slice B c.ms.length e) (.int .i64 c.h))
    have HR := Lib.hid (Law.Row.own (own5 (own_lo HO.out ⟨W.heap.size + 1 + 1, 2, none⟩ (by first | omega | (simp; omega)) (.slice A2 (es.length + 1) n2)) (b := W.heap.size + 1) (by first | omega | (simp; omega)) (.int .i64 7) (.int .i64 c.s) (.slice A2 (es.length + 1) n2) (.slice B c.ms.length e) (.int .i64 c.h)))
    refine ret_ca1 rfl rfl rfl (((Blk5.mk d0 d1 d2 d3 d4 e0 e1 e2 e3 e4).other ⟨W.heap.size + 1 + 1, 2, none⟩ (by simp) _).all _ _ _ _ _) ⟨A2, n2, B, e, ?_, ⟨⟨hr1, hr2, HR.out⟩, HI.out.2.1, HI.out.2.2.1, HI.out.2.2.2.stays HF.out⟩, HF.out, fresh_of HO.out (by first | omega | (simp; omega)), .inl ⟨rfl, rfl⟩⟩
    unfold caV
    rw [HP.out]
    rfl
end
end Go.Proofs.Ytdjafooabpcbmaa
