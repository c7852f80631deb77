/-
  The model's l1Put and l3Different: the different numbers of a list, in order.
-/
import Derived.Test.YtndjpkeenbbgiaaApp
import Derived.Test.YtndjpkeenbbgiaaPut
import Derived.Deep.RegionLaw
namespace Go.Proofs.Ytndjpkeenbbgiaa
open Go.RowKit
set_option linter.unusedVariables false
/-- What a call says that gives a row of ints, old or new. -/
def listSays (X : List Int) (w : World) (e : Ending) (w' : World) : Prop :=
  ∃ A c, e = .returned (.slice A X.length c) ∧ X.length ≤ c ∧ c ≤ maxLen ∧ Law.Row w' A (ivs X) ∧ Below w.heap.size w w'
theorem row_one_new (W : World) (x : Int) (t : TypeId) : Law.Row (W.alloc (.cells #[.int .i64 x] t)) (some ⟨W.heap.size, 0, none⟩) (ivs [x]) := fun _ =>
  ⟨W.heap.size, 0, rfl, by simp, fun j u hu => by
    match j, hu with
    | 0, hu => simp at hu; subst hu; exact new_cell W _ t⟩
theorem row_one_far {W w' : World} {row : Option Nat} {b : Nat} {x : Int} (hg : W.grownBy w' row) (hne : some b ≠ row) (hb : b < W.heap.size) (hc : W.cell? ⟨b, 0, none⟩ = some (.int .i64 x)) : Law.Row w' (some ⟨b, 0, none⟩) (ivs [x]) := fun _ =>
  ⟨b, 0, rfl, Nat.lt_of_lt_of_le hb hg.size, fun j u hu => by
    match j, hu with
    | 0, hu => simp at hu; subst hu; exact (World.cell?_of_block (a := ⟨b, 0, none⟩) (hg.block b hb hne)).trans hc⟩
set_option maxRecDepth 100000 in
set_option maxHeartbeats 6400000 in
theorem l1Put_any (A : Option Addr) (c : Nat) (zs : List Int) (x : Int) (w : World) (h3 : zs.length ≤ 60) (hc : zs.length ≤ c) (hcm : c ≤ maxLen) (hr : Law.Row w A (ivs zs)) :
    Calls Try.prog 103 #[.slice A zs.length c, .int .i64 x] w (listSays (Q.put x zs) w) := by
  obtain ⟨i0, hi, hz0, hz1, hz2⟩ := info_parts infoInts
  have HR := Lib.hid hr
  have HC := Lib.hid hc
  have HM := Lib.hid hcm
  clear hr hc hcm
  go_enter Try.func103, Try.ntmps103
  go_wp2_with fail
  go_loop [5] (fun i => ∃ k : Nat, k ≤ zs.length ∧ i = .int .i64 k ∧ Hid (∀ j y, j < k → zs[j]? = some y → y < x)) (fun i => zs.length - (intOf i).toNat)
  case atStart => exact ⟨0, Nat.zero_le _, rfl, fun j y h => by omega⟩
  case round =>
    obtain ⟨k, hk, rfl, hall⟩ := hrel
    by_cases hlt : k < zs.length
    · have hltI : (k : Int) < (zs.length : Int) := by omega
      obtain ⟨y, hy⟩ : ∃ y, zs[k]? = some y := ⟨_, List.getElem?_eq_getElem hlt⟩
      obtain ⟨b, off, rfl, hbl, hcell⟩ := HR.out.at_ (ivs_some hy)
      by_cases hyx : y < x
      · have HA : Hid (∀ j z, j < k + 1 → zs[j]? = some z → z < x) := fun j z hj hz => by
          rcases Nat.lt_or_ge j k with h | h
          · exact hall.out j z h hz
          · obtain rfl : j = k := by omega
            rw [hy] at hz
            injection hz with hz
            omega
        clear hy hall
        go_wp2
        go_round
        case rel => exact ⟨k + 1, by omega, by go_num, HA.out⟩
        case measure => simp [intOf]; omega
      · have HL : Hid (Q.lead x zs = k) := Lib.hid (Q.lead_of hall.out (fun z hz => by rw [hy] at hz; injection hz with hz; omega) (by omega))
        by_cases hyE : y = x
        · subst hyE
          have HP : Hid (Q.put y zs = zs) := by show _ = _; rw [Q.put_eq, HL.out, if_pos hy]
          clear hy hall
          go_wp2
          go_ret
          rw [HP.out]
          exact ⟨_, _, rfl, HC.out, HM.out, HR.out, Below.refl _ _⟩
        · have HP : Hid (Q.put x zs = zs.take k ++ x :: zs.drop k) := by show _ = _; rw [Q.put_eq, HL.out, if_neg (by rw [hy]; simpa using hyE)]
          have hyb : (y == x) = false := by simpa using hyE
          clear hy hall
          have hkc : ¬ c = k := by have := HC.out; omega
          have hkcI : (k : Int) ≤ (c : Int) := by have := HC.out; omega
          have hlcI : (zs.length : Int) ≤ (c : Int) := by have := HC.out; omega
          have hk0 : (0 : Int) ≤ (k : Int) := by omega
          have hkl : (k : Int) ≤ (zs.length : Int) := by omega
          have HT : Hid (∀ W, Below w.heap.size w W → Law.Row W (some ⟨b, off, none⟩) (ivs (zs.take k))) := fun W h => row_take (HR.out.stays h) k
          have HD : Hid (∀ W, Below w.heap.size w W → Law.Row W (some ⟨b, off + k, none⟩) (ivs (zs.drop k))) := fun W h => by
            have h' := row_drop (HR.out.stays h) k c HC.out
            rw [if_neg hkc] at h'
            simpa [Law.add_plain] using h'
          go_wp2_with fail
          have lt : (zs.take k).length = k := by rw [List.length_take]; omega
          have ld : (zs.drop k).length = zs.length - k := List.length_drop
          have HLT := Lib.hid lt
          have HLD := Lib.hid ld
          clear lt ld
          have E1 := Lib.hid (show World.ownsRow ((w.alloc (.cells #[] 3)).drew) w.heap.size 3 1 (.slice (some ⟨w.heap.size, 0, none⟩) 0 0) 0 (ivs []) from ownsRow_nil w _)
          have E2 := Lib.hid (show World.ownsRow (((w.alloc (.cells #[] 3)).alloc (.cells #[.int .i64 x] 3)).drew) w.heap.size 3 1 (.slice (some ⟨w.heap.size, 0, none⟩) 0 0) 0 (ivs []) from (ownsRow_nil w _).alloc _)
          have E3 : Hid (World.ownsRow (((w.alloc (.cells #[.int .i64 x] 3)).alloc (.cells #[] 3)).drew) w.heap.size 3 1 (.slice (some ⟨w.heap.size + 1, 0, none⟩) 0 0) 0 (ivs [])) := by
            have h := ownsRow_nil (w.alloc (.cells #[.int .i64 x] 3)) 3
            rw [show (w.alloc (.cells #[.int .i64 x] 3)).heap.size = w.heap.size + 1 from by simp] at h
            exact Lib.hid (own_down h (Nat.le_succ _))
          have D1 := Lib.hid (show Below w.heap.size w (w.alloc (.cells #[] 3)).drew from ((Below.refl _ _).alloc (Nat.le_refl _) _).drew)
          have D2 := Lib.hid (show Below w.heap.size w ((w.alloc (.cells #[] 3)).alloc (.cells #[.int .i64 x] 3)).drew from (((Below.refl _ _).alloc (Nat.le_refl _) _).alloc (by simp) _).drew)
          have D3 := Lib.hid (show Below w.heap.size w ((w.alloc (.cells #[.int .i64 x] 3)).alloc (.cells #[] 3)).drew from (((Below.refl _ _).alloc (Nat.le_refl _) _).alloc (by simp) _).drew)
          go_region_law ((first | (refine step_app (by rfl) (.tmp 33) (.tmp 36) 22 (by rfl) Try.underlying22 hi hz0 hz1 hz2 (by rfl) (v := .slice (some ⟨w.heap.size, 0, none⟩) 0 0) (n := 0) (zs := []) (by exact E1.out) (A := some ⟨b, off, none⟩) (m := k) (c := c) (ns := zs.take k) (by rfl) HLT.out (HT.out _ D1.out) (by first | omega | (simp; done) | (simp; omega)) (by omega) ?_; intro v37 w37 ho37 hg37; have B37 := Lib.hid (D1.out.grown hg37 (by first | omega | (simp; done) | (simp; omega)) (fun k e => (E1.out.lt k e).1)); have S37 := B37.out.size) | (refine step_app (by rfl) (.tmp 33) (.tmp 36) 22 (by rfl) Try.underlying22 hi hz0 hz1 hz2 (by rfl) (v := .slice (some ⟨w.heap.size, 0, none⟩) 0 0) (n := 0) (zs := []) (by exact E2.out) (A := some ⟨b, off, none⟩) (m := k) (c := c) (ns := zs.take k) (by rfl) HLT.out (HT.out _ D2.out) (by first | omega | (simp; done) | (simp; omega)) (by omega) ?_; intro v37 w37 ho37 hg37; have B37 := Lib.hid (D2.out.grown hg37 (by first | omega | (simp; done) | (simp; omega)) (fun k e => (E2.out.lt k e).1)); have S37 := B37.out.size) | (refine step_app (by rfl) (.tmp 33) (.tmp 36) 22 (by rfl) Try.underlying22 hi hz0 hz1 hz2 (by rfl) (v := .slice (some ⟨w.heap.size + 1, 0, none⟩) 0 0) (n := 0) (zs := []) (by exact E3.out) (A := some ⟨b, off, none⟩) (m := k) (c := c) (ns := zs.take k) (by rfl) HLT.out (HT.out _ D3.out) (by first | omega | (simp; done) | (simp; omega)) (by omega) ?_; intro v37 w37 ho37 hg37; have B37 := Lib.hid (D3.out.grown hg37 (by first | omega | (simp; done) | (simp; omega)) (fun k e => (E3.out.lt k e).1)); have S37 := B37.out.size) | (refine step_app (by rfl) (.tmp 37) (.tmp 39) 22 (by rfl) Try.underlying22 hi hz0 hz1 hz2 (by rfl) (v := v37) (n := 0 + k) (zs := [] ++ zs.take k) (by exact ho37.alloc _) (A := some ⟨w37.heap.size, 0, none⟩) (m := 1) (c := 1) (ns := [x]) (by rfl) rfl (row_one_new w37 x _) (by first | omega | (simp; done) | (simp; omega)) (by omega) ?_; intro v40 w40 ho40 hg40; have B40 := Lib.hid ((B37.out.alloc S37 (.cells #[.int .i64 x] 3)).grown hg40 (by first | omega | (simp; done) | (simp; omega)) (fun k e => (ho37.lt k e).1)); have S40 := B40.out.size) | (refine step_app (by rfl) (.tmp 37) (.tmp 39) 22 (by rfl) Try.underlying22 hi hz0 hz1 hz2 (by rfl) (v := v37) (n := 0 + k) (zs := [] ++ zs.take k) (by exact ho37) (A := some ⟨w.heap.size + 1, 0, none⟩) (m := 1) (c := 1) (ns := [x]) (by rfl) rfl (row_one_far hg37 (by simp [Value.ownBlock]) (by first | omega | (simp; done) | (simp; omega)) (by simp)) (by first | omega | (simp; done) | (simp; omega)) (by omega) ?_; intro v40 w40 ho40 hg40; have B40 := Lib.hid (B37.out.grown hg40 (by first | omega | (simp; done) | (simp; omega)) (fun k e => (ho37.lt k e).1)); have S40 := B40.out.size) | (refine step_app (by rfl) (.tmp 37) (.tmp 39) 22 (by rfl) Try.underlying22 hi hz0 hz1 hz2 (by rfl) (v := v37) (n := 0 + k) (zs := [] ++ zs.take k) (by exact ho37) (A := some ⟨w.heap.size, 0, none⟩) (m := 1) (c := 1) (ns := [x]) (by rfl) rfl (row_one_far hg37 (by simp [Value.ownBlock]) (by first | omega | (simp; done) | (simp; omega)) (by simp)) (by first | omega | (simp; done) | (simp; omega)) (by omega) ?_; intro v40 w40 ho40 hg40; have B40 := Lib.hid (B37.out.grown hg40 (by first | omega | (simp; done) | (simp; omega)) (fun k e => (ho37.lt k e).1)); have S40 := B40.out.size) | (refine step_app (by rfl) (.tmp 40) (.tmp 43) 22 (by rfl) Try.underlying22 hi hz0 hz1 hz2 (by rfl) (v := v40) (n := 0 + k + 1) (zs := [] ++ zs.take k ++ [x]) (by exact ho40) (A := some ⟨b, off + k, none⟩) (m := zs.length - k) (c := c - k) (ns := zs.drop k) (by rfl) HLD.out (HD.out _ B40.out) (by first | omega | (simp; done) | (simp; omega)) (by omega) ?_; intro v44 w44 ho44 hg44; have B44 := Lib.hid (B40.out.grown hg44 (by first | omega | (simp; done) | (simp; omega)) (fun k e => (ho40.lt k e).1)))))
          all_goals
            go_simp
            go_wp2
            all_goals
              go_ret
              obtain ⟨A', c', rfl, hc1, hc2, hl'⟩ := Law.own_len ho44
              have e : [] ++ zs.take k ++ [x] ++ zs.drop k = Q.put x zs := by rw [HP.out]; simp
              rw [e] at ho44 hl'
              have hl2 : (Q.put x zs).length = 0 + k + 1 + (zs.length - k) := by simpa [ivs] using hl'
              exact ⟨A', c', by rw [hl2]; rfl, by rw [hl2]; exact hc1, hc2, Law.Row.own ho44, B44.out⟩
    · have hke : k = zs.length := by omega
      subst hke
      have HL : Hid (Q.lead x zs = zs.length) := Lib.hid (Q.lead_of hall.out (fun z hz => by rw [List.getElem?_eq_none (Nat.le_refl _)] at hz; cases hz) (Nat.le_refl _))
      have HP : Hid (Q.put x zs = zs.take zs.length ++ x :: zs.drop zs.length) := by show _ = _; rw [Q.put_eq, HL.out, if_neg (by rw [List.getElem?_eq_none (Nat.le_refl _)]; simp)]
      have hltI : ¬ (zs.length : Int) < (zs.length : Int) := by omega
      clear hall
      have hlcI : (zs.length : Int) ≤ (c : Int) := by have := HC.out; omega
      have hk0 : (0 : Int) ≤ (zs.length : Int) := by omega
      have hkl : (zs.length : Int) ≤ (zs.length : Int) := by omega
      have hkk : zs.length - zs.length = 0 := by omega
      have HT : Hid (∀ W, Below w.heap.size w W → Law.Row W A (ivs (zs.take zs.length))) := fun W h => row_take (HR.out.stays h) zs.length
      have HD : Hid (∀ W (B : Option Addr), Below w.heap.size w W → Law.Row W B (ivs (zs.drop zs.length))) := fun W B h => by
        rw [List.drop_length]
        exact fun hh => absurd rfl hh
      go_wp2_with fail
      have lt : (zs.take zs.length).length = zs.length := by rw [List.length_take]; omega
      have ld : (zs.drop zs.length).length = 0 := by rw [List.drop_length]; rfl
      have HLT := Lib.hid lt
      have HLD := Lib.hid ld
      clear lt ld
      have E1 := Lib.hid (show World.ownsRow ((w.alloc (.cells #[] 3)).drew) w.heap.size 3 1 (.slice (some ⟨w.heap.size, 0, none⟩) 0 0) 0 (ivs []) from ownsRow_nil w _)
      have E2 := Lib.hid (show World.ownsRow (((w.alloc (.cells #[] 3)).alloc (.cells #[.int .i64 x] 3)).drew) w.heap.size 3 1 (.slice (some ⟨w.heap.size, 0, none⟩) 0 0) 0 (ivs []) from (ownsRow_nil w _).alloc _)
      have E3 : Hid (World.ownsRow (((w.alloc (.cells #[.int .i64 x] 3)).alloc (.cells #[] 3)).drew) w.heap.size 3 1 (.slice (some ⟨w.heap.size + 1, 0, none⟩) 0 0) 0 (ivs [])) := by
        have h := ownsRow_nil (w.alloc (.cells #[.int .i64 x] 3)) 3
        rw [show (w.alloc (.cells #[.int .i64 x] 3)).heap.size = w.heap.size + 1 from by simp] at h
        exact Lib.hid (own_down h (Nat.le_succ _))
      have D1 := Lib.hid (show Below w.heap.size w (w.alloc (.cells #[] 3)).drew from ((Below.refl _ _).alloc (Nat.le_refl _) _).drew)
      have D2 := Lib.hid (show Below w.heap.size w ((w.alloc (.cells #[] 3)).alloc (.cells #[.int .i64 x] 3)).drew from (((Below.refl _ _).alloc (Nat.le_refl _) _).alloc (by simp) _).drew)
      have D3 := Lib.hid (show Below w.heap.size w ((w.alloc (.cells #[.int .i64 x] 3)).alloc (.cells #[] 3)).drew from (((Below.refl _ _).alloc (Nat.le_refl _) _).alloc (by simp) _).drew)
      go_region_law ((first | (refine step_app (by rfl) (.tmp 33) (.tmp 36) 22 (by rfl) Try.underlying22 hi hz0 hz1 hz2 (by rfl) (v := .slice (some ⟨w.heap.size, 0, none⟩) 0 0) (n := 0) (zs := []) (by exact E1.out) (A := A) (m := zs.length) (c := c) (ns := zs.take zs.length) (by rfl) HLT.out (HT.out _ D1.out) (by first | omega | (simp; done) | (simp; omega)) (by omega) ?_; intro v37 w37 ho37 hg37; have B37 := Lib.hid (D1.out.grown hg37 (by first | omega | (simp; done) | (simp; omega)) (fun k e => (E1.out.lt k e).1)); have S37 := B37.out.size) | (refine step_app (by rfl) (.tmp 33) (.tmp 36) 22 (by rfl) Try.underlying22 hi hz0 hz1 hz2 (by rfl) (v := .slice (some ⟨w.heap.size, 0, none⟩) 0 0) (n := 0) (zs := []) (by exact E2.out) (A := A) (m := zs.length) (c := c) (ns := zs.take zs.length) (by rfl) HLT.out (HT.out _ D2.out) (by first | omega | (simp; done) | (simp; omega)) (by omega) ?_; intro v37 w37 ho37 hg37; have B37 := Lib.hid (D2.out.grown hg37 (by first | omega | (simp; done) | (simp; omega)) (fun k e => (E2.out.lt k e).1)); have S37 := B37.out.size) | (refine step_app (by rfl) (.tmp 33) (.tmp 36) 22 (by rfl) Try.underlying22 hi hz0 hz1 hz2 (by rfl) (v := .slice (some ⟨w.heap.size + 1, 0, none⟩) 0 0) (n := 0) (zs := []) (by exact E3.out) (A := A) (m := zs.length) (c := c) (ns := zs.take zs.length) (by rfl) HLT.out (HT.out _ D3.out) (by first | omega | (simp; done) | (simp; omega)) (by omega) ?_; intro v37 w37 ho37 hg37; have B37 := Lib.hid (D3.out.grown hg37 (by first | omega | (simp; done) | (simp; omega)) (fun k e => (E3.out.lt k e).1)); have S37 := B37.out.size) | (refine step_app (by rfl) (.tmp 37) (.tmp 39) 22 (by rfl) Try.underlying22 hi hz0 hz1 hz2 (by rfl) (v := v37) (n := 0 + zs.length) (zs := [] ++ zs.take zs.length) (by exact ho37.alloc _) (A := some ⟨w37.heap.size, 0, none⟩) (m := 1) (c := 1) (ns := [x]) (by rfl) rfl (row_one_new w37 x _) (by first | omega | (simp; done) | (simp; omega)) (by omega) ?_; intro v40 w40 ho40 hg40; have B40 := Lib.hid ((B37.out.alloc S37 (.cells #[.int .i64 x] 3)).grown hg40 (by first | omega | (simp; done) | (simp; omega)) (fun k e => (ho37.lt k e).1)); have S40 := B40.out.size) | (refine step_app (by rfl) (.tmp 37) (.tmp 39) 22 (by rfl) Try.underlying22 hi hz0 hz1 hz2 (by rfl) (v := v37) (n := 0 + zs.length) (zs := [] ++ zs.take zs.length) (by exact ho37) (A := some ⟨w.heap.size + 1, 0, none⟩) (m := 1) (c := 1) (ns := [x]) (by rfl) rfl (row_one_far hg37 (by simp [Value.ownBlock]) (by first | omega | (simp; done) | (simp; omega)) (by simp)) (by first | omega | (simp; done) | (simp; omega)) (by omega) ?_; intro v40 w40 ho40 hg40; have B40 := Lib.hid (B37.out.grown hg40 (by first | omega | (simp; done) | (simp; omega)) (fun k e => (ho37.lt k e).1)); have S40 := B40.out.size) | (refine step_app (by rfl) (.tmp 37) (.tmp 39) 22 (by rfl) Try.underlying22 hi hz0 hz1 hz2 (by rfl) (v := v37) (n := 0 + zs.length) (zs := [] ++ zs.take zs.length) (by exact ho37) (A := some ⟨w.heap.size, 0, none⟩) (m := 1) (c := 1) (ns := [x]) (by rfl) rfl (row_one_far hg37 (by simp [Value.ownBlock]) (by first | omega | (simp; done) | (simp; omega)) (by simp)) (by first | omega | (simp; done) | (simp; omega)) (by omega) ?_; intro v40 w40 ho40 hg40; have B40 := Lib.hid (B37.out.grown hg40 (by first | omega | (simp; done) | (simp; omega)) (fun k e => (ho37.lt k e).1)); have S40 := B40.out.size) | (refine step_app (by rfl) (.tmp 40) (.tmp 43) 22 (by rfl) Try.underlying22 hi hz0 hz1 hz2 (by rfl) (v := v40) (n := 0 + zs.length + 1) (zs := [] ++ zs.take zs.length ++ [x]) (by exact ho40) (A := (if c = zs.length then A else Option.map (fun x => x.add zs.length) A)) (m := 0) (c := c - zs.length) (ns := zs.drop zs.length) (by rfl) HLD.out (HD.out _ _ B40.out) (by first | omega | (simp; done) | (simp; omega)) (by omega) ?_; intro v44 w44 ho44 hg44; have B44 := Lib.hid (B40.out.grown hg44 (by first | omega | (simp; done) | (simp; omega)) (fun k e => (ho40.lt k e).1)))))
      all_goals
        go_simp
        go_wp2
        all_goals
          go_ret
          obtain ⟨A', c', rfl, hc1, hc2, hl'⟩ := Law.own_len ho44
          have e : [] ++ zs.take zs.length ++ [x] ++ zs.drop zs.length = Q.put x zs := by rw [HP.out]; simp
          rw [e] at ho44 hl'
          have hl2 : (Q.put x zs).length = 0 + zs.length + 1 + 0 := by simpa [ivs] using hl'
          exact ⟨A', c', by rw [hl2]; rfl, by rw [hl2]; exact hc1, hc2, Law.Row.own ho44, B44.out⟩
set_option maxHeartbeats 1600000 in
theorem l3Dif_any (A : Option Addr) (c : Nat) (zs : List Int) (w : World) (h3 : zs.length ≤ 60) (hr : Law.Row w A (ivs zs)) :
    Calls Try.prog 87 #[.slice A zs.length c] w (listSays (Q.diffs zs) w) := by
  have HR := Lib.hid hr
  clear hr
  go_enter Try.func87, Try.ntmps87
  go_wp2
  go_loopw [3, 4] (fun v i wr => ∃ k : Nat, k ≤ zs.length ∧ i = .int .i64 k ∧ Hid (∃ B d, v = .slice B (Q.diffs (zs.take k)).length d ∧ (Q.diffs (zs.take k)).length ≤ d ∧ d ≤ maxLen ∧ Law.Row wr B (ivs (Q.diffs (zs.take k)))) ∧ Hid (Below w.heap.size w wr)) (fun _ i _ => zs.length - (intOf i).toNat)
  case atStart => exact ⟨0, Nat.zero_le _, rfl, ⟨_, _, rfl, Nat.le_refl _, Nat.zero_le _, fun h => absurd rfl h⟩, (Below.refl _ _).alloc (Nat.le_refl _) _⟩
  case round =>
    obtain ⟨k, hk, rfl, hv, hb⟩ := hrel
    obtain ⟨B, d, rfl, hd1, hd2, hB⟩ := hv.out
    clear hv
    have hdl : (Q.diffs (zs.take k)).length ≤ 60 := by rw [(Q.diffs_ok _).2.2]; exact Nat.le_trans (Q.dif_le _) (by rw [List.length_take]; omega)
    by_cases hlt : k < zs.length
    · have hltI : (k : Int) < (zs.length : Int) := by omega
      obtain ⟨x, hx⟩ : ∃ x, zs[k]? = some x := ⟨_, List.getElem?_eq_getElem hlt⟩
      obtain ⟨b, off, rfl, hbl, hc⟩ := (HR.out.stays hb.out).at_ (ivs_some hx)
      have HT : Hid (Q.diffs (zs.take (k + 1)) = Q.put x (Q.diffs (zs.take k))) := by show _ = _; rw [Q.take_snoc hx]; exact Q.diffs_snoc _ _
      have HP := Lib.hid (l1Put_any B d (Q.diffs (zs.take k)) x wr hdl hd1 hd2 hB)
      generalize Q.diffs (zs.take k) = ds at *
      clear hx hB
      go_wp2_with fail
      go_at_call 103
      refine HP.out.mono ?_
      rintro e w1 ⟨B1, d1, rfl, h1, h2, hr1, hb1⟩
      have HB1 : Hid (Below w.heap.size w w1) := Law.then_ hb.out hb1
      have HR1 := Lib.hid hr1
      have H1 := Lib.hid h1
      have H2 := Lib.hid h2
      clear hr1 hb1 h1 h2 hd1 hd2
      go_wp2
      go_roundw
      case rel => exact ⟨k + 1, by omega, by go_num, ⟨B1, d1, by rw [HT.out], by rw [HT.out]; exact H1.out, H2.out, by rw [HT.out]; exact HR1.out⟩, HB1.out⟩
      case measure => simp [intOf]; omega
    · have hke : k = zs.length := by omega
      have hltI : ¬ (k : Int) < (zs.length : Int) := by omega
      have HF : Hid (zs.take k = zs) := by show _ = _; rw [hke, List.take_length]
      have HB := Lib.hid hB
      have H1 := Lib.hid hd1
      have H2 := Lib.hid hd2
      clear hke hB hd1 hd2
      go_wp2
      go_ret
      have h := HB.out
      have h1 := H1.out
      rw [HF.out] at h h1
      exact ⟨B, d, by rw [HF.out]; rfl, h1, H2.out, h, hb.out⟩
end Go.Proofs.Ytndjpkeenbbgiaa
