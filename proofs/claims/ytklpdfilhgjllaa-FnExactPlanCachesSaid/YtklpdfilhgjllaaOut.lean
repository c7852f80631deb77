/-
  The model's l1Put of a number that is not there yet: a row of its own. The model's l5Out.
-/
import Derived.Test.YtklpdfilhgjllaaPutS
namespace Go.Proofs.Ytklpdfilhgjllaa
open Go.RowKit
set_option linter.unusedVariables false
set_option maxRecDepth 100000 in
set_option maxHeartbeats 6400000 in
theorem l1PutNew_any (A : Option Addr) (c : Nat) (zs : List Int) (x : Int) (w : World) (hxn : ¬ x ∈ zs) (h3 : zs.length ≤ 60) (hc : zs.length ≤ c) (hcm : c ≤ maxLen) (hr : Law.Row w A (ivs zs)) :
    Calls Try.prog 88 #[.slice A zs.length c, .int .i64 x] w (rowSays1 (Q.put x zs) w) := by
  obtain ⟨i0, hi, hz0, hz1, hz2⟩ := info_parts infoInts
  have HXN := Lib.hid hxn
  have HR := Lib.hid hr
  clear hxn
  have HC := Lib.hid hc
  have HM := Lib.hid hcm
  clear hr hc hcm
  go_enter Try.func88, Try.ntmps88
  go_wp2_with fail
  go_loop [5] (fun i => ∃ k : Nat, k ≤ zs.length ∧ i = .int .i64 k ∧ Hid (∀ j y, j < k → zs[j]? = some y → y < x)) (fun i => zs.length - (intOf i).toNat)
  case atStart => exact ⟨0, Nat.zero_le _, rfl, fun j y h => by omega⟩
  case round =>
    obtain ⟨k, hk, rfl, hall⟩ := hrel
    by_cases hlt : k < zs.length
    · have hltI : (k : Int) < (zs.length : Int) := by omega
      obtain ⟨y, hy⟩ : ∃ y, zs[k]? = some y := ⟨_, List.getElem?_eq_getElem hlt⟩
      obtain ⟨b, off, rfl, hbl, hcell⟩ := HR.out.at_ (ivs_some hy)
      by_cases hyx : y < x
      · have HA : Hid (∀ j z, j < k + 1 → zs[j]? = some z → z < x) := fun j z hj hz => by
          rcases Nat.lt_or_ge j k with h | h
          · exact hall.out j z h hz
          · obtain rfl : j = k := by omega
            rw [hy] at hz
            injection hz with hz
            omega
        clear hy hall
        go_wp2
        go_round
        case rel => exact ⟨k + 1, by omega, by go_num, HA.out⟩
        case measure => simp [intOf]; omega
      · have HL : Hid (Q.lead x zs = k) := Lib.hid (Q.lead_of hall.out (fun z hz => by rw [hy] at hz; injection hz with hz; omega) (by omega))
        by_cases hyE : y = x
        · exact absurd (hyE ▸ List.mem_of_getElem? hy) HXN.out
        · have HP : Hid (Q.put x zs = zs.take k ++ x :: zs.drop k) := by show _ = _; rw [Q.put_eq, HL.out, if_neg (by rw [hy]; simpa using hyE)]
          have hyb : (y == x) = false := by simpa using hyE
          clear hy hall
          have hkc : ¬ c = k := by have := HC.out; omega
          have hkcI : (k : Int) ≤ (c : Int) := by have := HC.out; omega
          have hlcI : (zs.length : Int) ≤ (c : Int) := by have := HC.out; omega
          have hk0 : (0 : Int) ≤ (k : Int) := by omega
          have hkl : (k : Int) ≤ (zs.length : Int) := by omega
          have HT : Hid (∀ W, Below w.heap.size w W → Law.Row W (some ⟨b, off, none⟩) (ivs (zs.take k))) := fun W h => row_take (HR.out.stays h) k
          have HD : Hid (∀ W, Below w.heap.size w W → Law.Row W (some ⟨b, off + k, none⟩) (ivs (zs.drop k))) := fun W h => by
            have h' := row_drop (HR.out.stays h) k c HC.out
            rw [if_neg hkc] at h'
            simpa [Law.add_plain] using h'
          go_wp2_with fail
          have lt : (zs.take k).length = k := by rw [List.length_take]; omega
          have ld : (zs.drop k).length = zs.length - k := List.length_drop
          have HLT := Lib.hid lt
          have HLD := Lib.hid ld
          clear lt ld
          have E1 := Lib.hid (show World.ownsRow ((w.alloc (.cells #[] 3)).drew) w.heap.size 3 1 (.slice (some ⟨w.heap.size, 0, none⟩) 0 0) 0 (ivs []) from ownsRow_nil w _)
          have E2 := Lib.hid (show World.ownsRow (((w.alloc (.cells #[] 3)).alloc (.cells #[.int .i64 x] 3)).drew) w.heap.size 3 1 (.slice (some ⟨w.heap.size, 0, none⟩) 0 0) 0 (ivs []) from (ownsRow_nil w _).alloc _)
          have E3 : Hid (World.ownsRow (((w.alloc (.cells #[.int .i64 x] 3)).alloc (.cells #[] 3)).drew) w.heap.size 3 1 (.slice (some ⟨w.heap.size + 1, 0, none⟩) 0 0) 0 (ivs [])) := by
            have h := ownsRow_nil (w.alloc (.cells #[.int .i64 x] 3)) 3
            rw [show (w.alloc (.cells #[.int .i64 x] 3)).heap.size = w.heap.size + 1 from by simp] at h
            exact Lib.hid (own_down h (Nat.le_succ _))
          have D1 := Lib.hid (show Below w.heap.size w (w.alloc (.cells #[] 3)).drew from ((Below.refl _ _).alloc (Nat.le_refl _) _).drew)
          have D2 := Lib.hid (show Below w.heap.size w ((w.alloc (.cells #[] 3)).alloc (.cells #[.int .i64 x] 3)).drew from (((Below.refl _ _).alloc (Nat.le_refl _) _).alloc (by simp) _).drew)
          have D3 := Lib.hid (show Below w.heap.size w ((w.alloc (.cells #[.int .i64 x] 3)).alloc (.cells #[] 3)).drew from (((Below.refl _ _).alloc (Nat.le_refl _) _).alloc (by simp) _).drew)
          go_region_law ((first | (refine step_app (by rfl) (.tmp 33) (.tmp 36) 22 (by rfl) Try.underlying22 hi hz0 hz1 hz2 (by rfl) (v := .slice (some ⟨w.heap.size, 0, none⟩) 0 0) (n := 0) (zs := []) (by exact E1.out) (A := some ⟨b, off, none⟩) (m := k) (c := c) (ns := zs.take k) (by rfl) HLT.out (HT.out _ D1.out) (by first | omega | (simp; done) | (simp; omega)) (by omega) ?_; intro v37 w37 ho37 hg37; have B37 := Lib.hid (D1.out.grown hg37 (by first | omega | (simp; done) | (simp; omega)) (fun k e => (E1.out.lt k e).1)); have S37 := B37.out.size) | (refine step_app (by rfl) (.tmp 33) (.tmp 36) 22 (by rfl) Try.underlying22 hi hz0 hz1 hz2 (by rfl) (v := .slice (some ⟨w.heap.size, 0, none⟩) 0 0) (n := 0) (zs := []) (by exact E2.out) (A := some ⟨b, off, none⟩) (m := k) (c := c) (ns := zs.take k) (by rfl) HLT.out (HT.out _ D2.out) (by first | omega | (simp; done) | (simp; omega)) (by omega) ?_; intro v37 w37 ho37 hg37; have B37 := Lib.hid (D2.out.grown hg37 (by first | omega | (simp; done) | (simp; omega)) (fun k e => (E2.out.lt k e).1)); have S37 := B37.out.size) | (refine step_app (by rfl) (.tmp 33) (.tmp 36) 22 (by rfl) Try.underlying22 hi hz0 hz1 hz2 (by rfl) (v := .slice (some ⟨w.heap.size + 1, 0, none⟩) 0 0) (n := 0) (zs := []) (by exact E3.out) (A := some ⟨b, off, none⟩) (m := k) (c := c) (ns := zs.take k) (by rfl) HLT.out (HT.out _ D3.out) (by first | omega | (simp; done) | (simp; omega)) (by omega) ?_; intro v37 w37 ho37 hg37; have B37 := Lib.hid (D3.out.grown hg37 (by first | omega | (simp; done) | (simp; omega)) (fun k e => (E3.out.lt k e).1)); have S37 := B37.out.size) | (refine step_app (by rfl) (.tmp 37) (.tmp 39) 22 (by rfl) Try.underlying22 hi hz0 hz1 hz2 (by rfl) (v := v37) (n := 0 + k) (zs := [] ++ zs.take k) (by exact ho37.alloc _) (A := some ⟨w37.heap.size, 0, none⟩) (m := 1) (c := 1) (ns := [x]) (by rfl) rfl (row_one_new w37 x _) (by first | omega | (simp; done) | (simp; omega)) (by omega) ?_; intro v40 w40 ho40 hg40; have B40 := Lib.hid ((B37.out.alloc S37 (.cells #[.int .i64 x] 3)).grown hg40 (by first | omega | (simp; done) | (simp; omega)) (fun k e => (ho37.lt k e).1)); have S40 := B40.out.size) | (refine step_app (by rfl) (.tmp 37) (.tmp 39) 22 (by rfl) Try.underlying22 hi hz0 hz1 hz2 (by rfl) (v := v37) (n := 0 + k) (zs := [] ++ zs.take k) (by exact ho37) (A := some ⟨w.heap.size + 1, 0, none⟩) (m := 1) (c := 1) (ns := [x]) (by rfl) rfl (row_one_far hg37 (by simp [Value.ownBlock]) (by first | omega | (simp; done) | (simp; omega)) (by simp)) (by first | omega | (simp; done) | (simp; omega)) (by omega) ?_; intro v40 w40 ho40 hg40; have B40 := Lib.hid (B37.out.grown hg40 (by first | omega | (simp; done) | (simp; omega)) (fun k e => (ho37.lt k e).1)); have S40 := B40.out.size) | (refine step_app (by rfl) (.tmp 37) (.tmp 39) 22 (by rfl) Try.underlying22 hi hz0 hz1 hz2 (by rfl) (v := v37) (n := 0 + k) (zs := [] ++ zs.take k) (by exact ho37) (A := some ⟨w.heap.size, 0, none⟩) (m := 1) (c := 1) (ns := [x]) (by rfl) rfl (row_one_far hg37 (by simp [Value.ownBlock]) (by first | omega | (simp; done) | (simp; omega)) (by simp)) (by first | omega | (simp; done) | (simp; omega)) (by omega) ?_; intro v40 w40 ho40 hg40; have B40 := Lib.hid (B37.out.grown hg40 (by first | omega | (simp; done) | (simp; omega)) (fun k e => (ho37.lt k e).1)); have S40 := B40.out.size) | (refine step_app (by rfl) (.tmp 40) (.tmp 43) 22 (by rfl) Try.underlying22 hi hz0 hz1 hz2 (by rfl) (v := v40) (n := 0 + k + 1) (zs := [] ++ zs.take k ++ [x]) (by exact ho40) (A := some ⟨b, off + k, none⟩) (m := zs.length - k) (c := c - k) (ns := zs.drop k) (by rfl) HLD.out (HD.out _ B40.out) (by first | omega | (simp; done) | (simp; omega)) (by omega) ?_; intro v44 w44 ho44 hg44; have B44 := Lib.hid (B40.out.grown hg44 (by first | omega | (simp; done) | (simp; omega)) (fun k e => (ho40.lt k e).1)))))
          all_goals
            go_simp
            go_wp2
            all_goals
              go_ret
              obtain ⟨A', c', rfl, hc1, hc2, hl'⟩ := Law.own_len ho44
              have e : [] ++ zs.take k ++ [x] ++ zs.drop k = Q.put x zs := by rw [HP.out]; simp
              rw [e] at ho44 hl'
              have hl2 : (Q.put x zs).length = 0 + k + 1 + (zs.length - k) := by simpa [ivs] using hl'
              exact ⟨_, rfl, by rw [hl2]; exact ho44, B44.out⟩
    · have hke : k = zs.length := by omega
      subst hke
      have HL : Hid (Q.lead x zs = zs.length) := Lib.hid (Q.lead_of hall.out (fun z hz => by rw [List.getElem?_eq_none (Nat.le_refl _)] at hz; cases hz) (Nat.le_refl _))
      have HP : Hid (Q.put x zs = zs.take zs.length ++ x :: zs.drop zs.length) := by show _ = _; rw [Q.put_eq, HL.out, if_neg (by rw [List.getElem?_eq_none (Nat.le_refl _)]; simp)]
      have hltI : ¬ (zs.length : Int) < (zs.length : Int) := by omega
      clear hall
      have hlcI : (zs.length : Int) ≤ (c : Int) := by have := HC.out; omega
      have hk0 : (0 : Int) ≤ (zs.length : Int) := by omega
      have hkl : (zs.length : Int) ≤ (zs.length : Int) := by omega
      have hkk : zs.length - zs.length = 0 := by omega
      have HT : Hid (∀ W, Below w.heap.size w W → Law.Row W A (ivs (zs.take zs.length))) := fun W h => row_take (HR.out.stays h) zs.length
      have HD : Hid (∀ W (B : Option Addr), Below w.heap.size w W → Law.Row W B (ivs (zs.drop zs.length))) := fun W B h => by
        rw [List.drop_length]
        exact fun hh => absurd rfl hh
      go_wp2_with fail
      have lt : (zs.take zs.length).length = zs.length := by rw [List.length_take]; omega
      have ld : (zs.drop zs.length).length = 0 := by rw [List.drop_length]; rfl
      have HLT := Lib.hid lt
      have HLD := Lib.hid ld
      clear lt ld
      have E1 := Lib.hid (show World.ownsRow ((w.alloc (.cells #[] 3)).drew) w.heap.size 3 1 (.slice (some ⟨w.heap.size, 0, none⟩) 0 0) 0 (ivs []) from ownsRow_nil w _)
      have E2 := Lib.hid (show World.ownsRow (((w.alloc (.cells #[] 3)).alloc (.cells #[.int .i64 x] 3)).drew) w.heap.size 3 1 (.slice (some ⟨w.heap.size, 0, none⟩) 0 0) 0 (ivs []) from (ownsRow_nil w _).alloc _)
      have E3 : Hid (World.ownsRow (((w.alloc (.cells #[.int .i64 x] 3)).alloc (.cells #[] 3)).drew) w.heap.size 3 1 (.slice (some ⟨w.heap.size + 1, 0, none⟩) 0 0) 0 (ivs [])) := by
        have h := ownsRow_nil (w.alloc (.cells #[.int .i64 x] 3)) 3
        rw [show (w.alloc (.cells #[.int .i64 x] 3)).heap.size = w.heap.size + 1 from by simp] at h
        exact Lib.hid (own_down h (Nat.le_succ _))
      have D1 := Lib.hid (show Below w.heap.size w (w.alloc (.cells #[] 3)).drew from ((Below.refl _ _).alloc (Nat.le_refl _) _).drew)
      have D2 := Lib.hid (show Below w.heap.size w ((w.alloc (.cells #[] 3)).alloc (.cells #[.int .i64 x] 3)).drew from (((Below.refl _ _).alloc (Nat.le_refl _) _).alloc (by simp) _).drew)
      have D3 := Lib.hid (show Below w.heap.size w ((w.alloc (.cells #[.int .i64 x] 3)).alloc (.cells #[] 3)).drew from (((Below.refl _ _).alloc (Nat.le_refl _) _).alloc (by simp) _).drew)
      go_region_law ((first | (refine step_app (by rfl) (.tmp 33) (.tmp 36) 22 (by rfl) Try.underlying22 hi hz0 hz1 hz2 (by rfl) (v := .slice (some ⟨w.heap.size, 0, none⟩) 0 0) (n := 0) (zs := []) (by exact E1.out) (A := A) (m := zs.length) (c := c) (ns := zs.take zs.length) (by rfl) HLT.out (HT.out _ D1.out) (by first | omega | (simp; done) | (simp; omega)) (by omega) ?_; intro v37 w37 ho37 hg37; have B37 := Lib.hid (D1.out.grown hg37 (by first | omega | (simp; done) | (simp; omega)) (fun k e => (E1.out.lt k e).1)); have S37 := B37.out.size) | (refine step_app (by rfl) (.tmp 33) (.tmp 36) 22 (by rfl) Try.underlying22 hi hz0 hz1 hz2 (by rfl) (v := .slice (some ⟨w.heap.size, 0, none⟩) 0 0) (n := 0) (zs := []) (by exact E2.out) (A := A) (m := zs.length) (c := c) (ns := zs.take zs.length) (by rfl) HLT.out (HT.out _ D2.out) (by first | omega | (simp; done) | (simp; omega)) (by omega) ?_; intro v37 w37 ho37 hg37; have B37 := Lib.hid (D2.out.grown hg37 (by first | omega | (simp; done) | (simp; omega)) (fun k e => (E2.out.lt k e).1)); have S37 := B37.out.size) | (refine step_app (by rfl) (.tmp 33) (.tmp 36) 22 (by rfl) Try.underlying22 hi hz0 hz1 hz2 (by rfl) (v := .slice (some ⟨w.heap.size + 1, 0, none⟩) 0 0) (n := 0) (zs := []) (by exact E3.out) (A := A) (m := zs.length) (c := c) (ns := zs.take zs.length) (by rfl) HLT.out (HT.out _ D3.out) (by first | omega | (simp; done) | (simp; omega)) (by omega) ?_; intro v37 w37 ho37 hg37; have B37 := Lib.hid (D3.out.grown hg37 (by first | omega | (simp; done) | (simp; omega)) (fun k e => (E3.out.lt k e).1)); have S37 := B37.out.size) | (refine step_app (by rfl) (.tmp 37) (.tmp 39) 22 (by rfl) Try.underlying22 hi hz0 hz1 hz2 (by rfl) (v := v37) (n := 0 + zs.length) (zs := [] ++ zs.take zs.length) (by exact ho37.alloc _) (A := some ⟨w37.heap.size, 0, none⟩) (m := 1) (c := 1) (ns := [x]) (by rfl) rfl (row_one_new w37 x _) (by first | omega | (simp; done) | (simp; omega)) (by omega) ?_; intro v40 w40 ho40 hg40; have B40 := Lib.hid ((B37.out.alloc S37 (.cells #[.int .i64 x] 3)).grown hg40 (by first | omega | (simp; done) | (simp; omega)) (fun k e => (ho37.lt k e).1)); have S40 := B40.out.size) | (refine step_app (by rfl) (.tmp 37) (.tmp 39) 22 (by rfl) Try.underlying22 hi hz0 hz1 hz2 (by rfl) (v := v37) (n := 0 + zs.length) (zs := [] ++ zs.take zs.length) (by exact ho37) (A := some ⟨w.heap.size + 1, 0, none⟩) (m := 1) (c := 1) (ns := [x]) (by rfl) rfl (row_one_far hg37 (by simp [Value.ownBlock]) (by first | omega | (simp; done) | (simp; omega)) (by simp)) (by first | omega | (simp; done) | (simp; omega)) (by omega) ?_; intro v40 w40 ho40 hg40; have B40 := Lib.hid (B37.out.grown hg40 (by first | omega | (simp; done) | (simp; omega)) (fun k e => (ho37.lt k e).1)); have S40 := B40.out.size) | (refine step_app (by rfl) (.tmp 37) (.tmp 39) 22 (by rfl) Try.underlying22 hi hz0 hz1 hz2 (by rfl) (v := v37) (n := 0 + zs.length) (zs := [] ++ zs.take zs.length) (by exact ho37) (A := some ⟨w.heap.size, 0, none⟩) (m := 1) (c := 1) (ns := [x]) (by rfl) rfl (row_one_far hg37 (by simp [Value.ownBlock]) (by first | omega | (simp; done) | (simp; omega)) (by simp)) (by first | omega | (simp; done) | (simp; omega)) (by omega) ?_; intro v40 w40 ho40 hg40; have B40 := Lib.hid (B37.out.grown hg40 (by first | omega | (simp; done) | (simp; omega)) (fun k e => (ho37.lt k e).1)); have S40 := B40.out.size) | (refine step_app (by rfl) (.tmp 40) (.tmp 43) 22 (by rfl) Try.underlying22 hi hz0 hz1 hz2 (by rfl) (v := v40) (n := 0 + zs.length + 1) (zs := [] ++ zs.take zs.length ++ [x]) (by exact ho40) (A := (if c = zs.length then A else Option.map (fun x => x.add zs.length) A)) (m := 0) (c := c - zs.length) (ns := zs.drop zs.length) (by rfl) HLD.out (HD.out _ _ B40.out) (by first | omega | (simp; done) | (simp; omega)) (by omega) ?_; intro v44 w44 ho44 hg44; have B44 := Lib.hid (B40.out.grown hg44 (by first | omega | (simp; done) | (simp; omega)) (fun k e => (ho40.lt k e).1)))))
      all_goals
        go_simp
        go_wp2
        all_goals
          go_ret
          obtain ⟨A', c', rfl, hc1, hc2, hl'⟩ := Law.own_len ho44
          have e : [] ++ zs.take zs.length ++ [x] ++ zs.drop zs.length = Q.put x zs := by rw [HP.out]; simp
          rw [e] at ho44 hl'
          have hl2 : (Q.put x zs).length = 0 + zs.length + 1 + 0 := by simpa [ivs] using hl'
          exact ⟨_, rfl, by rw [hl2]; exact ho44, B44.out⟩
set_option maxRecDepth 100000 in
set_option maxHeartbeats 1600000 in
theorem l5Out_any (A : Option Addr) (c : Nat) (zs : List Int) (x : Int) (w : World) (h3 : zs.length ≤ 60) (hr : Law.Row w A (ivs zs)) :
    Calls Try.prog 87 #[.slice A zs.length c, .int .i64 x] w (rowSays1 (zs.filter fun z => !decide (z = x)) w) := by
  obtain ⟨i0, hi, hz0, hz1, hz2⟩ := info_parts infoInts
  have HR := Lib.hid hr
  clear hr
  go_enter Try.func87, Try.ntmps87
  go_wp2_with fail
  go_loopw [5, 6] (fun v i wr => ∃ k : Nat, k ≤ zs.length ∧ i = .int .i64 k ∧ Hid (wr.ownsRow w.heap.size 3 1 v ((zs.take k).filter fun z => !decide (z = x)).length (ivs ((zs.take k).filter fun z => !decide (z = x)))) ∧ Hid (Below w.heap.size w wr)) (fun _ i _ => zs.length - (intOf i).toNat)
  case atStart => exact ⟨0, Nat.zero_le _, rfl, ownsRow_nil _ _, (Below.refl _ _).alloc (Nat.le_refl _) _⟩
  case round =>
    obtain ⟨k, hk, rfl, ho, hb⟩ := hrel
    by_cases hlt : k < zs.length
    · obtain ⟨y, hy⟩ : ∃ y, zs[k]? = some y := ⟨_, List.getElem?_eq_getElem hlt⟩
      obtain ⟨b, off, rfl, hbl, hc⟩ := (HR.out.stays hb.out).at_ (ivs_some hy)
      have hltI : (k : Int) < (zs.length : Int) := by omega
      have HT := Lib.hid (Q.take_snoc hy)
      have hln : ((zs.take k).filter fun z => !decide (z = x)).length ≤ 60 := Nat.le_trans (List.length_filter_le _ _) (by rw [List.length_take]; omega)
      clear hy
      by_cases hyx : y = x
      · have HF : Hid ((zs.take (k + 1)).filter (fun z => !decide (z = x)) = (zs.take k).filter fun z => !decide (z = x)) := by show _ = _; rw [HT.out, List.filter_append]; simp [hyx]
        clear HT
        subst hyx
        go_wp2
        go_roundw
        case rel => exact ⟨k + 1, by omega, by go_num, (by show World.ownsRow _ _ _ _ _ _ _; rw [HF.out]; exact ho.out), hb.out⟩
        case measure => simp [intOf]; omega
      · have HF : Hid ((zs.take (k + 1)).filter (fun z => !decide (z = x)) = ((zs.take k).filter fun z => !decide (z = x)) ++ [y]) := by show _ = _; rw [HT.out, List.filter_append]; simp [hyx]
        clear HT
        have hoo := ho.out
        have hbo := hb.out
        generalize (zs.take k).filter (fun z => !decide (z = x)) = l at hoo hln HF
        clear ho hb
        have hsz9 := (hbo).size
        go_wp2_with (at_builtin; refine wpList_append_own _ rfl _ _ 22 rfl w.heap.size 3 i0 (.int .i64 0) 1 8 Try.underlying22 hi hz0 hz1 hz2 rfl (by decide) _ _ _ rfl ((hoo).alloc _) ⟨(wr).heap.size, 0, none⟩ 1 1 [.int .i64 (y)] rfl rfl ?ca9a ?ca9b ?ca9c ?ca9d ?ca9e ?_)
        case ca9a =>
          intro j' u hj'
          match j', hj' with
          | 0, hj' => simp at hj'; subst hj'; simp [Addr.add]
        case ca9b => intro u hu; simp at hu; subst hu; rfl
        case ca9c => unfold maxLen; omega
        case ca9d => omega
        case ca9e => simp; omega
        intro v9 w9 hm9 hg9 _
        have HB9 := Lib.hid (((hbo).alloc hsz9 (.cells #[.int .i64 (y)] 3)).grown hg9 (by simp; omega) (fun j e => ((hoo).lt j e).1))
        clear hg9
        have HO9 : Hid (w9.ownsRow w.heap.size 3 1 v9 (l ++ [y]).length (ivs (l ++ [y]))) := by show World.ownsRow _ _ _ _ _ _ _; rw [ivs_snoc, show (l ++ [y]).length = l.length + 1 by simp]; exact hm9
        clear hm9 hoo hbo
        go_wp2
        go_roundw
        case rel => exact ⟨k + 1, by omega, by go_num, (by show World.ownsRow _ _ _ _ _ _ _; rw [HF.out]; exact HO9.out), HB9.out⟩
        case measure => simp [intOf]; omega
    · have hke : k = zs.length := by omega
      have hltI : ¬ (k : Int) < (zs.length : Int) := by omega
      have HF : Hid (zs.take k = zs) := by show _ = _; rw [hke, List.take_length]
      clear hke
      go_wp2
      go_ret
      have h := ho.out
      rw [HF.out] at h
      exact ⟨_, rfl, h, hb.out⟩
end Go.Proofs.Ytklpdfilhgjllaa
