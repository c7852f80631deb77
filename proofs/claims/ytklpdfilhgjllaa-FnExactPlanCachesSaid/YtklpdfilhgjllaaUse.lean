/-
  NextUses: the code's.
-/
import Derived.Test.YtklpdfilhgjllaaOwn
import Derived.Test.YtklpdfilhgjllaaPart
import Derived.Test.YtklpdfilhgjllaaImpQ
namespace Go.Proofs.Ytklpdfilhgjllaa
open Go.RowKit
set_option linter.unusedVariables false
namespace Q
def lastQ (n : Int) (zs : List Int) : List Int × Bool := ifGood n zs (lastL zs zs.length)
def nextQ (n : Int) (zs : List Int) : List Int × Bool := ifGood n zs (nextL zs zs.length)
end Q
set_option maxHeartbeats 1600000 in
theorem noPlaces_any (N : Nat) (w : World) (h2 : N ≤ 8) : Calls Try.prog 101 #[.int .i64 N] w (rowSays1 (List.replicate N (-1)) w) := by
  obtain ⟨i0, hi, hz0, hz1, hz2⟩ := info_parts infoInts
  go_enter Try.func101, Try.ntmps101
  go_wp2_with (at_make; refine wpList_make_full _ rfl _ _ 22 rfl w.heap.size 3 i0 (.int .i64 0) 1 Try.underlying22 hi hz0 hz1 .i64 .i64 _ _ N rfl rfl rfl rfl ?cm1a ?cm1b ?cm1c ?_)
  case cm1a => rw [hz2]; omega
  case cm1b => unfold maxLen; omega
  case cm1c => first | exact Nat.le_refl _ | omega | (simp; omega)
  intro w1 hm1 hg1
  replace hm1 := made_own (w := w1) hm1
  have HB : Hid (Below w.heap.size w w1) := Lib.hid ((Below.refl _ _).grown hg1 (Nat.le_refl _) (fun k e => by cases e))
  have HO := Lib.hid hm1
  clear hm1 hg1
  go_wp2_with fail
  go_loopw [9] (fun i wr => ∃ k : Nat, k ≤ N ∧ i = .int .i64 k ∧ Hid (wr.ownsRow w.heap.size 3 1 (.slice (some ⟨w.heap.size, 0, none⟩) N N) N (ivs (Q.part (fun _ => -1) N k))) ∧ Hid (Below w.heap.size w wr)) (fun i _ => N - (intOf i).toNat)
  case atStart => exact ⟨0, Nat.zero_le _, rfl, by (show World.ownsRow _ _ _ _ _ _ _); rw [Q.part_zero]; exact HO.out, HB.out⟩
  case round =>
    obtain ⟨k, hk, rfl, ho, hb⟩ := hrel
    by_cases hlt : k < N
    · have hltI : (k : Int) < (N : Int) := by omega
      have hcO := own_cell ho.out (Q.part_at (fun _ => -1) hlt)
      have hfO := ho.out.frozenAt k
      have HS := Lib.hid (own_put ho.out k (-1))
      have HT := Lib.hid (Q.part_set (fun _ => -1) hlt)
      have HB' := Lib.hid (hb.out.setCell (p := ⟨w.heap.size, k, none⟩) (Nat.le_refl _) (.int .i64 (-1)))
      clear ho hb
      go_wp2
      go_roundw
      case rel => exact ⟨k + 1, by omega, by go_num, (by show World.ownsRow _ _ _ _ _ _ _; rw [← HT.out]; exact HS.out), HB'.out⟩
      case measure => simp [intOf]; omega
    · have hke : k = N := by omega
      have hltI : ¬ (k : Int) < (N : Int) := by omega
      have HF : Hid (Q.part (fun _ => -1) N k = List.replicate N (-1)) := by show _ = _; rw [hke, Q.part_all]; simp [List.map_const']
      clear hke
      go_wp2
      go_ret
      have h := ho.out
      rw [HF.out] at h
      refine ⟨_, rfl, ?_, hb.out⟩
      simp only [List.length_replicate]
      exact h
set_option maxHeartbeats 1600000 in
theorem impNext_good (N : Nat) (A : Option Addr) (c : Nat) (zs : List Int) (w : World) (hg : Q.good N zs = true) (h1 : 1 ≤ N) (h2 : N ≤ 8) (h3 : zs.length ≤ 60) (hx : ∀ k, k < zs.length → ∃ x : Nat, zs[k]? = some (x : Int) ∧ x < N) (hr : Law.Row w A (ivs zs)) :
    Calls Try.prog 72 #[.int .i64 N, .slice A zs.length c] w (rowSays (Q.nextL zs zs.length, true) w) := by
  obtain ⟨i0, hi, hz0, hz1, hz2⟩ := info_parts infoInts
  have HQ := Lib.hid (impIsReq_any N A c zs w (by omega) hr)
  rw [hg] at HQ
  have HR := Lib.hid hr
  have HX := Lib.hid hx
  clear hr hg hx
  go_enter Try.func72, Try.ntmps72
  go_wp2_with fail
  go_at_call 70
  refine (HQ.out).mono ?_
  rintro e w' ⟨rfl, hw'⟩
  obtain rfl := hw'.symm
  clear hw'
  go_wp2_with (at_make; refine wpList_make_full _ rfl _ _ 22 rfl w.heap.size 3 i0 (.int .i64 0) 1 Try.underlying22 hi hz0 hz1 .i64 .i64 _ _ zs.length rfl rfl rfl rfl ?cm1a ?cm1b ?cm1c ?_)
  case cm1a => rw [hz2]; omega
  case cm1b => unfold maxLen; omega
  case cm1c => first | exact Nat.le_refl _ | omega | (simp; omega)
  intro w1 hm1 hg1
  replace hm1 := made_own (w := w1) hm1
  have HB : Hid (Below w.heap.size w w1) := Lib.hid ((Below.refl _ _).grown hg1 (Nat.le_refl _) (fun k e => by cases e))
  have HO := Lib.hid hm1
  clear hm1 hg1
  go_wp2_with fail
  go_at_call 101
  refine (noPlaces_any N _ h2).mono ?_
  rintro e w2 ⟨v2, rfl, ho, hb⟩
  rw [List.length_replicate] at ho
  obtain ⟨g, cg, rfl, hg1, hg2⟩ := own_some ho h1
  have HB2 : Hid (Below w.heap.size w w2) := Law.then_ HB.out hb
  have HO2 := Lib.hid (own_past HO.out hb)
  have HL := Lib.hid (show w2.ownsRow w.heap.size 3 1 (.slice (some ⟨g, 0, none⟩) N cg) N (ivs (Q.nearestL N zs zs.length)) by rw [Q.nearest_end]; exact own_down ho HB.out.size)
  have hne : w.heap.size ≠ g := by have := (HO.out.lt w.heap.size rfl).2; omega
  have hle : w.heap.size ≤ g := Nat.le_trans HB.out.size hg1
  clear ho hb HO HB hg2
  go_wp2_with fail
  go_loopw [8] (fun i wr => ∃ k : Nat, k ≤ zs.length ∧ i = .int .i64 ((k : Int) - 1) ∧ Hid (wr.ownsRow w.heap.size 3 1 (.slice (some ⟨w.heap.size, 0, none⟩) zs.length zs.length) zs.length (ivs (Q.tailP (Q.nextOf zs) zs.length k))) ∧ Hid (wr.ownsRow w.heap.size 3 1 (.slice (some ⟨g, 0, none⟩) N cg) N (ivs (Q.nearestL N zs k))) ∧ Hid (Below w.heap.size w wr)) (fun i _ => (intOf i + 1).toNat)
  case atStart => exact ⟨zs.length, Nat.le_refl _, rfl, by (show World.ownsRow _ _ _ _ _ _ _); rw [Q.tailP_end]; exact HO2.out, HL.out, HB2.out⟩
  case round =>
    obtain ⟨k', hk, rfl, ho, hl, hb⟩ := hrel
    by_cases hlt : 0 < k'
    · obtain ⟨k, rfl⟩ : ∃ k, k' = k + 1 := ⟨k' - 1, by omega⟩
      have hkk : (((k + 1 : Nat) : Int) - 1) = (k : Int) := by omega
      rw [hkk]
      clear hkk hlt
      obtain ⟨x, hx, hxN⟩ := HX.out k (by omega)
      obtain ⟨b, off, rfl, hbl, hc⟩ := (HR.out.stays hb.out).at_ (ivs_some hx)
      have hltI : (k : Int) < (zs.length : Int) := by omega
      have hxI : (x : Int) < (N : Int) := by omega
      have hcU := own_cell ho.out (Q.tailP_at (Q.nextOf zs) (show k < zs.length by omega))
      have hfU := ho.out.frozenAt k
      have hcL := own_cell hl.out (Q.nearest_at (zs := zs) (p := k + 1) hxN)
      have hfL := hl.out.frozenAt x
      have HT := Lib.hid (Q.tailP_set (Q.nextOf zs) (show k < zs.length by omega))
      have hlast : Q.nextOf zs k = Q.up x (zs.drop (k + 1)) (k + 1) := by unfold Q.nextOf; rw [List.getD_eq_getElem?_getD, hx]; rfl
      rw [hlast] at HT
      have HK := Lib.hid (Q.nearest_pred (n := N) hx)
      clear hlast
      generalize Q.up x (zs.drop (k + 1)) (k + 1) = d at hcL HT
      have hb1 := hb.out.setCell (p := ⟨w.heap.size, k, none⟩) (Nat.le_refl _) (.int .i64 d)
      have HB' := Lib.hid (hb1.setCell (p := ⟨g, x, none⟩) (show w.heap.size ≤ g by omega) (.int .i64 (k : Int)))
      have HU := Lib.hid (own_set (own_put ho.out k d) ⟨g, x, none⟩ (by exact fun e => hne e.symm) (.int .i64 (k : Int)))
      have HL' := Lib.hid (own_put (own_set hl.out ⟨w.heap.size, k, none⟩ (by exact hne) (.int .i64 d)) x (k : Int))
      clear ho hb hl hx hb1
      go_wp2
      go_roundw
      case rel => exact ⟨k, by omega, rfl, (by show World.ownsRow _ _ _ _ _ _ _; rw [← HT.out]; exact HU.out), (by show World.ownsRow _ _ _ _ _ _ _; rw [← HK.out]; exact HL'.out), HB'.out⟩
      case measure => simp [intOf]
    · obtain rfl : k' = 0 := by omega
      have HF : Hid (Q.tailP (Q.nextOf zs) zs.length 0 = Q.nextL zs zs.length) := Q.tailP_zero _ _
      have h := ho.out
      rw [HF.out] at h
      have HH := Lib.hid h
      have hB := Lib.hid hb.out
      clear ho hl hb h hlt
      go_wp2
      go_ret2
      refine ⟨_, rfl, ?_, hB.out⟩
      have hl : (Q.nextL zs zs.length).length = zs.length := by simp [Q.nextL]
      simp only [hl]
      exact HH.out
theorem impNext_any (n : Int) (zs : List Int) (A : Option Addr) (c : Nat) (hl : zs.length ≤ 1048576) (w : World) (hr : Law.Row w A (ivs zs)) :
    Calls Try.prog 72 #[.int .i64 n, .slice A zs.length c] w (rowSays (Q.nextQ n zs) w) := by
  cases hg : Q.good n zs
  · rw [show Q.nextQ n zs = ([], false) from Q.ifGood_no hg]
    have HQ := Lib.hid (impIsReq_any n A c zs w hl hr)
    rw [hg] at HQ
    clear hr hg
    go_enter Try.func72, Try.ntmps72
    go_wp2_with fail
    go_at_call 70
    refine (HQ.out).mono ?_
    rintro e w' ⟨rfl, hw'⟩
    obtain rfl := hw'.symm
    clear hw'
    go_wp2
    go_ret2
    exact ⟨_, rfl, ownsRow_nil _ _, (Below.refl _ _).alloc (Nat.le_refl _) _⟩
  · rw [show Q.nextQ n zs = _ from Q.ifGood_yes hg]
    obtain ⟨N, rfl, h1, h2, h3, hx⟩ := Q.good_nat hg
    exact impNext_good N A c zs w hg h1 h2 h3 hx hr
end Go.Proofs.Ytklpdfilhgjllaa
