/-
  RenameRequests: the code's.
-/
import Derived.Test.YtndjpkeenbbgiaaDifI
import Derived.Test.YtndjpkeenbbgiaaImpQ
import Derived.Test.YtndjpkeenbbgiaaPart
namespace Go.Proofs.Ytndjpkeenbbgiaa
open Go.RowKit
set_option linter.unusedVariables false
namespace Q
/-- A list that has each item once. -/
def order (n : Int) (to : List Int) : Bool := decide ((to.length : Int) = n) && (okList n to && decide ((dif to : Int) = n))
def renOk (n : Int) (zs to : List Int) : Bool := good n zs && order n to
def renQ (n : Int) (zs to : List Int) : List Int × Bool := if renOk n zs to then (renL to zs, true) else ([], false)
def renF (to zs : List Int) (i : Nat) : Int := to.getD (zs.getD i 0).toNat 0
theorem renL_part (to zs : List Int) : (List.range zs.length).map (renF to zs) = renL to zs := by
  apply List.ext_getElem (by simp [renL])
  intro k h1 h2
  simp at h1
  simp [renL, renF, h1]
theorem renL_len (to zs : List Int) : (renL to zs).length = zs.length := by simp [renL]
theorem order_good {n : Int} {to : List Int} (hn : okN n = true) (h : order n to = true) : good n to = true := by
  have h' : (to.length : Int) = n ∧ okList n to = true ∧ (dif to : Int) = n := by simpa [order] using h
  have := okN_iff.1 hn
  simp [good, hn, h'.2.1]; omega
theorem good_okN {n : Int} {zs : List Int} (h : good n zs = true) : okN n = true := ((Bool.and_eq_true _ _).mp h).1
/-- hasEachOnce: a list that has each item once. -/
def eachQ (n : Int) (to : List Int) : Bool := good n to && order n to
end Q
set_option maxHeartbeats 800000 in
theorem eachOnce_any (n : Int) (B : Option Addr) (d : Nat) (to : List Int) (w : World) (hl : to.length ≤ 1048576) (hs : Law.Row w B (ivs to)) :
    Calls Try.prog 54 #[.int .i64 n, .slice B to.length d] w fun e w' => e = .returned (.bool (Q.eachQ n to)) ∧ Below w.heap.size w w' := by
  have HQ2 := Lib.hid (impIsReq_any n B d to w hl hs)
  cases hgt : Q.good n to
  · have HN : Hid (Q.eachQ n to = false) := by show _ = _; simp [Q.eachQ, hgt]
    rw [hgt] at HQ2
    clear hs hgt
    go_enter Try.func54, Try.ntmps54
    go_wp2_with fail
    go_at_call 53
    refine (HQ2.out).mono ?_
    rintro e w' ⟨rfl, hw'⟩
    obtain rfl := hw'.symm
    clear hw'
    go_wp2
    go_ret
    exact ⟨by rw [HN.out]; rfl, Below.refl _ _⟩
  · rw [hgt] at HQ2
    obtain ⟨M, rfl, _, _, h3, hx⟩ := Q.good_nat hgt
    have hok : Q.okList M to = true := by
      have := ((Bool.and_eq_true _ _).mp ((Bool.and_eq_true _ _).mp hgt).2).2
      exact this
    by_cases hlen : to.length = M
    · have HD := Lib.hid (difItems_any B d to w h3 (fun k hk => by
        obtain ⟨y, hy, hy8⟩ := hx k hk
        exact ⟨y, hy, by omega⟩) hs)
      have HN : Hid (Q.eachQ M to = ((Q.dif to : Int) == (M : Int))) := by
        show _ = _
        rw [show ((Q.dif to : Int) == (M : Int)) = decide ((Q.dif to : Int) = (M : Int)) from by rw [Bool.eq_iff_iff]; simp]
        simp [Q.eachQ, hgt, Q.order, hok, hlen]
      generalize Q.dif to = q at HD HN
      generalize Q.eachQ M to = E at HN ⊢
      subst hlen
      clear hs hgt hx hok
      go_enter Try.func54, Try.ntmps54
      go_wp2_with fail
      go_at_call 53
      refine (HQ2.out).mono ?_
      rintro e w' ⟨rfl, hw'⟩
      obtain rfl := hw'.symm
      clear hw'
      go_wp2_with fail
      go_at_call 90
      refine HD.out.mono ?_
      rintro e w0 ⟨rfl, hb0⟩
      have HB0 := Lib.hid hb0
      clear hb0
      go_wp2
      go_ret
      exact ⟨by rw [HN.out]; rfl, HB0.out⟩
    · have HN : Hid (Q.eachQ M to = false) := by
        show _ = _
        simp [Q.eachQ, Q.order]
        intro _ h
        omega
      have hqb : ((to.length : Int) == (M : Int)) = false := by simpa using (show ¬ (to.length : Int) = (M : Int) by omega)
      clear hs hgt hx hok
      go_enter Try.func54, Try.ntmps54
      go_wp2_with fail
      go_at_call 53
      refine (HQ2.out).mono ?_
      rintro e w' ⟨rfl, hw'⟩
      obtain rfl := hw'.symm
      clear hw'
      go_wp2
      go_ret
      exact ⟨by rw [HN.out]; rfl, Below.refl _ _⟩
set_option maxHeartbeats 1600000 in
theorem impRen_good (N : Nat) (A B : Option Addr) (c d : Nat) (zs to : List Int) (w : World) (hg : Q.good N zs = true) (ht : Q.order N to = true) (hr : Law.Row w A (ivs zs)) (hs : Law.Row w B (ivs to)) :
    Calls Try.prog 17 #[.int .i64 N, .slice A zs.length c, .slice B to.length d] w (rowSays (Q.renL to zs, true) w) := by
  obtain ⟨i0, hi, hz0, hz1, hz2⟩ := info_parts infoInts
  obtain ⟨M, hM, h1, h2, h3, hx⟩ := Q.good_nat hg
  obtain rfl : M = N := by omega
  have hgt := Q.order_good (Q.good_okN hg) ht
  obtain ⟨M', hM', _, _, h3', hx'⟩ := Q.good_nat hgt
  obtain rfl : M' = M := by omega
  have ht' : (to.length : Int) = M' ∧ Q.okList M' to = true ∧ (Q.dif to : Int) = M' := by simpa [Q.order] using ht
  obtain ⟨hlen, _, hdif⟩ := ht'
  have HQ := Lib.hid (impIsReq_any M' A c zs w (by omega) hr)
  have HE := Lib.hid (eachOnce_any M' B d to w (by omega) hs)
  rw [hg] at HQ
  rw [show Q.eachQ M' to = true by simp [Q.eachQ, hgt, ht]] at HE
  have hlenN : to.length = M' := by omega
  have HR := Lib.hid hr
  have HS := Lib.hid hs
  have HX := Lib.hid hx
  have HT : Hid (∀ j, j < M' → ∃ y : Int, to[j]? = some y) := fun j hj => ⟨_, List.getElem?_eq_getElem (by omega)⟩
  rw [hlenN] at HE ⊢
  clear hr hs hx hx' hg hgt ht hM hM' hlen hdif
  have HLN := Lib.hid hlenN
  clear hlenN
  go_enter Try.func17, Try.ntmps17
  go_wp2_with fail
  go_at_call 53
  refine (HQ.out).mono ?_
  rintro e w' ⟨rfl, hw'⟩
  obtain rfl := hw'.symm
  clear hw'
  go_wp2_with fail
  go_at_call 54
  refine HE.out.mono ?_
  rintro e w0 ⟨rfl, hb0⟩
  have HB0 := Lib.hid hb0
  clear hb0
  have hsz0 : w.heap.size ≤ w0.heap.size := HB0.out.size
  go_wp2_with (at_make; refine wpList_make_full _ rfl _ _ 22 rfl w.heap.size 3 i0 (.int .i64 0) 1 Try.underlying22 hi hz0 hz1 .i64 .i64 _ _ zs.length rfl rfl rfl rfl ?cm1a ?cm1b ?cm1c ?_)
  case cm1a => rw [hz2]; omega
  case cm1b => unfold maxLen; omega
  case cm1c => first | exact Nat.le_refl _ | omega | (simp; omega)
  intro w1 hm1 hg1
  replace hm1 := made_own (w := w1) hm1
  have HB : Hid (Below w.heap.size w w1) := Lib.hid (HB0.out.grown hg1 hsz0 (fun k e => by cases e))
  have HO := Lib.hid hm1
  clear hm1 hg1
  obtain ⟨g, hg⟩ : ∃ g, g = w0.heap.size := ⟨_, rfl⟩
  rw [← hg] at HO hsz0 ⊢
  clear hg
  go_wp2_with fail
  go_loopw [27] (fun i wr => ∃ k : Nat, k ≤ zs.length ∧ i = .int .i64 k ∧ Hid (wr.ownsRow w.heap.size 3 1 (.slice (some ⟨g, 0, none⟩) zs.length zs.length) zs.length (ivs (Q.part (Q.renF to zs) zs.length k))) ∧ Hid (Below w.heap.size w wr)) (fun i _ => zs.length - (intOf i).toNat)
  case atStart => exact ⟨0, Nat.zero_le _, rfl, by (show World.ownsRow _ _ _ _ _ _ _); rw [Q.part_zero]; exact HO.out, HB.out⟩
  case round =>
    obtain ⟨k, hk, rfl, ho, hb⟩ := hrel
    by_cases hlt : k < zs.length
    · obtain ⟨x, hx, hxN⟩ := HX.out k hlt
      obtain ⟨b, off, rfl, hbl, hc⟩ := (HR.out.stays hb.out).at_ (ivs_some hx)
      obtain ⟨y, hy⟩ := HT.out x hxN
      obtain ⟨b', off', rfl, hbl', hc'⟩ := (HS.out.stays hb.out).at_ (ivs_some hy)
      have hltI : (k : Int) < (zs.length : Int) := by omega
      have hxI : (x : Int) < (M' : Int) := by omega
      have hcU := own_cell ho.out (Q.part_at (Q.renF to zs) hlt)
      have hfU := ho.out.frozenAt k
      have HT1 := Lib.hid (Q.part_set (Q.renF to zs) hlt)
      have hy' : Q.renF to zs k = y := by unfold Q.renF; rw [List.getD_eq_getElem?_getD, List.getD_eq_getElem?_getD, hx]; simp [hy]
      rw [hy'] at HT1
      have HB' := Lib.hid (hb.out.setCell (p := ⟨g, k, none⟩) hsz0 (.int .i64 y))
      have HU := Lib.hid (own_put ho.out k y)
      clear ho hb hx hy hy'
      go_wp2
      go_roundw
      case rel => exact ⟨k + 1, by omega, by go_num, (by show World.ownsRow _ _ _ _ _ _ _; rw [← HT1.out]; exact HU.out), HB'.out⟩
      case measure => simp [intOf]; omega
    · have hke : k = zs.length := by omega
      have hltI : ¬ (k : Int) < (zs.length : Int) := by omega
      have HF : Hid (Q.part (Q.renF to zs) zs.length k = Q.renL to zs) := by show _ = _; rw [hke, Q.part_all]; exact Q.renL_part _ _
      clear hke
      go_wp2
      go_ret2
      have h := ho.out
      rw [HF.out] at h
      refine ⟨_, rfl, ?_, hb.out⟩
      simp only [Q.renL_len]
      exact h
set_option maxHeartbeats 800000 in
theorem impRen_any (n : Int) (zs to : List Int) (A : Option Addr) (c : Nat) (hl : zs.length ≤ 1048576) (B : Option Addr) (d : Nat) (hl' : to.length ≤ 1048576) (w : World) (hr : Law.Row w A (ivs zs)) (hs : Law.Row w B (ivs to)) :
    Calls Try.prog 17 #[.int .i64 n, .slice A zs.length c, .slice B to.length d] w (rowSays (Q.renQ n zs to) w) := by
  have HQ := Lib.hid (impIsReq_any n A c zs w hl hr)
  cases hg : Q.good n zs
  · rw [show Q.renQ n zs to = ([], false) from if_neg (by simp [Q.renOk, hg])]
    rw [hg] at HQ
    clear hr hs hg
    go_enter Try.func17, Try.ntmps17
    go_wp2_with fail
    go_at_call 53
    refine (HQ.out).mono ?_
    rintro e w' ⟨rfl, hw'⟩
    obtain rfl := hw'.symm
    clear hw'
    go_wp2
    go_ret2
    exact ⟨_, rfl, ownsRow_nil _ _, (Below.refl _ _).alloc (Nat.le_refl _) _⟩
  · cases ho : Q.order n to
    · rw [show Q.renQ n zs to = ([], false) from if_neg (by simp [Q.renOk, hg, ho])]
      have HE := Lib.hid (eachOnce_any n B d to w hl' hs)
      rw [show Q.eachQ n to = false by simp [Q.eachQ, ho]] at HE
      rw [hg] at HQ
      clear hr hs hg ho
      go_enter Try.func17, Try.ntmps17
      go_wp2_with fail
      go_at_call 53
      refine (HQ.out).mono ?_
      rintro e w' ⟨rfl, hw'⟩
      obtain rfl := hw'.symm
      clear hw'
      go_wp2_with fail
      go_at_call 54
      refine HE.out.mono ?_
      rintro e w0 ⟨rfl, hb0⟩
      have HB0 := Lib.hid hb0
      clear hb0
      go_wp2
      go_ret2
      exact ⟨_, rfl, own_down (ownsRow_nil _ _) HB0.out.size, HB0.out.alloc HB0.out.size _⟩
    · rw [show Q.renQ n zs to = (Q.renL to zs, true) from if_pos (by simp [Q.renOk, hg, ho])]
      obtain ⟨N, rfl, _⟩ := Q.good_nat hg
      exact impRen_good N A B c d zs to w hg ho hr hs
namespace LRenameRequests
theorem lenX (n : Int) (zs to : List Int) : (Q.renQ n zs to).1.length ≤ 1048576 := by
  unfold Q.renQ
  split
  · rename_i h
    have h0 := (Q.good_iff.1 ((Bool.and_eq_true _ _).mp h).1).2.1
    rw [Q.renL_len]; omega
  · simp
end LRenameRequests
end Go.Proofs.Ytndjpkeenbbgiaa
