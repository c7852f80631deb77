/-
  RenameRequests: the model's.
-/
import Derived.Test.YtndjpkeenbbgiaaPutS
import Derived.Test.YtndjpkeenbbgiaaRenI
import Derived.Test.YtndjpkeenbbgiaaGood
namespace Go.Proofs.Ytndjpkeenbbgiaa
open Go.RowKit
set_option linter.unusedVariables false
set_option maxHeartbeats 800000 in
theorem l3Order_any (n : Int) (B : Option Addr) (d : Nat) (to : List Int) (w : World) (h1 : 1 ≤ n) (h2 : n ≤ 8) (hl : to.length ≤ 1048576) (hr : Law.Row w B (ivs to)) :
    Calls Try.prog 52 #[.int .i64 n, .slice B to.length d] w fun e w' => e = .returned (.bool (Q.order n to)) ∧ Below w.heap.size w w' := by
  by_cases hlen : (to.length : Int) = n
  · have HL := Lib.hid (l3List_any n B d to w h1 h2 hl hr)
    cases hok : Q.okList n to
    · have HN : Hid (Q.order n to = false) := by show _ = _; simp [Q.order, hok]
      rw [hok] at HL
      subst hlen
      clear hok hr
      go_enter Try.func52, Try.ntmps52
      go_wp2_with fail
      go_at_call 86
      refine (HL.out).mono ?_
      rintro e w' ⟨rfl, hw'⟩
      obtain rfl := hw'.symm
      clear hw'
      go_wp2
      go_ret
      exact ⟨by rw [HN.out]; rfl, Below.refl _ _⟩
    · have HN : Hid (Q.order n to = decide ((Q.dif to : Int) = n)) := by show _ = _; simp [Q.order, hok, hlen]
      rw [hok] at HL
      have HD := Lib.hid (l3Dif_any B d to w (by omega) hr)
      have HE := Lib.hid (Q.diffs_ok to).2.2
      obtain ⟨ds, hds⟩ : ∃ ds, ds = Q.diffs to := ⟨_, rfl⟩
      rw [← hds] at HD HE
      subst hlen
      clear hok hr hds
      go_enter Try.func52, Try.ntmps52
      go_wp2_with fail
      go_at_call 86
      refine (HL.out).mono ?_
      rintro e w' ⟨rfl, hw'⟩
      obtain rfl := hw'.symm
      clear hw'
      go_wp2_with fail
      go_at_call 87
      refine HD.out.mono ?_
      rintro e w2 ⟨B2, d2, rfl, h1', h2', hr2, hb2⟩
      have HB2 := Lib.hid hb2
      clear hb2 hr2 h1' h2'
      go_wp2
      go_ret
      refine ⟨?_, HB2.out⟩
      have e : ((ds.length : Int) == (to.length : Int)) = decide ((ds.length : Int) = (to.length : Int)) := by rw [Bool.eq_iff_iff]; simp
      rw [HN.out, ← HE.out, ← e]
      rfl
  · have HN : Hid (Q.order n to = false) := by show _ = _; simp [Q.order, hlen]
    have hqb : ((to.length : Int) == n) = false := by simpa using hlen
    clear hr hlen
    go_enter Try.func52, Try.ntmps52
    go_wp2
    go_ret
    exact ⟨by rw [HN.out]; rfl, Below.refl _ _⟩
namespace Q
theorem renL_take (to zs : List Int) {k : Nat} {x : Nat} {y : Int} (hx : zs[k]? = some (x : Int)) (hy : to[x]? = some y) : renL to (zs.take (k + 1)) = renL to (zs.take k) ++ [y] := by
  rw [take_snoc hx, ren_snoc, List.getD_eq_getElem?_getD, Int.toNat_natCast, hy]
  rfl
end Q
set_option maxHeartbeats 1600000 in
theorem specRen_good (N : Nat) (A B : Option Addr) (c d : Nat) (zs to : List Int) (w : World) (hg : Q.good N zs = true) (ht : Q.order N to = true) (hr : Law.Row w A (ivs zs)) (hs : Law.Row w B (ivs to)) :
    Calls Try.prog 15 #[.int .i64 N, .slice A zs.length c, .slice B to.length d] w (rowSays (Q.renL to zs, true) w) := by
  obtain ⟨i0, hi, hz0, hz1, hz2⟩ := info_parts infoInts
  obtain ⟨M, hM, h1, h2, h3, hx⟩ := Q.good_nat hg
  obtain rfl : M = N := by omega
  have hlen : to.length = M := by
    have ht' : (to.length : Int) = M ∧ Q.okList M to = true ∧ (Q.dif to : Int) = M := by simpa [Q.order] using ht
    omega
  have b0 : Below w.heap.size w (w.alloc (.cells #[] 3)) := (Below.refl _ _).alloc (Nat.le_refl _) _
  have HQ := Lib.hid (l3Good_any M A c zs _ (by omega) (hr.stays b0))
  have HQ2 := Lib.hid (l3Order_any M B d to (w.alloc (.cells #[] 3)) (by omega) (by omega) (by omega) (hs.stays b0))
  rw [hg] at HQ
  rw [ht] at HQ2
  have HR := Lib.hid hr
  have HS := Lib.hid hs
  have HX := Lib.hid hx
  have HT : Hid (∀ j, j < M → ∃ y : Int, to[j]? = some y) := fun j hj => ⟨_, List.getElem?_eq_getElem (by omega)⟩
  have HB0 := Lib.hid b0
  rw [hlen] at HQ2 ⊢
  clear hr hs hx hg ht hM b0
  have HLN := Lib.hid hlen
  clear hlen
  have H0 := Lib.hid (ownsRow_nil w 3)
  go_enter Try.func15, Try.ntmps15
  go_wp2_with fail
  go_at_call 51
  refine (HQ.out).mono ?_
  rintro e w' ⟨rfl, hw'⟩
  obtain rfl := hw'.symm
  clear hw'
  go_wp2_with fail
  go_at_call 52
  refine HQ2.out.mono ?_
  rintro e w0 ⟨rfl, hb0⟩
  have HB1 : Hid (Below w.heap.size w w0) := Law.then_ HB0.out hb0
  have H1 := Lib.hid (own_past H0.out hb0)
  clear hb0
  go_wp2_with fail
  go_loopw [8, 9] (fun u i wr => ∃ k : Nat, k ≤ zs.length ∧ i = .int .i64 k ∧ Hid (wr.ownsRow w.heap.size 3 1 u k (ivs (Q.renL to (zs.take k)))) ∧ Hid (Below w.heap.size w wr)) (fun _ i _ => zs.length - (intOf i).toNat)
  case atStart => exact ⟨0, Nat.zero_le _, rfl, H1.out, HB1.out⟩
  case round =>
    obtain ⟨k, hk, rfl, ho, hb⟩ := hrel
    by_cases hlt : k < zs.length
    · obtain ⟨x, hx, hxN⟩ := HX.out k hlt
      obtain ⟨b, off, rfl, hbl, hc⟩ := (HR.out.stays hb.out).at_ (ivs_some hx)
      obtain ⟨y, hy⟩ := HT.out x hxN
      obtain ⟨b', off', rfl, hbl', hc'⟩ := (HS.out.stays hb.out).at_ (ivs_some hy)
      have hltI : (k : Int) < (zs.length : Int) := by omega
      have hxI : (x : Int) < (M : Int) := by omega
      have HT1 := Lib.hid (Q.renL_take to zs hx hy)
      clear hx hy
      have hsz9 := (hb.out).size
      go_wp2_with (at_builtin; refine wpList_append_own _ rfl _ _ 22 rfl w.heap.size 3 i0 (.int .i64 0) 1 8 Try.underlying22 hi hz0 hz1 hz2 rfl (by decide) _ _ _ rfl ((ho.out).alloc _) ⟨(wr).heap.size, 0, none⟩ 1 1 [.int .i64 (y)] rfl rfl ?ca9a ?ca9b ?ca9c ?ca9d ?ca9e ?_)
      case ca9a =>
        intro j' u hj'
        match j', hj' with
        | 0, hj' => simp at hj'; subst hj'; simp [Addr.add]
      case ca9b => intro u hu; simp at hu; subst hu; rfl
      case ca9c => unfold maxLen; omega
      case ca9d => omega
      case ca9e => simp; omega
      intro v9 w9 hm9 hg9 _
      have HB9 := Lib.hid (((hb.out).alloc hsz9 (.cells #[.int .i64 (y)] 3)).grown hg9 (by simp; omega) (fun j e => ((ho.out).lt j e).1))
      clear hg9
      rw [← ivs_snoc, ← HT1.out] at hm9
      have HO := Lib.hid hm9
      clear hm9 ho hb
      go_wp2
      go_roundw
      case rel => exact ⟨k + 1, by omega, by go_num, HO.out, HB9.out⟩
      case measure => simp [intOf]; omega
    · have hke : k = zs.length := by omega
      have hltI : ¬ (k : Int) < (zs.length : Int) := by omega
      have HF : Hid (zs.take k = zs) := by show _ = _; rw [hke, List.take_length]
      have HK := Lib.hid hke
      clear hke
      go_wp2
      go_ret2
      have h := ho.out
      rw [HF.out, HK.out] at h
      refine ⟨_, rfl, ?_, hb.out⟩
      simp only [Q.renL_len]
      exact h
set_option maxHeartbeats 800000 in
theorem specRen_any (n : Int) (zs to : List Int) (A : Option Addr) (c : Nat) (hl : zs.length ≤ 1048576) (B : Option Addr) (d : Nat) (hl' : to.length ≤ 1048576) (w : World) (hr : Law.Row w A (ivs zs)) (hs : Law.Row w B (ivs to)) :
    Calls Try.prog 15 #[.int .i64 n, .slice A zs.length c, .slice B to.length d] w (rowSays (Q.renQ n zs to) w) := by
  have b0 : Below w.heap.size w (w.alloc (.cells #[] 3)) := (Below.refl _ _).alloc (Nat.le_refl _) _
  have HQ := Lib.hid (l3Good_any n A c zs _ hl (hr.stays b0))
  cases hg : Q.good n zs
  · rw [show Q.renQ n zs to = ([], false) from if_neg (by simp [Q.renOk, hg])]
    rw [hg] at HQ
    have HB0 := Lib.hid b0
    clear hr hs hg b0
    go_enter Try.func15, Try.ntmps15
    go_wp2_with fail
    go_at_call 51
    refine (HQ.out).mono ?_
    rintro e w' ⟨rfl, hw'⟩
    obtain rfl := hw'.symm
    clear hw'
    go_wp2
    go_ret2
    exact ⟨_, rfl, ownsRow_nil _ _, HB0.out⟩
  · have hN := Q.okN_iff.1 (Q.good_okN hg)
    cases ho : Q.order n to
    · rw [show Q.renQ n zs to = ([], false) from if_neg (by simp [Q.renOk, hg, ho])]
      have HQ2 := Lib.hid (l3Order_any n B d to (w.alloc (.cells #[] 3)) hN.1 hN.2 hl' (hs.stays b0))
      rw [hg] at HQ
      rw [ho] at HQ2
      have HB0 := Lib.hid b0
      have H0 := Lib.hid (ownsRow_nil w 3)
      clear hr hs hg ho hN b0
      go_enter Try.func15, Try.ntmps15
      go_wp2_with fail
      go_at_call 51
      refine (HQ.out).mono ?_
      rintro e w' ⟨rfl, hw'⟩
      obtain rfl := hw'.symm
      clear hw'
      go_wp2_with fail
      go_at_call 52
      refine HQ2.out.mono ?_
      rintro e w0 ⟨rfl, hb0⟩
      have HB1 : Hid (Below w.heap.size w w0) := Law.then_ HB0.out hb0
      have H1 := Lib.hid (own_past H0.out hb0)
      clear hb0
      go_wp2
      go_ret2
      exact ⟨_, rfl, H1.out, HB1.out⟩
    · rw [show Q.renQ n zs to = (Q.renL to zs, true) from if_pos (by simp [Q.renOk, hg, ho])]
      obtain ⟨N, rfl, _⟩ := Q.good_nat hg
      exact specRen_good N A B c d zs to w hg ho hr hs
end Go.Proofs.Ytndjpkeenbbgiaa
