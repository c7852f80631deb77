/-
  FaultsBySize: the model's and the code's.
-/
import Derived.Test.YtdjafooabpcbmaaFplS
import Derived.Test.YtdjafooabpcbmaaFplI
import Derived.Test.YtdjafooabpcbmaaPart
namespace Go.Proofs.Ytdjafooabpcbmaa
open Go.RowKit
set_option linter.unusedVariables false
namespace Q
/-- How many faults a size has, counted from size 1 on. -/
def byF (p : Int) (zs : List Int) (k : Nat) : Int := ((flt (newC p ((k : Int) + 1)) zs).length : Nat)
def byL (p : Int) (zs : List Int) (k : Nat) : List Int := (List.range k).map (byF p zs)
def byQ (n p : Int) (zs : List Int) : List Int × Bool := if (good n zs && okP p) then (byL p zs 6, true) else ([], false)
theorem byL_snoc (p : Int) (zs : List Int) (k : Nat) : byL p zs (k + 1) = byL p zs k ++ [byF p zs k] := map_succ _ _
theorem byL_len (p : Int) (zs : List Int) (k : Nat) : (byL p zs k).length = k := by simp [byL]
theorem byQ_len (n p : Int) (zs : List Int) : (byQ n p zs).1.length ≤ 1048576 := by
  unfold byQ
  split
  · rw [byL_len]; omega
  · exact Nat.zero_le _
theorem by_ask {n p : Int} {zs : List Int} : ((okP p && okS 1) && good n zs) = (good n zs && okP p) := by
  rw [show okS 1 = true from rfl, Bool.and_true, Bool.and_comm]
theorem by_size {p : Int} (hp : okP p = true) {k : Nat} (hk : k < 6) : sizes p ((k : Int) + 1) = true := by
  have := okP_iff.1 hp
  simp [sizes, this]; omega
end Q
section
variable {n p : Int} {zs : List Int} {R : Option Addr} {q : Nat} {w : World}
theorem l4Faults_any (hg : Q.good n zs = true) {s : Int} (hs : Q.sizes p s = true) (hr : Law.Row w R (ivs zs)) :
    Calls Try.prog 82 #[.int .i64 p, .int .i64 s, .slice R zs.length q] w fun e w' => e = .returned (.int .i64 ((Q.flt (Q.newC p s) zs).length : Nat)) ∧ Below w.heap.size w w' := by
  have hgi := Q.good_iff.1 hg
  have hsi : (1 ≤ p ∧ p ≤ 7) ∧ 1 ≤ s ∧ s ≤ 6 := by simpa [Q.sizes] using hs
  have HN := Lib.hid (l4New_any p s w)
  have HPl := Lib.hid fun X A d B e (hX : CaIn X A d B e (Q.newC p s)) (hb : Below w.heap.size w X) => l4Places_any (q := q) hX (Q.new_ok hgi.1 hsi.1 hsi.2) zs hgi.2.2 hgi.2.1 (hr.stays hb)
  generalize Q.flt (Q.newC p s) zs = X at HPl ⊢
  clear hr hg hgi hsi hs
  go_enter Try.func82, Try.ntmps82
  go_wp2_with fail
  go_at_call 74
  refine HN.out.mono ?_
  rintro e w1 ⟨A, d, B, e', rfl, hI, hb⟩
  have HB := Lib.hid hb
  have HP1 := Lib.hid (HPl.out w1 A d B e' hI hb)
  clear hI hb
  unfold caV at HP1 ⊢
  go_wp2_with fail
  go_at_call 65
  refine HP1.out.mono ?_
  rintro e w2 ⟨v, rfl, ho, hb2⟩
  obtain ⟨A2, n2, rfl, _, _, _⟩ := Law.own_len ho
  have HB2 := Lib.hid (Law.then_ HB.out hb2)
  clear ho hb2
  go_wp2
  go_ret
  exact ⟨rfl, HB2.out⟩
set_option maxHeartbeats 1600000 in
theorem l4BySize_any (hg : Q.good n zs = true) (hp : Q.okP p = true) (hr : Law.Row w R (ivs zs)) :
    Calls Try.prog 79 #[.int .i64 p, .slice R zs.length q] w (rowSays1 (Q.byL p zs 6) w) := by
  obtain ⟨i0, hi, hz0, hz1, hz2⟩ := info_parts infoInts
  have HF := Lib.hid fun X (k : Nat) (hk : k < 6) (hb : Below w.heap.size w X) => l4Faults_any (q := q) hg (Q.by_size hp hk) (hr.stays hb)
  clear hg hp hr
  go_enter Try.func79, Try.ntmps79
  go_wp2_with fail
  go_loopw [5, 6] (fun v i wr => ∃ k : Nat, k ≤ 6 ∧ i = .int .i64 ((k : Int) + 1) ∧ Hid (wr.ownsRow w.heap.size 3 1 v k (ivs (Q.byL p zs k))) ∧ Hid (Below w.heap.size w wr)) (fun _ i _ => 7 - (intOf i).toNat)
  case atStart => exact ⟨0, Nat.zero_le _, rfl, ownsRow_nil _ _, (Below.refl _ _).alloc (Nat.le_refl _) _⟩
  case round =>
    obtain ⟨k, hk, rfl, ho, hb⟩ := hrel
    by_cases hk6 : k < 6
    · have hkI : (k : Int) + 1 ≤ 6 := by omega
      have hf := HF.out wr k hk6 hb.out
      have HFk : Hid (Calls Try.prog 82 #[.int .i64 p, .int .i64 ((k : Int) + 1), .slice R zs.length q] wr fun e w' => e = .returned (.int .i64 (Q.byF p zs k)) ∧ Below wr.heap.size wr w') := Lib.hid hf
      have HT := Lib.hid (Q.byL_snoc p zs k)
      clear hf
      generalize Q.byF p zs k = y at HFk HT
      go_wp2_with fail
      go_at_call 82
      refine HFk.out.mono ?_
      rintro e w2 ⟨rfl, hb2⟩
      have HO := Lib.hid (own_past ho.out hb2)
      have HB := Lib.hid (Law.then_ hb.out hb2)
      clear ho hb hb2
      have hsz9 := (HB.out).size
      go_wp2_with (at_builtin; refine list_app1 rfl _ _ 22 rfl Try.underlying22 hi hz0 hz1 hz2 rfl ((HO.out).alloc _) rfl (new_cell (w2) (.int .i64 (y)) 3) ?ca9a ?ca9b ?_)
      case ca9a => omega
      case ca9b => (show w.heap.size ≤ _; first | omega | (simp; omega))
      intro v9 w9 hm9 hg9 ha9
      have HB9 := Lib.hid (((HB.out).alloc hsz9 (.cells #[.int .i64 (y)] 3)).grown hg9 (by simp; omega) (fun j e => Nat.le_trans (by omega) ((HO.out).lt j e).1))
      rw [← ivs_snoc] at hm9
      have HO9 : Hid (w9.ownsRow w.heap.size 3 1 v9 (k + 1) (ivs (Q.byL p zs (k + 1)))) := by rw [HT.out]; exact Lib.hid hm9
      clear hm9 hg9 ha9 HO HB
      go_wp2
      go_roundw
      case rel => exact ⟨k + 1, by omega, by go_num, HO9, HB9⟩
      case measure => simp [intOf]; omega
    · have hke : k = 6 := by omega
      subst hke
      go_wp2
      go_ret
      exact ⟨_, rfl, by rw [Q.byL_len]; exact ho.out, hb.out⟩
theorem specBy_any (n p : Int) (zs : List Int) (R : Option Addr) (q : Nat) (hl : zs.length ≤ 1048576) (w : World) (hr : Law.Row w R (ivs zs)) :
    Calls Try.prog 37 #[.int .i64 n, .int .i64 p, .slice R zs.length q] w (rowSays (Q.byQ n p zs) w) := by
  have HQ := Lib.hid (l4Asked_any n p 1 R q zs w hl hr)
  rw [Q.by_ask] at HQ
  cases hg : (Q.good n zs && Q.okP p)
  · rw [show Q.byQ n p zs = ([], false) from if_neg (by simp [hg])]
    rw [hg] at HQ
    clear hr hg
    go_enter Try.func37, Try.ntmps37
    go_wp2_with fail
    go_at_call 73
    refine (HQ.out).mono ?_
    rintro e w' ⟨rfl, hw'⟩
    obtain rfl := hw'.symm
    clear hw'
    go_wp2
    go_ret2
    exact ⟨_, rfl, ownsRow_nil _ _, (Below.refl _ _).alloc (Nat.le_refl _) _⟩
  · rw [show Q.byQ n p zs = (Q.byL p zs 6, true) from if_pos hg]
    rw [hg] at HQ
    have hg2 := (Bool.and_eq_true _ _).mp hg
    have HP := Lib.hid (l4BySize_any (q := q) hg2.1 hg2.2 hr)
    generalize Q.byL p zs 6 = X at HP ⊢
    clear hr hg hg2
    go_enter Try.func37, Try.ntmps37
    go_wp2_with fail
    go_at_call 73
    refine (HQ.out).mono ?_
    rintro e w' ⟨rfl, hw'⟩
    obtain rfl := hw'.symm
    clear hw'
    go_wp2_with fail
    go_at_call 79
    refine HP.out.mono ?_
    rintro e w2 ⟨v, rfl, ho, hb2⟩
    have HO := Lib.hid ho
    have HB2 := Lib.hid hb2
    clear ho hb2
    go_wp2
    go_ret2
    exact ⟨_, rfl, HO.out, HB2.out⟩
end
set_option maxHeartbeats 1600000 in
theorem impBy_any (n p : Int) (zs : List Int) (R : Option Addr) (q : Nat) (hl : zs.length ≤ 1048576) (w : World) (hr : Law.Row w R (ivs zs)) :
    Calls Try.prog 38 #[.int .i64 n, .int .i64 p, .slice R zs.length q] w (rowSays (Q.byQ n p zs) w) := by
  obtain ⟨i0, hi, hz0, hz1, hz2⟩ := info_parts infoInts
  have HQ := Lib.hid (impIsReq_any n R q zs w hl hr)
  have HP := Lib.hid (isPolicy_any p w)
  cases hg : Q.good n zs
  · rw [show Q.byQ n p zs = ([], false) from if_neg (by simp [hg])]
    rw [hg] at HQ
    clear hr hg
    go_enter Try.func38, Try.ntmps38
    go_wp2_with fail
    go_at_call 67
    refine (HQ.out).mono ?_
    rintro e w' ⟨rfl, hw'⟩
    obtain rfl := hw'.symm
    clear hw'
    go_wp2
    go_ret2
    exact ⟨_, rfl, ownsRow_nil _ _, (Below.refl _ _).alloc (Nat.le_refl _) _⟩
  · rw [hg] at HQ
    cases hp : Q.okP p
    · rw [show Q.byQ n p zs = ([], false) from if_neg (by simp [hp])]
      rw [hp] at HP
      clear hr hg hp
      go_enter Try.func38, Try.ntmps38
      go_wp2_with fail
      go_at_call 67
      refine (HQ.out).mono ?_
      rintro e w' ⟨rfl, hw'⟩
      obtain rfl := hw'.symm
      clear hw'
      go_wp2_with fail
      go_at_call 80
      refine (HP.out).mono ?_
      rintro e w' ⟨rfl, hw'⟩
      obtain rfl := hw'.symm
      clear hw'
      go_wp2
      go_ret2
      exact ⟨_, rfl, ownsRow_nil _ _, (Below.refl _ _).alloc (Nat.le_refl _) _⟩
    · rw [show Q.byQ n p zs = (Q.byL p zs 6, true) from if_pos (by simp [hg, hp])]
      rw [hp] at HP
      have HF := Lib.hid fun X (k : Nat) (hk : k < 6) (hb : Below w.heap.size w X) => (show Calls Try.prog 31 #[.int .i64 n, .int .i64 p, .int .i64 ((k : Int) + 1), .slice R zs.length q] X (rowSays (Q.flt (Q.newC p ((k : Int) + 1)) zs, true) X) from by
        have h := impFpl_any n p ((k : Int) + 1) zs R q hl X (hr.stays hb)
        rw [Q.fpl_yes hg (Q.by_size hp hk)] at h
        exact h)
      have HA : Hid (Q.part (Q.byF p zs) 6 6 = Q.byL p zs 6) := Lib.hid (Q.part_all _ _)
      clear hr hg hp
      go_enter Try.func38, Try.ntmps38
      go_wp2_with fail
      go_at_call 67
      refine (HQ.out).mono ?_
      rintro e w' ⟨rfl, hw'⟩
      obtain rfl := hw'.symm
      clear hw'
      go_wp2_with fail
      go_at_call 80
      refine (HP.out).mono ?_
      rintro e w' ⟨rfl, hw'⟩
      obtain rfl := hw'.symm
      clear hw'
      go_wp2_with (at_make; refine wpList_make_full _ rfl _ _ 22 rfl w.heap.size 3 i0 (.int .i64 0) 1 Try.underlying22 hi hz0 hz1 .i64 .i64 _ _ 6 rfl rfl rfl rfl ?cm3a ?cm3b ?cm3c ?_)
      case cm3a => rw [hz2]; omega
      case cm3b => unfold maxLen; omega
      case cm3c => first | exact Nat.le_refl _ | omega | (simp; omega)
      intro w3 hm3 hg3
      replace hm3 := made_own (w := w3) hm3
      have HB3 : Hid (Below w.heap.size w w3) := Lib.hid ((Below.refl _ _).grown hg3 (Nat.le_refl _) (fun k e => by cases e))
      rw [← Q.part_zero (Q.byF p zs)] at hm3
      have HO3 := Lib.hid hm3
      clear hm3 hg3
      go_wp2_with fail
      go_loopw [25] (fun i wr => ∃ k : Nat, k ≤ 6 ∧ i = .int .i64 k ∧ Hid (wr.ownsRow w.heap.size 3 1 (.slice (some ⟨w.heap.size, 0, none⟩) 6 6) 6 (ivs (Q.part (Q.byF p zs) 6 k))) ∧ Hid (Below w.heap.size w wr)) (fun i _ => 6 - (intOf i).toNat)
      case atStart => exact ⟨0, Nat.zero_le _, rfl, HO3.out, HB3.out⟩
      case round =>
        obtain ⟨k, hk, rfl, ho, hb⟩ := hrel
        by_cases hk6 : k < 6
        · have hkI : (k : Int) < 6 := by omega
          have HFk := Lib.hid (HF.out wr k hk6 hb.out)
          have HT := Lib.hid (Q.part_set (Q.byF p zs) hk6)
          have HY : Hid (Q.byF p zs k = ((Q.flt (Q.newC p ((k : Int) + 1)) zs).length : Nat)) := Lib.hid rfl
          have hat := Q.part_at (Q.byF p zs) hk6
          have HAt := Lib.hid hat
          clear hat
          generalize Q.flt (Q.newC p ((k : Int) + 1)) zs = fl at HFk HY
          go_wp2_with fail
          go_at_call 31
          refine HFk.out.mono ?_
          rintro e w2 ⟨v2, rfl, ho2, hb2⟩
          simp only [] at ho2
          obtain ⟨A2, n2, rfl, _, _, _⟩ := Law.own_len ho2
          have HO := Lib.hid (own_past ho.out hb2)
          have HB := Lib.hid (Law.then_ hb.out hb2)
          have hc := own_cell HO.out HAt.out
          have hf := HO.out.frozenAt k
          have HS := Lib.hid (own_put HO.out k ((fl.length : Nat) : Int))
          have HB' := Lib.hid (HB.out.setCell (p := ⟨w.heap.size, k, none⟩) (Nat.le_refl _) (.int .i64 ((fl.length : Nat) : Int)))
          clear ho hb ho2 hb2
          go_wp2
          go_roundw
          case rel => exact ⟨k + 1, by omega, by go_num, (by show World.ownsRow _ _ _ _ _ _ _; rw [← HT.out, HY.out]; exact HS.out), HB'.out⟩
          case measure => simp [intOf]; omega
        · have hke : k = 6 := by omega
          subst hke
          have h := ho.out
          rw [HA.out] at h
          have HH := Lib.hid h
          clear h ho
          go_wp2
          go_ret2
          exact ⟨_, rfl, by simp only [Q.byL_len]; exact HH.out, hb.out⟩
end Go.Proofs.Ytdjafooabpcbmaa
