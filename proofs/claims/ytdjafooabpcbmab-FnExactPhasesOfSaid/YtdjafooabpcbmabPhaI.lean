/-
  PhasesOf: the code's.
-/
import Derived.Test.YtdjafooabpcbmabDisM
import Derived.Test.YtdjafooabpcbmabDifI
import Derived.Test.YtdjafooabpcbmabWinR
import Derived.Test.YtdjafooabpcbmabAppB
import Derived.Test.YtdjafooabpcbmabAsk
namespace Go.Proofs.Ytdjafooabpcbmab
open Go.RowKit
set_option linter.unusedVariables false
namespace Q
def phaQ (n s : Int) (zs : List Int) : List Int × Bool := if (good n zs && okS s) then ((phase s zs zs.length).2, true) else ([], false)
end Q
set_option maxRecDepth 100000 in
set_option maxHeartbeats 3200000 in
theorem impPha_good (N : Nat) (m : Int) (A : Option Addr) (c : Nat) (zs : List Int) (w : World) (hg : Q.good N zs = true) (hm : Q.okS m = true) (h1 : 1 ≤ N) (h2 : N ≤ 8) (h3 : zs.length ≤ 60) (hcap : zs.length ≤ c) (hx : ∀ k, k < zs.length → ∃ x : Nat, zs[k]? = some (x : Int) ∧ x < N) (hr : Law.Row w A (ivs zs)) :
    Calls Try.prog 37 #[.int .i64 N, .int .i64 m, .slice A zs.length c] w (rowSays ((Q.phase m zs zs.length).2, true) w) := by
  obtain ⟨i0, hi, hz0, hz1, hz2⟩ := info_parts infoInts
  have HQ := Lib.hid (impIsReq_any N A c zs w (by omega) hr)
  have HS := Lib.hid (isSize_any m w)
  rw [hg] at HQ
  rw [hm] at HS
  have HR := Lib.hid hr
  have HX := Lib.hid hx
  have HC := Lib.hid hcap
  clear hr hg hx hcap hm
  go_enter Try.func37, Try.ntmps37
  go_wp2_with fail
  go_at_call 73
  refine (HQ.out).mono ?_
  rintro e w' ⟨rfl, hw'⟩
  obtain rfl := hw'.symm
  clear hw'
  go_wp2_with fail
  go_at_call 72
  refine (HS.out).mono ?_
  rintro e w' ⟨rfl, hw'⟩
  obtain rfl := hw'.symm
  clear hw'
  go_wp2_with fail
  go_loopw [8, 9, 24] (fun v st i wr => ∃ k : Nat, k ≤ zs.length ∧ i = .int .i64 k ∧ st = .int .i64 ((Q.phase m zs k).1 : Nat) ∧ Hid (wr.ownsRow w.heap.size 3 1 v (Q.phase m zs k).2.length (ivs (Q.phase m zs k).2)) ∧ Hid (Below w.heap.size w wr)) (fun _ _ i _ => zs.length - (intOf i).toNat)
  case atStart => exact ⟨0, Nat.zero_le _, rfl, rfl, ownsRow_nil _ _, (Below.refl _ _).alloc (Nat.le_refl _) _⟩
  case round =>
    obtain ⟨k, hk, rfl, rfl, ho, hb⟩ := hrel
    by_cases hlt : k < zs.length
    · obtain ⟨x, hx, hxN⟩ := HX.out k hlt
      obtain ⟨b, off, rfl, hbl, hc⟩ := (HR.out.stays hb.out).at_ (ivs_some hx)
      have hltI : (k : Int) < (zs.length : Int) := by omega
      obtain ⟨hp1, hp2⟩ := Q.phase_le m zs k
      by_cases hk0 : k = 0
      · subst hk0
        have HT : Hid (Q.phase m zs 1 = (0, [0])) := Q.phase_new (k := 0) (.inl rfl)
        have HO : Hid (wr.ownsRow w.heap.size 3 1 _ 0 (ivs [])) := ho
        clear ho hc hx hp1 hp2
        have hsz9 := (hb.out).size
        go_wp2_with (at_builtin; refine list_app1 rfl _ _ 22 rfl Try.underlying22 hi hz0 hz1 hz2 rfl ((HO.out).alloc _) rfl (new_cell (wr) (.int .i64 (((0 : Nat) : Int))) 3) ?ca9a ?ca9b ?_)
        case ca9a => omega
        case ca9b => (show w.heap.size ≤ _; first | omega | (simp; omega))
        intro v9 w9 hm9 hg9 ha9
        have HB9 := Lib.hid (((hb.out).alloc hsz9 (.cells #[.int .i64 (((0 : Nat) : Int))] 3)).grown hg9 (by simp; omega) (fun j e => Nat.le_trans (by omega) ((HO.out).lt j e).1))
        have HO9 : Hid (w9.ownsRow w.heap.size 3 1 v9 1 (ivs [0])) := Lib.hid hm9
        clear hm9 hg9 ha9 hb HO
        go_wp2
        go_roundw
        case rel => exact ⟨1, by omega, rfl, by rw [HT.out]; rfl, (by show World.ownsRow _ _ _ _ _ _ _; rw [HT.out]; exact HO9.out), HB9.out⟩
        case measure => simp [intOf]; omega
      · have hkI0 : ((k : Int) == 0) = false := by simp; omega
        have hin := Q.phase_in m zs k (by omega)
        have HN := fun h => Q.phase_new (m := m) (zs := zs) (k := k) (.inr h)
        have HO' := fun h => Q.phase_old (m := m) (zs := zs) (k := k) h
        generalize hP : Q.phase m zs k = P at *
        obtain ⟨P1, P2⟩ := P
        simp only [] at *
        have hcI : (zs.length : Int) ≤ (c : Int) := by have := HC.out; omega
        have hkcI : (k : Int) + 1 ≤ (c : Int) := by omega
        have hpkI : (P1 : Int) ≤ (k : Int) + 1 := by omega
        have hnp : ¬ c = P1 := by omega
        have HW := Lib.hid (row_win (HR.out.stays hb.out) P1 (k + 1) (by omega) (by omega))
        have HD1 := Lib.hid (difItems_any (some ⟨b, off + P1, none⟩) (c - P1) (Q.win zs P1 (k + 1)) wr (by rw [Q.win_len _ _ _ (by omega)]; omega) (fun j hj => by
          rw [Q.win_len _ _ _ (by omega)] at hj
          obtain ⟨y, hy, hyN⟩ := HX.out (P1 + j) (by omega)
          exact ⟨y, by rw [Q.win_at _ _ _ _ hj]; exact hy, by omega⟩) HW.out)
        rw [Q.win_len _ _ _ (by omega)] at HD1
        have hOld : ¬ (m < ((Q.dif (Q.win zs P1 (k + 1)) : Nat) : Int)) → Q.phase m zs (k + 1) = (P1, P2) := fun h => HO' (by rintro (h' | h'); exact hk0 h'; exact h h')
        clear HO' hP
        generalize Q.dif (Q.win zs P1 (k + 1)) = q at *
        clear hc hx
        by_cases hq : m < (q : Int)
        · have HT : Hid (Q.phase m zs (k + 1) = (k, P2 ++ [(k : Int)])) := HN hq
          clear HN hOld HW
          go_wp2_with fail
          go_at_call 74
          refine HD1.out.mono ?_
          rintro e w3 ⟨rfl, hb3⟩
          have HO3 := Lib.hid (own_past ho.out hb3)
          have HB3 : Hid (Below w.heap.size w w3) := Lib.hid (Law.then_ hb.out hb3)
          clear ho hb hb3
          have hsz9 := (HB3.out).size
          go_wp2_with (at_builtin; refine list_app1 rfl _ _ 22 rfl Try.underlying22 hi hz0 hz1 hz2 rfl ((HO3.out).alloc _) rfl (new_cell (w3) (.int .i64 ((k : Int))) 3) ?ca9a ?ca9b ?_)
          case ca9a => omega
          case ca9b => (show w.heap.size ≤ _; first | omega | (simp; omega))
          intro v9 w9 hm9 hg9 ha9
          have HB9 := Lib.hid (((HB3.out).alloc hsz9 (.cells #[.int .i64 ((k : Int))] 3)).grown hg9 (by simp; omega) (fun j e => Nat.le_trans (by omega) ((HO3.out).lt j e).1))
          rw [← ivs_snoc] at hm9
          have HO9 := Lib.hid hm9
          clear hm9 hg9 ha9 HO3 HB3
          go_wp2
          go_roundw
          case rel => exact ⟨k + 1, by omega, by go_num, by rw [HT.out], (by show World.ownsRow _ _ _ _ _ _ _; rw [HT.out]; simp only [List.length_append, List.length_singleton]; exact HO9.out), HB9.out⟩
          case measure => simp [intOf]; omega
        · have HT : Hid (Q.phase m zs (k + 1) = (P1, P2)) := hOld hq
          clear HN hOld HW
          go_wp2_with fail
          go_at_call 74
          refine HD1.out.mono ?_
          rintro e w3 ⟨rfl, hb3⟩
          have HO3 := Lib.hid (own_past ho.out hb3)
          have HB3 : Hid (Below w.heap.size w w3) := Lib.hid (Law.then_ hb.out hb3)
          clear ho hb hb3
          go_wp2
          go_roundw
          case rel => exact ⟨k + 1, by omega, by go_num, by rw [HT.out], (by show World.ownsRow _ _ _ _ _ _ _; rw [HT.out]; exact HO3.out), HB3.out⟩
          case measure => simp [intOf]; omega
    · have hke : k = zs.length := by omega
      have hltI : ¬ (k : Int) < (zs.length : Int) := by omega
      have HK := Lib.hid hke
      clear hke
      go_wp2
      go_ret2
      have h := ho.out
      rw [HK.out] at h
      exact ⟨_, rfl, h, hb.out⟩
theorem impPha_any (n m : Int) (zs : List Int) (A : Option Addr) (c : Nat) (hl : zs.length ≤ 1048576) (w : World) (hcap : zs.length ≤ c) (hr : Law.Row w A (ivs zs)) :
    Calls Try.prog 37 #[.int .i64 n, .int .i64 m, .slice A zs.length c] w (rowSays (Q.phaQ n m zs) w) := by
  have HQ := Lib.hid (impIsReq_any n A c zs w hl hr)
  cases hg : Q.good n zs
  · rw [show Q.phaQ n m zs = ([], false) from if_neg (by simp [hg])]
    rw [hg] at HQ
    clear hr hg
    go_enter Try.func37, Try.ntmps37
    go_wp2_with fail
    go_at_call 73
    refine (HQ.out).mono ?_
    rintro e w' ⟨rfl, hw'⟩
    obtain rfl := hw'.symm
    clear hw'
    go_wp2
    go_ret2
    exact ⟨_, rfl, ownsRow_nil _ _, (Below.refl _ _).alloc (Nat.le_refl _) _⟩
  · have HS := Lib.hid (isSize_any m w)
    cases hm : Q.okS m
    · rw [show Q.phaQ n m zs = ([], false) from if_neg (by simp [hm])]
      rw [hg] at HQ
      rw [hm] at HS
      clear hr hg hm
      go_enter Try.func37, Try.ntmps37
      go_wp2_with fail
      go_at_call 73
      refine (HQ.out).mono ?_
      rintro e w' ⟨rfl, hw'⟩
      obtain rfl := hw'.symm
      clear hw'
      go_wp2_with fail
      go_at_call 72
      refine (HS.out).mono ?_
      rintro e w' ⟨rfl, hw'⟩
      obtain rfl := hw'.symm
      clear hw'
      go_wp2
      go_ret2
      exact ⟨_, rfl, ownsRow_nil _ _, (Below.refl _ _).alloc (Nat.le_refl _) _⟩
    · rw [show Q.phaQ n m zs = ((Q.phase m zs zs.length).2, true) from if_pos (by simp [hg, hm])]
      obtain ⟨N, rfl, h1, h2, h3, hx⟩ := Q.good_nat hg
      exact impPha_good N m A c zs w hg hm h1 h2 h3 hcap hx hr
end Go.Proofs.Ytdjafooabpcbmab
