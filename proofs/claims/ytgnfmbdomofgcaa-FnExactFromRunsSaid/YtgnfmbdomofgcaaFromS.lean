/-
  The model's FromRuns, and the code's for whatever it is given.
-/
import Derived.Test.YtgnfmbdomofgcaaFromI
namespace Go.Proofs.Ytgnfmbdomofgcaa
open Go.RowKit
set_option linter.unusedVariables false
theorem Q.fromX_many {n : Int} {rs : List (Int × Int)} (h : 60 < rs.length) : Q.fromX n rs = ([], false) := by
  unfold Q.fromX
  cases e : Q.fromK n rs []
  · rfl
  · have h1 := Q.fromK_many e
    have h2 := Q.fromK_len (by simp) e
    simp at h1
    omega
set_option maxHeartbeats 1600000 in
theorem specFrom_good (n : Int) (A : Option Addr) (c : Nat) (rs : List (Int × Int)) (w : World) (hn : Q.okN n = true) (hwf : ∀ z ∈ rs, (Lit.int .i64 z.1).wf = true ∧ (Lit.int .i64 z.2).wf = true) (hl : rs.length ≤ 60) (hr : Law.Row2 w A rs) :
    Calls Try.prog 20 #[.int .i64 n, .slice A rs.length c] w (rowSays (Q.fromX n rs) w) := by
  obtain ⟨i0, hi, hz0, hz1, hz2⟩ := info_parts infoInts
  have HQ := Lib.hid (l3Items_any n (w.alloc (.cells #[] 3)))
  rw [hn] at HQ
  obtain ⟨hn1, hn8⟩ := Q.okN_iff.1 hn
  have hwn : IntKind.i64.wrap (n - 1) = n - 1 := IntWalk.i64_in _ (by omega)
  have HI := Lib.hid fun x a b W => l1In_any x a b W
  have HR := Lib.hid hr
  clear hr hn hwf
  have hlI : ¬ (60 : Int) < (rs.length : Int) := by omega
  go_enter Try.func20, Try.ntmps20
  go_wp2_with fail
  go_at_call 73
  refine (HQ.out).mono ?_
  rintro e w' ⟨rfl, hw'⟩
  obtain rfl := hw'.symm
  clear hw'
  go_wp2_with fail
  go_loopw [6, 7] (fun v i wr => ∃ (k : Nat) (acc : List Int), k ≤ rs.length ∧ i = .int .i64 k ∧ acc.length ≤ 60 ∧ Hid (wr.ownsRow w.heap.size 3 1 v acc.length (ivs acc)) ∧ Hid (Q.fromK n rs [] = Q.fromK n (rs.drop k) acc) ∧ Hid (Below w.heap.size w wr)) (fun _ i _ => rs.length - (intOf i).toNat)
  case atStart => exact ⟨0, [], Nat.zero_le _, rfl, Nat.zero_le _, ownsRow_nil _ _, rfl, (Below.refl _ _).alloc (Nat.le_refl _) _⟩
  case round =>
    obtain ⟨k, acc, hk, rfl, ha, ho, hf, hb⟩ := hrel
    by_cases hlt : k < rs.length
    · obtain ⟨A6, c6, hv6, hc6, hcm6, _⟩ := Law.own_len ho.out
      subst hv6
      obtain ⟨z, hz⟩ : ∃ z, rs[k]? = some z := ⟨_, List.getElem?_eq_getElem hlt⟩
      obtain ⟨b, off, rfl, hbl, hc0, hc1⟩ := (HR.out.stays hb.out).at_ hz
      have hltI : (k : Int) < (rs.length : Int) := by omega
      have hd : rs.drop k = z :: rs.drop (k + 1) := by rw [List.drop_eq_getElem_cons hlt]; congr 1; exact Option.some.inj ((List.getElem?_eq_getElem hlt).symm.trans hz)
      have hf1 : Q.fromK n rs [] = Q.fromK n (z :: rs.drop (k + 1)) acc := by rw [← hd]; exact hf.out
      obtain ⟨x, y⟩ := z
      simp only [] at hc0 hc1
      have HZ := Lib.hid hz
      have hw60 : IntKind.i64.wrap (60 - (acc.length : Int)) = 60 - (acc.length : Int) := IntWalk.i64_in _ (by omega)
      clear hz hd hf
      by_cases h1 : 0 ≤ x ∧ x ≤ n - 1
      · have HI1 := Lib.hid fun W => HI.out x 0 (n - 1) W
        rw [show (decide (0 ≤ x) && decide (x ≤ n - 1)) = true by simp [h1]] at HI1
        have HI2 := Lib.hid fun W => HI.out y 1 (60 - (acc.length : Int)) W
        by_cases h2 : 1 ≤ y ∧ y ≤ 60 - (acc.length : Int)
        · rw [show (decide (1 ≤ y) && decide (y ≤ 60 - (acc.length : Int))) = true by simp [h2]] at HI2
          rw [Q.fromK_step ⟨h1, h2⟩] at hf1
          have HF0 := Lib.hid hf1
          clear hf1
          go_wp2_with ((first | (go_at_call_of 74 x; refine (HI1.out _).mono ?_) | (go_at_call_of 74 y; refine (HI2.out _).mono ?_)); rintro e w' ⟨rfl, hw'⟩; obtain rfl := hw'.symm; clear hw')
          obtain ⟨m, rfl⟩ := Int.eq_ofNat_of_zero_le (show 0 ≤ y by omega)
          have HF : Hid (Q.fromK n rs [] = Q.fromK n (rs.drop (k + 1)) (acc ++ List.replicate m x)) := HF0.out
          clear HF0
          obtain ⟨wo, hwo⟩ : ∃ wo, wo = wr := ⟨_, rfl⟩
          rw [← hwo] at ho hb
          rw [← hwo]
          clear hwo
          go_loopw [6, 8] (fun v i wi => ∃ j : Nat, j ≤ m ∧ i = .int .i64 j ∧ Hid (wi.ownsRow w.heap.size 3 1 v (acc.length + j) (ivs (acc ++ List.replicate j x))) ∧ Hid (Below w.heap.size w wi)) (fun _ i _ => m - (intOf i).toNat)
          case atStart => exact ⟨0, Nat.zero_le _, rfl, (by show World.ownsRow _ _ _ _ _ _ _; rw [List.replicate_zero, List.append_nil]; exact ho.out), hb.out⟩
          case round =>
            obtain ⟨j, hj, rfl, ho, hb⟩ := hrel
            obtain ⟨b', off', hbb, hbl', hd0, hd1⟩ := (HR.out.stays hb.out).at_ HZ.out
            injection hbb with hbb
            injection hbb with hb1 hb2 _
            subst hb1 hb2
            simp only [] at hd0 hd1
            by_cases hjm : j < m
            · have hjI : (j : Int) < (m : Int) := by omega
              obtain ⟨ws, hws⟩ : ∃ ws, ws = acc ++ List.replicate j x := ⟨_, rfl⟩
              rw [← hws] at ho
              have HWS := Lib.hid (congrArg (· ++ [x]) hws)
              clear hws
              have hsz9 := (hb.out).size
              go_wp2_with (at_builtin; refine wpList_append_own _ rfl _ _ 24 rfl w.heap.size 3 i0 (.int .i64 0) 1 8 Try.underlying24 hi hz0 hz1 hz2 rfl (by decide) _ _ _ rfl ((ho.out).alloc _) ⟨(wr).heap.size, 0, none⟩ 1 1 [.int .i64 (x)] rfl rfl ?ca9a ?ca9b ?ca9c ?ca9d ?ca9e ?_)
              try (case ca9a => (intro j' u hj'; match j', hj' with | 0, hj' => (simp at hj'; subst hj'; simp [Addr.add])))
              case ca9b => first | (intro u hu; simp at hu; subst hu; rfl) | rfl
              case ca9c => unfold maxLen; omega
              case ca9d => omega
              case ca9e => first | omega | (simp; omega)
              intro v9 w9 hm9 hg9 _
              have HB9 := Lib.hid (((hb.out).alloc hsz9 (.cells #[.int .i64 (x)] 3)).grown hg9 (by simp; omega) (fun j e => ((ho.out).lt j e).1))
              clear hg9
              rw [← ivs_snoc, show ws ++ [x] = acc ++ List.replicate (j + 1) x from HWS.out.trans (rep_snoc acc j x).symm] at hm9
              have HO9 := Lib.hid hm9
              clear hm9 ho hb
              go_wp2
              go_roundw
              case rel => exact ⟨j + 1, by omega, by go_num, HO9.out, HB9.out⟩
              case measure => simp [intOf]; omega
            · have hje : j = m := by omega
              have hjI : ¬ (j : Int) < (m : Int) := by omega
              subst hje
              go_wp2
              go_roundw
              case rel => exact ⟨k + 1, acc ++ List.replicate j x, by omega, by go_num, by rw [len_rep]; omega, (by show World.ownsRow _ _ _ _ _ _ _; rw [len_rep]; exact ho.out), HF.out, hb.out⟩
              case measure => simp [intOf]; omega
        · rw [show (decide (1 ≤ y) && decide (y ≤ 60 - (acc.length : Int))) = false by simpa using h2] at HI2
          have HF : Hid (Q.fromX n rs = ([], false)) := by show _ = _; unfold Q.fromX; rw [hf1, Q.fromK_stop (by simp only []; omega)]
          clear hf1
          go_wp2_with ((first | (go_at_call_of 74 x; refine (HI1.out _).mono ?_) | (go_at_call_of 74 y; refine (HI2.out _).mono ?_)); rintro e w' ⟨rfl, hw'⟩; obtain rfl := hw'.symm; clear hw')
          go_ret2
          rw [HF.out]
          exact ⟨_, rfl, own_down (ownsRow_nil _ _) hb.out.size, hb.out.alloc hb.out.size _⟩
      · have HI1 := Lib.hid fun W => HI.out x 0 (n - 1) W
        rw [show (decide (0 ≤ x) && decide (x ≤ n - 1)) = false by simpa using h1] at HI1
        have HF : Hid (Q.fromX n rs = ([], false)) := by show _ = _; unfold Q.fromX; rw [hf1, Q.fromK_stop (by simp only []; omega)]
        clear hf1
        go_wp2_with (go_at_call 74; refine (HI1.out _).mono ?_; rintro e w' ⟨rfl, hw'⟩; obtain rfl := hw'.symm; clear hw')
        go_ret2
        rw [HF.out]
        exact ⟨_, rfl, own_down (ownsRow_nil _ _) hb.out.size, hb.out.alloc hb.out.size _⟩
    · have hke : k = rs.length := by omega
      have hltI : ¬ (k : Int) < (rs.length : Int) := by omega
      have HF : Hid (Q.fromX n rs = (acc, true)) := by show _ = _; unfold Q.fromX; rw [hf.out, hke, List.drop_length]; rfl
      clear hke
      go_wp2
      go_ret2
      rw [HF.out]
      exact ⟨_, rfl, ho.out, hb.out⟩
def Q.fromQ (n : Int) (rs : List (Int × Int)) : List Int × Bool := if Q.okN n then Q.fromX n rs else ([], false)
theorem impFrom_any (n : Int) (rs : List (Int × Int)) (A : Option Addr) (c : Nat) (hl : rs.length ≤ 1048576) (hwf : ∀ z ∈ rs, (Lit.int .i64 z.1).wf = true ∧ (Lit.int .i64 z.2).wf = true) (w : World) (hr : Law.Row2 w A rs) :
    Calls Try.prog 19 #[.int .i64 n, .slice A rs.length c] w (rowSays (Q.fromQ n rs) w) := by
  cases hn : Q.okN n
  · rw [show Q.fromQ n rs = ([], false) by simp [Q.fromQ, hn]]
    have HQ := Lib.hid (isItemCount_any n w)
    rw [hn] at HQ
    clear hr hn
    go_enter Try.func19, Try.ntmps19
    go_wp2_with fail
    go_at_call 71
    refine (HQ.out).mono ?_
    rintro e w' ⟨rfl, hw'⟩
    obtain rfl := hw'.symm
    clear hw'
    go_wp2
    go_ret2
    exact ⟨_, rfl, ownsRow_nil _ _, (Below.refl _ _).alloc (Nat.le_refl _) _⟩
  · rw [show Q.fromQ n rs = Q.fromX n rs by simp [Q.fromQ, hn]]
    exact impFrom_good n A c rs w hn hwf hl hr
theorem specFrom_any (n : Int) (rs : List (Int × Int)) (A : Option Addr) (c : Nat) (hl : rs.length ≤ 1048576) (hwf : ∀ z ∈ rs, (Lit.int .i64 z.1).wf = true ∧ (Lit.int .i64 z.2).wf = true) (w : World) (hr : Law.Row2 w A rs) :
    Calls Try.prog 20 #[.int .i64 n, .slice A rs.length c] w (rowSays (Q.fromQ n rs) w) := by
  have HQ := Lib.hid (l3Items_any n (w.alloc (.cells #[] 3)))
  by_cases hm : 60 < rs.length
  · rw [show Q.fromQ n rs = ([], false) by unfold Q.fromQ; split <;> simp [Q.fromX_many hm]]
    have hmI : (60 : Int) < (rs.length : Int) := by omega
    cases hn : Q.okN n <;> rw [hn] at HQ
    all_goals
      clear hr hn
      go_enter Try.func20, Try.ntmps20
      go_wp2_with (go_at_call 73; refine HQ.out.mono ?_; rintro e w' ⟨rfl, hw'⟩; obtain rfl := hw'.symm; clear hw')
      go_ret2
      exact ⟨_, rfl, ownsRow_nil _ _, (Below.refl _ _).alloc (Nat.le_refl _) _⟩
  · cases hn : Q.okN n
    · rw [show Q.fromQ n rs = ([], false) by simp [Q.fromQ, hn]]
      rw [hn] at HQ
      clear hr hn
      go_enter Try.func20, Try.ntmps20
      go_wp2_with (go_at_call 73; refine HQ.out.mono ?_; rintro e w' ⟨rfl, hw'⟩; obtain rfl := hw'.symm; clear hw')
      go_ret2
      exact ⟨_, rfl, ownsRow_nil _ _, (Below.refl _ _).alloc (Nat.le_refl _) _⟩
    · rw [show Q.fromQ n rs = Q.fromX n rs by simp [Q.fromQ, hn]]
      exact specFrom_good n A c rs w hn hwf (by omega) hr
end Go.Proofs.Ytgnfmbdomofgcaa
