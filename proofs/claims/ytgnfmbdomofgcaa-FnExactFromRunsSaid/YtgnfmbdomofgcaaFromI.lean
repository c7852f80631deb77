/-
  The code's FromRuns.
-/
import Derived.Test.YtgnfmbdomofgcaaArr2
import Derived.Test.YtgnfmbdomofgcaaGood
import Derived.Test.YtgnfmbdomofgcaaImpQ
namespace Go.Proofs.Ytgnfmbdomofgcaa
open Go.RowKit
set_option linter.unusedVariables false
namespace Q
def fromX (n : Int) (rs : List (Int × Int)) : List Int × Bool := match fromK n rs [] with
  | some out => (out, true)
  | none => ([], false)
def stepOk (n : Int) (z : Int × Int) (m : Nat) : Prop := (0 ≤ z.1 ∧ z.1 ≤ n - 1) ∧ 1 ≤ z.2 ∧ z.2 ≤ 60 - (m : Int)
end Q
theorem new_arr (W : World) (u v : Value) (t : TypeId) : (W.alloc (.cells #[u, v] t)).cell? ⟨W.heap.size, 0, none⟩ = some u ∧ (W.alloc (.cells #[u, v] t)).cell? ⟨W.heap.size, 1, none⟩ = some v := ⟨by simp, by simp⟩
theorem len_rep (acc : List Int) (j : Nat) (x : Int) : (acc ++ List.replicate j x).length = acc.length + j := by simp
theorem rep_snoc (acc : List Int) (j : Nat) (x : Int) : acc ++ List.replicate (j + 1) x = (acc ++ List.replicate j x) ++ [x] := by rw [List.replicate_succ', List.append_assoc]
set_option maxHeartbeats 1600000 in
theorem impFrom_good (n : Int) (A : Option Addr) (c : Nat) (rs : List (Int × Int)) (w : World) (hn : Q.okN n = true) (hwf : ∀ z ∈ rs, (Lit.int .i64 z.1).wf = true ∧ (Lit.int .i64 z.2).wf = true) (hl : rs.length ≤ 1048576) (hr : Law.Row2 w A rs) :
    Calls Try.prog 19 #[.int .i64 n, .slice A rs.length c] w (rowSays (Q.fromX n rs) w) := by
  obtain ⟨i0, hi, hz0, hz1, hz2⟩ := info_parts infoInts
  have HQ := Lib.hid (isItemCount_any n w)
  rw [hn] at HQ
  have HI := Lib.hid fun x W => isItem_any n x W
  have HR := Lib.hid hr
  have HW := Lib.hid hwf
  clear hr hn hwf
  go_enter Try.func19, Try.ntmps19
  go_wp2_with fail
  go_at_call 71
  refine (HQ.out).mono ?_
  rintro e w' ⟨rfl, hw'⟩
  obtain rfl := hw'.symm
  clear hw'
  go_wp2_with fail
  go_loopw [6, 18] (fun v i wr => ∃ (k : Nat) (acc : List Int), k ≤ rs.length ∧ i = .int .i64 k ∧ acc.length ≤ 60 ∧ Hid (wr.ownsRow w.heap.size 3 1 v acc.length (ivs acc)) ∧ Hid (Q.fromK n rs [] = Q.fromK n (rs.drop k) acc) ∧ Hid (Below w.heap.size w wr)) (fun _ i _ => rs.length - (intOf i).toNat)
  case atStart => exact ⟨0, [], Nat.zero_le _, rfl, Nat.zero_le _, ownsRow_nil _ _, rfl, (Below.refl _ _).alloc (Nat.le_refl _) _⟩
  case round =>
    obtain ⟨k, acc, hk, rfl, ha, ho, hf, hb⟩ := hrel
    by_cases hlt : k < rs.length
    · obtain ⟨A6, c6, hv6, hc6, hcm6, _⟩ := Law.own_len ho.out
      subst hv6
      obtain ⟨z, hz⟩ : ∃ z, rs[k]? = some z := ⟨_, List.getElem?_eq_getElem hlt⟩
      obtain ⟨b, off, rfl, hbl, hc0, hc1⟩ := (HR.out.stays hb.out).at_ hz
      have hltI : (k : Int) < (rs.length : Int) := by omega
      have hd : rs.drop k = z :: rs.drop (k + 1) := by rw [List.drop_eq_getElem_cons hlt]; congr 1; exact Option.some.inj ((List.getElem?_eq_getElem hlt).symm.trans hz)
      have hf1 : Q.fromK n rs [] = Q.fromK n (z :: rs.drop (k + 1)) acc := by rw [← hd]; exact hf.out
      obtain ⟨x, y⟩ := z
      simp only [] at hc0 hc1
      have hB2 : Below w.heap.size w (wr.alloc (.cells #[.int .i64 x, .int .i64 y] 57)) := hb.out.alloc hb.out.size _
      have hO2 := ho.out.alloc (.cells #[.int .i64 x, .int .i64 y] 57)
      obtain ⟨q0, q1⟩ := new_arr wr (.int .i64 x) (.int .i64 y) 57
      have HBq := Lib.hid hB2
      have HOq := Lib.hid hO2
      have hw60 : IntKind.i64.wrap (60 - (acc.length : Int)) = 60 - (acc.length : Int) := IntWalk.i64_in _ (by omega)
      clear hB2 hO2 hz hd hf hb ho
      go_wp2_with fail
      generalize wr.alloc (.cells #[.int .i64 x, .int .i64 y] 57) = wq at q0 q1 HBq HOq ⊢
      generalize wr.heap.size = g at q0 q1 hbl ⊢
      go_quiet (fail)
      by_cases h1 : 0 ≤ x ∧ x < n
      · have HIx := Lib.hid fun W => HI.out x W
        rw [show (decide (0 ≤ x) && decide (x < n)) = true by simp [h1]] at HIx
        by_cases h2 : y < 1
        · have HF : Hid (Q.fromX n rs = ([], false)) := by show _ = _; unfold Q.fromX; rw [hf1, Q.fromK_stop (by simp only []; omega)]
          clear hf1
          go_wp2_with (go_at_call 72; refine (HIx.out _).mono ?_; rintro e w' ⟨rfl, hw'⟩; obtain rfl := hw'.symm; clear hw')
          go_ret2
          rw [HF.out]
          exact ⟨_, rfl, own_down (ownsRow_nil _ _) HBq.out.size, (Law.up HBq.out _).alloc HBq.out.size _⟩
        · by_cases h3 : 60 - (acc.length : Int) < y
          · have HF : Hid (Q.fromX n rs = ([], false)) := by show _ = _; unfold Q.fromX; rw [hf1, Q.fromK_stop (by simp only []; omega)]
            clear hf1
            go_wp2_with (go_at_call 72; refine (HIx.out _).mono ?_; rintro e w' ⟨rfl, hw'⟩; obtain rfl := hw'.symm; clear hw')
            go_ret2
            rw [HF.out]
            exact ⟨_, rfl, own_down (ownsRow_nil _ _) HBq.out.size, (Law.up HBq.out _).alloc HBq.out.size _⟩
          · have hst : (0 ≤ x ∧ x ≤ n - 1) ∧ 1 ≤ y ∧ y ≤ 60 - (acc.length : Int) := by omega
            rw [Q.fromK_step hst] at hf1
            obtain ⟨m, rfl⟩ := Int.eq_ofNat_of_zero_le (show 0 ≤ y by omega)
            simp only [Int.toNat_natCast] at hf1
            have HF := Lib.hid hf1
            clear hf1 hst
            go_wp2_with (go_at_call 72; refine (HIx.out _).mono ?_; rintro e w' ⟨rfl, hw'⟩; obtain rfl := hw'.symm; clear hw')
            go_loopw [6, 43] (fun v i wi => ∃ j : Nat, j ≤ m ∧ i = .int .i64 j ∧ Hid (wi.ownsRow w.heap.size 3 1 v (acc.length + j) (ivs (acc ++ List.replicate j x))) ∧ Hid (Below w.heap.size w wi)) (fun _ i _ => m - (intOf i).toNat)
            case atStart => exact ⟨0, Nat.zero_le _, rfl, (by show World.ownsRow _ _ _ _ _ _ _; rw [List.replicate_zero, List.append_nil]; exact HOq.out), Law.up HBq.out _⟩
            case round =>
              obtain ⟨j, hj, rfl, ho, hb⟩ := hrel
              by_cases hjm : j < m
              · have hjI : (j : Int) < (m : Int) := by omega
                obtain ⟨ws, hws⟩ : ∃ ws, ws = acc ++ List.replicate j x := ⟨_, rfl⟩
                rw [← hws] at ho
                have HWS := Lib.hid (congrArg (· ++ [x]) hws)
                clear hws
                have hsz9 := (hb.out).size
                go_wp2_with (at_builtin; refine wpList_append_own _ rfl _ _ 24 rfl w.heap.size 3 i0 (.int .i64 0) 1 8 Try.underlying24 hi hz0 hz1 hz2 rfl (by decide) _ _ _ rfl ((ho.out).alloc _) ⟨(wr).heap.size, 0, none⟩ 1 1 [.int .i64 (x)] rfl rfl ?ca9a ?ca9b ?ca9c ?ca9d ?ca9e ?_)
                case ca9a =>
                  intro j' u hj'
                  match j', hj' with
                  | 0, hj' => simp at hj'; subst hj'; simp [Addr.add]
                case ca9b => intro u hu; simp at hu; subst hu; rfl
                case ca9c => unfold maxLen; omega
                case ca9d => omega
                case ca9e => simp; omega
                intro v9 w9 hm9 hg9 _
                have HB9 := Lib.hid (((hb.out).alloc hsz9 (.cells #[.int .i64 (x)] 3)).grown hg9 (by simp; omega) (fun j e => ((ho.out).lt j e).1))
                clear hg9
                rw [← ivs_snoc, show ws ++ [x] = acc ++ List.replicate (j + 1) x from HWS.out.trans (rep_snoc acc j x).symm] at hm9
                have HO9 := Lib.hid hm9
                clear hm9 ho hb
                go_wp2
                go_roundw
                case rel => exact ⟨j + 1, by omega, by go_num, HO9.out, HB9.out⟩
                case measure => simp [intOf]; omega
              · have hje : j = m := by omega
                have hjI : ¬ (j : Int) < (m : Int) := by omega
                subst hje
                go_wp2
                go_roundw
                case rel => exact ⟨k + 1, acc ++ List.replicate j x, by omega, by go_num, by rw [len_rep]; omega, (by show World.ownsRow _ _ _ _ _ _ _; rw [len_rep]; exact ho.out), HF.out, hb.out⟩
                case measure => simp [intOf]; omega
      · have HIx := Lib.hid fun W => HI.out x W
        rw [show (decide (0 ≤ x) && decide (x < n)) = false by simpa using h1] at HIx
        have HF : Hid (Q.fromX n rs = ([], false)) := by show _ = _; unfold Q.fromX; rw [hf1, Q.fromK_stop (by simp only []; omega)]
        clear hf1
        go_wp2_with (go_at_call 72; refine (HIx.out _).mono ?_; rintro e w' ⟨rfl, hw'⟩; obtain rfl := hw'.symm; clear hw')
        go_ret2
        rw [HF.out]
        exact ⟨_, rfl, own_down (ownsRow_nil _ _) HBq.out.size, (Law.up HBq.out _).alloc HBq.out.size _⟩
    · have hke : k = rs.length := by omega
      have hltI : ¬ (k : Int) < (rs.length : Int) := by omega
      have HF : Hid (Q.fromX n rs = (acc, true)) := by show _ = _; unfold Q.fromX; rw [hf.out, hke, List.drop_length]; rfl
      clear hke
      go_wp2
      go_ret2
      rw [HF.out]
      exact ⟨_, rfl, ho.out, hb.out⟩
end Go.Proofs.Ytgnfmbdomofgcaa
