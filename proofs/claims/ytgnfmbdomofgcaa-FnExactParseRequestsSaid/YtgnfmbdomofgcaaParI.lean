/-
  The code's ParseRequests: it reads the runes of a text.
-/
import Derived.Test.YtgnfmbdomofgcaaPm
import Derived.Test.YtgnfmbdomofgcaaImpQ
import Derived.Test.YtgnfmbdomofgcaaDec
import Derived.WalkSmall
namespace Go.Proofs.Ytgnfmbdomofgcaa
open Go.RowKit
set_option linter.unusedVariables false
theorem own_iter {w : World} {B e size n : Nat} {v : Value} {xs : List Value} {k : Nat} {s : ByteArray} {pos : Nat} (h : w.ownsRow B e size v n xs) (hk : w.heap[k]? = some (.stringIter s pos)) (pos' : Nat) : (w.iterAt k s pos').ownsRow B e size v n xs :=
  ⟨h.1, h.2.imp id fun ⟨g, cap, cur, hv, hb, hg, rest⟩ => ⟨g, cap, cur, hv, hb, by
    rw [Lib.iterAt_other _ _ _ _ _ (fun e => by subst e; rw [hk] at hg; cases hg)]
    exact hg, rest⟩⟩
theorem iter_kept {w w' : World} {B e size n : Nat} {v : Value} {xs : List Value} {k : Nat} {s : ByteArray} {pos : Nat} {o : Obj} (h : w.ownsRow B e size v n xs) (hk : w.heap[k]? = some (.stringIter s pos)) (hg : (w.alloc o).grownBy w' v.ownBlock) : w'.heap[k]? = some (.stringIter s pos) := by
  have hlt : k < w.heap.size := (Array.getElem?_eq_some_iff.1 hk).1
  have hne : some k ≠ v.ownBlock := fun e => by
    rcases h.2 with ⟨rfl, _⟩ | ⟨g, cap, cur, rfl, _, hg, _⟩
    · simp [Value.ownBlock] at e
    · simp only [Value.ownBlock, Option.some.injEq] at e
      subst e
      rw [hk] at hg
      cases hg
  rw [hg.block k (by simp; omega) hne, Below.heap_alloc w o k hlt]
  exact hk
theorem good_nil (n : Int) : Q.good n [] = Q.okN n := by simp [Q.good, Q.okList]
theorem Q.good_okN' {n : Int} {zs : List Int} (h : Q.good n zs = true) : Q.okN n = true := ((Bool.and_eq_true _ _).mp h).1
theorem none_list : ({ data := #[110, 111, 110, 101] } : ByteArray).toList = [110, 111, 110, 101] := by decide +kernel
theorem none_ne {s : ByteArray} (h : ¬ s = ⟨#[110, 111, 110, 101]⟩) : (s.toList == [110, 111, 110, 101]) = false := by
  have := neq_lists h
  rwa [none_list] at this
theorem empty_two (w : World) (e : TypeId) : ((w.alloc (.cells #[] e)).alloc (.cells #[] e)).ownsRow w.heap.size e 1 (.slice (some ⟨w.heap.size + 1, 0, none⟩) 0 0) 0 [] := by
  have h := ownsRow_nil (w.alloc (.cells #[] e)) e
  rw [show (w.alloc (.cells #[] e)).heap.size = w.heap.size + 1 from by simp] at h
  exact own_down h (Nat.le_succ _)
theorem par_none {n : Int} : Q.parQ n ⟨#[110, 111, 110, 101]⟩ = Q.ifGood n [] [] := by
  cases hg : Q.good n []
  · rw [Q.ifGood_no hg]
    refine Q.parQ_no fun zs hz e => ?_
    have := Q.good_okN' hz
    rw [good_nil, this] at hg
    cases hg
  · rw [Q.ifGood_yes hg]
    exact Q.parQ_yes hg
set_option maxRecDepth 100000 in
set_option maxHeartbeats 3200000 in
theorem impPar_any (n : Int) (s : ByteArray) (hl : s.size ≤ 1048576) (w : World) :
    Calls Try.prog 49 #[.int .i64 n, .string s] w (rowSays (Q.parQ n s) w) := by
  obtain ⟨i0, hi, hz0, hz1, hz2⟩ := info_parts infoInts
  have b0 : Below w.heap.size w (w.alloc (.cells #[] 3)) := (Below.refl _ _).alloc (Nat.le_refl _) _
  by_cases h4 : s = ⟨#[110, 111, 110, 101]⟩
  · subst h4
    rw [par_none]
    have HQ := Lib.hid (impIsReq_any n (some ⟨w.heap.size, 0, none⟩) 0 [] (w.alloc (.cells #[] 3)) (by simp) (fun h => absurd rfl h))
    have HB0 := Lib.hid b0
    have H0 : Hid ((w.alloc (.cells #[] 3)).ownsRow w.heap.size 3 1 (.slice (some ⟨w.heap.size, 0, none⟩) 0 0) 0 (ivs [])) := ownsRow_nil w 3
    cases hg : Q.good n []
    · rw [Q.ifGood_no hg]
      rw [hg] at HQ
      clear hg b0
      go_enter Try.func49, Try.ntmps49
      go_wp2_with fail
      go_at_call 46
      refine (HQ.out).mono ?_
      rintro e w' ⟨rfl, hw'⟩
      obtain rfl := hw'.symm
      clear hw'
      go_wp2
      go_ret2
      exact ⟨.slice (some ⟨w.heap.size + 1, 0, none⟩) 0 0, rfl, empty_two w _, HB0.out.alloc HB0.out.size _⟩
    · rw [Q.ifGood_yes hg]
      rw [hg] at HQ
      clear hg b0
      go_enter Try.func49, Try.ntmps49
      go_wp2_with fail
      go_at_call 46
      refine (HQ.out).mono ?_
      rintro e w' ⟨rfl, hw'⟩
      obtain rfl := hw'.symm
      clear hw'
      go_wp2
      go_ret2
      exact ⟨_, rfl, H0.out, HB0.out⟩
  · have hne := none_ne h4
    by_cases hbad : s.size % 2 = 0 ∨ 120 ≤ s.size
    · rw [Q.parQ_size h4 hbad]
      have HB0 := Lib.hid b0
      have hsI : (s.size : Int) ≤ 1048576 := by omega
      clear b0 h4
      by_cases hev : s.size % 2 = 0
      · have hpar : ((s.size : Int) % 2 == 0) = true := by simp; omega
        clear hbad hev
        go_enter Try.func49, Try.ntmps49
        go_wp2
        go_ret2
        exact ⟨.slice (some ⟨w.heap.size + 1, 0, none⟩) 0 0, rfl, empty_two w _, HB0.out.alloc HB0.out.size _⟩
      · have hpar : ((s.size : Int) % 2 == 0) = false := by simp; omega
        have hbg : (120 : Int) ≤ (s.size : Int) := by omega
        clear hbad hev
        go_enter Try.func49, Try.ntmps49
        go_wp2
        go_ret2
        exact ⟨.slice (some ⟨w.heap.size + 1, 0, none⟩) 0 0, rfl, empty_two w _, HB0.out.alloc HB0.out.size _⟩
    · have hodd : s.size % 2 = 1 := by omega
      have hsm : s.size < 120 := by omega
      have hpar : ((s.size : Int) % 2 == 0) = false := by simp; omega
      have hbg : ¬ (120 : Int) ≤ (s.size : Int) := by omega
      have HB0 := Lib.hid (b0.alloc b0.size (.stringIter s 0))
      have H0 : Hid (((w.alloc (.cells #[] 3)).alloc (.stringIter s 0)).ownsRow w.heap.size 3 1 (.slice (some ⟨w.heap.size, 0, none⟩) 0 0) 0 (ivs [])) := (ownsRow_nil w 3).alloc _
      have HI0 : Hid (((w.alloc (.cells #[] 3)).alloc (.stringIter s 0)).heap[w.heap.size + 1]? = some (.stringIter s 0)) := by
        have := World.iter_heap (w.alloc (.cells #[] 3)) s 0
        rw [show (w.alloc (.cells #[] 3)).heap.size = w.heap.size + 1 by simp] at this
        exact Lib.hid this
      have H4 := Lib.hid h4
      have HODD := Lib.hid hodd
      clear b0 h4 hbad hodd
      go_enter Try.func49, Try.ntmps49
      go_wp2_with fail
      go_loopw [6] (fun v wr => ∃ (pos : Nat) (o : List Int), Hid (wr.heap[w.heap.size + 1]? = some (.stringIter s pos)) ∧ Hid (wr.ownsRow w.heap.size 3 1 v o.length (ivs o)) ∧ Hid (Below w.heap.size w wr) ∧ o.length ≤ pos ∧ o.length ≤ 130 ∧ Hid (Q.Mode n s pos o)) (fun _ wr => s.size - wr.iterPos (w.heap.size + 1))
      case atStart => exact ⟨0, [], HI0.out, H0.out, HB0.out, Nat.le_refl _, Nat.zero_le _, Q.mode_start⟩
      case round =>
        obtain ⟨pos, o, hit, ho, hb, hop, hol, hm⟩ := hrel
        by_cases hp : pos < s.size
        · have hR := Q.rn_of s pos hp
          have hnx : ∀ ty, (Instr.next (.pointer (some ⟨w.heap.size + 1, 0, none⟩)) true ty).run Try.prog wr = .ok (.tuple #[.bool true, .int .i64 pos, .int .i32 (Utf8.decode s pos).1]) (wr.iterAt (w.heap.size + 1) s (pos + (Utf8.decode s pos).2)) := fun ty => Lib.run_next_any_at wr (w.heap.size + 1) s pos ty hit.out hp
          obtain ⟨r, hr⟩ : ∃ r, r = (Utf8.decode s pos).1 := ⟨_, rfl⟩
          obtain ⟨d, hd⟩ : ∃ d, d = (Utf8.decode s pos).2 := ⟨_, rfl⟩
          rw [← hr, ← hd] at hR hnx
          obtain ⟨W1, hW1⟩ : ∃ W1, W1 = wr.iterAt (w.heap.size + 1) s (pos + d) := ⟨_, rfl⟩
          rw [← hW1] at hnx
          have HI1 : Hid (W1.heap[w.heap.size + 1]? = some (.stringIter s (pos + d))) := by rw [hW1]; exact Lib.hid (Lib.iterAt_heap wr (w.heap.size + 1) s pos (pos + d) hit.out)
          have HO1 : Hid (W1.ownsRow w.heap.size 3 1 u6 o.length (ivs o)) := by rw [hW1]; exact Lib.hid (own_iter ho.out hit.out _)
          have HB1 : Hid (Below w.heap.size w W1) := by rw [hW1]; exact Lib.hid (Lib.below_iterAt hb.out (by omega) s (pos + d))
          have HM : Hid (wr.iterPos (w.heap.size + 1) = pos) := Lib.hid (iterPos_of hit.out)
          have hr1 := hR.r1
          have hd1 := hR.d1
          have HRn := Lib.hid hR
          clear hR hr hd hW1 ho hb hit
          have hposI : (pos : Int) < 120 := by omega
          by_cases hpe : pos % 2 = 0
          · have hpb : ((pos : Int) % 2 == 0) = true := by simp; omega
            have HMo := Lib.hid (Q.mode_even H4.out hm.out hpe HRn.out)
            clear hm hpe
            have hsz9 := (HB1.out).size
            go_wp2_with (at_builtin; refine wpList_append_own _ rfl _ _ 24 rfl (w.heap.size) 3 i0 (.int .i64 0) 1 8 Try.underlying24 hi hz0 hz1 hz2 rfl (by decide) _ _ _ rfl ((HO1.out).alloc _) ⟨(W1).heap.size, 0, none⟩ 1 1 [.int .i64 ((r : Int) - 48)] rfl rfl ?ca9a ?ca9b ?ca9c ?ca9d ?ca9e ?_)
            case ca9a =>
              intro j' u hj'
              match j', hj' with
              | 0, hj' => simp at hj'; subst hj'; simp [Addr.add]
            case ca9b => intro u hu; simp at hu; subst hu; rfl
            case ca9c => unfold maxLen; omega
            case ca9d => omega
            case ca9e => simp; omega
            intro v9 w9 hm9 hg9 _
            have HB9 := Lib.hid (((HB1.out).alloc hsz9 (.cells #[.int .i64 ((r : Int) - 48)] 3)).grown hg9 (by simp; omega) (fun j e => Nat.le_trans (by omega) ((HO1.out).lt j e).1))
            have HI9 := Lib.hid (iter_kept HO1.out HI1.out hg9)
            rw [← ivs_snoc] at hm9
            obtain ⟨o9, ho9⟩ : ∃ o9, o9 = o ++ [(r : Int) - 48] := ⟨_, rfl⟩
            have hl9 : o9.length = o.length + 1 := by rw [ho9]; simp
            rw [← ho9] at hm9 HMo
            have HO9 : Hid (w9.ownsRow w.heap.size 3 1 v9 o9.length (ivs o9)) := by rw [hl9]; exact Lib.hid hm9
            have hl9' : o9.length ≤ o.length + 1 := by omega
            clear hm9 hg9 ho9 hl9
            go_wp2
            go_roundw
            case rel => exact ⟨pos + d, o9, HI9.out, HO9.out, HB9.out, by omega, by omega, HMo.out⟩
            case measure => rw [HM.out, iterPos_of HI9.out]; omega
          · have hpb : ((pos : Int) % 2 == 0) = false := by simp; omega
            by_cases hr32 : r = 32
            · have HMo := Lib.hid (Q.mode_space hm.out (by omega) HRn.out hr32)
              subst hr32
              clear hm hpe
              go_wp2
              go_roundw
              case rel => exact ⟨pos + d, o, HI1.out, HO1.out, HB1.out, by omega, hol, HMo.out⟩
              case measure => rw [HM.out, iterPos_of HI1.out]; omega
            · have HN := Lib.hid (Q.mode_other H4.out hm.out (by omega) HRn.out hr32)
              have hr32b : ((r : Int) == 32) = false := by simp; omega
              have hr32c : ((r : Int) != 32) = true := by simp; omega
              clear hm hpe hr32
              go_wp2
              go_ret2
              rw [HN.out]
              exact ⟨_, rfl, own_down (ownsRow_nil _ _) HB1.out.size, HB1.out.alloc HB1.out.size _⟩
        · have hnx : ∀ ty, (Instr.next (.pointer (some ⟨w.heap.size + 1, 0, none⟩)) true ty).run Try.prog wr = .ok (.tuple #[.bool false]) wr := fun ty => Lib.run_next_end_at wr (w.heap.size + 1) s pos ty hit.out hp
          have HE := Lib.hid (Q.mode_end hm.out hp HODD.out hsm)
          obtain ⟨A6, c6, rfl, hc6, _, _⟩ := Law.own_len ho.out
          have HQ := Lib.hid (impIsReq_any n A6 c6 o wr (by omega) (Law.Row.own ho.out))
          clear hm hit
          cases hg : Q.good n o
          · have HE2 := Lib.hid (HE.out.trans (Q.ifGood_no hg))
            rw [hg] at HQ
            clear hg HE
            go_wp2_with fail
            go_at_call 46
            refine (HQ.out).mono ?_
            rintro e w' ⟨rfl, hw'⟩
            obtain rfl := hw'.symm
            clear hw'
            go_wp2
            go_ret2
            rw [HE2.out]
            exact ⟨_, rfl, own_down (ownsRow_nil _ _) hb.out.size, hb.out.alloc hb.out.size _⟩
          · have HE2 := Lib.hid (HE.out.trans (Q.ifGood_yes hg))
            rw [hg] at HQ
            clear hg HE
            go_wp2_with fail
            go_at_call 46
            refine (HQ.out).mono ?_
            rintro e w' ⟨rfl, hw'⟩
            obtain rfl := hw'.symm
            clear hw'
            go_wp2
            go_ret2
            rw [HE2.out]
            exact ⟨_, rfl, ho.out, hb.out⟩
end Go.Proofs.Ytgnfmbdomofgcaa
