/-
  CoverRun: the model's.
-/
import Derived.Test.YtndjpkeenbbgiaaCru
namespace Go.Proofs.Ytndjpkeenbbgiaa
open Go.RowKit
set_option linter.unusedVariables false
set_option maxHeartbeats 1600000 in
theorem specCr_any (row reqs : List Int) (A : Option Addr) (c : Nat) (hl : row.length ≤ 1048576) (B : Option Addr) (d : Nat) (hl' : reqs.length ≤ 1048576) (w : World) (hr : Law.Row w A (ivs row)) (hs : Law.Row w B (ivs reqs)) :
    Calls Try.prog 25 #[.slice A row.length c, .slice B reqs.length d] w (nestInt (Q.crQ row reqs) w) := by
  obtain ⟨i0, hi, hz0, hz1, hz2⟩ := info_parts infoII
  have b0 : Below w.heap.size w (w.alloc (.cells #[] 22)) := (Below.refl _ _).alloc (Nat.le_refl _) _
  have HQ := Lib.hid (l6Row_any A c row _ hl (hr.stays b0))
  have HW := Lib.hid fun (W : World) (h : Below w.heap.size w W) => l6Places_any B d reqs W hl' (hs.stays h)
  have HO0 := Lib.hid (show World.ownsRow (w.alloc (.cells #[] 22)) w.heap.size 22 1 (.slice (some ⟨w.heap.size, 0, none⟩) 0 0) 0 [] from ownsRow_nil w 22)
  have HB0 := Lib.hid b0
  clear b0
  have HNo : Hid (Q.crOk row reqs = false → Q.crQ row reqs = ([], 0, false)) := fun h => by simp [Q.crQ, h]
  have HN : Hid (Q.crOk row reqs = ((Q.rowQ row && decide (reqs.length ≤ 60)) && Q.within 0 99 reqs)) := rfl
  cases h1 : Q.rowQ row
  · rw [h1] at HQ HN
    rw [HNo.out (by rw [HN.out]; rfl)]
    clear hr hs h1 HW HN HNo
    go_enter Try.func25, Try.ntmps25
    go_wp2_with fail
    go_at_call 55
    refine HQ.out.mono ?_
    rintro e w1 ⟨rfl, hb⟩
    have HB := Lib.hid (Law.then_ HB0.out hb)
    have HO1 := Lib.hid (own_past HO0.out hb)
    clear hb
    go_wp2
    go_ret3
    exact ⟨_, [], rfl, HO1.out, NOwn.nil _ _, HB.out⟩
  · rw [h1] at HQ HN
    by_cases h60 : reqs.length ≤ 60
    · rw [show decide (reqs.length ≤ 60) = true from decide_eq_true h60] at HN
      have hI : ¬ (60 : Int) < (reqs.length : Int) := by omega
      cases hwi : Q.within 0 99 reqs
      · rw [hwi] at HW HN
        rw [HNo.out (by rw [HN.out]; rfl)]
        clear hr hs h1 hwi HN HNo
        go_enter Try.func25, Try.ntmps25
        go_wp2_with fail
        go_at_call 55
        refine HQ.out.mono ?_
        rintro e w1 ⟨rfl, hb⟩
        have HB := Lib.hid (Law.then_ HB0.out hb)
        have HO1 := Lib.hid (own_past HO0.out hb)
        clear hb
        go_wp2_with fail
        go_at_call 63
        refine (HW.out _ HB.out).mono ?_
        rintro e w' ⟨rfl, hw'⟩
        obtain rfl := hw'.symm
        clear hw'
        go_wp2
        go_ret3
        exact ⟨_, [], rfl, HO1.out, NOwn.nil _ _, HB.out⟩
      · rw [hwi] at HW HN
        have hok : Q.crOk row reqs = true := by rw [HN.out]; rfl
        rw [show Q.crQ row reqs = (Q.crK row reqs reqs.length, (Q.cst row reqs reqs.length).2, true) by simp [Q.crQ, hok]]
        have HOk := Lib.hid (Q.cst_ok h1 hwi)
        have HX : Hid (∀ k, k < reqs.length → ∃ x, reqs[k]? = some x ∧ 0 ≤ x ∧ x ≤ 99) := fun k h => Q.within_at hwi h
        have HR := Lib.hid hr
        have HS := Lib.hid hs
        clear hr hs h1 hwi HN HNo hok
        go_enter Try.func25, Try.ntmps25
        go_wp2_with fail
        go_at_call 55
        refine HQ.out.mono ?_
        rintro e w1 ⟨rfl, hb⟩
        have HB := Lib.hid (Law.then_ HB0.out hb)
        have HO1 := Lib.hid (own_past HO0.out hb)
        clear hb
        go_wp2_with fail
        go_at_call 63
        refine (HW.out _ HB.out).mono ?_
        rintro e w' ⟨rfl, hw'⟩
        obtain rfl := hw'.symm
        clear hw'
        have HRa := Lib.hid (HR.out.stays HB.out)
        go_wp2
        go_loopw [7, 8, 9, 10] (fun v q u i wr => ∃ (j cc : Nat) (AA : Option Addr), j ≤ reqs.length ∧ i = .int .i64 j ∧ q = .int .i64 (Q.cst row reqs j).2 ∧ u = .slice AA (Q.cst row reqs j).1.length cc ∧ Hid (Law.Row wr AA (ivs (Q.cst row reqs j).1)) ∧ Hid (∃ xs, wr.ownsRow w.heap.size 22 1 v j xs ∧ NOwn wr w.heap.size xs (Q.crK row reqs j)) ∧ Hid (Below w.heap.size w wr)) (fun _ _ _ i _ => reqs.length - (intOf i).toNat)
        case atStart => exact ⟨0, c, A, Nat.zero_le _, rfl, rfl, rfl, HRa.out, ⟨[], HO1.out, NOwn.nil _ _⟩, HB.out⟩
        case round =>
          obtain ⟨j, cc, AA, hj, rfl, rfl, rfl, hnow, ho, hb⟩ := hrel
          obtain ⟨hq, hs0, hs1⟩ := HOk.out j hj
          by_cases hlt : j < reqs.length
          · have hltI : (j : Int) < (reqs.length : Int) := by omega
            obtain ⟨r, hx, hr0, hr1⟩ := HX.out j hlt
            obtain ⟨b, off, rfl, hbl, hc⟩ := (HS.out.stays hb.out).at_ (ivs_some hx)
            have HT := Lib.hid (Q.cst_next (row := row) hx)
            have HKN : Hid (Q.crK row reqs (j + 1) = Q.crK row reqs j ++ [(Q.cst row reqs (j + 1)).1]) := rfl
            have HKL := Lib.hid (Q.crK_len row reqs j)
            rw [HT.out] at HKN
            have hbd := Q.cov_bd hq hr0 hr1
            have hl2 : (Q.covX (Q.cst row reqs j).1 r).1.length ≤ 3 := by
              have := (Q.cov_pos hq hr0 hr1).1.2.1
              have := (Q.servers_iff.1 hq).2.1
              omega
            have HC := Lib.hid (l6Cover_any AA cc (Q.cst row reqs j).1 r wr hq hr0 hr1 hnow.out)
            clear hx hq
            generalize Q.crK row reqs j = K at ho HKN HKL
            generalize Q.cst row reqs j = s at hs0 hs1 HT HKN hbd HC hnow hl2 ⊢
            obtain ⟨l, sm⟩ := s
            simp only [] at hs0 hs1 HT HKN hbd HC hnow hl2 ⊢
            generalize Q.covX l r = X at HT HKN hbd HC hl2
            obtain ⟨l2, mv⟩ := X
            simp only [] at HT HKN hbd HC hl2
            have hwadd : IntKind.i64.wrap (sm + mv) = sm + mv := IntWalk.i64_in _ (by omega)
            go_wp2_with fail
            go_at_call 60
            refine HC.out.mono ?_
            rintro e w2 ⟨v2, rfl, hx2, hb2⟩
            simp only [] at hx2
            obtain ⟨A2, c2, rfl, _, _, _⟩ := Law.own_len hx2
            have HNow : Hid (w2.ownsRow w.heap.size 3 1 (.slice A2 l2.length c2) l2.length (ivs l2)) := own_down hx2 hb.out.size
            have HBn := Lib.hid (Law.then_ hb.out hb2)
            have HV : Hid (∃ xs, w2.ownsRow w.heap.size 22 1 u7 j xs ∧ NOwn w2 w.heap.size xs K) := by obtain ⟨xs, h1, h2⟩ := ho.out; exact ⟨xs, own_past h1 hb2, h2.past hb2⟩
            have HOw := Lib.hid (l1Own_any A2 c2 l2 w2 (by omega) (Law.Row.own HNow.out))
            clear hx2 hb2 ho hb hc hnow HC
            go_wp2_with fail
            go_at_call 64
            refine HOw.out.mono ?_
            rintro e wo ⟨vo, rfl, hoo, hbo⟩
            obtain ⟨xs, ho1, hn1⟩ := HV.out
            have ho2 := own_past ho1 hbo
            have hn2 := hn1.past hbo
            have hn3 := NOwn.snoc hn1 hn2 hoo HBn.out.size
            have hnw := own_past HNow.out hbo
            have hbw := Law.then_ HBn.out hbo
            have hxs : xs.length = j := by have := ho1.1; omega
            have HN3 := Lib.hid hn3
            have HNW := Lib.hid hnw
            obtain ⟨Ao, co, rfl, hco, _, _⟩ := Law.own_len hoo
            have HO2 := Lib.hid ho2
            have HBW := Lib.hid hbw
            have hszw := hbw.size
            clear hoo hbo ho1 hn1 ho2 hn2 hn3 hnw hbw HOw HV HNow HBn
            go_wp2_with (at_builtin; refine wpList_append_own _ rfl _ _ 34 rfl w.heap.size 22 i0 (.slice none 0 0) 1 24 Try.underlying34 hi hz0 hz1 hz2 rfl (by decide) _ _ _ rfl (HO2.out.alloc _) ⟨wo.heap.size, 0, none⟩ 1 1 [.slice Ao l2.length co] rfl rfl ?ca ?cb ?cc ?cd ?ce ?_)
            case ca =>
              intro j' u hj'
              match j', hj' with
              | 0, hj' => simp at hj'; subst hj'; simp [Addr.add]
            case cb => intro u hu; simp at hu; subst hu; rfl
            case cc => unfold maxLen; omega
            case cd => omega
            case ce => simp; omega
            intro v9 w9 hm9 hg9 _
            have HB9 := Lib.hid ((HBW.out.alloc hszw (.cells #[.slice Ao l2.length co] 22)).grown hg9 (by simp; omega) (fun j e => (HO2.out.lt j e).1))
            have HV9 : Hid (∃ xs, w9.ownsRow w.heap.size 22 1 v9 (j + 1) xs ∧ NOwn w9 w.heap.size xs (Q.crK row reqs (j + 1))) := by
              refine ⟨_, hm9, ?_⟩
              rw [HKN.out]
              exact (HN3.out.alloc _).outer ints_ne (HO2.out.alloc _) hg9
            have HNW9 : Hid (Law.Row w9 A2 (ivs l2)) := Law.Row.own ((HNW.out.alloc (.cells #[.slice Ao l2.length co] 22)).kept hg9 (own_types ints_ne HNW.out HO2.out))
            clear hm9 hg9
            go_wp2
            go_roundw
            case rel => exact ⟨j + 1, c2, A2, by omega, by go_num, by rw [HT.out], by rw [HT.out], by (show Law.Row _ _ _); rw [HT.out]; exact HNW9.out, HV9.out, HB9.out⟩
            case measure => simp [intOf]; omega
          · have hje : j = reqs.length := by omega
            have hltI : ¬ (j : Int) < (reqs.length : Int) := by omega
            have HJ := Lib.hid hje
            have HKL := Lib.hid (Q.crK_len row reqs reqs.length)
            clear hje
            go_wp2
            go_ret3
            obtain ⟨xs, ho1, hn1⟩ := ho.out
            rw [HJ.out] at ho1 hn1
            exact ⟨_, xs, by rw [HJ.out]; rfl, (by show World.ownsRow _ _ _ _ _ (Q.crK row reqs reqs.length).length _; rw [HKL.out]; exact ho1), hn1, hb.out⟩
    · rw [show decide (reqs.length ≤ 60) = false from decide_eq_false h60] at HN
      have hI : (60 : Int) < (reqs.length : Int) := by omega
      rw [HNo.out (by rw [HN.out]; rfl)]
      clear hr hs h1 HW HN HNo
      go_enter Try.func25, Try.ntmps25
      go_wp2_with fail
      go_at_call 55
      refine HQ.out.mono ?_
      rintro e w1 ⟨rfl, hb⟩
      have HB := Lib.hid (Law.then_ HB0.out hb)
      have HO1 := Lib.hid (own_past HO0.out hb)
      clear hb
      go_wp2
      go_ret3
      exact ⟨_, [], rfl, HO1.out, NOwn.nil _ _, HB.out⟩
end Go.Proofs.Ytndjpkeenbbgiaa
