/-
  CoverRun: the code's.
-/
import Derived.Test.YtndjpkeenbbgiaaCru
namespace Go.Proofs.Ytndjpkeenbbgiaa
open Go.RowKit
set_option linter.unusedVariables false
set_option maxHeartbeats 1600000 in
theorem impCr_any (row reqs : List Int) (A : Option Addr) (c : Nat) (hl : row.length ≤ 1048576) (B : Option Addr) (d : Nat) (hl' : reqs.length ≤ 1048576) (w : World) (hr : Law.Row w A (ivs row)) (hs : Law.Row w B (ivs reqs)) :
    Calls Try.prog 26 #[.slice A row.length c, .slice B reqs.length d] w (nestInt (Q.crQ row reqs) w) := by
  have HQ := Lib.hid (isCovering_any A B c d row reqs w hl hl' hr hs)
  cases hok : Q.crOk row reqs
  · rw [show Q.crQ row reqs = ([], 0, false) by simp [Q.crQ, hok]]
    rw [hok] at HQ
    clear hr hs hok
    go_enter Try.func26, Try.ntmps26
    go_wp2_with fail
    go_at_call 65
    refine HQ.out.mono ?_
    rintro e w1 ⟨rfl, hb⟩
    have HB := Lib.hid hb
    clear hb
    go_wp2
    go_ret3
    exact ⟨_, [], rfl, own_down (ownsRow_nil _ _) HB.out.size, NOwn.nil _ _, HB.out.alloc HB.out.size _⟩
  · obtain ⟨i0, hi, hz0, hz1, hz2⟩ := info_parts infoII
    rw [show Q.crQ row reqs = (Q.crK row reqs reqs.length, (Q.cst row reqs reqs.length).2, true) by simp [Q.crQ, hok]]
    rw [hok] at HQ
    simp only [Q.crOk, Bool.and_eq_true, decide_eq_true_eq] at hok
    obtain ⟨⟨hrow, h60⟩, hwi⟩ := hok
    have HOk := Lib.hid (Q.cst_ok hrow hwi)
    have HX : Hid (∀ k, k < reqs.length → ∃ x, reqs[k]? = some x ∧ 0 ≤ x ∧ x ≤ 99) := fun k h => Q.within_at hwi h
    have HR := Lib.hid hr
    have HS := Lib.hid hs
    clear hr hs hrow hwi
    go_enter Try.func26, Try.ntmps26
    go_wp2_with fail
    go_at_call 65
    refine HQ.out.mono ?_
    rintro e w1 ⟨rfl, hb⟩
    have HB1 := Lib.hid hb
    clear hb
    go_wp2_with (at_make; refine wpList_make_full _ rfl _ _ 34 rfl w1.heap.size 22 i0 (.slice none 0 0) 1 Try.underlying34 hi hz0 hz1 .i64 .i64 _ _ reqs.length rfl rfl rfl rfl ?c1 ?c2 ?c3 ?_)
    case c1 => rw [hz2]; omega
    case c2 => unfold maxLen; omega
    case c3 => exact Nat.le_refl _
    intro w2 hown hg
    rw [made_nils] at hown
    have HB2 : Hid (Below w1.heap.size w1 w2) := Lib.hid ((Below.refl _ _).grown hg (Nat.le_refl _) (fun k e => by cases e))
    have HO := Lib.hid hown
    have HRa := Lib.hid (HR.out.stays (Law.then_ HB1.out HB2.out))
    clear hown hg
    go_wp2_with fail
    go_loopw [0, 8, 24] (fun u q i wr => ∃ (j cc : Nat) (AA : Option Addr), j ≤ reqs.length ∧ i = .int .i64 j ∧ q = .int .i64 (Q.cst row reqs j).2 ∧ u = .slice AA (Q.cst row reqs j).1.length cc ∧ Hid (Law.Row wr AA (ivs (Q.cst row reqs j).1)) ∧ Hid (∃ xs, wr.ownsRow w1.heap.size 22 1 (.slice (some ⟨w1.heap.size, 0, none⟩) reqs.length reqs.length) reqs.length (xs ++ List.replicate (reqs.length - j) (.slice none 0 0)) ∧ NOwn wr w1.heap.size xs (Q.crK row reqs j)) ∧ Hid (Below w1.heap.size w1 wr)) (fun _ _ i _ => reqs.length - (intOf i).toNat)
    case atStart => exact ⟨0, c, A, Nat.zero_le _, rfl, rfl, rfl, HRa.out, ⟨[], HO.out, NOwn.nil _ _⟩, HB2.out⟩
    case round =>
      obtain ⟨j, cc, AA, hj, rfl, rfl, rfl, hnow, ho, hb⟩ := hrel
      obtain ⟨hq, hs0, hs1⟩ := HOk.out j hj
      by_cases hlt : j < reqs.length
      · have hltI : (j : Int) < (reqs.length : Int) := by omega
        obtain ⟨r, hx, hr0, hr1⟩ := HX.out j hlt
        obtain ⟨b, off, rfl, hbl, hc⟩ := (HS.out.stays (Law.then_ HB1.out hb.out)).at_ (ivs_some hx)
        have HT := Lib.hid (Q.cst_next (row := row) hx)
        have HKN : Hid (Q.crK row reqs (j + 1) = Q.crK row reqs j ++ [(Q.cst row reqs (j + 1)).1]) := rfl
        have HKL := Lib.hid (Q.crK_len row reqs j)
        rw [HT.out] at HKN
        have hbd := Q.cov_bd hq hr0 hr1
        have hlen := (Q.servers_iff.1 hq).2.1
        have HC := Lib.hid (impCs_any (Q.cst row reqs j).1 r AA cc (by omega) wr hnow.out)
        rw [Q.csQ_yes hq (Q.okR_iff.2 ⟨hr0, hr1⟩)] at HC
        clear hx hq
        generalize Q.crK row reqs j = K at ho HKN HKL
        generalize Q.cst row reqs j = s at hs0 hs1 HT HKN hbd HC hnow hlen ⊢
        obtain ⟨l, sm⟩ := s
        simp only [] at hs0 hs1 HT HKN hbd HC hnow hlen ⊢
        generalize Q.covX l r = X at HT HKN hbd HC
        obtain ⟨l2, mv⟩ := X
        simp only [] at HT HKN hbd HC
        have hwadd : IntKind.i64.wrap (sm + mv) = sm + mv := IntWalk.i64_in _ (by omega)
        go_wp2_with fail
        go_at_call 24
        refine HC.out.mono ?_
        rintro e w3 ⟨v3, rfl, hx3, hb3⟩
        simp only [] at hx3
        obtain ⟨xs, ho1, hn1⟩ := ho.out
        have ho2 := own_past ho1 hb3
        have hn3 := NOwn.snoc hn1 (hn1.past hb3) hx3 hb.out.size
        have hxl : xs.length = j := by rw [hn1.len, HKL.out]
        have hcO : w3.cell? ⟨w1.heap.size, j, none⟩ = some (.slice none 0 0) := (ho2.cellAt j (by omega)).trans (by
          rw [List.getElem?_append_right (by omega), hxl, Nat.sub_self]
          rw [List.getElem?_replicate]
          rw [if_pos (by omega)])
        have hfO := ho2.frozenAt j
        obtain ⟨A3, c3, rfl, _, _, _⟩ := Law.own_len hx3
        have hst := ho2.stored j (.slice A3 l2.length c3)
        have ho4 := hst.1
        rw [nils_set xs reqs.length j _ hxl hlt] at ho4
        have hn4 := hn3.outer ints_ne ho2 hst.2
        have hx4 := Law.Row.own (hx3.kept hst.2 (own_types ints_ne hx3 ho2))
        rw [← HKN.out] at hn4
        have HO4 := Lib.hid ho4
        have HN4 := Lib.hid hn4
        have HX4 := Lib.hid hx4
        have HB4 := Lib.hid ((Law.then_ hb.out hb3).setCell (p := ⟨w1.heap.size, j, none⟩) (Nat.le_refl _) (.slice A3 l2.length c3))
        clear ho ho1 hn1 ho2 hn3 hx3 hst ho4 hn4 hx4 hb3 hb hc
        go_wp2
        go_roundw
        case rel => exact ⟨j + 1, c3, A3, by omega, by go_num, by rw [HT.out], by rw [HT.out], by (show Law.Row _ _ _); rw [HT.out]; exact HX4.out, ⟨_, HO4.out, HN4.out⟩, HB4.out⟩
        case measure => simp [intOf]; omega
      · have hje : j = reqs.length := by omega
        have hltI : ¬ (j : Int) < (reqs.length : Int) := by omega
        have HJ := Lib.hid hje
        have HKL := Lib.hid (Q.crK_len row reqs reqs.length)
        clear hje
        go_wp2
        go_ret3
        obtain ⟨xs, ho1, hn1⟩ := ho.out
        rw [HJ.out, Nat.sub_self, List.replicate_zero, List.append_nil] at ho1
        rw [HJ.out] at hn1
        exact ⟨_, xs, by rw [HJ.out]; rfl, (by show World.ownsRow _ _ _ _ _ (Q.crK row reqs reqs.length).length _; rw [HKL.out]; exact own_down ho1 HB1.out.size), hn1.down HB1.out.size, Law.then_ HB1.out hb.out⟩
end Go.Proofs.Ytndjpkeenbbgiaa
