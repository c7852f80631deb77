/-
  IsProblem: the code's side, and both as the law asks.
-/
import Derived.Test.YtammlkaclooohaaPr1
namespace Go.Proofs.Ytammlkaclooohaa
open Go.RowKit
set_option linter.unusedVariables false
theorem Q.srvR_split {n : Nat} {l : List Int} (h : Q.srvR n l = false) : ¬ l.length = n ∨ (l.length = n ∧ Q.within (-1) 20 l = false) ∨ (l.length = n ∧ Q.within (-1) 20 l = true ∧ (l.any fun z => decide (0 ≤ z)) = false) := by
  by_cases h1 : l.length = n
  · cases h2 : Q.within (-1) 20 l
    · exact .inr (.inl ⟨h1, rfl⟩)
    · cases h3 : (l.any fun z => decide (0 ≤ z))
      · exact .inr (.inr ⟨h1, rfl, rfl⟩)
      · rw [Q.srvR, decide_eq_true h1, h2, h3] at h
        cases h
  · exact .inl h1
set_option maxHeartbeats 1600000 in
theorem impPr_any (A : Option Addr) (c : Nat) (xs : List Value) (L : List (List Int)) (B : Option Addr) (d : Nat) (ys : List Value) (S : List (List Int)) (w : World) (hlL : ∀ l ∈ L, l.length ≤ 1048576) (hlS : ∀ l ∈ S, l.length ≤ 1048576) (hL : NRow w A xs L) (hS : NRow w B ys S) :
    Calls Try.prog 92 #[pv A L.length c B S.length d] w fun e w' => e = .returned (.bool (Q.prQ L S)) ∧ Below w.heap.size w w' := by
  have HP := Lib.hid (PIn.start (c := c) (d := d) hL hS 35)
  have HG := Lib.hid fun (W : World) (h : NRow W A xs L) => impMet_any A c xs L W hlL h
  have HLL := Lib.hid hlS
  clear hL hS hlL hlS
  by_cases h1 : L.length ≤ 4
  · have h1I : ¬ (4 : Int) < (L.length : Int) := by omega
    cases hg : Q.metQ L
    · rw [hg] at HG
      have HN := Lib.hid (Q.prQ_no2 (S := S) hg)
      clear hg
      go_enter Try.func92, Try.ntmps92
      go_wp2_with fail
      generalize w.alloc (.cells #[.slice A L.length c, .slice B S.length d] 35) = wa at HP ⊢
      obtain ⟨p0, p1, _, _, _⟩ := HP.out.bk
      go_wp2_with fail
      go_at_call 151
      refine (HG.out _ HP.out.mv).mono ?_
      rintro e w1 ⟨rfl, hb⟩
      have HP1 := Lib.hid (HP.out.on hb)
      clear p0 p1 hb
      obtain ⟨p0, p1, _, _, _⟩ := HP1.out.bk
      go_wp2
      go_ret
      exact ⟨by rw [HN.out]; first | rfl | simp, HP1.out.bl⟩
    · rw [hg] at HG
      by_cases h2 : 1 ≤ S.length ∧ S.length ≤ 4
      · have HYes := Lib.hid (Q.prQ_yes (S := S) h1 hg h2.1 h2.2)
        have hS4 := h2.2
        have hS1I : ¬ (S.length : Int) < 1 := by omega
        have hS4I : ¬ (4 : Int) < (S.length : Int) := by omega
        have hL1 := (Q.metQ_sqr hg).2.1.1
        clear hg h2
        go_enter Try.func92, Try.ntmps92
        go_wp2_with fail
        generalize w.alloc (.cells #[.slice A L.length c, .slice B S.length d] 35) = wa at HP ⊢
        obtain ⟨p0, p1, _, _, _⟩ := HP.out.bk
        go_wp2_with fail
        go_at_call 151
        refine (HG.out _ HP.out.mv).mono ?_
        rintro e w1 ⟨rfl, hb⟩
        have HP1 := Lib.hid (HP.out.on hb)
        clear p0 p1 hb
        obtain ⟨p0, p1, _, _, _⟩ := HP1.out.bk
        go_wp2_with fail
        go_loop [29] (fun i => ∃ k : Nat, k ≤ S.length ∧ i = .int .i64 (k : Int) ∧ Hid (∀ j l, j < k → S[j]? = some l → Q.srvR L.length l = true)) (fun i => S.length - (intOf i).toNat)
        case atStart => exact ⟨0, Nat.zero_le _, rfl, fun j l hj => by omega⟩
        case round =>
          obtain ⟨k, hk, rfl, hall⟩ := hrel
          by_cases hlt : k < S.length
          · have hltI : (k : Int) < (S.length : Int) := by omega
            obtain ⟨l, hl⟩ : ∃ l, S[k]? = some l := ⟨_, List.getElem?_eq_getElem hlt⟩
            have hll := HLL.out l (List.mem_of_getElem? hl)
            obtain ⟨b, off, X, dX, rfl, hb, hc, hrX⟩ := HP1.out.sv.row_at hl
            have HW := Lib.hid (isWithin_any X dX l (-1) 20 w1 hll hrX)
            have HMx := Lib.hid fun h1 => max_row (c := dX) hrX h1 hll
            cases hs : Q.srvR L.length l
            · have HN := Lib.hid (Q.prQ_no4 (List.mem_of_getElem? hl) hs)
              have HB := Lib.hid HP1.out.bl
              rcases Q.srvR_split hs with h3 | ⟨h3, h4⟩ | ⟨h3, h4, h5⟩
              · have hne : ((l.length : Int) != (L.length : Int)) = true := by simp; omega
                have hne2 : ¬ (l.length : Int) = (L.length : Int) := by omega
                clear hl hs hrX hall h3 HW HMx
                generalize l.length = ln at hne hne2 hc
                go_wp2
                go_ret
                exact ⟨by rw [HN.out]; first | rfl | simp, HB.out⟩
              · rw [h4] at HW
                rw [h3] at HW hc
                clear hl hs hrX hall h3 h4 HMx
                go_wp2_with (go_at_call 152; refine (HW.out).mono ?_; rintro e w' ⟨rfl, hw'⟩; subst hw')
                go_ret
                exact ⟨by rw [HN.out]; first | rfl | simp, HB.out⟩
              · rw [h4] at HW
                have HM2 := Lib.hid (HMx.out (by omega))
                rw [(Q.max_srv h4 (by omega)).2 h5] at HM2
                rw [h3] at HW HM2 hc
                clear hl hs hrX hall h3 h4 h5 HMx
                go_wp2_with (first | (go_at_call 152; refine (HW.out).mono ?_; rintro e w' ⟨rfl, hw'⟩; subst hw') | (go_at_call 122; refine (HM2.out).mono ?_; rintro e w' ⟨rfl, hw'⟩; subst hw'))
                go_ret
                exact ⟨by rw [HN.out]; first | rfl | simp, HB.out⟩
            · have HA : Hid (∀ j l, j < k + 1 → S[j]? = some l → Q.srvR L.length l = true) := fun j l' hj hl' => by
                by_cases e : j = k
                · subst e
                  rw [hl] at hl'
                  cases hl'
                  exact hs
                · exact hall.out j l' (by omega) hl'
              obtain ⟨h3, h4, z, hz, h0⟩ := Q.srvR_iff.1 hs
              rw [h4] at HW
              have HM2 := Lib.hid (HMx.out (by omega))
              have hmx : ¬ Lib.maxOf l = -1 := fun e => by
                have := (Q.max_srv h4 (by omega)).1 e
                rw [List.any_eq_false] at this
                exact this z hz (by simpa using h0)
              have hmb : (Lib.maxOf l == -1) = false := by simpa using hmx
              rw [h3] at HW HM2 hc
              generalize Lib.maxOf l = M at HM2 hmx hmb
              clear hl hs hrX hall h3 h4 HMx hz h0
              go_wp2_with (first | (go_at_call 152; refine (HW.out).mono ?_; rintro e w' ⟨rfl, hw'⟩; subst hw') | (go_at_call 122; refine (HM2.out).mono ?_; rintro e w' ⟨rfl, hw'⟩; subst hw'))
              go_round
              case rel => exact ⟨k + 1, by omega, by go_num, HA.out⟩
              case measure => simp [intOf]; omega
          · have hke : k = S.length := by omega
            have hltI : ¬ (k : Int) < (S.length : Int) := by omega
            have HN := Lib.hid (HYes.out (fun j l hj hl => hall.out j l (by omega) hl))
            have HB := Lib.hid HP1.out.bl
            clear hke hall
            go_wp2
            go_ret
            exact ⟨by rw [HN.out]; rfl, HB.out⟩
      · have HN := Lib.hid (Q.prQ_no3 (L := L) h2)
        clear hg
        by_cases h3 : S.length < 1
        · have h3I : (S.length : Int) < 1 := by omega
          clear h2
          go_enter Try.func92, Try.ntmps92
          go_wp2_with fail
          generalize w.alloc (.cells #[.slice A L.length c, .slice B S.length d] 35) = wa at HP ⊢
          obtain ⟨p0, p1, _, _, _⟩ := HP.out.bk
          go_wp2_with fail
          go_at_call 151
          refine (HG.out _ HP.out.mv).mono ?_
          rintro e w1 ⟨rfl, hb⟩
          have HP1 := Lib.hid (HP.out.on hb)
          clear p0 p1 hb
          obtain ⟨p0, p1, _, _, _⟩ := HP1.out.bk
          go_wp2
          go_ret
          exact ⟨by rw [HN.out]; first | rfl | simp, HP1.out.bl⟩
        · have h3I : ¬ (S.length : Int) < 1 := by omega
          have h4I : (4 : Int) < (S.length : Int) := by omega
          clear h2 h3
          go_enter Try.func92, Try.ntmps92
          go_wp2_with fail
          generalize w.alloc (.cells #[.slice A L.length c, .slice B S.length d] 35) = wa at HP ⊢
          obtain ⟨p0, p1, _, _, _⟩ := HP.out.bk
          go_wp2_with fail
          go_at_call 151
          refine (HG.out _ HP.out.mv).mono ?_
          rintro e w1 ⟨rfl, hb⟩
          have HP1 := Lib.hid (HP.out.on hb)
          clear p0 p1 hb
          obtain ⟨p0, p1, _, _, _⟩ := HP1.out.bk
          go_wp2
          go_ret
          exact ⟨by rw [HN.out]; first | rfl | simp, HP1.out.bl⟩
  · have h1I : (4 : Int) < (L.length : Int) := by omega
    have HN := Lib.hid (Q.prQ_no1 (S := S) h1)
    clear h1
    go_enter Try.func92, Try.ntmps92
    go_wp2_with fail
    generalize w.alloc (.cells #[.slice A L.length c, .slice B S.length d] 35) = wa at HP ⊢
    obtain ⟨p0, p1, _, _, _⟩ := HP.out.bk
    go_wp2
    go_ret
    exact ⟨by rw [HN.out]; first | rfl | simp, HP.out.bl⟩
end Go.Proofs.Ytammlkaclooohaa
