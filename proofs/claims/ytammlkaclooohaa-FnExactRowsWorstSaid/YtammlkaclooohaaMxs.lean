/-
  Matrices of the model: l11Matrix, l11Mixed, l11Products, l7Greatest; columnSums of the code.
-/
import Derived.Test.YtammlkaclooohaaMxi
import Derived.Test.YtammlkaclooohaaHmake
import Derived.Deep.RegionLaw
namespace Go.Proofs.Ytammlkaclooohaa
open Go.RowKit
set_option linter.unusedVariables false
section
variable (A : Option Addr) (c : Nat) (l : List Int) (w : World)
set_option maxHeartbeats 800000 in
theorem l11Mixed_any (v0 : Value) (cnt : Nat) (hn : l.length ≤ 1048576) (hr : Law.Row w A (ivs l)) :
    Calls Try.prog 118 #[v0, .slice A l.length c, .int .i64 (cnt : Int)] w fun e w' => e = .returned (.bool (Q.shQ cnt l)) ∧ w' = w := by
  by_cases h1 : l.length = cnt
  · subst h1
    have HI := Lib.hid (l11Weights_any A c l w 0 hn hr)
    cases h : Q.within 0 9 l
    · rw [h] at HI
      have HV := Lib.hid (Q.sh_no (cnt := l.length) (l := l) (by rw [Q.wt_len rfl]; exact h))
      generalize Q.shQ l.length l = V at HV ⊢
      clear h hr
      go_enter Try.func118, Try.ntmps118
      go_wp2_with (go_at_call 113; refine (HI.out).mono ?_; rintro e w' ⟨rfl, hw'⟩; subst hw')
      go_ret
      exact ⟨by rw [HV.out]; rfl, rfl⟩
    · rw [h] at HI
      have HT := Lib.hid (l11Sum_any A c l w 0 (Int.le_refl _) h hn hr)
      have HV := Lib.hid (Q.sh_yes (cnt := l.length) (l := l) (by rw [Q.wt_len rfl]; exact h))
      generalize Q.shQ l.length l = V at HV ⊢
      generalize Q.sumK l l.length = s at HT HV
      clear h hr
      go_enter Try.func118, Try.ntmps118
      go_wp2_with (first | (go_at_call 113; refine (HI.out).mono ?_; rintro e w' ⟨rfl, hw'⟩; subst hw') | (go_at_call 78; refine (HT.out).mono ?_; rintro e w' ⟨rfl, hw'⟩; subst hw'))
      go_ret
      exact ⟨by rw [HV.out]; rfl, rfl⟩
  · have heq : ((l.length : Int) == (cnt : Int)) = false := by simp; omega
    have hne2 : ¬ (l.length : Int) = (cnt : Int) := by omega
    have HV := Lib.hid (Q.sh_no (Q.wt_no (lo := 0) h1))
    generalize Q.shQ cnt l = V at HV ⊢
    clear h1 hr
    generalize l.length = n at *
    go_enter Try.func118, Try.ntmps118
    go_wp2
    go_ret
    exact ⟨by rw [HV.out]; rfl, rfl⟩
/-- The greatest of numbers of at least 0. -/
theorem Q.mostF {l : List Int} (h : ∀ z ∈ l, 0 ≤ z) : Lib.maxOf l = (l.foldl max 0) ∨ l = [] := by
  by_cases e : l = []
  · exact .inr e
  · left
    obtain ⟨h1, h2⟩ := Q.max_mem e
    have key : ∀ (l : List Int) (a : Int), (a ≤ l.foldl max a ∧ ∀ z ∈ l, z ≤ l.foldl max a) ∧ (l.foldl max a = a ∨ l.foldl max a ∈ l) := by
      intro l
      induction l with
      | nil => intro a; simp
      | cons y l ih =>
        intro a
        obtain ⟨⟨i1, i2⟩, i3⟩ := ih (max a y)
        refine ⟨⟨by show a ≤ l.foldl max (max a y); omega, fun z hz => ?_⟩, ?_⟩
        · show z ≤ l.foldl max (max a y)
          rcases List.mem_cons.1 hz with e | hz
          · omega
          · exact i2 z hz
        · show l.foldl max (max a y) = a ∨ l.foldl max (max a y) ∈ y :: l
          rcases i3 with h | h
          · rw [h]
            by_cases e : y ≤ a
            · exact .inl (by omega)
            · exact .inr (by rw [show max a y = y by omega]; exact List.mem_cons_self ..)
          · exact .inr (List.mem_cons_of_mem _ h)
    obtain ⟨⟨k1, k2⟩, k3⟩ := key l 0
    have a1 := k2 _ h1
    have a0 := h _ h1
    rcases k3 with h | h
    · omega
    · have := h2 _ h
      omega
theorem Q.foldmax_take (l : List Int) (k : Nat) (z : Int) (h : l[k]? = some z) : (l.take (k + 1)).foldl max 0 = max ((l.take k).foldl max 0) z := by
  rw [List.take_add_one, h]
  simp
set_option maxHeartbeats 400000 in
theorem l7Greatest_any (hn : l.length ≤ 1048576) (h0 : ∀ z ∈ l, 0 ≤ z) (h1 : l ≠ []) (hr : Law.Row w A (ivs l)) :
    Calls Try.prog 119 #[.slice A l.length c] w fun e w' => e = .returned (.int .i64 (Lib.maxOf l)) ∧ w' = w := by
  have HR := Lib.hid hr
  have HS := Lib.hid (Q.foldmax_take l)
  have HE : Hid ((l.take l.length).foldl max 0 = Lib.maxOf l) := by
    show _ = _
    rw [List.take_length]
    rcases Q.mostF h0 with h | h
    · exact h.symm
    · exact absurd h h1
  have HZ : Hid ((l.take 0).foldl max 0 = 0) := rfl
  have HK : Hid (∀ k, k < l.length → ∃ z, l[k]? = some z) := fun k hk => ⟨_, List.getElem?_eq_getElem hk⟩
  obtain ⟨K, hK⟩ : ∃ K : Nat → Int, ∀ k, (l.take k).foldl max 0 = K k := ⟨_, fun _ => rfl⟩
  simp only [hK] at HS HE HZ
  generalize Lib.maxOf l = V at HE ⊢
  have HM := Lib.hid fun x y W => l1Most_any x y W
  clear hr h0 h1 hK
  go_enter Try.func119, Try.ntmps119
  go_wp2
  go_loop [3, 4] (fun s i => ∃ k : Nat, k ≤ l.length ∧ i = .int .i64 (k : Int) ∧ s = .int .i64 (K k)) (fun _ i => l.length - (intOf i).toNat)
  case atStart => exact ⟨0, Nat.zero_le _, rfl, by rw [HZ.out]⟩
  case round =>
    obtain ⟨k, hk, rfl, rfl⟩ := hrel
    by_cases hlt : k < l.length
    · have hltI : (k : Int) < (l.length : Int) := by omega
      obtain ⟨z, hz⟩ := HK.out k hlt
      obtain ⟨b, off, rfl, hbl, hc⟩ := HR.out.at_ (ivs_some hz)
      have HN := Lib.hid (HS.out k z hz)
      clear hz hbl
      go_wp2_with (go_at_call 165; refine (HM.out _ _ _).mono ?_; rintro e w' ⟨rfl, hw'⟩; subst hw')
      go_round
      case rel => exact ⟨k + 1, by omega, by go_num, by rw [HN.out]⟩
      case measure => simp [intOf]; omega
    · have hke : k = l.length := by omega
      have hltI : ¬ (k : Int) < (l.length : Int) := by omega
      subst hke
      go_wp2
      go_ret
      exact ⟨by rw [← HE.out]; rfl, rfl⟩
end
namespace Q
theorem mx_no1 {M : List (List Int)} (h : ¬ (1 ≤ M.length ∧ M.length ≤ 3)) : mxQ M = false := by
  rw [Bool.eq_false_iff]
  intro e
  have := mx_iff.1 e
  exact h ⟨this.n1, this.n3⟩
theorem mx_no2 {M : List (List Int)} {l0 : List Int} (h0 : M[0]? = some l0) (h : ¬ (1 ≤ l0.length ∧ l0.length ≤ 3)) : mxQ M = false := by
  rw [Bool.eq_false_iff]
  intro e
  have := mx_iff.1 e
  rw [List.getD_eq_getElem?_getD, h0] at this
  exact h ⟨this.m1, this.m3⟩
theorem mx_no3 {M : List (List Int)} {l0 l : List Int} (h0 : M[0]? = some l0) (hl : l ∈ M) (h : ¬ (l.length = l0.length ∧ within 0 40 l = true)) : mxQ M = false := by
  rw [Bool.eq_false_iff]
  intro e
  have := mx_iff.1 e
  rw [List.getD_eq_getElem?_getD, h0] at this
  exact h (this.row l hl)
theorem mx_yes {M : List (List Int)} {l0 : List Int} (h0 : M[0]? = some l0) (h1 : 1 ≤ M.length ∧ M.length ≤ 3) (h2 : 1 ≤ l0.length ∧ l0.length ≤ 3) (h : ∀ j l, j < M.length → M[j]? = some l → l.length = l0.length ∧ within 0 40 l = true) : mxQ M = true := by
  rw [mx_iff, List.getD_eq_getElem?_getD, h0]
  exact ⟨h1.1, h1.2, h2.1, h2.2, fun l hl => by
    obtain ⟨j, hj, rfl⟩ := List.mem_iff_getElem.1 hl
    exact h j _ hj (List.getElem?_eq_getElem hj)⟩
end Q
section
variable (A : Option Addr) (c : Nat) (xs : List Value) (M : List (List Int)) (w : World)
set_option maxRecDepth 100000 in
set_option maxHeartbeats 1600000 in
theorem l11Matrix_any (hl : ∀ l ∈ M, l.length ≤ 1048576) (hn : M.length ≤ 1048576) (hM : NRow w A xs M) :
    Calls Try.prog 117 #[.slice A M.length c] w fun e w' => e = .returned (.bool (Q.mxQ M)) ∧ ∃ m, w' = w.drewN m := by
  have HI := Lib.hid fun x y z W => l1In_any x y z W
  by_cases h1 : 1 ≤ M.length ∧ M.length ≤ 3
  · have hb1 : (decide ((1 : Int) ≤ (M.length : Int)) && decide ((M.length : Int) ≤ 3)) = true := by simp; omega
    have HI1 := Lib.hid fun W => HI.out (M.length : Int) 1 3 W
    rw [hb1] at HI1
    obtain ⟨l0, hl0⟩ : ∃ l0, M[0]? = some l0 := ⟨_, List.getElem?_eq_getElem (by omega)⟩
    obtain ⟨b, off, X0, d0, rfl, hbb, hc0, _⟩ := hM.row_at hl0
    rw [Nat.add_zero] at hc0
    have h0I : (0 : Int) < (M.length : Int) := by omega
    by_cases h2 : 1 ≤ l0.length ∧ l0.length ≤ 3
    · have hb2 : (decide ((1 : Int) ≤ (l0.length : Int)) && decide ((l0.length : Int) ≤ 3)) = true := by simp; omega
      have HI2 := Lib.hid fun W => HI.out (l0.length : Int) 1 3 W
      rw [hb2] at HI2
      have HMd : Hid (∀ m, NRow (w.drewN m) (some ⟨b, off, none⟩) xs M) := fun m => hM.drewN m
      have HC0 : Hid (∀ m, (w.drewN m).cell? ⟨b, off, none⟩ = some (.slice X0 l0.length d0)) := fun m => hc0
      have HYes := Lib.hid (Q.mx_yes hl0 h1 h2)
      have HNo := Lib.hid fun l (hl : l ∈ M) => Q.mx_no3 hl0 hl
      generalize Q.mxQ M = V at HYes HNo ⊢
      have HLen := Lib.hid hl
      clear hl0 h1 hb1 hb2 hM hl
      obtain ⟨m0, hm0⟩ : ∃ m0, m0 = l0.length := ⟨_, rfl⟩
      rw [← hm0] at HI2 HC0 HYes HNo h2 hc0
      clear hm0
      have h29 := h2.2
      clear h2
      go_enter Try.func117, Try.ntmps117
      go_wp2_with fail
      go_at_call 83
      refine (HI1.out _).mono ?_
      rintro e w1 ⟨rfl, hw1⟩
      obtain rfl := hw1.symm
      clear hw1
      go_wp2_with fail
      go_at_call 83
      refine (HI2.out _).mono ?_
      rintro e w2 ⟨rfl, hw2⟩
      obtain rfl := hw2.symm
      clear hw2
      go_wp2_with fail
      clear hc0
      go_loopw [3] (fun i wr => ∃ k : Nat, k ≤ M.length ∧ i = .int .i64 (k : Int) ∧ Hid (∃ m, wr = w.drewN m) ∧ Hid (∀ j l, j < k → M[j]? = some l → l.length = m0 ∧ Q.within 0 40 l = true)) (fun i _ => M.length - (intOf i).toNat)
      case atStart => exact ⟨0, Nat.zero_le _, rfl, ⟨0, rfl⟩, fun j l hj => by omega⟩
      case round =>
        obtain ⟨k, hk, rfl, hw, hall⟩ := hrel
        have HPr : Hid (∀ m, ∃ q, wr.drewN m = w.drewN q) := fun m => by
          obtain ⟨q, e⟩ := hw.out
          rw [e]
          exact ⟨q + m, by simp⟩
        have HM2 : Hid (NRow wr (some ⟨b, off, none⟩) xs M) := by
          obtain ⟨q, e⟩ := hw.out
          rw [e]
          exact HMd.out q
        have hc0 : wr.cell? ⟨b, off, none⟩ = some (.slice X0 m0 d0) := by
          obtain ⟨q, e⟩ := hw.out
          rw [e]
          exact HC0.out q
        clear hw
        by_cases hlt : k < M.length
        · have hltI : (k : Int) < (M.length : Int) := by omega
          obtain ⟨l, hlk⟩ : ∃ l, M[k]? = some l := ⟨_, List.getElem?_eq_getElem hlt⟩
          obtain ⟨b1, o1, X, dX, e1, hbb, hc, hrow⟩ := HM2.out.row_at hlk
          cases e1
          by_cases hlen : l.length = m0
          · have hne : ((l.length : Int) != (m0 : Int)) = false := by simp [hlen]
            have HK := Lib.hid hlk
            have HRow := Lib.hid hrow
            have hll := HLen.out l (List.mem_of_getElem? hlk)
            have HLn := Lib.hid hlen
            rw [hlen] at hc hne
            clear hlk hrow
            go_wp2
            go_quiet (fail)
            go_wp2
            generalize hW : World.drewN wr _ = W at *
            have hcW : W.cell? ⟨b, off + k, none⟩ = some (.slice X m0 dX) := by rw [← hW]; exact hc
            have hc0W : W.cell? ⟨b, off, none⟩ = some (.slice X0 m0 d0) := by rw [← hW]; exact hc0
            have HRW : Hid (Law.Row W X (ivs l)) := by rw [← hW]; exact HRow.out.drewN _
            have HPW : Hid (∀ m, ∃ q, W.drewN m = w.drewN q) := fun m => by
              rw [← hW]
              obtain ⟨q, e⟩ := HPr.out 0
              have e0 : wr.drewN 0 = wr := rfl
              rw [e0] at e
              rw [e]
              exact ⟨_, by simp only [World.drewN_drewN]; rfl⟩
            clear hW hc hc0 HM2 HPr
            go_loop [4] (fun i => ∃ q : Nat, q ≤ m0 ∧ i = .int .i64 (q : Int) ∧ Hid (∀ z ∈ l.take q, Q.okW 0 40 z = true)) (fun i => m0 - (intOf i).toNat)
            case atStart => exact ⟨0, Nat.zero_le _, rfl, fun z hz => by simp at hz⟩
            case round =>
              obtain ⟨q, hq, rfl, hin⟩ := hrel
              by_cases hltq : q < m0
              · have hltqI : (q : Int) < (m0 : Int) := by omega
                have hql : q < l.length := by have := HLn.out; omega
                obtain ⟨b2, o2, rfl, hb2, hc2⟩ := HRW.out.at_ (ivs_at hql)
                have hm : l[q] ∈ l := List.getElem_mem hql
                have HN0 : Hid (Q.okW 0 40 l[q] = false → Q.within 0 40 l = false) := Q.within_not hm
                have HN1 : Hid (Q.okW 0 40 l[q] = true → ∀ z ∈ l.take (q + 1), Q.okW 0 40 z = true) := Q.within_next hql hin.out
                have HIq : Hid (∀ W, Calls Try.prog 83 #[.int .i64 l[q], .int .i64 0, .int .i64 40] W fun e w' => e = .returned (.bool (Q.okW 0 40 l[q])) ∧ w' = W) := fun W => HI.out l[q] 0 40 W
                clear hm
                obtain ⟨Z, hZ⟩ : ∃ Z, Z = l[q] := ⟨_, rfl⟩
                rw [← hZ] at HN0 HN1 HIq hc2
                clear hZ hb2 hql
                cases hz : Q.okW 0 40 Z
                · have HF := Lib.hid (HN0.out hz)
                  have HV : Hid (V = false) := HNo.out l (List.mem_of_getElem? HK.out) (fun h => by rw [HF.out] at h; exact absurd h.2 (by decide))
                  have hq0 := HPW.out 0
                  have e0 : W.drewN 0 = W := rfl
                  rw [e0] at hq0
                  have HQ := Lib.hid hq0
                  rw [hz] at HIq
                  clear HN0 HN1 hz hin hq0 e0
                  go_wp2_with (go_at_call 83; refine (HIq.out _).mono ?_; rintro e w' ⟨rfl, hw'⟩; obtain rfl := hw'.symm; clear hw')
                  go_ret
                  exact ⟨by rw [HV.out]; rfl, HQ.out⟩
                · have HN := Lib.hid (HN1.out hz)
                  rw [hz] at HIq
                  clear HN0 HN1 hz hin
                  go_wp2_with (go_at_call 83; refine (HIq.out _).mono ?_; rintro e w' ⟨rfl, hw'⟩; obtain rfl := hw'.symm; clear hw')
                  go_round
                  case rel => exact ⟨q + 1, by omega, by go_num, HN.out⟩
                  case measure => simp [intOf]; omega
              · have hqe : q = m0 := by omega
                have hltqI : ¬ (q : Int) < (m0 : Int) := by omega
                have HA : Hid (∀ j l, j < k + 1 → M[j]? = some l → l.length = m0 ∧ Q.within 0 40 l = true) := fun j l' hj hl' => by
                  by_cases e : j = k
                  · subst e
                    rw [HK.out] at hl'
                    cases hl'
                    exact ⟨HLn.out, Q.within_all (by rw [HLn.out, ← hqe]; exact hin.out)⟩
                  · exact hall.out j l' (by omega) hl'
                have hq0 := HPW.out 0
                have e0 : W.drewN 0 = W := rfl
                rw [e0] at hq0
                have HQ := Lib.hid hq0
                clear hqe hq0 e0 hin
                go_wp2
                go_roundw
                case rel => exact ⟨k + 1, by omega, by go_num, HQ.out, HA.out⟩
                case measure => simp [intOf]; omega
          · have hne : ((l.length : Int) != (m0 : Int)) = true := by simp; omega
            have hne2 : ¬ (l.length : Int) = (m0 : Int) := by omega
            have HV : Hid (V = false) := HNo.out l (List.mem_of_getElem? hlk) (fun h => hlen h.1)
            clear hlk hrow hall hlen
            generalize l.length = ln at *
            go_wp2
            go_quiet (fail)
            go_wp2
            go_ret
            exact ⟨by rw [HV.out]; rfl, HPr.out _⟩
        · have hke : k = M.length := by omega
          have hltI : ¬ (k : Int) < (M.length : Int) := by omega
          have HV : Hid (V = true) := HYes.out fun j l hj hl => hall.out j l (by omega) hl
          have hq0 := HPr.out 0
          have e0 : wr.drewN 0 = wr := rfl
          rw [e0] at hq0
          have HQ := Lib.hid hq0
          clear hke hall hq0 e0
          go_wp2
          go_ret
          exact ⟨by rw [HV.out]; rfl, HQ.out⟩
    · have hb2 : (decide ((1 : Int) ≤ (l0.length : Int)) && decide ((l0.length : Int) ≤ 3)) = false := by rw [Bool.and_eq_false_iff, decide_eq_false_iff_not, decide_eq_false_iff_not]; omega
      have HI2 := Lib.hid fun W => HI.out (l0.length : Int) 1 3 W
      rw [hb2] at HI2
      have HV := Lib.hid (Q.mx_no2 hl0 h2)
      generalize Q.mxQ M = V at HV ⊢
      clear hl0 h1 hb1 hb2 hM hl h2
      generalize l0.length = m0 at *
      go_enter Try.func117, Try.ntmps117
      go_wp2_with fail
      go_at_call 83
      refine (HI1.out _).mono ?_
      rintro e w1 ⟨rfl, hw1⟩
      obtain rfl := hw1.symm
      clear hw1
      go_wp2_with fail
      go_at_call 83
      refine (HI2.out _).mono ?_
      rintro e w2 ⟨rfl, hw2⟩
      obtain rfl := hw2.symm
      clear hw2
      go_wp2
      go_ret
      exact ⟨by rw [HV.out]; rfl, 0, rfl⟩
  · have hb1 : (decide ((1 : Int) ≤ (M.length : Int)) && decide ((M.length : Int) ≤ 3)) = false := by rw [Bool.and_eq_false_iff, decide_eq_false_iff_not, decide_eq_false_iff_not]; omega
    have HI1 := Lib.hid fun W => HI.out (M.length : Int) 1 3 W
    rw [hb1] at HI1
    have HV := Lib.hid (Q.mx_no1 h1)
    generalize Q.mxQ M = V at HV ⊢
    clear h1 hb1 hM hl
    generalize M.length = n at *
    go_enter Try.func117, Try.ntmps117
    go_wp2_with fail
    go_at_call 83
    refine (HI1.out _).mono ?_
    rintro e w1 ⟨rfl, hw1⟩
    obtain rfl := hw1.symm
    clear hw1
    go_wp2
    go_ret
    exact ⟨by rw [HV.out]; rfl, 0, rfl⟩
end
end Go.Proofs.Ytammlkaclooohaa
