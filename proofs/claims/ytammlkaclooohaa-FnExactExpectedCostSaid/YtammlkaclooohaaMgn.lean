/-
  IsProblem: both sides. IsProblem: the code's side, and both as the law asks. Where the numbers of a problem lie.
-/
import Derived.Test.YtammlkaclooohaaPrm
import Derived.Test.YtammlkaclooohaaDia
import Derived.BigQuiet
/- IsProblem: both sides. -/
namespace Go.Proofs.Ytammlkaclooohaa
open Go.RowKit
set_option linter.unusedVariables false
namespace Q
theorem srvR_no_in {n : Nat} {l : List Int} {z : Int} (hm : z ∈ l) (h : okW (-1) 20 z = false) : srvR n l = false := by
  rw [Bool.eq_false_iff]
  intro hs
  have := within_not hm h
  rw [(srvR_iff.1 hs).2.1] at this
  cases this
theorem srvR_of {n : Nat} {l : List Int} {c : Bool} (ha : ∀ z ∈ l.take l.length, okW (-1) 20 z = true) (hc : c = (l.take l.length).any fun z => decide (0 ≤ z)) : srvR n l = (decide (l.length = n) && c) := by
  have h1 := within_all ha
  rw [List.take_length] at hc
  rw [srvR, h1, hc, Bool.true_and]
theorem any_next {l : List Int} {k : Nat} {x : Int} (h : l[k]? = some x) : ((l.take (k + 1)).any fun z => decide (0 ≤ z)) = (((l.take k).any fun z => decide (0 ≤ z)) || decide (0 ≤ x)) := by
  obtain ⟨hl, e⟩ := List.getElem?_eq_some_iff.1 h
  rw [List.take_succ_eq_append_getElem hl, e]
  simp
theorem max_srv {l : List Int} (h : within (-1) 20 l = true) (hl : 1 ≤ l.length) : (Lib.maxOf l = -1) ↔ (l.any fun z => decide (0 ≤ z)) = false := by
  have hne : l ≠ [] := by intro e; rw [e] at hl; simp at hl
  obtain ⟨h1, h2⟩ := max_mem hne
  constructor
  · intro e
    rw [Bool.eq_false_iff]
    intro ha
    obtain ⟨z, hz, h0⟩ := List.any_eq_true.1 ha
    have := h2 z hz
    simp at h0
    omega
  · intro e
    have := List.all_eq_true.1 h _ h1
    simp only [okW, Bool.and_eq_true, decide_eq_true_eq] at this
    by_cases h3 : 0 ≤ Lib.maxOf l
    · have : (l.any fun z => decide (0 ≤ z)) = true := List.any_eq_true.2 ⟨_, h1, by simpa using h3⟩
      rw [e] at this
      cases this
    · omega
theorem prQ_no1 {L S : List (List Int)} (h : ¬ L.length ≤ 4) : prQ L S = false := by simp [prQ, h]
theorem prQ_no2 {L S : List (List Int)} (h : metQ L = false) : prQ L S = false := by simp [prQ, h]
theorem prQ_no3 {L S : List (List Int)} (h : ¬ (1 ≤ S.length ∧ S.length ≤ 4)) : prQ L S = false := by
  have : (decide (1 ≤ S.length) && decide (S.length ≤ 4)) = false := by rw [Bool.eq_false_iff]; simpa using h
  simp only [prQ, this, Bool.false_and, Bool.and_false]
theorem prQ_no4 {L S : List (List Int)} {l : List Int} (hl : l ∈ S) (h : srvR L.length l = false) : prQ L S = false := by
  rw [Bool.eq_false_iff]
  intro hp
  have := (pr_iff.1 hp).row l hl
  rw [h] at this
  cases this
theorem prQ_yes {L S : List (List Int)} (h1 : L.length ≤ 4) (h2 : metQ L = true) (h3 : 1 ≤ S.length) (h4 : S.length ≤ 4) (h5 : ∀ j l, j < S.length → S[j]? = some l → srvR L.length l = true) : prQ L S = true :=
  pr_iff.2 ⟨h2, (metQ_sqr h2).2.1.1, h1, (metQ_sqr h2).2.2, h3, h4, fun l hl => by
    obtain ⟨j, hj, rfl⟩ := List.mem_iff_getElem.1 hl
    exact h5 j _ hj (List.getElem?_eq_getElem hj)⟩
end Q
set_option maxHeartbeats 800000 in
theorem l8Req_any (n : Nat) (A : Option Addr) (c : Nat) (zs : List Int) (w : World) (hn : zs.length ≤ 1048576) (hr : Law.Row w A (ivs zs)) :
    Calls Try.prog 150 #[.int .i64 (n : Int), .slice A zs.length c] w fun e w' => e = .returned (.bool (Q.srvR n zs)) ∧ w' = w := by
  have HR := Lib.hid hr
  clear hr
  go_enter Try.func150, Try.ntmps150
  go_wp2
  go_loop [5, 6] (fun cn i => ∃ (k : Nat) (cb : Bool), k ≤ zs.length ∧ i = .int .i64 (k : Int) ∧ cn = .bool cb ∧ Hid (cb = (zs.take k).any fun z => decide (0 ≤ z)) ∧ Hid (∀ z ∈ zs.take k, Q.okW (-1) 20 z = true)) (fun _ i => zs.length - (intOf i).toNat)
  case atStart => exact ⟨0, false, Nat.zero_le _, rfl, rfl, by show _ = _; simp, fun z hz => by simp at hz⟩
  case round =>
    obtain ⟨k, cb, hk, rfl, rfl, hcb, hall⟩ := hrel
    by_cases hlt : k < zs.length
    · obtain ⟨b, off, rfl, hbl, hc⟩ := HR.out.at_ (ivs_at hlt)
      have hltI : (k : Int) < (zs.length : Int) := by omega
      have hm : zs[k] ∈ zs := List.getElem_mem hlt
      have HN0 : Hid (Q.okW (-1) 20 zs[k] = false → Q.srvR n zs = false) := Q.srvR_no_in hm
      have HN1 : Hid (Q.okW (-1) 20 zs[k] = true → ∀ z ∈ zs.take (k + 1), Q.okW (-1) 20 z = true) := Q.within_next hlt hall.out
      have HN2 : Hid (((zs.take (k + 1)).any fun z => decide (0 ≤ z)) = (((zs.take k).any fun z => decide (0 ≤ z)) || decide (0 ≤ zs[k]))) := Q.any_next (List.getElem?_eq_getElem hlt)
      clear hm hall
      obtain ⟨Z, hZ⟩ : ∃ Z, Z = zs[k] := ⟨_, rfl⟩
      rw [← hZ] at HN0 HN1 HN2 hc
      clear hZ
      have HI := Lib.hid fun W => l1In_any Z (-1) 20 W
      have HO : Hid (Q.okW (-1) 20 Z = (decide (-1 ≤ Z) && decide (Z ≤ 20))) := rfl
      generalize (decide (-1 ≤ Z) && decide (Z ≤ 20)) = ok at HI HO
      cases ok
      · have HN := Lib.hid (HN0.out HO.out)
        clear HN0 HN1 HN2 HO hcb
        go_wp2_with (go_at_call 83; refine (HI.out _).mono ?_; rintro e w' ⟨rfl, hw'⟩; subst hw')
        go_ret
        exact ⟨by rw [HN.out]; rfl, rfl⟩
      · have HA := Lib.hid (HN1.out HO.out)
        clear HN0 HN1 HO
        by_cases h0 : 0 ≤ Z
        · have HC : Hid (true = (zs.take (k + 1)).any fun z => decide (0 ≤ z)) := by show _ = _; rw [HN2.out]; simp [h0]
          clear HN2 hcb
          cases cb
          all_goals
            go_wp2_with (go_at_call 83; refine (HI.out _).mono ?_; rintro e w' ⟨rfl, hw'⟩; subst hw')
            go_round
            case rel => exact ⟨k + 1, true, by omega, by go_num, rfl, HC.out, HA.out⟩
            case measure => simp [intOf]; omega
        · have HC : Hid (cb = (zs.take (k + 1)).any fun z => decide (0 ≤ z)) := by show _ = _; rw [HN2.out, ← hcb.out]; simp [h0]
          clear HN2 hcb
          cases cb
          all_goals
            go_wp2_with (go_at_call 83; refine (HI.out _).mono ?_; rintro e w' ⟨rfl, hw'⟩; subst hw')
            go_round
            case rel => exact ⟨k + 1, _, by omega, by go_num, rfl, (by first | exact HC.out | (show _ = _; rw [← HC.out]; simp only [decide_eq_false_iff_not]; omega)), HA.out⟩
            case measure => simp [intOf]; omega
    · have hke : k = zs.length := by omega
      have hltI : ¬ (k : Int) < (zs.length : Int) := by omega
      have HS : Hid (Q.srvR n zs = (decide (zs.length = n) && cb)) := Q.srvR_of (by rw [← hke]; exact hall.out) (by rw [← hke]; exact hcb.out)
      clear hke hcb hall
      by_cases hz : zs.length = n
      · have hz' : ((zs.length : Int) == (n : Int)) = true := by simp [hz]
        have hz2 : Hid (Q.srvR n zs = cb) := by show _ = _; rw [HS.out, decide_eq_true hz, Bool.true_and]
        have hz3 : (zs.length : Int) = (n : Int) := by omega
        clear HS hz
        go_wp2
        go_ret
        exact ⟨by rw [hz2.out]; rfl, rfl⟩
      · have hz' : ((zs.length : Int) == (n : Int)) = false := by simp; omega
        have hz3 : ¬ (zs.length : Int) = (n : Int) := by omega
        have hz2 : Hid (Q.srvR n zs = false) := by show _ = _; rw [HS.out, decide_eq_false hz, Bool.false_and]
        clear HS hz
        go_wp2
        go_ret
        exact ⟨by rw [hz2.out]; first | rfl | simp, rfl⟩
set_option maxHeartbeats 1600000 in
theorem l8Good_any (A : Option Addr) (c : Nat) (xs : List Value) (L : List (List Int)) (B : Option Addr) (d : Nat) (ys : List Value) (S : List (List Int)) (w : World) (hll : ∀ l ∈ S, l.length ≤ 1048576) (hL : NRow w A xs L) (hS : NRow w B ys S) :
    Calls Try.prog 90 #[pv A L.length c B S.length d] w fun e w' => e = .returned (.bool (Q.prQ L S)) ∧ Below w.heap.size w w' := by
  have HP := Lib.hid (PIn.start (c := c) (d := d) hL hS 35)
  have HI := Lib.hid fun W => l1In_any L.length 1 4 W
  have HJ := Lib.hid fun W => l1In_any S.length 1 4 W
  have HG := Lib.hid fun (W : World) (h : NRow W A xs L) => l6Good_any A c xs L W h
  have HLL := Lib.hid hll
  clear hL hS hll
  by_cases h1 : 1 ≤ L.length ∧ L.length ≤ 4
  · rw [show (decide ((1 : Int) ≤ (L.length : Int)) && decide ((L.length : Int) ≤ 4)) = true by simp; omega] at HI
    cases hg : Q.metQ L
    · rw [hg] at HG
      have HN := Lib.hid (Q.prQ_no2 (S := S) hg)
      clear hg
      go_enter Try.func90, Try.ntmps90
      go_wp2_with fail
      generalize w.alloc (.cells #[.slice A L.length c, .slice B S.length d] 35) = wa at HP ⊢
      obtain ⟨p0, p1, _, _, _⟩ := HP.out.bk
      go_wp2_with fail
      go_at_call 83
      refine (HI.out _).mono ?_
      rintro e w' ⟨rfl, hw'⟩
      obtain rfl := hw'.symm
      clear hw'
      go_wp2_with fail
      go_at_call 149
      refine (HG.out _ HP.out.mv).mono ?_
      rintro e w1 ⟨rfl, hb⟩
      have HP1 := Lib.hid (HP.out.on hb)
      clear p0 p1 hb
      obtain ⟨p0, p1, _, _, _⟩ := HP1.out.bk
      go_wp2
      go_ret
      exact ⟨by rw [HN.out]; first | rfl | simp, HP1.out.bl⟩
    · rw [hg] at HG
      by_cases h2 : 1 ≤ S.length ∧ S.length ≤ 4
      · rw [show (decide ((1 : Int) ≤ (S.length : Int)) && decide ((S.length : Int) ≤ 4)) = true by simp; omega] at HJ
        have HYes := Lib.hid (Q.prQ_yes (S := S) h1.2 hg h2.1 h2.2)
        have hS4 := h2.2
        have hL4 := h1.2
        have hL1 := h1.1
        clear hg h1 h2
        go_enter Try.func90, Try.ntmps90
        go_wp2_with fail
        generalize w.alloc (.cells #[.slice A L.length c, .slice B S.length d] 35) = wa at HP ⊢
        obtain ⟨p0, p1, _, _, _⟩ := HP.out.bk
        go_wp2_with fail
        go_at_call 83
        refine (HI.out _).mono ?_
        rintro e w' ⟨rfl, hw'⟩
        obtain rfl := hw'.symm
        clear hw'
        go_wp2_with fail
        go_at_call 149
        refine (HG.out _ HP.out.mv).mono ?_
        rintro e w1 ⟨rfl, hb⟩
        have HP1 := Lib.hid (HP.out.on hb)
        clear p0 p1 hb
        obtain ⟨p0, p1, _, _, _⟩ := HP1.out.bk
        go_wp2_with fail
        go_at_call 83
        refine (HJ.out _).mono ?_
        rintro e w' ⟨rfl, hw'⟩
        obtain rfl := hw'.symm
        clear hw'
        go_wp2_with fail
        clear p0 p1
        go_loopw [3] (fun i wr => ∃ k : Nat, k ≤ S.length ∧ i = .int .i64 (k : Int) ∧ Hid (PIn w wr A c xs L B d ys S) ∧ Hid (∀ j l, j < k → S[j]? = some l → Q.srvR L.length l = true)) (fun i _ => S.length - (intOf i).toNat)
        case atStart => exact ⟨0, Nat.zero_le _, rfl, HP1.out, fun j l hj => by omega⟩
        case round =>
          obtain ⟨k, hk, rfl, hp, hall⟩ := hrel
          obtain ⟨p0, p1, _, _, _⟩ := hp.out.bk
          by_cases hlt : k < S.length
          · have hltI : (k : Int) < (S.length : Int) := by omega
            obtain ⟨l, hl⟩ : ∃ l, S[k]? = some l := ⟨_, List.getElem?_eq_getElem hlt⟩
            obtain ⟨b, off, X, dX, rfl, hb, hc, hrX⟩ := hp.out.sv.row_at hl
            have HR := Lib.hid fun (m : Nat) => l8Req_any L.length X dX l (wr.drewN m) (HLL.out l (List.mem_of_getElem? hl)) (hrX.drewN m)
            cases hs : Q.srvR L.length l
            · rw [hs] at HR
              have HN := Lib.hid (Q.prQ_no4 (List.mem_of_getElem? hl) hs)
              have HB := Lib.hid fun m => Law.up hp.out.bl m
              clear hl hs hrX hall
              go_wp2
              go_quiet ((go_at_call 150; exact Calls.quiet_of_same (HR.out _)))
              go_wp2
              go_ret
              exact ⟨by rw [HN.out]; first | rfl | simp, HB.out _⟩
            · rw [hs] at HR
              have HA : Hid (∀ j l, j < k + 1 → S[j]? = some l → Q.srvR L.length l = true) := fun j l' hj hl' => by
                by_cases e : j = k
                · subst e
                  rw [hl] at hl'
                  cases hl'
                  exact hs
                · exact hall.out j l' (by omega) hl'
              have HB := Lib.hid fun m => hp.out.drewN m
              clear hl hs hrX hall
              go_wp2
              go_quiet ((go_at_call 150; exact Calls.quiet_of_same (HR.out _)))
              go_wp2
              go_roundw
              case rel => exact ⟨k + 1, by omega, by go_num, HB.out _, HA.out⟩
              case measure => simp [intOf]; omega
          · have hke : k = S.length := by omega
            have hltI : ¬ (k : Int) < (S.length : Int) := by omega
            have HN := Lib.hid (HYes.out (fun j l hj hl => hall.out j l (by omega) hl))
            have HB := Lib.hid hp.out.bl
            clear hke hall
            go_wp2
            go_ret
            exact ⟨by rw [HN.out]; rfl, HB.out⟩
      · rw [show (decide ((1 : Int) ≤ (S.length : Int)) && decide ((S.length : Int) ≤ 4)) = false by rw [Bool.eq_false_iff]; simp; omega] at HJ
        have HN := Lib.hid (Q.prQ_no3 (L := L) h2)
        clear hg h1 h2
        go_enter Try.func90, Try.ntmps90
        go_wp2_with fail
        generalize w.alloc (.cells #[.slice A L.length c, .slice B S.length d] 35) = wa at HP ⊢
        obtain ⟨p0, p1, _, _, _⟩ := HP.out.bk
        go_wp2_with fail
        go_at_call 83
        refine (HI.out _).mono ?_
        rintro e w' ⟨rfl, hw'⟩
        obtain rfl := hw'.symm
        clear hw'
        go_wp2_with fail
        go_at_call 149
        refine (HG.out _ HP.out.mv).mono ?_
        rintro e w1 ⟨rfl, hb⟩
        have HP1 := Lib.hid (HP.out.on hb)
        clear p0 p1 hb
        obtain ⟨p0, p1, _, _, _⟩ := HP1.out.bk
        go_wp2_with fail
        go_at_call 83
        refine (HJ.out _).mono ?_
        rintro e w' ⟨rfl, hw'⟩
        obtain rfl := hw'.symm
        clear hw'
        go_wp2
        go_ret
        exact ⟨by rw [HN.out]; first | rfl | simp, HP1.out.bl⟩
  · rw [show (decide ((1 : Int) ≤ (L.length : Int)) && decide ((L.length : Int) ≤ 4)) = false by rw [Bool.eq_false_iff]; simp; omega] at HI
    have HN : Hid (Q.prQ L S = false) := by
      show _ = _
      rw [Bool.eq_false_iff]
      intro h
      have := Q.pr_iff.1 h
      exact h1 ⟨this.n1, this.n4⟩
    clear h1
    go_enter Try.func90, Try.ntmps90
    go_wp2_with fail
    generalize w.alloc (.cells #[.slice A L.length c, .slice B S.length d] 35) = wa at HP ⊢
    obtain ⟨p0, p1, _, _, _⟩ := HP.out.bk
    go_wp2_with fail
    go_at_call 83
    refine (HI.out _).mono ?_
    rintro e w' ⟨rfl, hw'⟩
    obtain rfl := hw'.symm
    clear hw'
    go_wp2
    go_ret
    exact ⟨by rw [HN.out]; first | rfl | simp, HP.out.bl⟩
end Go.Proofs.Ytammlkaclooohaa

/- IsProblem: the code's side, and both as the law asks. -/
namespace Go.Proofs.Ytammlkaclooohaa
open Go.RowKit
set_option linter.unusedVariables false
theorem Q.srvR_split {n : Nat} {l : List Int} (h : Q.srvR n l = false) : ¬ l.length = n ∨ (l.length = n ∧ Q.within (-1) 20 l = false) ∨ (l.length = n ∧ Q.within (-1) 20 l = true ∧ (l.any fun z => decide (0 ≤ z)) = false) := by
  by_cases h1 : l.length = n
  · cases h2 : Q.within (-1) 20 l
    · exact .inr (.inl ⟨h1, rfl⟩)
    · cases h3 : (l.any fun z => decide (0 ≤ z))
      · exact .inr (.inr ⟨h1, rfl, rfl⟩)
      · rw [Q.srvR, decide_eq_true h1, h2, h3] at h
        cases h
  · exact .inl h1
set_option maxHeartbeats 1600000 in
theorem impPr_any (A : Option Addr) (c : Nat) (xs : List Value) (L : List (List Int)) (B : Option Addr) (d : Nat) (ys : List Value) (S : List (List Int)) (w : World) (hlL : ∀ l ∈ L, l.length ≤ 1048576) (hlS : ∀ l ∈ S, l.length ≤ 1048576) (hL : NRow w A xs L) (hS : NRow w B ys S) :
    Calls Try.prog 92 #[pv A L.length c B S.length d] w fun e w' => e = .returned (.bool (Q.prQ L S)) ∧ Below w.heap.size w w' := by
  have HP := Lib.hid (PIn.start (c := c) (d := d) hL hS 35)
  have HG := Lib.hid fun (W : World) (h : NRow W A xs L) => impMet_any A c xs L W hlL h
  have HLL := Lib.hid hlS
  clear hL hS hlL hlS
  by_cases h1 : L.length ≤ 4
  · have h1I : ¬ (4 : Int) < (L.length : Int) := by omega
    cases hg : Q.metQ L
    · rw [hg] at HG
      have HN := Lib.hid (Q.prQ_no2 (S := S) hg)
      clear hg
      go_enter Try.func92, Try.ntmps92
      go_wp2_with fail
      generalize w.alloc (.cells #[.slice A L.length c, .slice B S.length d] 35) = wa at HP ⊢
      obtain ⟨p0, p1, _, _, _⟩ := HP.out.bk
      go_wp2_with fail
      go_at_call 151
      refine (HG.out _ HP.out.mv).mono ?_
      rintro e w1 ⟨rfl, hb⟩
      have HP1 := Lib.hid (HP.out.on hb)
      clear p0 p1 hb
      obtain ⟨p0, p1, _, _, _⟩ := HP1.out.bk
      go_wp2
      go_ret
      exact ⟨by rw [HN.out]; first | rfl | simp, HP1.out.bl⟩
    · rw [hg] at HG
      by_cases h2 : 1 ≤ S.length ∧ S.length ≤ 4
      · have HYes := Lib.hid (Q.prQ_yes (S := S) h1 hg h2.1 h2.2)
        have hS4 := h2.2
        have hS1I : ¬ (S.length : Int) < 1 := by omega
        have hS4I : ¬ (4 : Int) < (S.length : Int) := by omega
        have hL1 := (Q.metQ_sqr hg).2.1.1
        clear hg h2
        go_enter Try.func92, Try.ntmps92
        go_wp2_with fail
        generalize w.alloc (.cells #[.slice A L.length c, .slice B S.length d] 35) = wa at HP ⊢
        obtain ⟨p0, p1, _, _, _⟩ := HP.out.bk
        go_wp2_with fail
        go_at_call 151
        refine (HG.out _ HP.out.mv).mono ?_
        rintro e w1 ⟨rfl, hb⟩
        have HP1 := Lib.hid (HP.out.on hb)
        clear p0 p1 hb
        obtain ⟨p0, p1, _, _, _⟩ := HP1.out.bk
        go_wp2_with fail
        go_loop [29] (fun i => ∃ k : Nat, k ≤ S.length ∧ i = .int .i64 (k : Int) ∧ Hid (∀ j l, j < k → S[j]? = some l → Q.srvR L.length l = true)) (fun i => S.length - (intOf i).toNat)
        case atStart => exact ⟨0, Nat.zero_le _, rfl, fun j l hj => by omega⟩
        case round =>
          obtain ⟨k, hk, rfl, hall⟩ := hrel
          by_cases hlt : k < S.length
          · have hltI : (k : Int) < (S.length : Int) := by omega
            obtain ⟨l, hl⟩ : ∃ l, S[k]? = some l := ⟨_, List.getElem?_eq_getElem hlt⟩
            have hll := HLL.out l (List.mem_of_getElem? hl)
            obtain ⟨b, off, X, dX, rfl, hb, hc, hrX⟩ := HP1.out.sv.row_at hl
            have HW := Lib.hid (isWithin_any X dX l (-1) 20 w1 hll hrX)
            have HMx := Lib.hid fun h1 => max_row (c := dX) hrX h1 hll
            cases hs : Q.srvR L.length l
            · have HN := Lib.hid (Q.prQ_no4 (List.mem_of_getElem? hl) hs)
              have HB := Lib.hid HP1.out.bl
              rcases Q.srvR_split hs with h3 | ⟨h3, h4⟩ | ⟨h3, h4, h5⟩
              · have hne : ((l.length : Int) != (L.length : Int)) = true := by simp; omega
                have hne2 : ¬ (l.length : Int) = (L.length : Int) := by omega
                clear hl hs hrX hall h3 HW HMx
                generalize l.length = ln at hne hne2 hc
                go_wp2
                go_ret
                exact ⟨by rw [HN.out]; first | rfl | simp, HB.out⟩
              · rw [h4] at HW
                rw [h3] at HW hc
                clear hl hs hrX hall h3 h4 HMx
                go_wp2_with (go_at_call 152; refine (HW.out).mono ?_; rintro e w' ⟨rfl, hw'⟩; subst hw')
                go_ret
                exact ⟨by rw [HN.out]; first | rfl | simp, HB.out⟩
              · rw [h4] at HW
                have HM2 := Lib.hid (HMx.out (by omega))
                rw [(Q.max_srv h4 (by omega)).2 h5] at HM2
                rw [h3] at HW HM2 hc
                clear hl hs hrX hall h3 h4 h5 HMx
                go_wp2_with (first | (go_at_call 152; refine (HW.out).mono ?_; rintro e w' ⟨rfl, hw'⟩; subst hw') | (go_at_call 122; refine (HM2.out).mono ?_; rintro e w' ⟨rfl, hw'⟩; subst hw'))
                go_ret
                exact ⟨by rw [HN.out]; first | rfl | simp, HB.out⟩
            · have HA : Hid (∀ j l, j < k + 1 → S[j]? = some l → Q.srvR L.length l = true) := fun j l' hj hl' => by
                by_cases e : j = k
                · subst e
                  rw [hl] at hl'
                  cases hl'
                  exact hs
                · exact hall.out j l' (by omega) hl'
              obtain ⟨h3, h4, z, hz, h0⟩ := Q.srvR_iff.1 hs
              rw [h4] at HW
              have HM2 := Lib.hid (HMx.out (by omega))
              have hmx : ¬ Lib.maxOf l = -1 := fun e => by
                have := (Q.max_srv h4 (by omega)).1 e
                rw [List.any_eq_false] at this
                exact this z hz (by simpa using h0)
              have hmb : (Lib.maxOf l == -1) = false := by simpa using hmx
              rw [h3] at HW HM2 hc
              generalize Lib.maxOf l = M at HM2 hmx hmb
              clear hl hs hrX hall h3 h4 HMx hz h0
              go_wp2_with (first | (go_at_call 152; refine (HW.out).mono ?_; rintro e w' ⟨rfl, hw'⟩; subst hw') | (go_at_call 122; refine (HM2.out).mono ?_; rintro e w' ⟨rfl, hw'⟩; subst hw'))
              go_round
              case rel => exact ⟨k + 1, by omega, by go_num, HA.out⟩
              case measure => simp [intOf]; omega
          · have hke : k = S.length := by omega
            have hltI : ¬ (k : Int) < (S.length : Int) := by omega
            have HN := Lib.hid (HYes.out (fun j l hj hl => hall.out j l (by omega) hl))
            have HB := Lib.hid HP1.out.bl
            clear hke hall
            go_wp2
            go_ret
            exact ⟨by rw [HN.out]; rfl, HB.out⟩
      · have HN := Lib.hid (Q.prQ_no3 (L := L) h2)
        clear hg
        by_cases h3 : S.length < 1
        · have h3I : (S.length : Int) < 1 := by omega
          clear h2
          go_enter Try.func92, Try.ntmps92
          go_wp2_with fail
          generalize w.alloc (.cells #[.slice A L.length c, .slice B S.length d] 35) = wa at HP ⊢
          obtain ⟨p0, p1, _, _, _⟩ := HP.out.bk
          go_wp2_with fail
          go_at_call 151
          refine (HG.out _ HP.out.mv).mono ?_
          rintro e w1 ⟨rfl, hb⟩
          have HP1 := Lib.hid (HP.out.on hb)
          clear p0 p1 hb
          obtain ⟨p0, p1, _, _, _⟩ := HP1.out.bk
          go_wp2
          go_ret
          exact ⟨by rw [HN.out]; first | rfl | simp, HP1.out.bl⟩
        · have h3I : ¬ (S.length : Int) < 1 := by omega
          have h4I : (4 : Int) < (S.length : Int) := by omega
          clear h2 h3
          go_enter Try.func92, Try.ntmps92
          go_wp2_with fail
          generalize w.alloc (.cells #[.slice A L.length c, .slice B S.length d] 35) = wa at HP ⊢
          obtain ⟨p0, p1, _, _, _⟩ := HP.out.bk
          go_wp2_with fail
          go_at_call 151
          refine (HG.out _ HP.out.mv).mono ?_
          rintro e w1 ⟨rfl, hb⟩
          have HP1 := Lib.hid (HP.out.on hb)
          clear p0 p1 hb
          obtain ⟨p0, p1, _, _, _⟩ := HP1.out.bk
          go_wp2
          go_ret
          exact ⟨by rw [HN.out]; first | rfl | simp, HP1.out.bl⟩
  · have h1I : (4 : Int) < (L.length : Int) := by omega
    have HN := Lib.hid (Q.prQ_no1 (S := S) h1)
    clear h1
    go_enter Try.func92, Try.ntmps92
    go_wp2_with fail
    generalize w.alloc (.cells #[.slice A L.length c, .slice B S.length d] 35) = wa at HP ⊢
    obtain ⟨p0, p1, _, _, _⟩ := HP.out.bk
    go_wp2
    go_ret
    exact ⟨by rw [HN.out]; first | rfl | simp, HP.out.bl⟩
end Go.Proofs.Ytammlkaclooohaa

/- Where the numbers of a problem lie. -/
namespace Go.Proofs.Ytammlkaclooohaa
open Go.RowKit
set_option linter.unusedVariables false
/-- The cells of a table: L's rows, all n long, behind ⟨b, off⟩. -/
def Tab (W : World) (b off n : Nat) (L : List (List Int)) : Prop :=
  ∀ x, x < L.length → ∃ b' o' d, W.cell? ⟨b, off + x, none⟩ = some (.slice (some ⟨b', o', none⟩) n d) ∧ ∀ y, y < n → W.cell? ⟨b', o' + y, none⟩ = some (.int .i64 (Q.dst L x y))
theorem NRow.tab {w : World} {b off n : Nat} {xs : List Value} {L : List (List Int)} (h : NRow w (some ⟨b, off, none⟩) xs L) (hs : ∀ l ∈ L, l.length = n) (hn : 1 ≤ n) : Tab w b off n L := fun x hx => by
  obtain ⟨b1, o1, b', o', d, e, _, hc, _, _⟩ := h.ent hs hx (y := 0) (by omega)
  cases e
  refine ⟨b', o', d, hc, fun y hy => ?_⟩
  obtain ⟨b2, o2, b3, o3, d3, e, _, hc3, _, hv⟩ := h.ent hs hx hy
  cases e
  rw [hc] at hc3
  cases hc3
  exact hv
theorem NRow.some_ {w : World} {A : Option Addr} {xs : List Value} {L : List (List Int)} (h : NRow w A xs L) (hL : 1 ≤ L.length) : ∃ b off, A = some ⟨b, off, none⟩ := by
  obtain ⟨b, off, B, d, e, _⟩ := h.row_at (List.getElem?_eq_getElem (show 0 < L.length by omega))
  exact ⟨b, off, e⟩
theorem Tab.drewN {W : World} {b off n : Nat} {L : List (List Int)} (h : Tab W b off n L) (m : Nat) : Tab (W.drewN m) b off n L := h
namespace Q
/-- How many of the first k states serve request r. -/
def cntK (S : List (List Int)) (r : Nat) : Nat → Nat
  | 0 => 0
  | k + 1 => cntK S r k + (if dst S r k = -1 then 0 else 1)
theorem cntK_le (S : List (List Int)) (r : Nat) : ∀ k, cntK S r k ≤ k
  | 0 => Nat.le_refl _
  | k + 1 => by
    have := cntK_le S r k
    show cntK S r k + _ ≤ k + 1
    split <;> omega
/-- The number of choices for the first r requests. -/
def algK (n : Nat) (S : List (List Int)) : Nat → Nat
  | 0 => 1
  | r + 1 => algK n S r * cntK S r n ^ n
theorem pow_bd {c j : Nat} (hc : c ≤ 4) (hj : j ≤ 4) : c ^ j ≤ 256 :=
  Nat.le_trans (Nat.pow_le_pow_left hc j) (Nat.le_trans (Nat.pow_le_pow_right (by omega) hj) (by decide))
theorem algK_le {n : Nat} {S : List (List Int)} (hn : n ≤ 4) : ∀ r, algK n S r ≤ 256 ^ r
  | 0 => Nat.le_refl _
  | r + 1 => by
    have h1 := algK_le (S := S) hn r
    have h2 : cntK S r n ^ n ≤ 256 := pow_bd (Nat.le_trans (cntK_le S r n) hn) hn
    show algK n S r * _ ≤ 256 ^ (r + 1)
    rw [Nat.pow_succ]
    exact Nat.mul_le_mul h1 h2
theorem alg_part {n : Nat} {S : List (List Int)} (hn : n ≤ 4) {r j : Nat} (hr : r ≤ 4) (hj : j ≤ 4) : algK n S r * cntK S r n ^ j ≤ 4294967296 * 256 := by
  refine Nat.mul_le_mul (Nat.le_trans (algK_le hn r) ?_) (pow_bd (Nat.le_trans (cntK_le S r n) hn) hj)
  exact Nat.le_trans (Nat.pow_le_pow_right (by omega) hr) (by decide)
noncomputable def cnt8 (L S : List (List Int)) : Int × Bool := if prQ L S then ((algK L.length S S.length : Nat), true) else (0, false)
theorem cnt8_no {L S : List (List Int)} (h : prQ L S = false) : cnt8 L S = (0, false) := if_neg (by simp [h])
theorem cnt8_yes {L S : List (List Int)} (h : prQ L S = true) : cnt8 L S = (((algK L.length S S.length : Nat) : Int), true) := if_pos h
end Q
end Go.Proofs.Ytammlkaclooohaa
