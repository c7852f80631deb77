/-
  Is a problem asked with a state and a sequence of its own: isState, isKind, isAsked, l8Takes.
-/
import Derived.Test.YtammlkaclooohaaMgn
import Derived.Test.YtammlkaclooohaaImpQ
namespace Go.Proofs.Ytammlkaclooohaa
open Go.RowKit
set_option linter.unusedVariables false
namespace Q
noncomputable def askQ (L S : List (List Int)) (start : Int) (reqs : List Int) : Bool := prQ L S && ((decide (0 ≤ start) && decide (start < L.length)) && good S.length reqs)
structure Ask (L S : List (List Int)) (start : Int) (reqs : List Int) : Prop where
  pr : Pr L S
  st : ∃ s0 : Nat, start = s0 ∧ s0 < L.length
  len : reqs.length ≤ 60
  rq : ∀ k, k < reqs.length → ∃ x : Nat, reqs[k]? = some (x : Int) ∧ x < S.length
theorem ask_iff {L S : List (List Int)} {start : Int} {reqs : List Int} : askQ L S start reqs = true ↔ Ask L S start reqs := by
  constructor
  · intro h
    simp only [askQ, Bool.and_eq_true, decide_eq_true_eq] at h
    obtain ⟨h1, ⟨h2, h3⟩, h4⟩ := h
    obtain ⟨N, e, _, _, h5, h6⟩ := good_nat h4
    have e' : N = S.length := by omega
    subst e'
    obtain ⟨s0, rfl⟩ := Int.eq_ofNat_of_zero_le h2
    exact ⟨pr_iff.1 h1, ⟨s0, rfl, by omega⟩, h5, h6⟩
  · rintro ⟨h1, ⟨s0, rfl, h2⟩, h3, h4⟩
    simp only [askQ, Bool.and_eq_true, decide_eq_true_eq]
    refine ⟨pr_iff.2 h1, ⟨by omega, by omega⟩, good_iff.2 ⟨⟨by have := h1.m1; omega, by have := h1.m4; omega⟩, h3, fun z hz => ?_⟩⟩
    obtain ⟨k, hk, rfl⟩ := List.mem_iff_getElem.1 hz
    obtain ⟨x, hx, hxm⟩ := h4 k hk
    rw [List.getElem?_eq_getElem hk] at hx
    injection hx with hx
    rw [hx]
    omega
theorem ask_no {L S : List (List Int)} {start : Int} {reqs : List Int} (h : ¬ Ask L S start reqs) : askQ L S start reqs = false := by
  rw [Bool.eq_false_iff]
  exact fun h' => h (ask_iff.1 h')
end Q
section
variable (A : Option Addr) (c : Nat) (xs : List Value) (L : List (List Int)) (B : Option Addr) (d : Nat) (ys : List Value) (S : List (List Int)) (w : World)
theorem isState_any (s : Int) (hL : NRow w A xs L) (hS : NRow w B ys S) :
    Calls Try.prog 140 #[pv A L.length c B S.length d, .int .i64 s] w fun e w' => e = .returned (.bool (decide (0 ≤ s) && decide (s < L.length))) ∧ Below w.heap.size w w' := by
  have HP := Lib.hid (PIn.start (c := c) (d := d) hL hS 35)
  clear hL hS
  by_cases h0 : 0 ≤ s
  · by_cases h1 : s < L.length
    · have HN : Hid ((decide (0 ≤ s) && decide (s < L.length)) = true) := by show _ = _; simp [h0, h1]
      generalize (decide (0 ≤ s) && decide (s < (L.length : Int))) = V at HN ⊢
      go_enter Try.func140, Try.ntmps140
      go_wp2_with fail
      generalize w.alloc (.cells #[.slice A L.length c, .slice B S.length d] 35) = wa at HP ⊢
      obtain ⟨p0, p1, _, _, _⟩ := HP.out.bk
      go_wp2
      go_ret
      exact ⟨by rw [HN.out]; first | rfl | simp, HP.out.bl⟩
    · have HN : Hid ((decide (0 ≤ s) && decide (s < L.length)) = false) := by show _ = _; simp [h1]
      generalize (decide (0 ≤ s) && decide (s < (L.length : Int))) = V at HN ⊢
      go_enter Try.func140, Try.ntmps140
      go_wp2_with fail
      generalize w.alloc (.cells #[.slice A L.length c, .slice B S.length d] 35) = wa at HP ⊢
      obtain ⟨p0, p1, _, _, _⟩ := HP.out.bk
      go_wp2
      go_ret
      exact ⟨by rw [HN.out]; first | rfl | simp, HP.out.bl⟩
  · have HN : Hid ((decide (0 ≤ s) && decide (s < L.length)) = false) := by show _ = _; simp [h0]
    generalize (decide (0 ≤ s) && decide (s < (L.length : Int))) = V at HN ⊢
    have hn : s < 0 := by omega
    go_enter Try.func140, Try.ntmps140
    go_wp2_with fail
    generalize w.alloc (.cells #[.slice A L.length c, .slice B S.length d] 35) = wa at HP ⊢
    obtain ⟨p0, p1, _, _, _⟩ := HP.out.bk
    go_wp2
    go_ret
    exact ⟨by rw [HN.out]; first | rfl | simp, HP.out.bl⟩
set_option maxHeartbeats 800000 in
theorem isAsked_any (start : Int) (reqs : List Int) (R : Option Addr) (e : Nat) (hlL : ∀ l ∈ L, l.length ≤ 1048576) (hlS : ∀ l ∈ S, l.length ≤ 1048576) (hlr : reqs.length ≤ 1048576) (hL : NRow w A xs L) (hS : NRow w B ys S) (hR : Law.Row w R (ivs reqs)) :
    Calls Try.prog 69 #[pv A L.length c B S.length d, .int .i64 start, .slice R reqs.length e] w fun e w' => e = .returned (.bool (Q.askQ L S start reqs)) ∧ Below w.heap.size w w' := by
  have HP := Lib.hid (PIn.start (c := c) (d := d) hL hS 35)
  have HG := Lib.hid fun (W : World) (h : NRow W A xs L) (h2 : NRow W B ys S) => impPr_any A c xs L B d ys S W hlL hlS h h2
  have HT := Lib.hid fun (W : World) (h : NRow W A xs L) (h2 : NRow W B ys S) => isState_any A c xs L B d ys S W start h h2
  have HQ := Lib.hid fun (W : World) (h : Below w.heap.size w W) => impIsReq_any S.length R e reqs W hlr (hR.stays h)
  have HN : Hid (Q.askQ L S start reqs = (Q.prQ L S && ((decide (0 ≤ start) && decide (start < L.length)) && Q.good S.length reqs))) := rfl
  generalize Q.askQ L S start reqs = V at HN ⊢
  generalize Q.good S.length reqs = g at HQ HN
  generalize (decide (0 ≤ start) && decide (start < L.length)) = t at HT HN
  generalize Q.prQ L S = p at HG HN
  clear hlL hlS hlr hL hS hR
  cases p
  · go_enter Try.func69, Try.ntmps69
    go_wp2_with fail
    generalize w.alloc (.cells #[.slice A L.length c, .slice B S.length d] 35) = wa at HP ⊢
    obtain ⟨p0, p1, _, _, _⟩ := HP.out.bk
    go_wp2_with fail
    go_at_call 92
    refine (HG.out _ HP.out.mv HP.out.sv).mono ?_
    rintro e w1 ⟨rfl, hb⟩
    have HP1 := Lib.hid (HP.out.on hb)
    clear p0 p1 hb
    obtain ⟨p0, p1, _, _, _⟩ := HP1.out.bk
    go_wp2
    go_ret
    exact ⟨by rw [HN.out]; first | rfl | simp, HP1.out.bl⟩
  · cases t
    · go_enter Try.func69, Try.ntmps69
      go_wp2_with fail
      generalize w.alloc (.cells #[.slice A L.length c, .slice B S.length d] 35) = wa at HP ⊢
      obtain ⟨p0, p1, _, _, _⟩ := HP.out.bk
      go_wp2_with fail
      go_at_call 92
      refine (HG.out _ HP.out.mv HP.out.sv).mono ?_
      rintro e w1 ⟨rfl, hb⟩
      have HP1 := Lib.hid (HP.out.on hb)
      clear p0 p1 hb
      obtain ⟨p0, p1, _, _, _⟩ := HP1.out.bk
      go_wp2_with fail
      go_at_call 140
      refine (HT.out _ HP1.out.mv HP1.out.sv).mono ?_
      rintro e w2 ⟨rfl, hb⟩
      have HP2 := Lib.hid (HP1.out.on hb)
      clear p0 p1 hb
      obtain ⟨p0, p1, _, _, _⟩ := HP2.out.bk
      go_wp2
      go_ret
      exact ⟨by rw [HN.out]; first | rfl | simp, HP2.out.bl⟩
    · go_enter Try.func69, Try.ntmps69
      go_wp2_with fail
      generalize w.alloc (.cells #[.slice A L.length c, .slice B S.length d] 35) = wa at HP ⊢
      obtain ⟨p0, p1, _, _, _⟩ := HP.out.bk
      go_wp2_with fail
      go_at_call 92
      refine (HG.out _ HP.out.mv HP.out.sv).mono ?_
      rintro e w1 ⟨rfl, hb⟩
      have HP1 := Lib.hid (HP.out.on hb)
      clear p0 p1 hb
      obtain ⟨p0, p1, _, _, _⟩ := HP1.out.bk
      go_wp2_with fail
      go_at_call 140
      refine (HT.out _ HP1.out.mv HP1.out.sv).mono ?_
      rintro e w2 ⟨rfl, hb⟩
      have HP2 := Lib.hid (HP1.out.on hb)
      clear p0 p1 hb
      obtain ⟨p0, p1, _, _, _⟩ := HP2.out.bk
      go_wp2_with fail
      go_at_call 141
      refine (HQ.out _ HP2.out.bl).mono ?_
      rintro e w3 ⟨rfl, hw⟩
      obtain rfl := hw.symm
      clear hw
      go_wp2
      go_ret
      exact ⟨by rw [HN.out]; first | rfl | simp, HP2.out.bl⟩
set_option maxHeartbeats 1600000 in
theorem l8Takes_any (start : Int) (reqs : List Int) (R : Option Addr) (e : Nat) (hlS : ∀ l ∈ S, l.length ≤ 1048576) (hlr : reqs.length ≤ 1048576) (hL : NRow w A xs L) (hS : NRow w B ys S) (hR : Law.Row w R (ivs reqs)) :
    Calls Try.prog 65 #[pv A L.length c B S.length d, .int .i64 start, .slice R reqs.length e] w fun e w' => e = .returned (.bool (Q.askQ L S start reqs)) ∧ Below w.heap.size w w' := by
  have HP := Lib.hid (PIn.start (c := c) (d := d) hL hS 35)
  have HG := Lib.hid fun (W : World) (h : NRow W A xs L) (h2 : NRow W B ys S) => l8Good_any A c xs L B d ys S W hlS h h2
  have HI := Lib.hid fun W => l1In_any start 0 ((L.length : Int) - 1) W
  have HR := Lib.hid fun (W : World) (h : Below w.heap.size w W) => hR.stays h
  clear hlS hL hS hR
  cases hp : Q.prQ L S
  · rw [hp] at HG
    have HN : Hid (Q.askQ L S start reqs = false) := by show _ = _; rw [Q.askQ, hp]; rfl
    clear hp
    go_enter Try.func65, Try.ntmps65
    go_wp2_with fail
    generalize w.alloc (.cells #[.slice A L.length c, .slice B S.length d] 35) = wa at HP ⊢
    obtain ⟨p0, p1, _, _, _⟩ := HP.out.bk
    go_wp2_with fail
    go_at_call 90
    refine (HG.out _ HP.out.mv HP.out.sv).mono ?_
    rintro e w1 ⟨rfl, hb⟩
    have HP1 := Lib.hid (HP.out.on hb)
    clear p0 p1 hb
    obtain ⟨p0, p1, _, _, _⟩ := HP1.out.bk
    go_wp2
    go_ret
    exact ⟨by rw [HN.out]; first | rfl | simp, HP1.out.bl⟩
  · rw [hp] at HG
    have hpr := Q.pr_iff.1 hp
    have hn1 := hpr.n1
    have hn4 := hpr.n4
    have hm1 := hpr.m1
    have hm4 := hpr.m4
    by_cases hst : 0 ≤ start ∧ start ≤ (L.length : Int) - 1
    · rw [show (decide (0 ≤ start) && decide (start ≤ (L.length : Int) - 1)) = true by simp; omega] at HI
      by_cases hlen : reqs.length ≤ 60
      · have hlenI : ¬ (60 : Int) < (reqs.length : Int) := by omega
        have HNo : Hid (∀ k z, reqs[k]? = some z → (decide (0 ≤ z) && decide (z ≤ (S.length : Int) - 1)) = false → Q.askQ L S start reqs = false) := fun k z hz hb => Q.ask_no fun h => by
          obtain ⟨x, hx, hxm⟩ := h.rq k (List.getElem?_eq_some_iff.1 hz).1
          rw [hz] at hx
          injection hx with hx
          subst hx
          simp at hb
          omega
        have HYes : Hid ((∀ k z, k < reqs.length → reqs[k]? = some z → (decide (0 ≤ z) && decide (z ≤ (S.length : Int) - 1)) = true) → Q.askQ L S start reqs = true) := fun h => Q.ask_iff.2 ⟨hpr, by
          obtain ⟨s0, e0⟩ := Int.eq_ofNat_of_zero_le hst.1
          exact ⟨s0, e0, by omega⟩, hlen, fun k hk => by
          have h1 := h k _ hk (List.getElem?_eq_getElem hk)
          simp only [Bool.and_eq_true, decide_eq_true_eq] at h1
          obtain ⟨x, hx⟩ := Int.eq_ofNat_of_zero_le h1.1
          exact ⟨x, by rw [List.getElem?_eq_getElem hk, hx], by omega⟩⟩
        clear hp hpr hst hlen
        generalize Q.askQ L S start reqs = V at HNo HYes ⊢
        go_enter Try.func65, Try.ntmps65
        go_wp2_with fail
        generalize w.alloc (.cells #[.slice A L.length c, .slice B S.length d] 35) = wa at HP ⊢
        obtain ⟨p0, p1, _, _, _⟩ := HP.out.bk
        go_wp2_with fail
        go_at_call 90
        refine (HG.out _ HP.out.mv HP.out.sv).mono ?_
        rintro e w1 ⟨rfl, hb⟩
        have HP1 := Lib.hid (HP.out.on hb)
        clear p0 p1 hb
        obtain ⟨p0, p1, _, _, _⟩ := HP1.out.bk
        go_wp2_with fail
        go_at_call 83
        refine (HI.out _).mono ?_
        rintro e w' ⟨rfl, hw'⟩
        obtain rfl := hw'.symm
        clear hw'
        go_wp2_with fail
        clear p0 p1
        go_loopw [7] (fun i wr => ∃ k : Nat, k ≤ reqs.length ∧ i = .int .i64 (k : Int) ∧ Hid (PIn w wr A c xs L B d ys S) ∧ Hid (∀ j z, j < k → reqs[j]? = some z → (decide (0 ≤ z) && decide (z ≤ (S.length : Int) - 1)) = true)) (fun i _ => reqs.length - (intOf i).toNat)
        case atStart => exact ⟨0, Nat.zero_le _, rfl, HP1.out, fun j l hj => by omega⟩
        case round =>
          obtain ⟨k, hk, rfl, hp, hall⟩ := hrel
          obtain ⟨p0, p1, _, _, _⟩ := hp.out.bk
          by_cases hlt : k < reqs.length
          · have hltI : (k : Int) < (reqs.length : Int) := by omega
            obtain ⟨z, hz⟩ : ∃ z, reqs[k]? = some z := ⟨_, List.getElem?_eq_getElem hlt⟩
            obtain ⟨b, off, rfl, hb, hc⟩ := (HR.out wr hp.out.bl).at_ (ivs_some hz)
            have HJ := Lib.hid fun W => l1In_any z 0 ((S.length : Int) - 1) W
            cases hs : (decide (0 ≤ z) && decide (z ≤ (S.length : Int) - 1))
            · rw [hs] at HJ
              have HN := Lib.hid (HNo.out k z hz hs)
              have HB := Lib.hid fun m => Law.up hp.out.bl m
              clear hz hs hall HNo HYes
              go_wp2
              go_quiet ((go_at_call 83; exact Calls.quiet_of_same (HJ.out _)))
              go_wp2
              go_ret
              exact ⟨by rw [HN.out]; first | rfl | simp, HB.out _⟩
            · rw [hs] at HJ
              have HA : Hid (∀ j z, j < k + 1 → reqs[j]? = some z → (decide (0 ≤ z) && decide (z ≤ (S.length : Int) - 1)) = true) := fun j z' hj hz' => by
                by_cases e : j = k
                · subst e
                  rw [hz] at hz'
                  cases hz'
                  exact hs
                · exact hall.out j z' (by omega) hz'
              have HB := Lib.hid fun m => hp.out.drewN m
              clear hz hs hall
              go_wp2
              go_quiet ((go_at_call 83; exact Calls.quiet_of_same (HJ.out _)))
              go_wp2
              go_roundw
              case rel => exact ⟨k + 1, by omega, by go_num, HB.out _, HA.out⟩
              case measure => simp [intOf]; omega
          · have hke : k = reqs.length := by omega
            have hltI : ¬ (k : Int) < (reqs.length : Int) := by omega
            have HN := Lib.hid (HYes.out (fun j z hj hz => hall.out j z (by omega) hz))
            have HB := Lib.hid hp.out.bl
            clear hke hall
            go_wp2
            go_ret
            exact ⟨by rw [HN.out]; rfl, HB.out⟩
      · have hlenI : (60 : Int) < (reqs.length : Int) := by omega
        have HN : Hid (Q.askQ L S start reqs = false) := Lib.hid (Q.ask_no fun h => hlen h.len)
        clear hp hpr hst hlen
        go_enter Try.func65, Try.ntmps65
        go_wp2_with fail
        generalize w.alloc (.cells #[.slice A L.length c, .slice B S.length d] 35) = wa at HP ⊢
        obtain ⟨p0, p1, _, _, _⟩ := HP.out.bk
        go_wp2_with fail
        go_at_call 90
        refine (HG.out _ HP.out.mv HP.out.sv).mono ?_
        rintro e w1 ⟨rfl, hb⟩
        have HP1 := Lib.hid (HP.out.on hb)
        clear p0 p1 hb
        obtain ⟨p0, p1, _, _, _⟩ := HP1.out.bk
        go_wp2_with fail
        go_at_call 83
        refine (HI.out _).mono ?_
        rintro e w' ⟨rfl, hw'⟩
        obtain rfl := hw'.symm
        clear hw'
        go_wp2
        go_ret
        exact ⟨by rw [HN.out]; first | rfl | simp, HP1.out.bl⟩
    · rw [show (decide (0 ≤ start) && decide (start ≤ (L.length : Int) - 1)) = false by rw [Bool.eq_false_iff]; simp; omega] at HI
      have HN : Hid (Q.askQ L S start reqs = false) := Lib.hid (Q.ask_no fun h => by
        obtain ⟨s0, e0, h0⟩ := h.st
        exact hst (by omega))
      clear hp hpr hst
      go_enter Try.func65, Try.ntmps65
      go_wp2_with fail
      generalize w.alloc (.cells #[.slice A L.length c, .slice B S.length d] 35) = wa at HP ⊢
      obtain ⟨p0, p1, _, _, _⟩ := HP.out.bk
      go_wp2_with fail
      go_at_call 90
      refine (HG.out _ HP.out.mv HP.out.sv).mono ?_
      rintro e w1 ⟨rfl, hb⟩
      have HP1 := Lib.hid (HP.out.on hb)
      clear p0 p1 hb
      obtain ⟨p0, p1, _, _, _⟩ := HP1.out.bk
      go_wp2_with fail
      go_at_call 83
      refine (HI.out _).mono ?_
      rintro e w' ⟨rfl, hw'⟩
      obtain rfl := hw'.symm
      clear hw'
      go_wp2
      go_ret
      exact ⟨by rw [HN.out]; first | rfl | simp, HP1.out.bl⟩
end
end Go.Proofs.Ytammlkaclooohaa
