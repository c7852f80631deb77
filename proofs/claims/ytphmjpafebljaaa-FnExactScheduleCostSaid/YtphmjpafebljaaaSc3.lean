/-
  ScheduleCost: both sides whole.
-/
import Derived.Test.YtphmjpafebljaaaSc2
import Derived.BigQuiet
namespace Go.Proofs.Ytphmjpafebljaaa
open Go.RowKit
set_option linter.unusedVariables false
set_option maxHeartbeats 800000 in
theorem impSc_any (A : Option Addr) (c : Nat) (xs : List Value) (L : List (List Int)) (B : Option Addr) (d : Nat) (ys : List Value) (S : List (List Int)) (w : World) (start : Int) (reqs states : List Int) (R : Option Addr) (e : Nat) (T : Option Addr) (f : Nat) (hlL : ∀ l ∈ L, l.length ≤ 1048576) (hlS : ∀ l ∈ S, l.length ≤ 1048576) (hlr : reqs.length ≤ 1048576) (hls : states.length ≤ 1048576) (hL : NRow w A xs L) (hS : NRow w B ys S) (hR : Law.Row w R (ivs reqs)) (hT : Law.Row w T (ivs states)) :
    Calls Try.prog 27 #[pv A L.length c B S.length d, .int .i64 start, .slice R reqs.length e, .slice T states.length f] w fun e w' => e = .returned (.tuple #[.int .i64 (Q.schC L S start reqs states).1, .bool (Q.schC L S start reqs states).2]) ∧ Below w.heap.size w w' := by
  have HP := Lib.hid (PIn.start (c := c) (d := d) hL hS 27)
  have HG := Lib.hid fun (W : World) (h : Below w.heap.size w W) (h1 : NRow W A xs L) (h2 : NRow W B ys S) => isAsked_any A c xs L B d ys S W start reqs R e hlL hlS hlr h1 h2 (hR.stays h)
  cases hq : Q.askQ L S start reqs
  · rw [Q.schC_no1 hq]
    rw [hq] at HG
    clear hL hS hR hT hq
    go_enter Try.func27, Try.ntmps27
    go_wp2_with fail
    generalize w.alloc (.cells #[.slice A L.length c, .slice B S.length d] 27) = wa at HP ⊢
    obtain ⟨p0, p1, _, _, _⟩ := HP.out.bk
    go_wp2_with fail
    go_at_call 62
    refine (HG.out _ HP.out.bl HP.out.mv HP.out.sv).mono ?_
    rintro e w1 ⟨rfl, hb⟩
    have HP1 := Lib.hid (HP.out.on hb)
    clear p0 p1 hb
    obtain ⟨p0, p1, _, _, _⟩ := HP1.out.bk
    go_wp2
    go_ret2
    exact ⟨rfl, HP1.out.bl⟩
  · have hask := Q.ask_iff.1 hq
    have HSv := Lib.hid fun (W : World) (h : Below w.heap.size w W) (h1 : NRow W A xs L) (h2 : NRow W B ys S) => isServed_any A c xs L B d ys S W reqs states R e T f hask.pr hlr hls hask.rq h1 h2 (hR.stays h) (hT.stays h)
    cases hs : Q.schQ L.length S reqs states
    · rw [Q.schC_no2 hs]
      rw [hq] at HG
      rw [hs] at HSv
      clear hL hS hR hT hq hs hask
      go_enter Try.func27, Try.ntmps27
      go_wp2_with fail
      generalize w.alloc (.cells #[.slice A L.length c, .slice B S.length d] 27) = wa at HP ⊢
      obtain ⟨p0, p1, _, _, _⟩ := HP.out.bk
      go_wp2_with fail
      go_at_call 62
      refine (HG.out _ HP.out.bl HP.out.mv HP.out.sv).mono ?_
      rintro e w1 ⟨rfl, hb⟩
      have HP1 := Lib.hid (HP.out.on hb)
      clear p0 p1 hb
      obtain ⟨p0, p1, _, _, _⟩ := HP1.out.bk
      go_wp2_with fail
      go_at_call 63
      refine (HSv.out _ HP1.out.bl HP1.out.mv HP1.out.sv).mono ?_
      rintro e w2 ⟨rfl, hb⟩
      have HP2 := Lib.hid (HP1.out.on hb)
      clear p0 p1 hb
      obtain ⟨p0, p1, _, _, _⟩ := HP2.out.bk
      go_wp2
      go_ret2
      exact ⟨rfl, HP2.out.bl⟩
    · rw [Q.schC_yes hq hs]
      rw [hq] at HG
      rw [hs] at HSv
      obtain ⟨s0, e0, hs0⟩ := hask.st
      subst e0
      rw [Int.toNat_natCast]
      have hlen := Q.sch_len hs
      have HC := Lib.hid fun (W : World) (h : Below w.heap.size w W) (h1 : NRow W A xs L) (h2 : NRow W B ys S) => costOf_any A c xs L B d ys S W s0 reqs states R e T f hask.pr hs0 hlen hask.len hask.rq (Q.sch_nats hs) h1 h2 (hR.stays h) (hT.stays h)
      generalize (Q.costK L S s0 reqs states reqs.length).1 = K at HC ⊢
      clear hL hS hR hT hq hs hask hlen
      go_enter Try.func27, Try.ntmps27
      go_wp2_with fail
      generalize w.alloc (.cells #[.slice A L.length c, .slice B S.length d] 27) = wa at HP ⊢
      obtain ⟨p0, p1, _, _, _⟩ := HP.out.bk
      go_wp2_with fail
      go_at_call 62
      refine (HG.out _ HP.out.bl HP.out.mv HP.out.sv).mono ?_
      rintro e w1 ⟨rfl, hb⟩
      have HP1 := Lib.hid (HP.out.on hb)
      clear p0 p1 hb
      obtain ⟨p0, p1, _, _, _⟩ := HP1.out.bk
      go_wp2_with fail
      go_at_call 63
      refine (HSv.out _ HP1.out.bl HP1.out.mv HP1.out.sv).mono ?_
      rintro e w2 ⟨rfl, hb⟩
      have HP2 := Lib.hid (HP1.out.on hb)
      clear p0 p1 hb
      obtain ⟨p0, p1, _, _, _⟩ := HP2.out.bk
      go_wp2_with fail
      go_at_call 64
      refine (HC.out _ HP2.out.bl HP2.out.mv HP2.out.sv).mono ?_
      rintro e w3 ⟨rfl, hb⟩
      have HP3 := Lib.hid (HP2.out.on hb)
      clear p0 p1 hb
      obtain ⟨p0, p1, _, _, _⟩ := HP3.out.bk
      go_wp2
      go_ret2
      exact ⟨rfl, HP3.out.bl⟩
set_option maxRecDepth 100000 in
set_option maxHeartbeats 1600000 in
theorem specSc_any (A : Option Addr) (c : Nat) (xs : List Value) (L : List (List Int)) (B : Option Addr) (d : Nat) (ys : List Value) (S : List (List Int)) (w : World) (start : Int) (reqs states : List Int) (R : Option Addr) (e : Nat) (T : Option Addr) (f : Nat) (hlS : ∀ l ∈ S, l.length ≤ 1048576) (hlr : reqs.length ≤ 1048576) (hls : states.length ≤ 1048576) (hL : NRow w A xs L) (hS : NRow w B ys S) (hR : Law.Row w R (ivs reqs)) (hT : Law.Row w T (ivs states)) :
    Calls Try.prog 25 #[pv A L.length c B S.length d, .int .i64 start, .slice R reqs.length e, .slice T states.length f] w fun e w' => e = .returned (.tuple #[.int .i64 (Q.schC L S start reqs states).1, .bool (Q.schC L S start reqs states).2]) ∧ Below w.heap.size w w' := by
  have HP := Lib.hid (PIn.start (c := c) (d := d) hL hS 27)
  have HG := Lib.hid fun (W : World) (h : Below w.heap.size w W) (h1 : NRow W A xs L) (h2 : NRow W B ys S) => l8Takes_any A c xs L B d ys S W start reqs R e hlS hlr h1 h2 (hR.stays h)
  cases hq : Q.askQ L S start reqs
  · rw [Q.schC_no1 hq]
    rw [hq] at HG
    clear hL hS hR hT hq
    go_enter Try.func25, Try.ntmps25
    go_wp2_with fail
    generalize w.alloc (.cells #[.slice A L.length c, .slice B S.length d] 27) = wa at HP ⊢
    obtain ⟨p0, p1, _, _, _⟩ := HP.out.bk
    go_wp2_with fail
    go_at_call 59
    refine (HG.out _ HP.out.bl HP.out.mv HP.out.sv).mono ?_
    rintro e w1 ⟨rfl, hb⟩
    have HP1 := Lib.hid (HP.out.on hb)
    clear p0 p1 hb
    obtain ⟨p0, p1, _, _, _⟩ := HP1.out.bk
    go_wp2
    go_ret2
    exact ⟨rfl, HP1.out.bl⟩
  · have hask := Q.ask_iff.1 hq
    rw [hq] at HG
    by_cases hlen : states.length = reqs.length
    · obtain ⟨s0, e0, hs0⟩ := hask.st
      subst e0
      obtain ⟨bB, oB, rfl⟩ := hS.some_ hask.pr.m1
      have hpr := hask.pr
      have HTS := Lib.hid fun (W : World) (h : NRow W (some ⟨bB, oB, none⟩) ys S) => h.tab hpr.rows hpr.n1
      have HR := Lib.hid fun (W : World) (h : Below w.heap.size w W) => hR.stays h
      have HT := Lib.hid fun (W : World) (h : Below w.heap.size w W) => hT.stays h
      have HE := Lib.hid fun (r s : Nat) (hr : r < S.length) (hs : s < L.length) => hpr.srv hr hs
      have HRq := Lib.hid hask.rq
      have HNo : Hid (∀ (k : Nat) (x z : Int), reqs[k]? = some x → states[k]? = some z → Q.okSt L.length S x z = false → Q.schC L S s0 reqs states = (0, false)) := fun k x z h1 h2 h => Q.schC_no2 (Q.sch_no h1 h2 h)
      have HYes : Hid ((∀ (k : Nat) (x z : Int), reqs[k]? = some x → states[k]? = some z → Q.okSt L.length S x z = true) → Q.schC L S s0 reqs states = ((Q.costK L S s0 reqs states reqs.length).1, true) ∧ ∀ W, Below w.heap.size w W → NRow W A xs L → NRow W (some ⟨bB, oB, none⟩) ys S → Calls Try.prog 61 #[pv A L.length c (some ⟨bB, oB, none⟩) S.length d, .int .i64 (s0 : Int), .slice R reqs.length e, .slice T reqs.length f] W fun e w' => e = .returned (.int .i64 (Q.costK L S s0 reqs states reqs.length).1) ∧ Below W.heap.size W w') := fun h => by
        have hs := Q.sch_yes (n := L.length) (S := S) hlen h
        refine ⟨by rw [Q.schC_yes hq hs, Int.toNat_natCast], fun W hb h1 h2 => ?_⟩
        have q := l8Sum_any A c xs L (some ⟨bB, oB, none⟩) d ys S W s0 reqs states R e T f hpr hs0 hlen hask.len hask.rq (Q.sch_nats hs) h1 h2 (hR.stays hb) (hT.stays hb)
        rw [hlen] at q
        exact q
      have HL := Lib.hid hlen
      have hn1 := hpr.n1
      have hn4 := hpr.n4
      have h60 := hask.len
      rw [hlen]
      clear hL hS hR hT hq hask hlen hpr
      generalize Q.schC L S s0 reqs states = V at HNo HYes ⊢
      generalize (Q.costK L S s0 reqs states reqs.length).1 = K at HYes
      have HIn := Lib.hid fun (z : Int) (W : World) => l1In_any z 0 ((L.length : Int) - 1) W
      go_enter Try.func25, Try.ntmps25
      go_wp2_with fail
      generalize w.alloc (.cells #[.slice A L.length c, .slice (some ⟨bB, oB, none⟩) S.length d] 27) = wa at HP ⊢
      obtain ⟨p0, p1, _, _, _⟩ := HP.out.bk
      go_wp2_with fail
      go_at_call 59
      refine (HG.out _ HP.out.bl HP.out.mv HP.out.sv).mono ?_
      rintro e w1 ⟨rfl, hb⟩
      have HP1 := Lib.hid (HP.out.on hb)
      clear p0 p1 hb
      obtain ⟨p0, p1, _, _, _⟩ := HP1.out.bk
      go_wp2_with fail
      clear p0 p1
      go_loopw [10] (fun i wr => ∃ k : Nat, k ≤ reqs.length ∧ i = .int .i64 (k : Int) ∧ Hid (∃ m, wr = w1.drewN m) ∧ Hid (∀ (j : Nat) (x z : Int), j < k → reqs[j]? = some x → states[j]? = some z → Q.okSt L.length S x z = true)) (fun i _ => reqs.length - (intOf i).toNat)
      case atStart => exact ⟨0, Nat.zero_le _, rfl, ⟨0, rfl⟩, fun j x z hj => by omega⟩
      case round =>
        obtain ⟨k, hk, rfl, hw, hall⟩ := hrel
        have HPr : Hid (∀ m, PIn w (wr.drewN m) A c xs L (some ⟨bB, oB, none⟩) d ys S ∧ ∃ q, wr.drewN m = w1.drewN q) := fun m => by
          obtain ⟨q, e⟩ := hw.out
          rw [e]
          exact ⟨(HP1.out.drewN q).drewN m, q + m, by simp⟩
        have hP0 := (HPr.out 0).1
        have e0 : wr.drewN 0 = wr := rfl
        rw [e0] at hP0
        have HPc := Lib.hid hP0
        clear hP0 e0
        obtain ⟨p0, p1, _, _, _⟩ := HPc.out.bk
        by_cases hlt : k < reqs.length
        · have hltI : (k : Int) < (reqs.length : Int) := by omega
          obtain ⟨x, hx, hxm⟩ := HRq.out k hlt
          obtain ⟨z, hz⟩ : ∃ z, states[k]? = some z := ⟨_, List.getElem?_eq_getElem (by rw [HL.out]; exact hlt)⟩
          obtain ⟨bR, oR, eR, hbR, hcR⟩ := (HR.out wr HPc.out.bl).at_ (ivs_some hx)
          obtain ⟨bT, oT, eT, hbT, hcT⟩ := (HT.out wr HPc.out.bl).at_ (ivs_some hz)
          subst eR eT
          have hxI : (x : Int) < (S.length : Int) := by omega
          have HI := Lib.hid (HIn.out z)
          by_cases hst : 0 ≤ z ∧ z < L.length
          · obtain ⟨s, rfl⟩ := Int.eq_ofNat_of_zero_le hst.1
            have hsn : s < L.length := by omega
            have hsI : (s : Int) < (L.length : Int) := by omega
            obtain ⟨b2, o2, d2, hc2, hv2⟩ := HTS.out wr HPc.out.sv x hxm
            have hv3 := hv2 s hsn
            clear hv2
            have hE := HE.out x s hxm hsn
            have hok : Q.okSt L.length S (x : Int) (s : Int) = decide (Q.dst S x s ≠ -1) := by
              rw [Q.okSt]
              simp [hsn]
            rw [show (decide (0 ≤ (s : Int)) && decide ((s : Int) ≤ (L.length : Int) - 1)) = true by simp; omega] at HI
            generalize Q.dst S x s = E at hv3 hok hE
            by_cases hE1 : E = -1
            · have HN := Lib.hid (HNo.out k x s hx hz (by rw [hok]; simp [hE1]))
              have HB := Lib.hid fun m => (HPr.out m).1.bl
              have hneg : E < 0 := by omega
              clear hok hall HNo HYes hx hz hst hw hE1
              go_wp2
              go_quiet ((go_at_call 60; exact Calls.quiet_of_same (HI.out _)))
              go_wp2
              go_ret2
              exact ⟨by rw [HN.out]; rfl, HB.out _⟩
            · have hneg : ¬ E < 0 := by omega
              have HA : Hid (∀ (j : Nat) (x z : Int), j < k + 1 → reqs[j]? = some x → states[j]? = some z → Q.okSt L.length S x z = true) := fun j x' z' hj h1 h2 => by
                by_cases e : j = k
                · subst e
                  rw [hx] at h1
                  rw [hz] at h2
                  cases h1
                  cases h2
                  rw [hok]
                  simpa using hE1
                · exact hall.out j x' z' (by omega) h1 h2
              clear hok hall HNo HYes hx hz hst hw hE1
              go_wp2
              go_quiet ((go_at_call 60; exact Calls.quiet_of_same (HI.out _)))
              go_wp2
              go_roundw
              case rel => exact ⟨k + 1, by omega, by go_num, (HPr.out _).2, HA.out⟩
              case measure => simp [intOf]; omega
          · have HN := Lib.hid (HNo.out k x z hx hz (by
              rw [Q.okSt, show (decide (0 ≤ z) && decide (z < (L.length : Int))) = false by rw [Bool.eq_false_iff]; simpa using hst]
              rfl))
            rw [show (decide (0 ≤ z) && decide (z ≤ (L.length : Int) - 1)) = false by rw [Bool.eq_false_iff]; simp; omega] at HI
            have HB := Lib.hid fun m => (HPr.out m).1.bl
            clear hall HNo HYes hx hz hst hw
            go_wp2
            go_quiet ((go_at_call 60; exact Calls.quiet_of_same (HI.out _)))
            go_wp2
            go_ret2
            exact ⟨by rw [HN.out]; rfl, HB.out _⟩
        · have hke : k = reqs.length := by omega
          have hltI : ¬ (k : Int) < (reqs.length : Int) := by omega
          obtain ⟨hV, hC⟩ := HYes.out fun j x z h1 h2 => hall.out j x z (by have := (List.getElem?_eq_some_iff.1 h1).1; omega) h1 h2
          have HV := Lib.hid hV
          have HC := Lib.hid hC
          clear hke hall hw hV hC HYes HNo
          go_wp2_with fail
          go_at_call 61
          refine (HC.out _ HPc.out.bl HPc.out.mv HPc.out.sv).mono ?_
          rintro e w2 ⟨rfl, hb⟩
          have HB := Lib.hid (HPc.out.on hb).bl
          clear hb p0 p1
          go_wp2
          go_ret2
          exact ⟨by rw [HV.out]; rfl, HB.out⟩
    · rw [Q.schC_no2 (Q.sch_no_len hlen)]
      have hne : ((states.length : Int) != (reqs.length : Int)) = true := by simp; omega
      have hne2 : ¬ (states.length : Int) = (reqs.length : Int) := by omega
      clear hL hS hR hT hq hask hlen
      generalize states.length = n1 at hne hne2 hls ⊢
      go_enter Try.func25, Try.ntmps25
      go_wp2_with fail
      generalize w.alloc (.cells #[.slice A L.length c, .slice B S.length d] 27) = wa at HP ⊢
      obtain ⟨p0, p1, _, _, _⟩ := HP.out.bk
      go_wp2_with fail
      go_at_call 59
      refine (HG.out _ HP.out.bl HP.out.mv HP.out.sv).mono ?_
      rintro e w1 ⟨rfl, hb⟩
      have HP1 := Lib.hid (HP.out.on hb)
      clear p0 p1 hb
      obtain ⟨p0, p1, _, _, _⟩ := HP1.out.bk
      go_wp2
      go_ret2
      exact ⟨rfl, HP1.out.bl⟩
end Go.Proofs.Ytphmjpafebljaaa
