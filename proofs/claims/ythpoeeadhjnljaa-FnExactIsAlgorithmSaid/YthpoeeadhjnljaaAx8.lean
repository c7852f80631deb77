/-
  Algorithms: the model's l8Alg; IsAlgorithm, AlgorithmStates, AlgorithmCost, both sides.
-/
import Derived.Test.YthpoeeadhjnljaaAs8
import Derived.BigQuiet
namespace Go.Proofs.Ythpoeeadhjnljaa
open Go.RowKit
set_option linter.unusedVariables false
namespace Q
noncomputable def iaQ (L S next : List (List Int)) : Bool × Bool := if prQ L S then (algQ L.length S next, true) else (false, false)
theorem ia_no {L S next : List (List Int)} (h : prQ L S = false) : iaQ L S next = (false, false) := if_neg (by simp [h])
theorem ia_yes {L S next : List (List Int)} (h : prQ L S = true) : iaQ L S next = (algQ L.length S next, true) := if_pos h
noncomputable def asQ (L S next : List (List Int)) (start : Int) (reqs : List Int) : List Int × Bool := if askQ L S start reqs && algQ L.length S next then (statesL next start.toNat reqs reqs.length, true) else ([], false)
theorem as_no1 {L S next : List (List Int)} {start : Int} {reqs : List Int} (h : askQ L S start reqs = false) : asQ L S next start reqs = ([], false) := if_neg (by simp [h])
theorem as_no2 {L S next : List (List Int)} {start : Int} {reqs : List Int} (h : algQ L.length S next = false) : asQ L S next start reqs = ([], false) := if_neg (by simp [h])
theorem as_yes {L S next : List (List Int)} {start : Int} {reqs : List Int} (h : askQ L S start reqs = true) (h2 : algQ L.length S next = true) : asQ L S next start reqs = (statesL next start.toNat reqs reqs.length, true) := if_pos (by simp [h, h2])
noncomputable def acQ (L S next : List (List Int)) (start : Int) (reqs : List Int) : Int × Bool := if askQ L S start reqs && algQ L.length S next then ((costK L S start.toNat reqs (statesL next start.toNat reqs reqs.length) reqs.length).1, true) else (0, false)
theorem ac_no1 {L S next : List (List Int)} {start : Int} {reqs : List Int} (h : askQ L S start reqs = false) : acQ L S next start reqs = (0, false) := if_neg (by simp [h])
theorem ac_no2 {L S next : List (List Int)} {start : Int} {reqs : List Int} (h : algQ L.length S next = false) : acQ L S next start reqs = (0, false) := if_neg (by simp [h])
theorem ac_yes {L S next : List (List Int)} {start : Int} {reqs : List Int} (h : askQ L S start reqs = true) (h2 : algQ L.length S next = true) : acQ L S next start reqs = ((costK L S start.toNat reqs (statesL next start.toNat reqs reqs.length) reqs.length).1, true) := if_pos (by simp [h, h2])
end Q
set_option maxRecDepth 100000 in
set_option maxHeartbeats 1600000 in
theorem l8Alg_any (A : Option Addr) (c : Nat) (xs : List Value) (L : List (List Int)) (B : Option Addr) (d : Nat) (ys : List Value) (S : List (List Int)) (w : World) (N : Option Addr) (cN : Nat) (zs : List Value) (next : List (List Int)) (hpr : Q.Pr L S) (hl : ∀ l ∈ next, l.length ≤ 1048576) (hn : next.length ≤ 1048576) (hL : NRow w A xs L) (hS : NRow w B ys S) (hN : NRow w N zs next) :
    Calls Try.prog 61 #[pv A L.length c B S.length d, .slice N next.length cN] w fun e w' => e = .returned (.bool (Q.algQ L.length S next)) ∧ Below w.heap.size w w' := by
  obtain ⟨bB, oB, rfl⟩ := hS.some_ hpr.m1
  have HP := Lib.hid (PIn.start (c := c) (d := d) hL hS 29)
  obtain ⟨p0, p1, _, _, _⟩ := HP.out.bk
  have HNx := Lib.hid fun (W : World) (h : Below w.heap.size w W) => hN.stays h
  by_cases hlen : next.length = L.length
  · have hne : ((next.length : Int) != (L.length : Int)) = false := by simp [hlen]
    have HTS := Lib.hid fun (W : World) (h : NRow W (some ⟨bB, oB, none⟩) ys S) => h.tab hpr.rows hpr.n1
    have HE := Lib.hid fun (r s : Nat) (hr : r < S.length) (hs : s < L.length) => hpr.srv hr hs
    have HIn := Lib.hid fun (z : Int) (W : World) => l1In_any z 0 ((L.length : Int) - 1) W
    have HNo : Hid (∀ s l, next[s]? = some l → Q.schQ L.length S (Q.kindsL S.length) l = false → Q.algQ L.length S next = false) := fun s l hl hb => by
      show _ = _
      rw [Q.alg_all hlen, decide_eq_false]
      intro h
      have := h l (List.mem_of_getElem? hl)
      rw [hb] at this
      cases this
    have HYes : Hid ((∀ s l, s < L.length → next[s]? = some l → Q.schQ L.length S (Q.kindsL S.length) l = true) → Q.algQ L.length S next = true) := fun h => by
      show _ = _
      rw [Q.alg_all hlen, decide_eq_true]
      intro l hl
      obtain ⟨j, hj, rfl⟩ := List.mem_iff_getElem.1 hl
      exact h j _ (by omega) (List.getElem?_eq_getElem hj)
    have HR1 : Hid (∀ l : List Int, ¬ l.length = S.length → Q.schQ L.length S (Q.kindsL S.length) l = false) := fun l h => Q.sch_no_len (by rw [Q.kindsL_len]; exact h)
    have HR2 : Hid (∀ (l : List Int) (r : Nat) (z : Int), r < S.length → l[r]? = some z → Q.okSt L.length S r z = false → Q.schQ L.length S (Q.kindsL S.length) l = false) := fun l r z hr hz hb => Q.sch_no (Q.kindsL_at hr) hz hb
    have HR3 : Hid (∀ l : List Int, l.length = S.length → (∀ (r : Nat) (z : Int), r < S.length → l[r]? = some z → Q.okSt L.length S r z = true) → Q.schQ L.length S (Q.kindsL S.length) l = true) := fun l hl h => Q.sch_yes (by rw [Q.kindsL_len]; exact hl) fun k x z h1 h2 => by
      have hk : k < S.length := by have := (List.getElem?_eq_some_iff.1 h2).1; omega
      rw [Q.kindsL_at hk] at h1
      cases h1
      exact h k z hk h2
    have HLl := Lib.hid hl
    have HSe : Hid (∀ s, s < L.length → ∃ l, next[s]? = some l) := fun s hs => ⟨_, List.getElem?_eq_getElem (by omega)⟩
    have hn4 := hpr.n4
    have hn1 := hpr.n1
    have hm4 := hpr.m4
    rw [hlen]
    generalize Q.algQ L.length S next = X at HNo HYes ⊢
    generalize Q.schQ L.length S (Q.kindsL S.length) = sc at HNo HYes HR1 HR2 HR3
    clear hL hS hN hl hlen hne hpr hn
    go_enter Try.func61, Try.ntmps61
    go_wp2
    generalize w.alloc (.cells #[.slice A L.length c, .slice (some ⟨bB, oB, none⟩) S.length d] 29) = wa at HP p0 p1 ⊢
    clear p0 p1
    go_loopw [5] (fun i wr => ∃ s : Nat, s ≤ L.length ∧ i = .int .i64 (s : Int) ∧ Hid (∃ m, wr = wa.drewN m) ∧ Hid (∀ s' l, s' < s → next[s']? = some l → sc l = true)) (fun i _ => L.length - (intOf i).toNat)
    case atStart => exact ⟨0, Nat.zero_le _, rfl, ⟨0, rfl⟩, fun s' l h => by omega⟩
    case round =>
      obtain ⟨s, hs, rfl, hw, hall⟩ := hrel
      have HPo : Hid (∀ m, PIn w (wr.drewN m) A c xs L (some ⟨bB, oB, none⟩) d ys S ∧ ∃ q, wr.drewN m = wa.drewN q) := fun m => by
        obtain ⟨q, e⟩ := hw.out
        rw [e]
        exact ⟨(HP.out.drewN q).drewN m, q + m, by simp⟩
      have hP0 := (HPo.out 0).1
      have e0 : wr.drewN 0 = wr := rfl
      rw [e0] at hP0
      have HPc := Lib.hid hP0
      clear hP0 e0
      obtain ⟨p0, p1, _, _, _⟩ := HPc.out.bk
      by_cases hls : s < L.length
      · have hlsI : (s : Int) < (L.length : Int) := by omega
        obtain ⟨l, hl⟩ := HSe.out s hls
        have hll := HLl.out l (List.mem_of_getElem? hl)
        obtain ⟨bN, oN, X1, dX, rfl, hbN, hcN, hrX⟩ := (HNx.out wr HPc.out.bl).row_at hl
        have HLs := Lib.hid hl
        by_cases hml : l.length = S.length
        · have hne : ((l.length : Int) != (S.length : Int)) = false := by simp [hml]
          have HRX := Lib.hid fun (W : World) (h : ∃ m, W = wr.drewN m) => (by obtain ⟨m, e⟩ := h; rw [e]; exact hrX.drewN m : Law.Row W X1 (ivs l))
          have HCN := Lib.hid fun (W : World) (h : ∃ m, W = wr.drewN m) => (by obtain ⟨m, e⟩ := h; rw [e]; exact hcN : W.cell? ⟨bN, oN + s, none⟩ = some (.slice X1 l.length dX))
          rw [hml] at HCN hcN hne
          have HML := Lib.hid hml
          clear hl hrX hml hll
          go_wp2
          go_quiet (fail)
          generalize hWW : wr.drewN _ = wo
          have HWo : Hid (∃ m, wo = wr.drewN m) := ⟨_, hWW.symm⟩
          clear p0 p1 hcN hne hWW
          go_wp2
          go_loopw [6] (fun i wq => ∃ r : Nat, r ≤ S.length ∧ i = .int .i64 (r : Int) ∧ Hid (∃ m, wq = wr.drewN m) ∧ Hid (∀ (r' : Nat) (z : Int), r' < r → l[r']? = some z → Q.okSt L.length S r' z = true)) (fun i _ => S.length - (intOf i).toNat)
          case atStart => exact ⟨0, Nat.zero_le _, rfl, HWo.out, fun r' z h => by omega⟩
          case round =>
            rename World => wq
            obtain ⟨r, hr, rfl, hw2, hall2⟩ := hrel
            have HPr : Hid (∀ m, PIn w (wq.drewN m) A c xs L (some ⟨bB, oB, none⟩) d ys S ∧ ∃ q, wq.drewN m = wr.drewN q) := fun m => by
              obtain ⟨q, e⟩ := hw2.out
              rw [e]
              exact ⟨(HPc.out.drewN q).drewN m, q + m, by simp⟩
            have hP0 := (HPr.out 0).1
            have e0 : wq.drewN 0 = wq := rfl
            rw [e0] at hP0
            have HPd := Lib.hid hP0
            clear hP0 e0
            obtain ⟨p0, p1, _, _, _⟩ := HPd.out.bk
            have hcN := HCN.out wq hw2.out
            by_cases hlr : r < S.length
            · have hlrI : (r : Int) < (S.length : Int) := by omega
              obtain ⟨z, hz⟩ : ∃ z, l[r]? = some z := ⟨_, List.getElem?_eq_getElem (by rw [HML.out]; exact hlr)⟩
              obtain ⟨b3, o3, e3, _, hc3⟩ := (HRX.out wq hw2.out).at_ (ivs_some hz)
              subst e3
              have HI := Lib.hid (HIn.out z)
              by_cases hst : 0 ≤ z ∧ z < L.length
              · obtain ⟨t, rfl⟩ := Int.eq_ofNat_of_zero_le hst.1
                have htn : t < L.length := by omega
                have htI : (t : Int) < (L.length : Int) := by omega
                obtain ⟨b2, o2, d2, hc2, hv2⟩ := HTS.out wq HPd.out.sv r hlr
                have hv3 := hv2 t htn
                clear hv2
                have hE := HE.out r t hlr htn
                have hok : Q.okSt L.length S (r : Int) (t : Int) = decide (Q.dst S r t ≠ -1) := by
                  rw [Q.okSt]
                  simp [htn]
                rw [show (decide (0 ≤ (t : Int)) && decide ((t : Int) ≤ (L.length : Int) - 1)) = true by simp; omega] at HI
                generalize Q.dst S r t = E at hv3 hok hE
                by_cases hE1 : E = -1
                · have HN := Lib.hid (HNo.out s l HLs.out (HR2.out l r t hlr hz (by rw [hok]; simp [hE1])))
                  have HB := Lib.hid fun m => (HPr.out m).1.bl
                  have hneg : E < 0 := by omega
                  clear hok hall hall2 HNo HYes hz hst hw hw2 hE1
                  go_wp2
                  go_quiet ((go_at_call 75; exact Calls.quiet_of_same (HI.out _)))
                  go_wp2
                  go_ret
                  exact ⟨by rw [HN.out]; first | rfl | simp, HB.out _⟩
                · have hneg : ¬ E < 0 := by omega
                  have HA : Hid (∀ (r' : Nat) (z : Int), r' < r + 1 → l[r']? = some z → Q.okSt L.length S r' z = true) := fun r' z' hr' hz' => by
                    by_cases e : r' = r
                    · subst e
                      rw [hz] at hz'
                      cases hz'
                      rw [hok]
                      simpa using hE1
                    · exact hall2.out r' z' (by omega) hz'
                  clear hok hall2 hz hst hw2 hE1
                  go_wp2
                  go_quiet ((go_at_call 75; exact Calls.quiet_of_same (HI.out _)))
                  go_wp2
                  go_roundw
                  case rel => exact ⟨r + 1, by omega, by go_num, (HPr.out _).2, HA.out⟩
                  case measure => simp [intOf]; omega
              · have HN := Lib.hid (HNo.out s l HLs.out (HR2.out l r z hlr hz (by
                  rw [Q.okSt, show (decide (0 ≤ z) && decide (z < (L.length : Int))) = false by rw [Bool.eq_false_iff]; simpa using hst]
                  rfl)))
                rw [show (decide (0 ≤ z) && decide (z ≤ (L.length : Int) - 1)) = false by rw [Bool.eq_false_iff]; simp; omega] at HI
                have HB := Lib.hid fun m => (HPr.out m).1.bl
                clear hall hall2 HNo HYes hz hst hw hw2
                go_wp2
                go_quiet ((go_at_call 75; exact Calls.quiet_of_same (HI.out _)))
                go_wp2
                go_ret
                exact ⟨by rw [HN.out]; first | rfl | simp, HB.out _⟩
            · have hre : r = S.length := by omega
              have hlrI : ¬ (r : Int) < (S.length : Int) := by omega
              have hsl := HR3.out l HML.out fun r' z' h1 h2 => hall2.out r' z' (by omega) h2
              have HA : Hid (∀ s' l, s' < s + 1 → next[s']? = some l → sc l = true) := fun s' l' hs' hl' => by
                by_cases e : s' = s
                · subst e
                  rw [HLs.out] at hl'
                  cases hl'
                  exact hsl
                · exact hall.out s' l' (by omega) hl'
              have HWm : Hid (∃ q, wq = wa.drewN q) := by
                obtain ⟨q, e⟩ := hw2.out
                obtain ⟨q2, e2⟩ := hw.out
                exact ⟨q2 + q, by rw [e, e2]; simp⟩
              clear hre hsl hall hall2 hw hw2
              go_wp2
              go_roundw
              case rel => exact ⟨s + 1, by omega, by go_num, HWm.out, HA.out⟩
              case measure => simp [intOf]; omega
        · have hne : ((l.length : Int) != (S.length : Int)) = true := by simp; omega
          have hne2 : ¬ (l.length : Int) = (S.length : Int) := by omega
          have HN := Lib.hid (HNo.out s l hl (HR1.out l hml))
          have HB := Lib.hid fun m => (HPo.out m).1.bl
          clear hl hrX hml hall HNo HYes hw
          generalize l.length = ln at hne hne2 hcN hll
          go_wp2
          go_quiet (fail)
          go_wp2
          go_ret
          exact ⟨by rw [HN.out]; first | rfl | simp, HB.out _⟩
      · have hse : s = L.length := by omega
        have hlsI : ¬ (s : Int) < (L.length : Int) := by omega
        have HN := Lib.hid (HYes.out fun s' l h1 h2 => hall.out s' l (by omega) h2)
        have HB := Lib.hid HPc.out.bl
        clear hse hall hw
        go_wp2
        go_ret
        exact ⟨by rw [HN.out]; rfl, HB.out⟩
  · have hne : ((next.length : Int) != (L.length : Int)) = true := by simp; omega
    have hne2 : ¬ (next.length : Int) = (L.length : Int) := by omega
    have HN := Lib.hid (Q.alg_no_len (S := S) hlen)
    clear hL hS hN hlen hl
    generalize next.length = n1 at hne hne2 hn ⊢
    go_enter Try.func61, Try.ntmps61
    go_wp2
    go_ret
    exact ⟨by rw [HN.out]; first | rfl | simp, HP.out.bl⟩
set_option maxHeartbeats 800000 in
theorem impIa_any (A : Option Addr) (c : Nat) (xs : List Value) (L : List (List Int)) (B : Option Addr) (d : Nat) (ys : List Value) (S : List (List Int)) (w : World) (N : Option Addr) (cN : Nat) (zs : List Value) (next : List (List Int)) (hlL : ∀ l ∈ L, l.length ≤ 1048576) (hlS : ∀ l ∈ S, l.length ≤ 1048576) (hl : ∀ l ∈ next, l.length ≤ 1048576) (hn : next.length ≤ 1048576) (hL : NRow w A xs L) (hS : NRow w B ys S) (hN : NRow w N zs next) :
    Calls Try.prog 20 #[pv A L.length c B S.length d, .slice N next.length cN] w fun e w' => e = .returned (.tuple #[.bool (Q.iaQ L S next).1, .bool (Q.iaQ L S next).2]) ∧ Below w.heap.size w w' := by
  have HP := Lib.hid (PIn.start (c := c) (d := d) hL hS 29)
  have HG := Lib.hid fun (W : World) (h1 : NRow W A xs L) (h2 : NRow W B ys S) => impPr_any A c xs L B d ys S W hlL hlS h1 h2
  cases hp : Q.prQ L S
  · rw [Q.ia_no hp]
    rw [hp] at HG
    clear hL hS hN hp
    go_enter Try.func20, Try.ntmps20
    go_wp2_with fail
    generalize w.alloc (.cells #[.slice A L.length c, .slice B S.length d] 29) = wa at HP ⊢
    obtain ⟨p0, p1, _, _, _⟩ := HP.out.bk
    go_wp2_with fail
    go_at_call 62
    refine (HG.out _ HP.out.mv HP.out.sv).mono ?_
    rintro e w1 ⟨rfl, hb⟩
    have HP1 := Lib.hid (HP.out.on hb)
    clear p0 p1 hb
    obtain ⟨p0, p1, _, _, _⟩ := HP1.out.bk
    go_wp2
    go_ret2
    exact ⟨rfl, HP1.out.bl⟩
  · have hpr := Q.pr_iff.1 hp
    rw [Q.ia_yes hp]
    rw [hp] at HG
    have HA := Lib.hid fun (W : World) (h : Below w.heap.size w W) (h1 : NRow W A xs L) (h2 : NRow W B ys S) => isAlgorithm_any A c xs L B d ys S N cN zs next W hpr hl hn h1 h2 (hN.stays h)
    generalize Q.algQ L.length S next = V at HA ⊢
    clear hL hS hN hp hpr
    go_enter Try.func20, Try.ntmps20
    go_wp2_with fail
    generalize w.alloc (.cells #[.slice A L.length c, .slice B S.length d] 29) = wa at HP ⊢
    obtain ⟨p0, p1, _, _, _⟩ := HP.out.bk
    go_wp2_with fail
    go_at_call 62
    refine (HG.out _ HP.out.mv HP.out.sv).mono ?_
    rintro e w1 ⟨rfl, hb⟩
    have HP1 := Lib.hid (HP.out.on hb)
    clear p0 p1 hb
    obtain ⟨p0, p1, _, _, _⟩ := HP1.out.bk
    go_wp2_with fail
    go_at_call 63
    refine (HA.out _ HP1.out.bl HP1.out.mv HP1.out.sv).mono ?_
    rintro e w2 ⟨rfl, hb⟩
    have HP2 := Lib.hid (HP1.out.on hb)
    clear p0 p1 hb
    obtain ⟨p0, p1, _, _, _⟩ := HP2.out.bk
    go_wp2
    go_ret2
    exact ⟨rfl, HP2.out.bl⟩
set_option maxHeartbeats 800000 in
theorem specIa_any (A : Option Addr) (c : Nat) (xs : List Value) (L : List (List Int)) (B : Option Addr) (d : Nat) (ys : List Value) (S : List (List Int)) (w : World) (N : Option Addr) (cN : Nat) (zs : List Value) (next : List (List Int)) (hlL : ∀ l ∈ L, l.length ≤ 1048576) (hlS : ∀ l ∈ S, l.length ≤ 1048576) (hl : ∀ l ∈ next, l.length ≤ 1048576) (hn : next.length ≤ 1048576) (hL : NRow w A xs L) (hS : NRow w B ys S) (hN : NRow w N zs next) :
    Calls Try.prog 17 #[pv A L.length c B S.length d, .slice N next.length cN] w fun e w' => e = .returned (.tuple #[.bool (Q.iaQ L S next).1, .bool (Q.iaQ L S next).2]) ∧ Below w.heap.size w w' := by
  have HP := Lib.hid (PIn.start (c := c) (d := d) hL hS 29)
  have HG := Lib.hid fun (W : World) (h1 : NRow W A xs L) (h2 : NRow W B ys S) => l8Good_any A c xs L B d ys S W hlS h1 h2
  cases hp : Q.prQ L S
  · rw [Q.ia_no hp]
    rw [hp] at HG
    clear hL hS hN hp
    go_enter Try.func17, Try.ntmps17
    go_wp2_with fail
    generalize w.alloc (.cells #[.slice A L.length c, .slice B S.length d] 29) = wa at HP ⊢
    obtain ⟨p0, p1, _, _, _⟩ := HP.out.bk
    go_wp2_with fail
    go_at_call 60
    refine (HG.out _ HP.out.mv HP.out.sv).mono ?_
    rintro e w1 ⟨rfl, hb⟩
    have HP1 := Lib.hid (HP.out.on hb)
    clear p0 p1 hb
    obtain ⟨p0, p1, _, _, _⟩ := HP1.out.bk
    go_wp2
    go_ret2
    exact ⟨rfl, HP1.out.bl⟩
  · have hpr := Q.pr_iff.1 hp
    rw [Q.ia_yes hp]
    rw [hp] at HG
    have HA := Lib.hid fun (W : World) (h : Below w.heap.size w W) (h1 : NRow W A xs L) (h2 : NRow W B ys S) => l8Alg_any A c xs L B d ys S W N cN zs next hpr hl hn h1 h2 (hN.stays h)
    generalize Q.algQ L.length S next = V at HA ⊢
    clear hL hS hN hp hpr
    go_enter Try.func17, Try.ntmps17
    go_wp2_with fail
    generalize w.alloc (.cells #[.slice A L.length c, .slice B S.length d] 29) = wa at HP ⊢
    obtain ⟨p0, p1, _, _, _⟩ := HP.out.bk
    go_wp2_with fail
    go_at_call 60
    refine (HG.out _ HP.out.mv HP.out.sv).mono ?_
    rintro e w1 ⟨rfl, hb⟩
    have HP1 := Lib.hid (HP.out.on hb)
    clear p0 p1 hb
    obtain ⟨p0, p1, _, _, _⟩ := HP1.out.bk
    go_wp2_with fail
    go_at_call 61
    refine (HA.out _ HP1.out.bl HP1.out.mv HP1.out.sv).mono ?_
    rintro e w2 ⟨rfl, hb⟩
    have HP2 := Lib.hid (HP1.out.on hb)
    clear p0 p1 hb
    obtain ⟨p0, p1, _, _, _⟩ := HP2.out.bk
    go_wp2
    go_ret2
    exact ⟨rfl, HP2.out.bl⟩
set_option maxHeartbeats 800000 in
theorem impAs_any (A : Option Addr) (c : Nat) (xs : List Value) (L : List (List Int)) (B : Option Addr) (d : Nat) (ys : List Value) (S : List (List Int)) (w : World) (N : Option Addr) (cN : Nat) (zs : List Value) (next : List (List Int)) (start : Int) (reqs : List Int) (R : Option Addr) (e : Nat) (hlL : ∀ l ∈ L, l.length ≤ 1048576) (hlS : ∀ l ∈ S, l.length ≤ 1048576) (hlr : reqs.length ≤ 1048576) (hl : ∀ l ∈ next, l.length ≤ 1048576) (hn : next.length ≤ 1048576) (hL : NRow w A xs L) (hS : NRow w B ys S) (hN : NRow w N zs next) (hR : Law.Row w R (ivs reqs)) :
    Calls Try.prog 25 #[pv A L.length c B S.length d, .slice N next.length cN, .int .i64 start, .slice R reqs.length e] w (rowSays (Q.asQ L S next start reqs) w) := by
  have HP := Lib.hid (PIn.start (c := c) (d := d) hL hS 29)
  have HG := Lib.hid fun (W : World) (h : Below w.heap.size w W) (h1 : NRow W A xs L) (h2 : NRow W B ys S) => isAsked_any A c xs L B d ys S W start reqs R e hlL hlS hlr h1 h2 (hR.stays h)
  cases hq : Q.askQ L S start reqs
  · rw [Q.as_no1 hq]
    rw [hq] at HG
    clear hL hS hN hR hq
    go_enter Try.func25, Try.ntmps25
    go_wp2_with fail
    generalize w.alloc (.cells #[.slice A L.length c, .slice B S.length d] 29) = wa at HP ⊢
    obtain ⟨p0, p1, _, _, _⟩ := HP.out.bk
    go_wp2_with fail
    go_at_call 66
    refine (HG.out _ HP.out.bl HP.out.mv HP.out.sv).mono ?_
    rintro e w1 ⟨rfl, hb⟩
    have HP1 := Lib.hid (HP.out.on hb)
    clear p0 p1 hb
    obtain ⟨p0, p1, _, _, _⟩ := HP1.out.bk
    go_wp2
    go_ret2
    exact ⟨_, rfl, own_down (ownsRow_nil _ _) HP1.out.bl.size, HP1.out.bl.alloc HP1.out.bl.size _⟩
  · have hask := Q.ask_iff.1 hq
    rw [hq] at HG
    have HA := Lib.hid fun (W : World) (h : Below w.heap.size w W) (h1 : NRow W A xs L) (h2 : NRow W B ys S) => isAlgorithm_any A c xs L B d ys S N cN zs next W hask.pr hl hn h1 h2 (hN.stays h)
    cases ha : Q.algQ L.length S next
    · rw [Q.as_no2 ha]
      rw [ha] at HA
      clear hL hS hN hR hq ha hask
      go_enter Try.func25, Try.ntmps25
      go_wp2_with fail
      generalize w.alloc (.cells #[.slice A L.length c, .slice B S.length d] 29) = wa at HP ⊢
      obtain ⟨p0, p1, _, _, _⟩ := HP.out.bk
      go_wp2_with fail
      go_at_call 66
      refine (HG.out _ HP.out.bl HP.out.mv HP.out.sv).mono ?_
      rintro e w1 ⟨rfl, hb⟩
      have HP1 := Lib.hid (HP.out.on hb)
      clear p0 p1 hb
      obtain ⟨p0, p1, _, _, _⟩ := HP1.out.bk
      go_wp2_with fail
      go_at_call 63
      refine (HA.out _ HP1.out.bl HP1.out.mv HP1.out.sv).mono ?_
      rintro e w2 ⟨rfl, hb⟩
      have HP2 := Lib.hid (HP1.out.on hb)
      clear p0 p1 hb
      obtain ⟨p0, p1, _, _, _⟩ := HP2.out.bk
      go_wp2
      go_ret2
      exact ⟨_, rfl, own_down (ownsRow_nil _ _) HP2.out.bl.size, HP2.out.bl.alloc HP2.out.bl.size _⟩
    · rw [Q.as_yes hq ha]
      rw [ha] at HA
      obtain ⟨s0, e0, hs0⟩ := hask.st
      subst e0
      rw [Int.toNat_natCast]
      have HT := Lib.hid fun (W : World) (h : Below w.heap.size w W) => statesOf_any N cN zs next W s0 reqs R e hask.pr.n1 hask.pr.m1 (Q.alg_iff ha) hs0 hask.len hask.rq (hN.stays h) (hR.stays h)
      generalize Q.statesL next s0 reqs reqs.length = X at HT ⊢
      clear hL hS hN hR hq ha hask
      go_enter Try.func25, Try.ntmps25
      go_wp2_with fail
      generalize w.alloc (.cells #[.slice A L.length c, .slice B S.length d] 29) = wa at HP ⊢
      obtain ⟨p0, p1, _, _, _⟩ := HP.out.bk
      go_wp2_with fail
      go_at_call 66
      refine (HG.out _ HP.out.bl HP.out.mv HP.out.sv).mono ?_
      rintro e w1 ⟨rfl, hb⟩
      have HP1 := Lib.hid (HP.out.on hb)
      clear p0 p1 hb
      obtain ⟨p0, p1, _, _, _⟩ := HP1.out.bk
      go_wp2_with fail
      go_at_call 63
      refine (HA.out _ HP1.out.bl HP1.out.mv HP1.out.sv).mono ?_
      rintro e w2 ⟨rfl, hb⟩
      have HP2 := Lib.hid (HP1.out.on hb)
      clear p0 p1 hb
      obtain ⟨p0, p1, _, _, _⟩ := HP2.out.bk
      go_wp2_with fail
      go_at_call 67
      refine (HT.out _ HP2.out.bl).mono ?_
      rintro e w9 ⟨v9, rfl, ho, hb⟩
      have HB := Lib.hid (Law.then_ HP2.out.bl hb)
      have HO := Lib.hid (own_down ho HP2.out.bl.size)
      clear ho hb p0 p1
      go_wp2
      go_ret2
      exact ⟨_, rfl, HO.out, HB.out⟩
set_option maxHeartbeats 800000 in
theorem specAs_any (A : Option Addr) (c : Nat) (xs : List Value) (L : List (List Int)) (B : Option Addr) (d : Nat) (ys : List Value) (S : List (List Int)) (w : World) (N : Option Addr) (cN : Nat) (zs : List Value) (next : List (List Int)) (start : Int) (reqs : List Int) (R : Option Addr) (e : Nat) (hlL : ∀ l ∈ L, l.length ≤ 1048576) (hlS : ∀ l ∈ S, l.length ≤ 1048576) (hlr : reqs.length ≤ 1048576) (hl : ∀ l ∈ next, l.length ≤ 1048576) (hn : next.length ≤ 1048576) (hL : NRow w A xs L) (hS : NRow w B ys S) (hN : NRow w N zs next) (hR : Law.Row w R (ivs reqs)) :
    Calls Try.prog 23 #[pv A L.length c B S.length d, .slice N next.length cN, .int .i64 start, .slice R reqs.length e] w (rowSays (Q.asQ L S next start reqs) w) := by
  have HP := Lib.hid (PIn.start (c := c) (d := d) hL hS 29)
  have HG := Lib.hid fun (W : World) (h : Below w.heap.size w W) (h1 : NRow W A xs L) (h2 : NRow W B ys S) => l8Takes_any A c xs L B d ys S W start reqs R e hlS hlr h1 h2 (hR.stays h)
  cases hq : Q.askQ L S start reqs
  · rw [Q.as_no1 hq]
    rw [hq] at HG
    clear hL hS hN hR hq
    go_enter Try.func23, Try.ntmps23
    go_wp2_with fail
    generalize w.alloc (.cells #[.slice A L.length c, .slice B S.length d] 29) = wa at HP ⊢
    obtain ⟨p0, p1, _, _, _⟩ := HP.out.bk
    go_wp2_with fail
    go_at_call 64
    refine (HG.out _ HP.out.bl HP.out.mv HP.out.sv).mono ?_
    rintro e w1 ⟨rfl, hb⟩
    have HP1 := Lib.hid (HP.out.on hb)
    clear p0 p1 hb
    obtain ⟨p0, p1, _, _, _⟩ := HP1.out.bk
    go_wp2
    go_ret2
    exact ⟨_, rfl, own_down (ownsRow_nil _ _) HP1.out.bl.size, HP1.out.bl.alloc HP1.out.bl.size _⟩
  · have hask := Q.ask_iff.1 hq
    rw [hq] at HG
    have HA := Lib.hid fun (W : World) (h : Below w.heap.size w W) (h1 : NRow W A xs L) (h2 : NRow W B ys S) => l8Alg_any A c xs L B d ys S W N cN zs next hask.pr hl hn h1 h2 (hN.stays h)
    cases ha : Q.algQ L.length S next
    · rw [Q.as_no2 ha]
      rw [ha] at HA
      clear hL hS hN hR hq ha hask
      go_enter Try.func23, Try.ntmps23
      go_wp2_with fail
      generalize w.alloc (.cells #[.slice A L.length c, .slice B S.length d] 29) = wa at HP ⊢
      obtain ⟨p0, p1, _, _, _⟩ := HP.out.bk
      go_wp2_with fail
      go_at_call 64
      refine (HG.out _ HP.out.bl HP.out.mv HP.out.sv).mono ?_
      rintro e w1 ⟨rfl, hb⟩
      have HP1 := Lib.hid (HP.out.on hb)
      clear p0 p1 hb
      obtain ⟨p0, p1, _, _, _⟩ := HP1.out.bk
      go_wp2_with fail
      go_at_call 61
      refine (HA.out _ HP1.out.bl HP1.out.mv HP1.out.sv).mono ?_
      rintro e w2 ⟨rfl, hb⟩
      have HP2 := Lib.hid (HP1.out.on hb)
      clear p0 p1 hb
      obtain ⟨p0, p1, _, _, _⟩ := HP2.out.bk
      go_wp2
      go_ret2
      exact ⟨_, rfl, own_down (ownsRow_nil _ _) HP2.out.bl.size, HP2.out.bl.alloc HP2.out.bl.size _⟩
    · rw [Q.as_yes hq ha]
      rw [ha] at HA
      obtain ⟨s0, e0, hs0⟩ := hask.st
      subst e0
      rw [Int.toNat_natCast]
      have HT := Lib.hid fun (W : World) (h : Below w.heap.size w W) => l8States_any N cN zs next W s0 reqs R e hask.pr.n1 hask.pr.m1 (Q.alg_iff ha) hs0 hask.len hask.rq (hN.stays h) (hR.stays h)
      generalize Q.statesL next s0 reqs reqs.length = X at HT ⊢
      clear hL hS hN hR hq ha hask
      go_enter Try.func23, Try.ntmps23
      go_wp2_with fail
      generalize w.alloc (.cells #[.slice A L.length c, .slice B S.length d] 29) = wa at HP ⊢
      obtain ⟨p0, p1, _, _, _⟩ := HP.out.bk
      go_wp2_with fail
      go_at_call 64
      refine (HG.out _ HP.out.bl HP.out.mv HP.out.sv).mono ?_
      rintro e w1 ⟨rfl, hb⟩
      have HP1 := Lib.hid (HP.out.on hb)
      clear p0 p1 hb
      obtain ⟨p0, p1, _, _, _⟩ := HP1.out.bk
      go_wp2_with fail
      go_at_call 61
      refine (HA.out _ HP1.out.bl HP1.out.mv HP1.out.sv).mono ?_
      rintro e w2 ⟨rfl, hb⟩
      have HP2 := Lib.hid (HP1.out.on hb)
      clear p0 p1 hb
      obtain ⟨p0, p1, _, _, _⟩ := HP2.out.bk
      go_wp2_with fail
      go_at_call 65
      refine (HT.out _ HP2.out.bl).mono ?_
      rintro e w9 ⟨v9, rfl, ho, hb⟩
      have HB := Lib.hid (Law.then_ HP2.out.bl hb)
      have HO := Lib.hid (own_down ho HP2.out.bl.size)
      clear ho hb p0 p1
      go_wp2
      go_ret2
      exact ⟨_, rfl, HO.out, HB.out⟩
set_option maxHeartbeats 800000 in
theorem impAc_any (A : Option Addr) (c : Nat) (xs : List Value) (L : List (List Int)) (B : Option Addr) (d : Nat) (ys : List Value) (S : List (List Int)) (w : World) (N : Option Addr) (cN : Nat) (zs : List Value) (next : List (List Int)) (start : Int) (reqs : List Int) (R : Option Addr) (e : Nat) (hlL : ∀ l ∈ L, l.length ≤ 1048576) (hlS : ∀ l ∈ S, l.length ≤ 1048576) (hlr : reqs.length ≤ 1048576) (hl : ∀ l ∈ next, l.length ≤ 1048576) (hn : next.length ≤ 1048576) (hL : NRow w A xs L) (hS : NRow w B ys S) (hN : NRow w N zs next) (hR : Law.Row w R (ivs reqs)) :
    Calls Try.prog 32 #[pv A L.length c B S.length d, .slice N next.length cN, .int .i64 start, .slice R reqs.length e] w fun e w' => e = .returned (.tuple #[.int .i64 (Q.acQ L S next start reqs).1, .bool (Q.acQ L S next start reqs).2]) ∧ Below w.heap.size w w' := by
  have HP := Lib.hid (PIn.start (c := c) (d := d) hL hS 29)
  have HG := Lib.hid fun (W : World) (h : Below w.heap.size w W) (h1 : NRow W A xs L) (h2 : NRow W B ys S) => impAs_any A c xs L B d ys S W N cN zs next start reqs R e hlL hlS hlr hl hn h1 h2 (hN.stays h) (hR.stays h)
  cases hqa : (Q.askQ L S start reqs && Q.algQ L.length S next)
  · have h1 : Q.asQ L S next start reqs = ([], false) := if_neg (by rw [hqa]; simp)
    have h2 : Q.acQ L S next start reqs = (0, false) := if_neg (by rw [hqa]; simp)
    rw [h2]
    rw [h1] at HG
    have HC := Lib.hid fun (T : Option Addr) (f : Nat) (W : World) (h1 : NRow W A xs L) (h2 : NRow W B ys S) => costOf_nil A c xs L B d ys S W reqs R e T f start h1 h2
    clear hL hS hN hR hqa h1 h2
    go_enter Try.func32, Try.ntmps32
    go_wp2_with fail
    generalize w.alloc (.cells #[.slice A L.length c, .slice B S.length d] 29) = wa at HP ⊢
    obtain ⟨p0, p1, _, _, _⟩ := HP.out.bk
    go_wp2_with fail
    go_at_call 25
    refine (HG.out _ HP.out.bl HP.out.mv HP.out.sv).mono ?_
    rintro e w1 ⟨v1, rfl, ho, hb⟩
    simp only [List.length_nil] at ho
    obtain ⟨T, f, rfl, _, _, _⟩ := Law.own_len ho
    have HP1 := Lib.hid (HP.out.on hb)
    clear p0 p1 hb ho
    obtain ⟨p0, p1, _, _, _⟩ := HP1.out.bk
    go_wp2_with fail
    go_at_call 69
    refine (HC.out T f _ HP1.out.mv HP1.out.sv).mono ?_
    rintro e w2 ⟨rfl, hb⟩
    have HB := Lib.hid (HP1.out.on hb).bl
    clear hb p0 p1
    go_wp2
    go_ret2
    exact ⟨rfl, HB.out⟩
  · have hqa2 := hqa
    simp only [Bool.and_eq_true] at hqa2
    obtain ⟨hq, ha⟩ := hqa2
    have hask := Q.ask_iff.1 hq
    rw [Q.ac_yes hq ha]
    rw [Q.as_yes hq ha] at HG
    obtain ⟨s0, e0, hs0⟩ := hask.st
    subst e0
    rw [Int.toNat_natCast] at HG ⊢
    have hlX := Q.statesL_len next s0 reqs reqs.length
    have hnX := Q.states_nats (Q.alg_iff ha) hs0 hask.rq
    have HC := Lib.hid fun (T : Option Addr) (f : Nat) (W : World) (h : Below w.heap.size w W) (h1 : NRow W A xs L) (h2 : NRow W B ys S) (h3 : Law.Row W T (ivs (Q.statesL next s0 reqs reqs.length))) => costOf_any A c xs L B d ys S W s0 reqs (Q.statesL next s0 reqs reqs.length) R e T f hask.pr hs0 hlX hask.len hask.rq hnX h1 h2 (hR.stays h) h3
    generalize (Q.costK L S s0 reqs (Q.statesL next s0 reqs reqs.length) reqs.length).1 = K at HC ⊢
    generalize Q.statesL next s0 reqs reqs.length = X at HG HC
    clear hL hS hN hR hq ha hask hlX hnX hqa
    go_enter Try.func32, Try.ntmps32
    go_wp2_with fail
    generalize w.alloc (.cells #[.slice A L.length c, .slice B S.length d] 29) = wa at HP ⊢
    obtain ⟨p0, p1, _, _, _⟩ := HP.out.bk
    go_wp2_with fail
    go_at_call 25
    refine (HG.out _ HP.out.bl HP.out.mv HP.out.sv).mono ?_
    rintro e w1 ⟨v1, rfl, ho, hb⟩
    obtain ⟨T, f, rfl, _, _, _⟩ := Law.own_len ho
    have HP1 := Lib.hid (HP.out.on hb)
    have HO := Lib.hid ho
    clear p0 p1 hb ho
    obtain ⟨p0, p1, _, _, _⟩ := HP1.out.bk
    simp only [] at HO
    go_wp2_with fail
    go_at_call 69
    refine (HC.out T f _ HP1.out.bl HP1.out.mv HP1.out.sv (Law.Row.own HO.out)).mono ?_
    rintro e w2 ⟨rfl, hb⟩
    have HB := Lib.hid (HP1.out.on hb).bl
    clear hb p0 p1
    go_wp2
    go_ret2
    exact ⟨rfl, HB.out⟩
set_option maxRecDepth 100000 in
set_option maxHeartbeats 1600000 in
theorem l8Cost_any (A : Option Addr) (c : Nat) (xs : List Value) (L : List (List Int)) (B : Option Addr) (d : Nat) (ys : List Value) (S : List (List Int)) (w : World) (N : Option Addr) (cN : Nat) (zs : List Value) (next : List (List Int)) (s0 : Nat) (reqs : List Int) (R : Option Addr) (e : Nat) (hpr : Q.Pr L S) (ha : Q.algQ L.length S next = true) (h0 : s0 < L.length) (h60 : reqs.length ≤ 60) (hrq : Q.Nats S.length reqs) (hL : NRow w A xs L) (hS : NRow w B ys S) (hN : NRow w N zs next) (hR : Law.Row w R (ivs reqs)) :
    Calls Try.prog 68 #[pv A L.length c B S.length d, .slice N next.length cN, .int .i64 (s0 : Int), .slice R reqs.length e] w fun e w' => e = .returned (.int .i64 (Q.costK L S s0 reqs (Q.statesL next s0 reqs reqs.length) reqs.length).1) ∧ Below w.heap.size w w' := by
  have HP := Lib.hid (PIn.start (c := c) (d := d) hL hS 29)
  have hlX := Q.statesL_len next s0 reqs reqs.length
  have hnX := Q.states_nats (Q.alg_iff ha) h0 hrq
  have HSt := Lib.hid fun (W : World) (h : Below w.heap.size w W) => l8States_any N cN zs next W s0 reqs R e hpr.n1 hpr.m1 (Q.alg_iff ha) h0 h60 hrq (hN.stays h) (hR.stays h)
  have HSu := Lib.hid fun (T : Option Addr) (f : Nat) (W : World) (h : Below w.heap.size w W) (h3 : Law.Row W T (ivs (Q.statesL next s0 reqs reqs.length))) => l8Sum_any A c xs L B d ys S W s0 reqs (Q.statesL next s0 reqs reqs.length) R e T f hpr h0 hlX h60 hrq hnX (hL.stays h) (hS.stays h) (hR.stays h) h3
  generalize (Q.costK L S s0 reqs (Q.statesL next s0 reqs reqs.length) reqs.length).1 = K at HSu ⊢
  generalize Q.statesL next s0 reqs reqs.length = X at HSt HSu
  clear hL hS hN hR hlX hnX ha hpr hrq
  go_enter Try.func68, Try.ntmps68
  go_wp2_with fail
  generalize w.alloc (.cells #[.slice A L.length c, .slice B S.length d] 29) = wa at HP ⊢
  obtain ⟨p0, p1, _, _, _⟩ := HP.out.bk
  have hp0 := Law.cell_in p0
  have hb0 := HP.out.bl
  have HM : Hid (∀ w' : World, Below wa.heap.size wa w' → w'.cell? ⟨w.heap.size, 0, none⟩ = some (.slice A L.length c) ∧ w'.cell? ⟨w.heap.size, 1, none⟩ = some (.slice B S.length d) ∧ Below wa.heap.size wa w') := Lib.hid fun w' h => ⟨(h.cell (p := ⟨w.heap.size, 0, none⟩) hp0).trans p0, (h.cell (p := ⟨w.heap.size, 1, none⟩) hp0).trans p1, h⟩
  have hs0 := HM.out wa.drew (Below.refl _ _).drew
  have HB0 := Lib.hid hb0
  clear hp0 hb0
  go_wp2
  first
    | go_region_held3 (fun w' => w'.cell? ⟨w.heap.size, 0, none⟩ = some (.slice A L.length c) ∧ w'.cell? ⟨w.heap.size, 1, none⟩ = some (.slice B S.length d) ∧ Below wa.heap.size wa w') ((first | exact hs0 | assumption | exact HM.out _ (Law.then_ (by assumption : _ ∧ _ ∧ Below wa.heap.size wa _).2.2 (by assumption)))) (first
      | (go_at_call 65; refine (HSt.out _ (Law.then_ HB0.out (by assumption : _ ∧ _ ∧ Below wa.heap.size wa _).2.2)).mono ?_; rintro e w10 ⟨v10, rfl, ho10, hb10⟩; obtain ⟨T, f, rfl, _, _, _⟩ := Law.own_len ho10; have HO10 := Lib.hid ho10; clear ho10)
      | (go_at_call 102; refine (HSu.out T f _ (Law.then_ HB0.out (by assumption : _ ∧ _ ∧ Below wa.heap.size wa _).2.2) (Law.Row.own HO10.out)).mono ?_; rintro e w11 ⟨rfl, hb11⟩))
    | fail
  all_goals
    have hbl := (by assumption : _ ∧ _ ∧ Below wa.heap.size wa w11).2.2
    have HB := Lib.hid (Law.then_ HB0.out hbl)
    clear hbl hs0 HM p0 p1
    go_wp2
    go_ret
    exact ⟨rfl, HB.out⟩
set_option maxHeartbeats 800000 in
theorem specAc_any (A : Option Addr) (c : Nat) (xs : List Value) (L : List (List Int)) (B : Option Addr) (d : Nat) (ys : List Value) (S : List (List Int)) (w : World) (N : Option Addr) (cN : Nat) (zs : List Value) (next : List (List Int)) (start : Int) (reqs : List Int) (R : Option Addr) (e : Nat) (hlL : ∀ l ∈ L, l.length ≤ 1048576) (hlS : ∀ l ∈ S, l.length ≤ 1048576) (hlr : reqs.length ≤ 1048576) (hl : ∀ l ∈ next, l.length ≤ 1048576) (hn : next.length ≤ 1048576) (hL : NRow w A xs L) (hS : NRow w B ys S) (hN : NRow w N zs next) (hR : Law.Row w R (ivs reqs)) :
    Calls Try.prog 31 #[pv A L.length c B S.length d, .slice N next.length cN, .int .i64 start, .slice R reqs.length e] w fun e w' => e = .returned (.tuple #[.int .i64 (Q.acQ L S next start reqs).1, .bool (Q.acQ L S next start reqs).2]) ∧ Below w.heap.size w w' := by
  have HP := Lib.hid (PIn.start (c := c) (d := d) hL hS 29)
  have HG := Lib.hid fun (W : World) (h : Below w.heap.size w W) (h1 : NRow W A xs L) (h2 : NRow W B ys S) => l8Takes_any A c xs L B d ys S W start reqs R e hlS hlr h1 h2 (hR.stays h)
  cases hq : Q.askQ L S start reqs
  · rw [Q.ac_no1 hq]
    rw [hq] at HG
    clear hL hS hN hR hq
    go_enter Try.func31, Try.ntmps31
    go_wp2_with fail
    generalize w.alloc (.cells #[.slice A L.length c, .slice B S.length d] 29) = wa at HP ⊢
    obtain ⟨p0, p1, _, _, _⟩ := HP.out.bk
    go_wp2_with fail
    go_at_call 64
    refine (HG.out _ HP.out.bl HP.out.mv HP.out.sv).mono ?_
    rintro e w1 ⟨rfl, hb⟩
    have HP1 := Lib.hid (HP.out.on hb)
    clear p0 p1 hb
    obtain ⟨p0, p1, _, _, _⟩ := HP1.out.bk
    go_wp2
    go_ret2
    exact ⟨rfl, HP1.out.bl⟩
  · have hask := Q.ask_iff.1 hq
    rw [hq] at HG
    have HA := Lib.hid fun (W : World) (h : Below w.heap.size w W) (h1 : NRow W A xs L) (h2 : NRow W B ys S) => l8Alg_any A c xs L B d ys S W N cN zs next hask.pr hl hn h1 h2 (hN.stays h)
    cases ha : Q.algQ L.length S next
    · rw [Q.ac_no2 ha]
      rw [ha] at HA
      clear hL hS hN hR hq ha hask
      go_enter Try.func31, Try.ntmps31
      go_wp2_with fail
      generalize w.alloc (.cells #[.slice A L.length c, .slice B S.length d] 29) = wa at HP ⊢
      obtain ⟨p0, p1, _, _, _⟩ := HP.out.bk
      go_wp2_with fail
      go_at_call 64
      refine (HG.out _ HP.out.bl HP.out.mv HP.out.sv).mono ?_
      rintro e w1 ⟨rfl, hb⟩
      have HP1 := Lib.hid (HP.out.on hb)
      clear p0 p1 hb
      obtain ⟨p0, p1, _, _, _⟩ := HP1.out.bk
      go_wp2_with fail
      go_at_call 61
      refine (HA.out _ HP1.out.bl HP1.out.mv HP1.out.sv).mono ?_
      rintro e w2 ⟨rfl, hb⟩
      have HP2 := Lib.hid (HP1.out.on hb)
      clear p0 p1 hb
      obtain ⟨p0, p1, _, _, _⟩ := HP2.out.bk
      go_wp2
      go_ret2
      exact ⟨rfl, HP2.out.bl⟩
    · rw [Q.ac_yes hq ha]
      rw [ha] at HA
      obtain ⟨s0, e0, hs0⟩ := hask.st
      subst e0
      rw [Int.toNat_natCast]
      have HT := Lib.hid fun (W : World) (h : Below w.heap.size w W) (h1 : NRow W A xs L) (h2 : NRow W B ys S) => l8Cost_any A c xs L B d ys S W N cN zs next s0 reqs R e hask.pr ha hs0 hask.len hask.rq h1 h2 (hN.stays h) (hR.stays h)
      generalize (Q.costK L S s0 reqs (Q.statesL next s0 reqs reqs.length) reqs.length).1 = K at HT ⊢
      clear hL hS hN hR hq ha hask
      go_enter Try.func31, Try.ntmps31
      go_wp2_with fail
      generalize w.alloc (.cells #[.slice A L.length c, .slice B S.length d] 29) = wa at HP ⊢
      obtain ⟨p0, p1, _, _, _⟩ := HP.out.bk
      go_wp2_with fail
      go_at_call 64
      refine (HG.out _ HP.out.bl HP.out.mv HP.out.sv).mono ?_
      rintro e w1 ⟨rfl, hb⟩
      have HP1 := Lib.hid (HP.out.on hb)
      clear p0 p1 hb
      obtain ⟨p0, p1, _, _, _⟩ := HP1.out.bk
      go_wp2_with fail
      go_at_call 61
      refine (HA.out _ HP1.out.bl HP1.out.mv HP1.out.sv).mono ?_
      rintro e w2 ⟨rfl, hb⟩
      have HP2 := Lib.hid (HP1.out.on hb)
      clear p0 p1 hb
      obtain ⟨p0, p1, _, _, _⟩ := HP2.out.bk
      go_wp2_with fail
      go_at_call 68
      refine (HT.out _ HP2.out.bl HP2.out.mv HP2.out.sv).mono ?_
      rintro e w3 ⟨rfl, hb⟩
      have HP3 := Lib.hid (HP2.out.on hb)
      clear p0 p1 hb
      obtain ⟨p0, p1, _, _, _⟩ := HP3.out.bk
      go_wp2
      go_ret2
      exact ⟨rfl, HP3.out.bl⟩
end Go.Proofs.Ythpoeeadhjnljaa
