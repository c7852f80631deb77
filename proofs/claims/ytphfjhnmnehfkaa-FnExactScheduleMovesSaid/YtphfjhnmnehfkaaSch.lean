/-
  ScheduleMoves, both sides.
-/
import Derived.Test.YtphfjhnmnehfkaaMtd
import Derived.Test.YtphfjhnmnehfkaaChc
import Derived.Test.YtphfjhnmnehfkaaCfq
namespace Go.Proofs.Ytphfjhnmnehfkaa
open Go.RowKit
set_option linter.unusedVariables false
namespace Q
def prv (a : List Int) (cs : List (List Int)) : Nat → List Int
  | 0 => a
  | j + 1 => cs.getD j []
def okS (L : List (List Int)) (a q : List Int) (cs : List (List Int)) (j : Nat) : Bool := servers ((L.length : Int) - 1) (cs.getD j []) && (decide ((cs.getD j []).length = a.length) && decide (q.getD j 0 ∈ cs.getD j []))
noncomputable def mvf (L : List (List Int)) (a : List Int) (cs : List (List Int)) (j : Nat) : Int := (moveQ L (prv a cs j) (cs.getD j [])).2
noncomputable def allS (L : List (List Int)) (a q : List Int) (cs : List (List Int)) : Bool := (List.range q.length).all (okS L a q cs)
noncomputable def schQ (L : List (List Int)) (a q : List Int) (cs : List (List Int)) : Int × Bool := if srvQ L a q && (decide (cs.length = q.length) && allS L a q cs) then (csum (mvf L a cs) q.length, true) else (0, false)
theorem allS_iff {L : List (List Int)} {a q : List Int} {cs : List (List Int)} : allS L a q cs = true ↔ ∀ j, j < q.length → okS L a q cs j = true := by simp [allS]
theorem sch_no {L : List (List Int)} {a q : List Int} {cs : List (List Int)} {j : Nat} (hj : j < q.length) (h : okS L a q cs j = false) : schQ L a q cs = (0, false) := by
  refine if_neg fun h2 => ?_
  simp only [Bool.and_eq_true] at h2
  have := allS_iff.1 h2.2.2 j hj
  rw [h] at this
  cases this
theorem sch_yes {L : List (List Int)} {a q : List Int} {cs : List (List Int)} (h1 : srvQ L a q = true) (h2 : cs.length = q.length) (h : ∀ j, j < q.length → okS L a q cs j = true) : schQ L a q cs = (csum (mvf L a cs) q.length, true) :=
  if_pos (by simp [h1, h2, allS_iff.2 h])
theorem okS_at {L : List (List Int)} {a q : List Int} {cs : List (List Int)} {j : Nat} {l : List Int} {z : Int} (h : cs[j]? = some l) (hq : q[j]? = some z) : okS L a q cs j = (servers ((L.length : Int) - 1) l && (decide (l.length = a.length) && decide (z ∈ l))) := by
  simp [okS, List.getD_eq_getElem?_getD, h, hq]
theorem mvf_at {L : List (List Int)} {a : List Int} {cs : List (List Int)} {j : Nat} {l : List Int} (h : cs[j]? = some l) : mvf L a cs j = (moveQ L (prv a cs j) l).2 := by
  simp [mvf, List.getD_eq_getElem?_getD, h]
theorem prv_next {a : List Int} {cs : List (List Int)} {j : Nat} {l : List Int} (h : cs[j]? = some l) : prv a cs (j + 1) = l := by
  simp [prv, List.getD_eq_getElem?_getD, h]
end Q
/-- What is known of the configuration before. -/
structure PrvIn (w : World) (L : List (List Int)) (a : List Int) (p : List Int) (B : Option Addr) : Prop where
  cfg : Q.servers ((L.length : Int) - 1) p = true
  len : p.length = a.length
  row : ∀ W, Below w.heap.size w W → Law.Row W B (ivs p)
theorem PrvIn.two {w : World} {L : List (List Int)} {a p l : List Int} {B : Option Addr} (h : PrvIn w L a p B) (hm : Q.metQ L = true) : Q.twoQ L p l = (Q.servers ((L.length : Int) - 1) l && decide (l.length = a.length)) := by
  rw [Bool.eq_iff_iff, Q.two_iff]
  simp [hm, h.cfg, h.len]
  intro _
  omega
set_option maxRecDepth 100000 in
set_option maxHeartbeats 1600000 in
theorem specSch_any (A : Option Addr) (c : Nat) (xs : List Value) (L : List (List Int)) (a q : List Int) (cs : List (List Int)) (Ba Bq C : Option Addr) (da dq dc : Nat) (ys : List Value) (hla : a.length ≤ 1048576) (hlq : q.length ≤ 1048576) (hlc : ∀ l ∈ cs, l.length ≤ 1048576) (w : World) (hr : NRow w A xs L) (ha : Law.Row w Ba (ivs a)) (hq : Law.Row w Bq (ivs q)) (hcs : NRow w C ys cs) :
    Calls Try.prog 47 #[mv A L.length c, .slice Ba a.length da, .slice Bq q.length dq, .slice C cs.length dc] w fun e w' => e = .returned (.tuple #[.int .i64 (Q.schQ L a q cs).1, .bool (Q.schQ L a q cs).2]) ∧ Below w.heap.size w w' := by
  have HM := Lib.hid (MetIn.start (c := c) hr 29)
  have HT := Lib.hid fun (W : World) (h : Below w.heap.size w W) => l6Start_any A c xs L a q Ba Bq da dq hla hlq W (hr.stays h) (ha.stays h) (hq.stays h)
  cases hs : Q.srvQ L a q
  · rw [show Q.schQ L a q cs = (0, false) from if_neg (by simp [hs])]
    rw [hs] at HT
    clear hr ha hq hcs hs
    go_enter Try.func47, Try.ntmps47
    go_wp2_with fail
    generalize w.alloc (.cells #[.slice A L.length c] 29) = wa at HM ⊢
    obtain ⟨hk0, hk1, hk2⟩ := HM.out.bk
    go_wp2_with fail
    go_at_call 69
    refine (HT.out wa HM.out.bl).mono ?_
    rintro e w1 ⟨rfl, hb⟩
    have HB := Lib.hid (HM.out.on hb).bl
    clear hb
    go_wp2
    go_ret2
    exact ⟨rfl, HB.out⟩
  · by_cases hlen : cs.length = q.length
    · have hm := Q.srv_good hs
      obtain ⟨ha1, ha3, hq60⟩ := Q.srv_len hs
      obtain ⟨_, hsa, _, hqw⟩ := Q.srv_iff.1 hs
      obtain ⟨_, ⟨hL1, hL6⟩, _⟩ := Q.met_sqr hm
      have HNo := Lib.hid fun (j : Nat) (hj : j < q.length) (h : Q.okS L a q cs j = false) => Q.sch_no (L := L) (a := a) (cs := cs) hj h
      have HYes := Lib.hid fun (h : ∀ j, j < q.length → Q.okS L a q cs j = true) => Q.sch_yes (L := L) (a := a) hs hlen h
      have HRq := Lib.hid fun (W : World) (h : Below w.heap.size w W) => hq.stays h
      have HRc := Lib.hid fun (W : World) (h : Below w.heap.size w W) => hcs.stays h
      have HP0 : Hid (PrvIn w L a (Q.prv a cs 0) Ba) := ⟨hsa, rfl, fun W h => ha.stays h⟩
      have HCf := Lib.hid fun (l : List Int) (B : Option Addr) (d : Nat) (hl : l.length ≤ 1048576) (W : World) (h : Law.Row W B (ivs l)) => l6Config_q L.length B d l W hL1 hL6 hl h
      have HMv := Lib.hid fun (p l : List Int) (B B' : Option Addr) (d d' : Nat) (hp : PrvIn w L a p B) (hl : Q.servers ((L.length : Int) - 1) l = true) (hll : l.length = a.length) (W : World) (h : Below w.heap.size w W) (hrl : Law.Row W B' (ivs l)) => l6Move_any A c xs L p l B B' d d' W hm (Q.srv_in hp.cfg) (Q.srv_in hl) (by rw [hp.len]; exact ha3) (by rw [hp.len, hll]) (hr.stays h) (hp.row W h) hrl
      have HMi := Lib.hid fun (p l : List Int) (B : Option Addr) (hp : PrvIn w L a p B) (hl : Q.servers ((L.length : Int) - 1) l = true) (hll : l.length = a.length) => Q.move_in (L := L) (a := p) (b := l) hm (Q.srv_in hp.cfg) (Q.srv_in hl) (by rw [hp.len]; exact ha1) (by rw [hp.len]; exact ha3) (by rw [hp.len, hll])
      have HLc := Lib.hid hlc
      have HLn := Lib.hid hlen
      rw [hs] at HT
      have hlenB : ((cs.length : Int) != (q.length : Int)) = false := by simp [hlen]
      clear hr ha hq hcs hs hm hsa hqw hlen hlc
      go_enter Try.func47, Try.ntmps47
      go_wp2_with fail
      generalize w.alloc (.cells #[.slice A L.length c] 29) = wa at HM ⊢
      obtain ⟨hk0, hk1, hk2⟩ := HM.out.bk
      go_wp2_with fail
      go_at_call 69
      refine (HT.out wa HM.out.bl).mono ?_
      rintro e w1 ⟨rfl, hb⟩
      have HM1 := Lib.hid (HM.out.on hb)
      clear hb hk0 hk1 hk2
      go_wp2
      clear hlenB
      go_loopw [10, 11, 12] (fun sm now i wr => ∃ j : Nat, ∃ Bn cn, j ≤ q.length ∧ i = .int .i64 (j : Int) ∧ now = .slice Bn (Q.prv a cs j).length cn ∧ sm = .int .i64 (Q.csum (Q.mvf L a cs) j) ∧ Hid (0 ≤ Q.csum (Q.mvf L a cs) j ∧ Q.csum (Q.mvf L a cs) j ≤ 594 * j) ∧ Hid (PrvIn w L a (Q.prv a cs j) Bn) ∧ Hid (∀ i, i < j → Q.okS L a q cs i = true) ∧ Hid (MetIn w wr A c xs L)) (fun _ _ i _ => q.length - (intOf i).toNat)
      case atStart => exact ⟨0, Ba, da, Nat.zero_le _, rfl, rfl, rfl, by show _ ∧ _; simp [Q.csum], HP0.out, fun i hi => by omega, HM1.out⟩
      case round =>
        obtain ⟨j, Bn, cn, hj, rfl, rfl, rfl, hsb, hP, hall, hM⟩ := hrel
        by_cases hlt : j < q.length
        · have hltI : (j : Int) < (q.length : Int) := by omega
          have hltc : j < cs.length := by have := HLn.out; omega
          have hltcI : (j : Int) < (cs.length : Int) := by omega
          obtain ⟨l, hl⟩ : ∃ l, cs[j]? = some l := ⟨_, List.getElem?_eq_getElem hltc⟩
          obtain ⟨z, hz⟩ : ∃ z, q[j]? = some z := ⟨_, List.getElem?_eq_getElem hlt⟩
          have HE := Lib.hid (Q.okS_at (L := L) (a := a) hl hz)
          have hll := HLc.out l (List.mem_of_getElem? hl)
          obtain ⟨ob, oo, Bl, cl, eC, hob, hoc, hrl⟩ := (HRc.out _ hM.out.bl).row_at hl
          obtain ⟨qb, qo, eQ, hqb, hqc⟩ := (HRq.out _ hM.out.bl).at_ (ivs_some hz)
          subst eC eQ
          have HRl := Lib.hid hrl
          have HCl := Lib.hid fun (W : World) (h : Law.Row W Bl (ivs l)) => HCf.out l Bl cl hll W h
          have HHl := Lib.hid fun (W : World) (h : Law.Row W Bl (ivs l)) => l1Has_any Bl cl l z W hll h
          have HN := Lib.hid (HNo.out j hlt)
          have HS : Hid (Q.okS L a q cs j = true → ∀ i, i < j + 1 → Q.okS L a q cs i = true) := fun h i hi => by
            by_cases e : i = j
            · rw [e]; exact h
            · exact hall.out i (by omega)
          have HMf := Lib.hid (Q.mvf_at (L := L) (a := a) hl)
          have HPn := Lib.hid (Q.prv_next (a := a) hl)
          have HMvl := Lib.hid (HMv.out (Q.prv a cs j) l Bn Bl cn cl hP.out)
          have HMil := Lib.hid (HMi.out (Q.prv a cs j) l Bn hP.out)
          have HRlb : Hid (∀ W, Below w.heap.size w W → Law.Row W Bl (ivs l)) := fun W h => by
            obtain ⟨ob2, oo2, Bl2, cl2, eC2, _, hoc2, hrl2⟩ := (HRc.out W h).row_at hl
            obtain ⟨_, _, Bl3, cl3, eC3, _, hoc3, hrl3⟩ := (HRc.out w (Below.refl _ _)).row_at hl
            cases eC2
            cases eC3
            have e1 := (h.cell (p := ⟨ob, oo + j, none⟩) (by assumption)).trans hoc3
            rw [hoc2] at e1
            have e2 := (hM.out.bl.cell (p := ⟨ob, oo + j, none⟩) (by assumption)).trans hoc3
            rw [hoc] at e2
            injection e1 with e1
            injection e1 with e1 _ _
            injection e2 with e2
            injection e2 with e2 _ _
            rw [e2, ← e1]
            exact hrl2
          generalize hokj : Q.okS L a q cs j = o at HE HN HS
          clear hokj hall hl hz hrl
          obtain ⟨hk0, hk1, hk2⟩ := hM.out.bk
          generalize hsv : Q.servers ((L.length : Int) - 1) l = s at HCl HE
          have HSv := Lib.hid hsv
          clear hsv
          cases s
          · have hN := Lib.hid (HN.out (by rw [HE.out]; rfl))
            clear HN HS HE HHl
            go_wp2_with fail
            go_quiet ((go_at_call 58; exact Calls.quiet_of (HCl.out _ (by first | exact HRl.out | exact Law.Row.drewN HRl.out _))))
            go_wp2
            go_ret2
            exact ⟨by rw [hN.out]; rfl, Law.up hM.out.bl _⟩
          · by_cases hla2 : l.length = a.length
            · have hlaB : ((l.length : Int) == (a.length : Int)) = true := by simp [hla2]
              have hlaJ : ((l.length : Int) != (a.length : Int)) = false := by simp [hla2]
              have hlaD : decide ((l.length : Int) = (a.length : Int)) = true := by simp [hla2]
              have HLA := Lib.hid hla2
              generalize hmm : decide (z ∈ l) = mm at HHl HE
              rw [decide_eq_true hla2] at HE
              clear hla2 hmm
              cases mm
              · have hN := Lib.hid (HN.out (by rw [HE.out]; rfl))
                clear HN HS HE
                go_wp2_with fail
                go_quiet ((first | (go_at_call 58; exact Calls.quiet_of (HCl.out _ (by first | exact HRl.out | exact Law.Row.drewN HRl.out _))) | (go_at_call 89; exact Calls.quiet_of_same (HHl.out _ (by first | exact HRl.out | exact Law.Row.drewN HRl.out _)))))
                go_wp2
                go_ret2
                exact ⟨by rw [hN.out]; rfl, Law.up hM.out.bl _⟩
              · have hS := Lib.hid (HS.out (by rw [HE.out]; rfl))
                clear HN HS HE
                have hmv := HMil.out HSv.out HLA.out
                have HEs : Hid (Q.csum (Q.mvf L a cs) (j + 1) = Q.csum (Q.mvf L a cs) j + (Q.moveQ L (Q.prv a cs j) l).2) := by show _ = _; rw [Q.csum, HMf.out]
                have HMc := Lib.hid (HMvl.out HSv.out HLA.out)
                have HPl : Hid (PrvIn w L a (Q.prv a cs (j + 1)) Bl) := by show PrvIn _ _ _ _ _; rw [HPn.out]; exact ⟨HSv.out, HLA.out, HRlb.out⟩
                obtain ⟨hs0, hs1⟩ := hsb.out
                generalize (Q.moveQ L (Q.prv a cs j) l).2 = V at hmv HEs HMc
                generalize Q.csum (Q.mvf L a cs) j = S at hs0 hs1 HEs ⊢
                have hw : IntKind.i64.wrap (S + V) = S + V := IntWalk.i64_in _ (by omega)
                go_wp2_with fail
                go_quiet ((first | (go_at_call 58; exact Calls.quiet_of (HCl.out _ (by first | exact HRl.out | exact Law.Row.drewN HRl.out _))) | (go_at_call 89; exact Calls.quiet_of_same (HHl.out _ (by first | exact HRl.out | exact Law.Row.drewN HRl.out _)))))
                clear hlaB hlaJ hlaD
                have HDn := Lib.hid fun (m : Nat) => hM.out.drewN m
                have hob2 : Hid (∀ m, ob < (wr.drewN m).heap.size ∧ (wr.drewN m).cell? ⟨ob, oo + j, none⟩ = some (.slice Bl l.length cl)) := fun m => ⟨by assumption, hoc⟩
                generalize hWW : wr.drewN _ = w6
                have hM6 : Hid (MetIn w w6 A c xs L) := by show MetIn _ _ _ _ _ _; rw [← hWW]; exact HDn.out _
                have hoc6 : ob < w6.heap.size ∧ w6.cell? ⟨ob, oo + j, none⟩ = some (.slice Bl l.length cl) := by rw [← hWW]; exact hob2.out _
                have hr6 : Hid (Law.Row w6 Bl (ivs l)) := by show Law.Row _ _ _; rw [← hWW]; exact Law.Row.drewN HRl.out _
                clear hWW hk0 hk1 hk2 hoc hqc
                obtain ⟨hk0, hk1, hk2⟩ := hM6.out.bk
                obtain ⟨hob6, hoc6⟩ := hoc6
                go_wp2_with fail
                go_region_law ((go_simp; go_at_call 84; refine (HMc.out _ (Law.up hM6.out.bl _) (by first | exact hr6.out | exact Law.Row.drewN hr6.out _)).mono ?_; rintro e w7 ⟨rfl, hb⟩; have hb7 := Law.then_ (Law.up (Below.refl w6.heap.size w6) _) hb; have hM7 := Lib.hid (hM6.out.on hb7); have hoc7 : w7.cell? ⟨ob, oo + j, none⟩ = some (.slice Bl l.length cl) := (hb7.cell (p := ⟨ob, oo + j, none⟩) hob6).trans hoc6; clear hb hb7))
                all_goals
                  go_wp2
                  go_roundw
                  case rel => exact ⟨j + 1, Bl, cl, by omega, by go_num, by rw [HPn.out], by rw [HEs.out], by show _ ∧ _; rw [HEs.out]; constructor <;> omega, HPl.out, hS.out, hM7.out⟩
                  case measure => simp [intOf]; omega
            · have hlaB : ((l.length : Int) == (a.length : Int)) = false := by simp; omega
              have hlaJ : ((l.length : Int) != (a.length : Int)) = true := by simp; omega
              have hN := Lib.hid (HN.out (by rw [HE.out, decide_eq_false hla2]; rfl))
              clear HN HS HE hla2
              go_wp2_with fail
              go_quiet ((go_at_call 58; exact Calls.quiet_of (HCl.out _ (by first | exact HRl.out | exact Law.Row.drewN HRl.out _))))
              go_wp2
              go_ret2
              exact ⟨by rw [hN.out]; rfl, Law.up hM.out.bl _⟩
        · have hje : j = q.length := by omega
          have hltI : ¬ (j : Int) < (q.length : Int) := by omega
          have hY := Lib.hid (HYes.out (by rw [← hje]; exact hall.out))
          have HE : Hid (Q.csum (Q.mvf L a cs) j = Q.csum (Q.mvf L a cs) q.length) := by show _ = _; rw [hje]
          rw [HE.out]
          clear hje hall hsb HYes HNo
          go_wp2
          go_ret2
          exact ⟨by rw [hY.out]; rfl, hM.out.bl⟩
    · have HV : Hid (Q.schQ L a q cs = (0, false)) := if_neg (by simp [hlen])
      have hlenB : ((cs.length : Int) != (q.length : Int)) = true := by simp; omega
      rw [hs] at HT
      rw [HV.out]
      clear hr ha hq hcs hs hlen HV
      go_enter Try.func47, Try.ntmps47
      go_wp2_with fail
      generalize w.alloc (.cells #[.slice A L.length c] 29) = wa at HM ⊢
      obtain ⟨hk0, hk1, hk2⟩ := HM.out.bk
      go_wp2_with fail
      go_at_call 69
      refine (HT.out wa HM.out.bl).mono ?_
      rintro e w1 ⟨rfl, hb⟩
      have HB := Lib.hid (HM.out.on hb).bl
      clear hb
      go_wp2
      go_ret2
      exact ⟨rfl, HB.out⟩
set_option maxRecDepth 100000 in
set_option maxHeartbeats 1600000 in
theorem impSch_any (A : Option Addr) (c : Nat) (xs : List Value) (L : List (List Int)) (a q : List Int) (cs : List (List Int)) (Ba Bq C : Option Addr) (da dq dc : Nat) (ys : List Value) (hll : ∀ l ∈ L, l.length ≤ 1048576) (hla : a.length ≤ 1048576) (hlq : q.length ≤ 1048576) (hlc : ∀ l ∈ cs, l.length ≤ 1048576) (w : World) (hr : NRow w A xs L) (ha : Law.Row w Ba (ivs a)) (hq : Law.Row w Bq (ivs q)) (hcs : NRow w C ys cs) :
    Calls Try.prog 49 #[mv A L.length c, .slice Ba a.length da, .slice Bq q.length dq, .slice C cs.length dc] w fun e w' => e = .returned (.tuple #[.int .i64 (Q.schQ L a q cs).1, .bool (Q.schQ L a q cs).2]) ∧ Below w.heap.size w w' := by
  have HM := Lib.hid (MetIn.start (c := c) hr 29)
  have HT := Lib.hid fun (W : World) (h : Below w.heap.size w W) => isServing_any A c xs L a q Ba Bq da dq hll hla hlq W (hr.stays h) (ha.stays h) (hq.stays h)
  cases hs : Q.srvQ L a q
  · rw [show Q.schQ L a q cs = (0, false) from if_neg (by simp [hs])]
    rw [hs] at HT
    clear hr ha hq hcs hs
    go_enter Try.func49, Try.ntmps49
    go_wp2_with fail
    generalize w.alloc (.cells #[.slice A L.length c] 29) = wa at HM ⊢
    obtain ⟨hk0, hk1, hk2⟩ := HM.out.bk
    go_wp2_with fail
    go_at_call 90
    refine (HT.out wa HM.out.bl).mono ?_
    rintro e w1 ⟨rfl, hb⟩
    have HB := Lib.hid (HM.out.on hb).bl
    clear hb
    go_wp2
    go_ret2
    exact ⟨rfl, HB.out⟩
  · by_cases hlen : cs.length = q.length
    · have hm := Q.srv_good hs
      obtain ⟨ha1, ha3, hq60⟩ := Q.srv_len hs
      obtain ⟨_, hsa, _, hqw⟩ := Q.srv_iff.1 hs
      obtain ⟨_, ⟨hL1, hL6⟩, _⟩ := Q.met_sqr hm
      have HNo := Lib.hid fun (j : Nat) (hj : j < q.length) (h : Q.okS L a q cs j = false) => Q.sch_no (L := L) (a := a) (cs := cs) hj h
      have HYes := Lib.hid fun (h : ∀ j, j < q.length → Q.okS L a q cs j = true) => Q.sch_yes (L := L) (a := a) hs hlen h
      have HRq := Lib.hid fun (W : World) (h : Below w.heap.size w W) => hq.stays h
      have HRc := Lib.hid fun (W : World) (h : Below w.heap.size w W) => hcs.stays h
      have HP0 : Hid (PrvIn w L a (Q.prv a cs 0) Ba) := ⟨hsa, rfl, fun W h => ha.stays h⟩
      have HTwo := Lib.hid fun (p l : List Int) (B : Option Addr) (hp : PrvIn w L a p B) => hp.two (l := l) hm
      have HMv := Lib.hid fun (p l : List Int) (B B' : Option Addr) (d d' : Nat) (hp : PrvIn w L a p B) (hll2 : l.length ≤ 1048576) (W : World) (h : Below w.heap.size w W) (hrl : Law.Row W B' (ivs l)) => impMvc_any A c xs L p l B B' d d' hll (by rw [hp.len]; omega) hll2 W (hr.stays h) (hp.row W h) hrl
      have HMi := Lib.hid fun (p l : List Int) (B : Option Addr) (hp : PrvIn w L a p B) (hl : Q.servers ((L.length : Int) - 1) l = true) (hll : l.length = a.length) => Q.move_in (L := L) (a := p) (b := l) hm (Q.srv_in hp.cfg) (Q.srv_in hl) (by rw [hp.len]; exact ha1) (by rw [hp.len]; exact ha3) (by rw [hp.len, hll])
      have HLc := Lib.hid hlc
      have HLn := Lib.hid hlen
      rw [hs] at HT
      have hlenB : ((cs.length : Int) != (q.length : Int)) = false := by simp [hlen]
      clear hr ha hq hcs hs hm hsa hqw hlen hlc
      go_enter Try.func49, Try.ntmps49
      go_wp2_with fail
      generalize w.alloc (.cells #[.slice A L.length c] 29) = wa at HM ⊢
      obtain ⟨hk0, hk1, hk2⟩ := HM.out.bk
      go_wp2_with fail
      go_at_call 90
      refine (HT.out wa HM.out.bl).mono ?_
      rintro e w1 ⟨rfl, hb⟩
      have HM1 := Lib.hid (HM.out.on hb)
      clear hb hk0 hk1 hk2
      go_wp2
      clear hlenB
      go_loopw [10, 11, 31] (fun sm now i wr => ∃ j : Nat, ∃ Bn cn, j ≤ cs.length ∧ i = .int .i64 (j : Int) ∧ now = .slice Bn (Q.prv a cs j).length cn ∧ sm = .int .i64 (Q.csum (Q.mvf L a cs) j) ∧ Hid (0 ≤ Q.csum (Q.mvf L a cs) j ∧ Q.csum (Q.mvf L a cs) j ≤ 594 * j) ∧ Hid (PrvIn w L a (Q.prv a cs j) Bn) ∧ Hid (∀ i, i < j → Q.okS L a q cs i = true) ∧ Hid (MetIn w wr A c xs L)) (fun _ _ i _ => cs.length - (intOf i).toNat)
      case atStart => exact ⟨0, Ba, da, Nat.zero_le _, rfl, rfl, rfl, by show _ ∧ _; simp [Q.csum], HP0.out, fun i hi => by omega, HM1.out⟩
      case round =>
        obtain ⟨j, Bn, cn, hj, rfl, rfl, rfl, hsb, hP, hall, hM⟩ := hrel
        have hcs60 : cs.length ≤ 60 := by have := HLn.out; omega
        by_cases hltc : j < cs.length
        · have hltcI : (j : Int) < (cs.length : Int) := by omega
          have hlt : j < q.length := by have := HLn.out; omega
          have hltI : (j : Int) < (q.length : Int) := by omega
          obtain ⟨l, hl⟩ : ∃ l, cs[j]? = some l := ⟨_, List.getElem?_eq_getElem hltc⟩
          obtain ⟨z, hz⟩ : ∃ z, q[j]? = some z := ⟨_, List.getElem?_eq_getElem hlt⟩
          have HE := Lib.hid (Q.okS_at (L := L) (a := a) hl hz)
          have hll2 := HLc.out l (List.mem_of_getElem? hl)
          obtain ⟨ob, oo, Bl, cl, eC, hob, hoc, hrl⟩ := (HRc.out _ hM.out.bl).row_at hl
          obtain ⟨qb, qo, eQ, hqb, hqc⟩ := (HRq.out _ hM.out.bl).at_ (ivs_some hz)
          subst eC eQ
          have HRl := Lib.hid hrl
          have HHl := Lib.hid fun (W : World) (h : Law.Row W Bl (ivs l)) => has_row (c := cl) h hll2 z
          have HN := Lib.hid (HNo.out j hlt)
          have HS : Hid (Q.okS L a q cs j = true → ∀ i, i < j + 1 → Q.okS L a q cs i = true) := fun h i hi => by
            by_cases e : i = j
            · rw [e]; exact h
            · exact hall.out i (by omega)
          have HMf := Lib.hid (Q.mvf_at (L := L) (a := a) hl)
          have HPn := Lib.hid (Q.prv_next (a := a) hl)
          have HMvl := Lib.hid (HMv.out (Q.prv a cs j) l Bn Bl cn cl hP.out hll2)
          have HMil := Lib.hid (HMi.out (Q.prv a cs j) l Bn hP.out)
          have HTw := Lib.hid (HTwo.out (Q.prv a cs j) l Bn hP.out)
          have HRlb : Hid (∀ W, Below w.heap.size w W → Law.Row W Bl (ivs l)) := fun W h => by
            obtain ⟨ob2, oo2, Bl2, cl2, eC2, _, hoc2, hrl2⟩ := (HRc.out W h).row_at hl
            obtain ⟨_, _, Bl3, cl3, eC3, _, hoc3, hrl3⟩ := (HRc.out w (Below.refl _ _)).row_at hl
            cases eC2
            cases eC3
            have e1 := (h.cell (p := ⟨ob, oo + j, none⟩) (by assumption)).trans hoc3
            rw [hoc2] at e1
            have e2 := (hM.out.bl.cell (p := ⟨ob, oo + j, none⟩) (by assumption)).trans hoc3
            rw [hoc] at e2
            injection e1 with e1
            injection e1 with e1 _ _
            injection e2 with e2
            injection e2 with e2 _ _
            rw [e2, ← e1]
            exact hrl2
          generalize hokj : Q.okS L a q cs j = o at HE HN HS
          clear hokj hall hl hz hrl
          obtain ⟨hk0, hk1, hk2⟩ := hM.out.bk
          cases htw : Q.twoQ L (Q.prv a cs j) l
          · have hoF : o = false := by
              rw [HE.out]
              have h1 := HTw.out
              rw [htw] at h1
              rw [← Bool.and_assoc, ← h1]
              rfl
            have hN := Lib.hid (HN.out hoF)
            have HMc := Lib.hid HMvl.out
            rw [Q.mvc_no htw] at HMc
            clear HN HS HE HHl hoF htw HTw HMvl
            go_wp2_with fail
            go_at_call 43
            refine (HMc.out wr hM.out.bl HRl.out).mono ?_
            rintro e w2 ⟨rfl, hb⟩
            have hM2 := Lib.hid (hM.out.on hb)
            clear hb
            go_wp2
            go_ret2
            exact ⟨by rw [hN.out]; rfl, hM2.out.bl⟩
          · have h1 := HTw.out
            rw [htw] at h1
            obtain ⟨hsv, hla2⟩ : Q.servers ((L.length : Int) - 1) l = true ∧ l.length = a.length := by simpa using h1.symm
            have hmv := HMil.out hsv hla2
            have HEs : Hid (Q.csum (Q.mvf L a cs) (j + 1) = Q.csum (Q.mvf L a cs) j + (Q.moveQ L (Q.prv a cs j) l).2) := by show _ = _; rw [Q.csum, HMf.out]
            have HMc := Lib.hid HMvl.out
            rw [Q.mvc_yes htw] at HMc
            have HPl : Hid (PrvIn w L a (Q.prv a cs (j + 1)) Bl) := by show PrvIn _ _ _ _ _; rw [HPn.out]; exact ⟨hsv, hla2, HRlb.out⟩
            rw [hsv, decide_eq_true hla2] at HE
            obtain ⟨hs0, hs1⟩ := hsb.out
            generalize (Q.moveQ L (Q.prv a cs j) l).2 = V at hmv HEs HMc
            generalize Q.csum (Q.mvf L a cs) j = S at hs0 hs1 HEs ⊢
            have hw : IntKind.i64.wrap (S + V) = S + V := IntWalk.i64_in _ (by omega)
            generalize hmm : decide (z ∈ l) = mm at HHl HE
            clear hmm htw HTw HMvl h1 hsv hla2 HMil
            cases mm
            · have hN := Lib.hid (HN.out (by rw [HE.out]; rfl))
              clear HN HS HE
              go_wp2_with fail
              go_at_call 43
              refine (HMc.out wr hM.out.bl HRl.out).mono ?_
              rintro e w2 ⟨rfl, hb⟩
              have hM2 := Lib.hid (hM.out.on hb)
              have hr2 := Lib.hid (HRl.out.stays hb)
              have hqc2 : w2.cell? ⟨qb, qo + j, none⟩ = some (.int .i64 z) := (hb.cell (p := ⟨qb, qo + j, none⟩) hqb).trans hqc
              clear hb hqc
              go_wp2_with fail
              go_at_call 91
              refine (HHl.out _ hr2.out).mono ?_
              rintro e w' ⟨rfl, hw'⟩
              obtain rfl := hw'.symm
              clear hw'
              go_wp2
              go_ret2
              exact ⟨by rw [hN.out]; rfl, hM2.out.bl⟩
            · have hS := Lib.hid (HS.out (by rw [HE.out]; rfl))
              clear HN HS HE
              go_wp2_with fail
              go_at_call 43
              refine (HMc.out wr hM.out.bl HRl.out).mono ?_
              rintro e w2 ⟨rfl, hb⟩
              have hM2 := Lib.hid (hM.out.on hb)
              have hr2 := Lib.hid (HRl.out.stays hb)
              have hqc2 : w2.cell? ⟨qb, qo + j, none⟩ = some (.int .i64 z) := (hb.cell (p := ⟨qb, qo + j, none⟩) hqb).trans hqc
              clear hb hqc hoc hk0 hk1 hk2
              go_wp2_with fail
              go_at_call 91
              refine (HHl.out _ hr2.out).mono ?_
              rintro e w' ⟨rfl, hw'⟩
              obtain rfl := hw'.symm
              clear hw'
              go_wp2
              go_roundw
              case rel => exact ⟨j + 1, Bl, cl, by omega, by go_num, by rw [HPn.out], by rw [HEs.out], by show _ ∧ _; rw [HEs.out]; constructor <;> omega, HPl.out, hS.out, hM2.out⟩
              case measure => simp [intOf]; omega
        · have hje : j = q.length := by have := HLn.out; omega
          have hltcI : ¬ (j : Int) < (cs.length : Int) := by omega
          have hY := Lib.hid (HYes.out (by rw [← hje]; exact hall.out))
          have HE : Hid (Q.csum (Q.mvf L a cs) j = Q.csum (Q.mvf L a cs) q.length) := by show _ = _; rw [hje]
          rw [HE.out]
          clear hje hall hsb HYes HNo
          go_wp2
          go_ret2
          exact ⟨by rw [hY.out]; rfl, hM.out.bl⟩
    · have HV : Hid (Q.schQ L a q cs = (0, false)) := if_neg (by simp [hlen])
      have hlenB : ((cs.length : Int) != (q.length : Int)) = true := by simp; omega
      rw [hs] at HT
      rw [HV.out]
      clear hr ha hq hcs hs hlen HV
      go_enter Try.func49, Try.ntmps49
      go_wp2_with fail
      generalize w.alloc (.cells #[.slice A L.length c] 29) = wa at HM ⊢
      obtain ⟨hk0, hk1, hk2⟩ := HM.out.bk
      go_wp2_with fail
      go_at_call 90
      refine (HT.out wa HM.out.bl).mono ?_
      rintro e w1 ⟨rfl, hb⟩
      have HB := Lib.hid (HM.out.on hb).bl
      clear hb
      go_wp2
      go_ret2
      exact ⟨rfl, HB.out⟩
end Go.Proofs.Ytphfjhnmnehfkaa
