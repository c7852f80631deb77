/-
  PriceBound, both sides.
-/
import Derived.Test.YtphfjhnmnehfkaaPrbS
namespace Go.Proofs.Ytphfjhnmnehfkaa
open Go.RowKit
set_option linter.unusedVariables false
namespace Q
def prQ (m : Nat) (pr : List Int) : Bool := decide (pr.length = m) && within 0 99999 pr
def prf (pr : List Int) (i : Nat) : Int := pr.getD i 0
noncomputable def bnd7 (L : List (List Int)) (P : List Int) (k : Nat) (pr : List Int) (n : Nat) : Int := csum (prf pr) pr.length - csum (rent L P k pr) n
noncomputable def prbQ (L : List (List Int)) (a q pr : List Int) : Int × Bool := if srvQ L a q && prQ q.length pr then (bnd7 L (a ++ q) a.length pr (a.length + q.length), true) else (0, false)
theorem prb_no1 {L : List (List Int)} {a q b : List Int} (h : srvQ L a q = false) : prbQ L a q b = (0, false) := if_neg (by simp [h])
theorem prb_no2 {L : List (List Int)} {a q b : List Int} (h : prQ q.length b = false) : prbQ L a q b = (0, false) := if_neg (by simp [h])
theorem prb_yes {L : List (List Int)} {a q b : List Int} (h1 : srvQ L a q = true) (h2 : prQ q.length b = true) : prbQ L a q b = (bnd7 L (a ++ q) a.length b (a.length + q.length), true) := if_pos (by simp [h1, h2])
theorem pr_ok {m : Nat} {pr : List Int} (h : prQ m pr = true) : pr.length = m ∧ okPr pr := by
  simp only [prQ, Bool.and_eq_true, decide_eq_true_eq] at h
  exact ⟨h.1, fun i hi => within_at h.2 hi⟩
theorem prf_at {pr : List Int} {i : Nat} {z : Int} (h : pr[i]? = some z) : prf pr i = z := by simp [prf, List.getD_eq_getElem?_getD, h]
theorem prf_in {pr : List Int} (h : okPr pr) (i : Nat) (hi : i < pr.length) : 0 ≤ prf pr i ∧ prf pr i ≤ 99999 := by
  obtain ⟨z, h1, h2, h3⟩ := h i hi
  rw [prf_at h1]
  exact ⟨h2, h3⟩
end Q
set_option maxHeartbeats 400000 in
theorem l7Prices_any (q pr : List Int) (Bq Bp : Option Addr) (dq dp : Nat) (w : World) (hlq : q.length ≤ 1048576) (hlp : pr.length ≤ 1048576) (hr : Law.Row w Bp (ivs pr)) :
    Calls Try.prog 79 #[.slice Bq q.length dq, .slice Bp pr.length dp] w fun e w' => e = .returned (.bool (Q.prQ q.length pr)) ∧ w' = w := by
  have HR := Lib.hid hr
  have HNo : Hid (Q.within 0 99999 pr = false → Q.prQ q.length pr = false) := fun h => by simp [Q.prQ, h]
  have HY1 : Hid (Q.within 0 99999 pr = true → pr.length = q.length → Q.prQ q.length pr = true) := fun h e => by simp [Q.prQ, h, e]
  have HY2 : Hid (¬ pr.length = q.length → Q.prQ q.length pr = false) := fun e => by simp [Q.prQ, e]
  generalize Q.prQ q.length pr = V at HNo HY1 HY2 ⊢
  clear hr
  go_enter Try.func79, Try.ntmps79
  go_wp2
  go_loop [5] (fun i => ∃ k : Nat, k ≤ pr.length ∧ i = .int .i64 (k : Int) ∧ Hid (∀ z ∈ pr.take k, Q.okW 0 99999 z = true)) (fun i => pr.length - (intOf i).toNat)
  case atStart => exact ⟨0, Nat.zero_le _, rfl, fun z hz => by simp at hz⟩
  case round =>
    obtain ⟨k, hk, rfl, hall⟩ := hrel
    by_cases hlt : k < pr.length
    · obtain ⟨b, off, rfl, hbl, hc⟩ := HR.out.at_ (ivs_at hlt)
      have hltI : (k : Int) < (pr.length : Int) := by omega
      have hm : pr[k] ∈ pr := List.getElem_mem hlt
      have HN0 : Hid (Q.okW 0 99999 pr[k] = false → Q.within 0 99999 pr = false) := Q.within_not hm
      have HN1 : Hid (Q.okW 0 99999 pr[k] = true → ∀ z ∈ pr.take (k + 1), Q.okW 0 99999 z = true) := Q.within_next hlt hall.out
      have HI : Hid (∀ W, Calls Try.prog 100 #[.int .i64 pr[k], .int .i64 0, .int .i64 99999] W fun e w' => e = .returned (.bool (Q.okW 0 99999 pr[k])) ∧ w' = W) := fun W => l1In_any pr[k] 0 99999 W
      clear hm
      obtain ⟨Z, hZ⟩ : ∃ Z, Z = pr[k] := ⟨_, rfl⟩
      rw [← hZ] at HN0 HN1 HI hc
      clear hZ
      cases hz : Q.okW 0 99999 Z
      · have HN := Lib.hid (HNo.out (HN0.out hz))
        rw [hz] at HI
        clear HN0 HN1 hz
        go_wp2_with (go_at_call 100; refine (HI.out _).mono ?_; rintro e w' ⟨rfl, hw'⟩; subst hw')
        go_ret
        exact ⟨by rw [HN.out]; rfl, rfl⟩
      · have HN := Lib.hid (HN1.out hz)
        rw [hz] at HI
        clear HN0 HN1 hz
        go_wp2_with (go_at_call 100; refine (HI.out _).mono ?_; rintro e w' ⟨rfl, hw'⟩; subst hw')
        go_round
        case rel => exact ⟨k + 1, by omega, by go_num, HN.out⟩
        case measure => simp [intOf]; omega
    · have hke : k = pr.length := by omega
      have hltI : ¬ (k : Int) < (pr.length : Int) := by omega
      have HW : Q.within 0 99999 pr = true := Q.within_all (by rw [← hke]; exact hall.out)
      by_cases he : pr.length = q.length
      · have heI : ((pr.length : Int) == (q.length : Int)) = true := by simp [he]
        have HN := Lib.hid (HY1.out HW he)
        clear hke hall he HW
        go_wp2
        go_ret
        exact ⟨by rw [HN.out]; first | rfl | simp, rfl⟩
      · have heI : ((pr.length : Int) == (q.length : Int)) = false := by simp; omega
        have HN := Lib.hid (HY2.out he)
        clear hke hall he HW
        go_wp2
        go_ret
        exact ⟨by rw [HN.out]; first | rfl | simp, rfl⟩
set_option maxHeartbeats 1600000 in
theorem specPrb_any (A : Option Addr) (c : Nat) (xs : List Value) (L : List (List Int)) (a q b : List Int) (Ba Bq Bb : Option Addr) (da dq db : Nat) (hla : a.length ≤ 1048576) (hlq : q.length ≤ 1048576) (hlb : b.length ≤ 1048576) (w : World) (hr : NRow w A xs L) (ha : Law.Row w Ba (ivs a)) (hq : Law.Row w Bq (ivs q)) (hb : Law.Row w Bb (ivs b)) :
    Calls Try.prog 40 #[mv A L.length c, .slice Ba a.length da, .slice Bq q.length dq, .slice Bb b.length db] w fun e w' => e = .returned (.tuple #[.int .i64 (Q.prbQ L a q b).1, .bool (Q.prbQ L a q b).2]) ∧ Below w.heap.size w w' := by
  have HM := Lib.hid (MetIn.start (c := c) hr 29)
  have HG := Lib.hid (l6Good_any A c xs L _ HM.out.rows)
  have HS := Lib.hid fun (W : World) (h : Below w.heap.size w W) => l6Start_any A c xs L a q Ba Bq da dq hla hlq W (hr.stays h) (ha.stays h) (hq.stays h)
  have HC := Lib.hid fun (W : World) (h : Below w.heap.size w W) => l7Prices_any q b Bq Bb dq db W hlq hlb (hb.stays h)
  cases hs : Q.srvQ L a q
  · rw [Q.prb_no1 hs]
    rw [hs] at HS
    generalize Q.metQ L = g at HG
    clear hr ha hq hb hs HC
    cases g
    · clear HS
      go_enter Try.func40, Try.ntmps40
      go_wp2_with fail
      generalize w.alloc (.cells #[.slice A L.length c] 29) = wa at HM HG ⊢
      go_at_call 57
      refine HG.out.mono ?_
      rintro e w1 ⟨rfl, hb⟩
      have HB := Lib.hid (HM.out.on hb).bl
      clear hb
      go_wp2
      go_ret2
      exact ⟨rfl, HB.out⟩
    · go_enter Try.func40, Try.ntmps40
      go_wp2_with fail
      generalize w.alloc (.cells #[.slice A L.length c] 29) = wa at HM HG ⊢
      go_at_call 57
      refine HG.out.mono ?_
      rintro e w1 ⟨rfl, hb⟩
      have HM1 := Lib.hid (HM.out.on hb)
      clear hb
      obtain ⟨hk0, hk1, hk2⟩ := HM1.out.bk
      go_wp2_with fail
      go_at_call 69
      refine (HS.out w1 HM1.out.bl).mono ?_
      rintro e w2 ⟨rfl, hb⟩
      have HB := Lib.hid (Law.then_ HM1.out.bl hb)
      clear hb
      go_wp2
      go_ret2
      exact ⟨rfl, HB.out⟩
  · have hm := Q.srv_good hs
    have hP := Q.srv_inP hs
    obtain ⟨l1, l3, l60⟩ := Q.srv_len hs
    rw [hm] at HG
    cases hc : Q.prQ q.length b
    · rw [Q.prb_no2 hc]
      rw [hc] at HC
      rw [hs] at HS
      clear hr ha hq hb hs hc hm hP
      go_enter Try.func40, Try.ntmps40
      go_wp2_with fail
      generalize w.alloc (.cells #[.slice A L.length c] 29) = wa at HM HG ⊢
      go_at_call 57
      refine HG.out.mono ?_
      rintro e w1 ⟨rfl, hb⟩
      have HM1 := Lib.hid (HM.out.on hb)
      clear hb
      obtain ⟨hk0, hk1, hk2⟩ := HM1.out.bk
      go_wp2_with fail
      go_at_call 69
      refine (HS.out w1 HM1.out.bl).mono ?_
      rintro e w2 ⟨rfl, hb⟩
      have HM2 := Lib.hid (HM1.out.on hb)
      clear hb hk0 hk1 hk2
      go_wp2_with fail
      go_at_call 79
      refine (HC.out w2 HM2.out.bl).mono ?_
      rintro e w' ⟨rfl, hw'⟩
      obtain rfl := hw'.symm
      clear hw'
      go_wp2
      go_ret2
      exact ⟨rfl, HM2.out.bl⟩
    · rw [Q.prb_yes hs hc]
      obtain ⟨hlen, hok⟩ := Q.pr_ok hc
      have hPl : (a ++ q).length = a.length + q.length := List.length_append
      have HK := Lib.hid fun (l : Nat) (hl : l < a.length + q.length) (W : World) (h : Below w.heap.size w W) => l7Rent_any A c xs L a q b Ba Bq Bb da dq db l W l1 hm hP (by omega) (by omega) hlen hok hl (hr.stays h) (ha.stays h) (hq.stays h) (hb.stays h)
      have HRI := Lib.hid fun (l : Nat) (hl : l < a.length + q.length) => Q.rent_in (k := a.length) hm hP hok (by omega) (l := l) (by omega) l1
      have HB := Lib.hid fun (W : World) (h : Below w.heap.size w W) => hb.stays h
      have HPI := Lib.hid (Q.prf_in hok)
      have HLen := Lib.hid hlen
      have hbl : b.length ≤ 60 := by omega
      rw [hc] at HC
      rw [hs] at HS
      have HV : Hid (Q.bnd7 L (a ++ q) a.length b (a.length + q.length) = Q.csum (Q.prf b) b.length - Q.csum (Q.rent L (a ++ q) a.length b) (a.length + q.length)) := rfl
      rw [HV.out]
      generalize Q.rent L (a ++ q) a.length b = rn at HK HRI ⊢
      clear hr ha hq hb hs hc hm hP hPl hlen hok HV
      go_enter Try.func40, Try.ntmps40
      go_wp2_with fail
      generalize w.alloc (.cells #[.slice A L.length c] 29) = wa at HM HG ⊢
      go_at_call 57
      refine HG.out.mono ?_
      rintro e w1 ⟨rfl, hb⟩
      have HM1 := Lib.hid (HM.out.on hb)
      clear hb
      obtain ⟨hk0, hk1, hk2⟩ := HM1.out.bk
      go_wp2_with fail
      go_at_call 69
      refine (HS.out w1 HM1.out.bl).mono ?_
      rintro e w2 ⟨rfl, hb⟩
      have HM2 := Lib.hid (HM1.out.on hb)
      clear hb hk0 hk1 hk2 HS HG HM HM1
      obtain ⟨hk0, hk1, hk2⟩ := HM2.out.bk
      go_wp2_with fail
      go_at_call 79
      refine (HC.out w2 HM2.out.bl).mono ?_
      rintro e w' ⟨rfl, hw'⟩
      obtain rfl := hw'.symm
      clear hw'
      have HRb := Lib.hid (HB.out w2 HM2.out.bl)
      go_wp2
      go_loop [10, 11] (fun v i => ∃ j : Nat, j ≤ b.length ∧ i = .int .i64 (j : Int) ∧ v = .int .i64 (Q.csum (Q.prf b) j)) (fun _ i => b.length - (intOf i).toNat)
      case atStart => exact ⟨0, Nat.zero_le _, rfl, rfl⟩
      case round =>
        obtain ⟨j, hj, rfl, rfl⟩ := hrel
        obtain ⟨hs0, hs1⟩ := Q.csum_in (f := Q.prf b) (B := 99999) j (fun i hi => HPI.out i (by omega))
        by_cases hlt : j < b.length
        · have hltI : (j : Int) < (b.length : Int) := by omega
          obtain ⟨z, hz⟩ : ∃ z, b[j]? = some z := ⟨_, List.getElem?_eq_getElem hlt⟩
          obtain ⟨z0, z1⟩ := HPI.out j hlt
          have HE : Hid (Q.csum (Q.prf b) (j + 1) = Q.csum (Q.prf b) j + z) := by show _ = _; rw [Q.csum, Q.prf_at hz]
          rw [Q.prf_at hz] at z0 z1
          obtain ⟨cb, co, rfl, hcb, hc1⟩ := HRb.out.at_ (ivs_some hz)
          generalize Q.csum (Q.prf b) j = S at hs0 hs1 HE ⊢
          have hw : IntKind.i64.wrap (S + z) = S + z := IntWalk.i64_in _ (by omega)
          clear hz
          go_wp2
          go_round
          case rel => exact ⟨j + 1, by omega, by go_num, by rw [HE.out]⟩
          case measure => simp [intOf]; omega
        · have hje : j = b.length := by omega
          have hltI : ¬ (j : Int) < (b.length : Int) := by omega
          have hs2 : Q.csum (Q.prf b) b.length ≤ 6000000 := by rw [hje] at hs1; omega
          have hs3 : 0 ≤ Q.csum (Q.prf b) b.length := by rw [hje] at hs0; omega
          have HJ : Hid (Q.csum (Q.prf b) j = Q.csum (Q.prf b) b.length) := by show _ = _; rw [hje]
          rw [HJ.out]
          clear hje hs0 hs1 HJ
          generalize hT0 : Q.csum (Q.prf b) b.length = T at hs2 hs3 ⊢
          have HT := Lib.hid hT0
          clear hT0
          go_wp2
          go_loopw [10, 12] (fun v i wr => ∃ l : Nat, l ≤ a.length + q.length ∧ i = .int .i64 (l : Int) ∧ v = .int .i64 (T - Q.csum rn l) ∧ Hid (MetIn w wr A c xs L)) (fun _ i _ => a.length + q.length - (intOf i).toNat)
          case atStart => exact ⟨0, Nat.zero_le _, rfl, by simp [Q.csum], HM2.out⟩
          case round =>
            obtain ⟨l, hl, rfl, rfl, hM⟩ := hrel
            obtain ⟨ht0, ht1⟩ := Q.csum_in (f := rn) (B := 99999) l (fun i hi => HRI.out i (by omega))
            have hsum : IntKind.i64.wrap ((a.length : Int) + (q.length : Int)) = (a.length : Int) + (q.length : Int) := IntWalk.i64_in _ (by omega)
            by_cases hlt2 : l < a.length + q.length
            · have hlt2I : (l : Int) < (a.length : Int) + (q.length : Int) := by omega
              obtain ⟨r0, r1⟩ := HRI.out l hlt2
              have HE : Hid (T - Q.csum rn (l + 1) = T - Q.csum rn l - rn l) := by show _ = _; rw [Q.csum]; omega
              have HKl := Lib.hid (HK.out l hlt2)
              generalize Q.csum rn l = S at ht0 ht1 HE ⊢
              generalize rn l = R at r0 r1 HE HKl
              have hw : IntKind.i64.wrap (T - S - R) = T - S - R := IntWalk.i64_in _ (by omega)
              clear hk0 hk1 hk2
              obtain ⟨hk0, hk1, hk2⟩ := hM.out.bk
              go_wp2_with fail
              go_at_call 80
              refine (HKl.out wr hM.out.bl).mono ?_
              rintro e w3 ⟨rfl, hb⟩
              have hM1 := Lib.hid (hM.out.on hb)
              clear hb
              go_wp2
              go_roundw
              case rel => exact ⟨l + 1, by omega, by go_num, by rw [HE.out], hM1.out⟩
              case measure => simp [intOf]; omega
            · have hle : l = a.length + q.length := by omega
              have hlt2I : ¬ (l : Int) < (a.length : Int) + (q.length : Int) := by omega
              have HE : Hid (Q.csum rn l = Q.csum rn (a.length + q.length)) := by show _ = _; rw [hle]
              rw [HE.out]
              clear hle ht0 ht1
              go_wp2
              go_ret2
              exact ⟨by rw [HT.out]; rfl, hM.out.bl⟩
set_option maxHeartbeats 1600000 in
theorem impPrb_any (A : Option Addr) (c : Nat) (xs : List Value) (L : List (List Int)) (a q b : List Int) (Ba Bq Bb : Option Addr) (da dq db : Nat) (hll : ∀ l ∈ L, l.length ≤ 1048576) (hla : a.length ≤ 1048576) (hlq : q.length ≤ 1048576) (hlb : b.length ≤ 1048576) (w : World) (hr : NRow w A xs L) (ha : Law.Row w Ba (ivs a)) (hq : Law.Row w Bq (ivs q)) (hb : Law.Row w Bb (ivs b)) :
    Calls Try.prog 41 #[mv A L.length c, .slice Ba a.length da, .slice Bq q.length dq, .slice Bb b.length db] w fun e w' => e = .returned (.tuple #[.int .i64 (Q.prbQ L a q b).1, .bool (Q.prbQ L a q b).2]) ∧ Below w.heap.size w w' := by
  have HM := Lib.hid (MetIn.start (c := c) hr 29)
  cases hs : Q.srvQ L a q
  · rw [Q.prb_no1 hs]
    have HO := Lib.hid fun (W : World) (h : Below w.heap.size w W) => flowOf_no A c xs L a q Ba Bq da dq hll hla hlq W hs (hr.stays h) (ha.stays h) (hq.stays h)
    clear hr ha hq hb hs
    go_enter Try.func41, Try.ntmps41
    go_wp2_with fail
    generalize w.alloc (.cells #[.slice A L.length c] 29) = wa at HM ⊢
    obtain ⟨hk0, hk1, hk2⟩ := HM.out.bk
    go_wp2_with fail
    go_at_call 76
    refine (HO.out wa HM.out.bl).mono ?_
    rintro e w1 ⟨rfl, hb⟩
    have HB := Lib.hid (Law.then_ HM.out.bl hb)
    clear hb hk0 hk1 hk2
    go_wp2
    go_ret2
    exact ⟨rfl, HB.out.alloc HB.out.size _⟩
  · have hm := Q.srv_good hs
    have hP := Q.srv_inP hs
    obtain ⟨l1, l3, l60⟩ := Q.srv_len hs
    have hPl : (a ++ q).length = a.length + q.length := List.length_append
    have HO := Lib.hid fun (W : World) (h : Below w.heap.size w W) => flowOf_yes A c xs L a q Ba Bq da dq hll hla hlq W hs (hr.stays h) (ha.stays h) (hq.stays h)
    have HW := Lib.hid fun (W : World) (h : Below w.heap.size w W) => isWithin_any Bb db b 0 99999 W hlb (hb.stays h)
    cases hc : Q.prQ q.length b
    · rw [Q.prb_no2 hc]
      by_cases hlen : b.length = q.length
      · have hlenI : ((b.length : Int) == (q.length : Int)) = true := by simp [hlen]
        have hlenJ : (b.length : Int) = (q.length : Int) := by omega
        have hw0 : Q.within 0 99999 b = false := by
          simp only [Q.prQ, hlen, decide_true, Bool.true_and] at hc
          exact hc
        rw [hw0] at HW
        clear hr ha hq hb hs hc hm hP hPl hw0
        generalize a ++ q = P at HO
        generalize b.length = bl at HW hlen hlenI hlenJ hlb ⊢
        subst hlen
        clear hlenI hlenJ
        go_enter Try.func41, Try.ntmps41
        go_wp2_with fail
        generalize w.alloc (.cells #[.slice A L.length c] 29) = wa at HM ⊢
        obtain ⟨hk0, hk1, hk2⟩ := HM.out.bk
        go_wp2_with fail
        go_at_call 76
        refine (HO.out wa HM.out.bl).mono ?_
        rintro e w1 ⟨C, d, rfl, ho, hb⟩
        have HB := Lib.hid (Law.then_ HM.out.bl hb)
        clear hb hk0 hk1 hk2 ho
        go_wp2_with fail
        have HB2 := Lib.hid (HB.out.alloc HB.out.size (.cells #[.slice A L.length c, .int .i64 (a.length : Int), .slice C P.length d] 88))
        generalize w1.alloc (.cells #[.slice A L.length c, .int .i64 (a.length : Int), .slice C P.length d] 88) = wb at HB2 ⊢
        go_wp2_with fail
        go_at_call 81
        refine (HW.out wb HB2.out).mono ?_
        rintro e w' ⟨rfl, hw'⟩
        obtain rfl := hw'.symm
        clear hw'
        go_wp2
        go_ret2
        exact ⟨rfl, HB2.out⟩
      · have hlenI : ¬ (b.length : Int) = (q.length : Int) := by omega
        clear hr ha hq hb hs hc hm hP hPl hlen HW
        generalize a ++ q = P at HO
        go_enter Try.func41, Try.ntmps41
        go_wp2_with fail
        generalize w.alloc (.cells #[.slice A L.length c] 29) = wa at HM ⊢
        obtain ⟨hk0, hk1, hk2⟩ := HM.out.bk
        go_wp2_with fail
        go_at_call 76
        refine (HO.out wa HM.out.bl).mono ?_
        rintro e w1 ⟨C, d, rfl, ho, hb⟩
        have HB := Lib.hid (Law.then_ HM.out.bl hb)
        clear hb hk0 hk1 hk2 ho
        go_wp2
        go_ret2
        exact ⟨rfl, HB.out.alloc HB.out.size _⟩
    · rw [Q.prb_yes hs hc]
      obtain ⟨hlen, hok⟩ := Q.pr_ok hc
      have hw1 : Q.within 0 99999 b = true := by
        simp only [Q.prQ, hlen, decide_true, Bool.true_and] at hc
        exact hc
      rw [hw1] at HW
      have HK := Lib.hid fun (l : Nat) (hl : l < a.length + q.length) (W : World) (h : Below w.heap.size w W) C d (hp : Law.Row W C (ivs (a ++ q))) => rent_any A c xs L a.length C d (a ++ q) b Bb db l W l1 hm hP (by omega) (by omega) hok (by omega) (hr.stays h) hp (hb.stays h)
      have HRI := Lib.hid fun (l : Nat) (hl : l < a.length + q.length) => Q.rent_in (k := a.length) hm hP hok (by omega) (l := l) (by omega) l1
      have HBr := Lib.hid fun (W : World) (h : Below w.heap.size w W) => hb.stays h
      have HPI := Lib.hid (Q.prf_in hok)
      have hbl : b.length ≤ 60 := by omega
      have HV : Hid (Q.bnd7 L (a ++ q) a.length b (a.length + q.length) = Q.csum (Q.prf b) b.length - Q.csum (Q.rent L (a ++ q) a.length b) (a.length + q.length)) := rfl
      rw [HV.out]
      generalize Q.rent L (a ++ q) a.length b = rn at HK HRI ⊢
      have hPle : (a ++ q).length ≤ 63 := by omega
      clear hr ha hq hb hs hc hm hP hok HV hw1
      generalize a ++ q = P at HO HK hPl hPle
      generalize q.length = ql at hlen HO HK HRI hPl l60 hlq ⊢
      subst hlen
      have HLe := Lib.hid hPl
      clear hPl
      go_enter Try.func41, Try.ntmps41
      go_wp2_with fail
      generalize w.alloc (.cells #[.slice A L.length c] 29) = wa at HM ⊢
      obtain ⟨hk0, hk1, hk2⟩ := HM.out.bk
      go_wp2_with fail
      go_at_call 76
      refine (HO.out wa HM.out.bl).mono ?_
      rintro e w1 ⟨C, d, rfl, ho, hb⟩
      have HB := Lib.hid (Law.then_ HM.out.bl hb)
      have HP := Lib.hid (Law.Row.own ho)
      clear hb hk0 hk1 hk2 ho
      go_wp2_with fail
      have hb0 : Below w1.heap.size w1 (w1.alloc (.cells #[.slice A L.length c, .int .i64 (a.length : Int), .slice C P.length d] 88)) := (Below.refl _ _).alloc (Nat.le_refl _) _
      have HK0 := Lib.hid (Bk3.new w1 (.slice A L.length c) (.int .i64 (a.length : Int)) (.slice C P.length d) 88)
      have HB2 := Lib.hid (Law.then_ HB.out hb0)
      have HP2 := Lib.hid (HP.out.stays hb0)
      clear hb0
      generalize hbk : w1.heap.size = bk at HK0 ⊢
      generalize w1.alloc (.cells #[.slice A L.length c, .int .i64 (a.length : Int), .slice C P.length d] 88) = wb at HK0 HB2 HP2 ⊢
      clear hbk
      go_wp2_with fail
      go_at_call 81
      refine (HW.out wb HB2.out).mono ?_
      rintro e w' ⟨rfl, hw'⟩
      obtain rfl := hw'.symm
      clear hw'
      have HRb := Lib.hid (HBr.out wb HB2.out)
      go_wp2
      go_loop [12, 39] (fun v i => ∃ j : Nat, j ≤ b.length ∧ i = .int .i64 (j : Int) ∧ v = .int .i64 (Q.csum (Q.prf b) j)) (fun _ i => b.length - (intOf i).toNat)
      case atStart => exact ⟨0, Nat.zero_le _, rfl, rfl⟩
      case round =>
        obtain ⟨j, hj, rfl, rfl⟩ := hrel
        obtain ⟨hs0, hs1⟩ := Q.csum_in (f := Q.prf b) (B := 99999) j (fun i hi => HPI.out i (by omega))
        by_cases hlt : j < b.length
        · have hltI : (j : Int) < (b.length : Int) := by omega
          obtain ⟨z, hz⟩ : ∃ z, b[j]? = some z := ⟨_, List.getElem?_eq_getElem hlt⟩
          obtain ⟨z0, z1⟩ := HPI.out j hlt
          have HE : Hid (Q.csum (Q.prf b) (j + 1) = Q.csum (Q.prf b) j + z) := by show _ = _; rw [Q.csum, Q.prf_at hz]
          rw [Q.prf_at hz] at z0 z1
          obtain ⟨cb, co, rfl, hcb, hc1⟩ := HRb.out.at_ (ivs_some hz)
          generalize Q.csum (Q.prf b) j = S at hs0 hs1 HE ⊢
          have hw : IntKind.i64.wrap (S + z) = S + z := IntWalk.i64_in _ (by omega)
          clear hz
          go_wp2
          go_round
          case rel => exact ⟨j + 1, by omega, by go_num, by rw [HE.out]⟩
          case measure => simp [intOf]; omega
        · have hje : j = b.length := by omega
          have hltI : ¬ (j : Int) < (b.length : Int) := by omega
          have hs2 : Q.csum (Q.prf b) b.length ≤ 6000000 := by rw [hje] at hs1; omega
          have hs3 : 0 ≤ Q.csum (Q.prf b) b.length := by rw [hje] at hs0; omega
          have HJ : Hid (Q.csum (Q.prf b) j = Q.csum (Q.prf b) b.length) := by show _ = _; rw [hje]
          rw [HJ.out]
          clear hje hs0 hs1 HJ
          generalize hT0 : Q.csum (Q.prf b) b.length = T at hs2 hs3 ⊢
          have HT := Lib.hid hT0
          clear hT0
          obtain ⟨p0, p1, p2, f0, f1, f2, _⟩ := HK0.out
          go_wp2
          go_loopw [12, 50] (fun v i wr => ∃ l : Nat, l ≤ P.length ∧ i = .int .i64 (l : Int) ∧ v = .int .i64 (T - Q.csum rn l) ∧ Hid (Bk3 wr bk (.slice A L.length c) (.int .i64 (a.length : Int)) (.slice C P.length d)) ∧ Hid (Law.Row wr C (ivs P)) ∧ Hid (Below w.heap.size w wr)) (fun _ i _ => P.length - (intOf i).toNat)
          case atStart => exact ⟨0, Nat.zero_le _, rfl, by simp [Q.csum], HK0.out, HP2.out, HB2.out⟩
          case round =>
            obtain ⟨l, hl, rfl, rfl, hK, hPr, hB⟩ := hrel
            obtain ⟨ht0, ht1⟩ := Q.csum_in (f := rn) (B := 99999) l (fun i hi => HRI.out i (by have := HLe.out; omega))
            by_cases hlt2 : l < P.length
            · have hlt2I : (l : Int) < (P.length : Int) := by omega
              have hlt2P : l < a.length + b.length := by have := HLe.out; omega
              obtain ⟨r0, r1⟩ := HRI.out l hlt2P
              have HE : Hid (T - Q.csum rn (l + 1) = T - Q.csum rn l - rn l) := by show _ = _; rw [Q.csum]; omega
              have HKl := Lib.hid (HK.out l hlt2P)
              generalize Q.csum rn l = S at ht0 ht1 HE ⊢
              generalize rn l = R at r0 r1 HE HKl
              have hw : IntKind.i64.wrap (T - S - R) = T - S - R := IntWalk.i64_in _ (by omega)
              clear p0 p1 p2 f0 f1 f2
              obtain ⟨p0, p1, p2, f0, f1, f2, _⟩ := hK.out
              go_wp2_with fail
              go_at_call 82
              refine (HKl.out wr hB.out C d hPr.out).mono ?_
              rintro e w3 ⟨rfl, hb⟩
              have hK1 := Lib.hid (hK.out.on hb)
              have hP1 := Lib.hid (hPr.out.stays hb)
              have hB1 := Lib.hid (Law.then_ hB.out hb)
              clear hb
              go_wp2
              go_roundw
              case rel => exact ⟨l + 1, by omega, by go_num, by rw [HE.out], hK1.out, hP1.out, hB1.out⟩
              case measure => simp [intOf]; omega
            · have hle : l = P.length := by omega
              have hlt2I : ¬ (l : Int) < (P.length : Int) := by omega
              have HE : Hid (Q.csum rn l = Q.csum rn (a.length + b.length)) := by show _ = _; rw [hle, HLe.out]
              rw [HE.out]
              clear hle ht0 ht1
              go_wp2
              go_ret2
              exact ⟨by rw [HT.out]; rfl, hB.out⟩
end Go.Proofs.Ytphfjhnmnehfkaa
