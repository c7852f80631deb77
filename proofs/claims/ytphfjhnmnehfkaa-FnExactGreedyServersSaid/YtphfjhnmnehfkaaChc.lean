/-
  ChainCost: both sides.
-/
import Derived.Test.YtphfjhnmnehfkaaFlo4
namespace Go.Proofs.Ytphfjhnmnehfkaa
open Go.RowKit
set_option linter.unusedVariables false
namespace Q
noncomputable def chcQ (L : List (List Int)) (a q b : List Int) : Int × Bool := if srvQ L a q && chQ a.length q.length b then (cost L (a ++ q) a.length b, true) else (0, false)
theorem chc_no1 {L : List (List Int)} {a q b : List Int} (h : srvQ L a q = false) : chcQ L a q b = (0, false) := if_neg (by simp [h])
theorem chc_no2 {L : List (List Int)} {a q b : List Int} (h : chQ a.length q.length b = false) : chcQ L a q b = (0, false) := if_neg (by simp [h])
theorem chc_yes {L : List (List Int)} {a q b : List Int} (h1 : srvQ L a q = true) (h2 : chQ a.length q.length b = true) : chcQ L a q b = (cost L (a ++ q) a.length b, true) := if_pos (by simp [h1, h2])
theorem srv_good {L : List (List Int)} {a q : List Int} (h : srvQ L a q = true) : metQ L = true := (srv_iff.1 h).1
theorem srv_inP {L : List (List Int)} {a q : List Int} (h : srvQ L a q = true) : inP L (a ++ q) := inP_app (srv_iff.1 h).2.1 (srv_iff.1 h).2.2.2
theorem srv_len {L : List (List Int)} {a q : List Int} (h : srvQ L a q = true) : 1 ≤ a.length ∧ a.length ≤ 3 ∧ q.length ≤ 60 := ⟨(servers_iff.1 (srv_iff.1 h).2.1).1, (servers_iff.1 (srv_iff.1 h).2.1).2.1, (srv_iff.1 h).2.2.1⟩
end Q
set_option maxHeartbeats 800000 in
theorem specChc_any (A : Option Addr) (c : Nat) (xs : List Value) (L : List (List Int)) (a q b : List Int) (Ba Bq Bb : Option Addr) (da dq db : Nat) (hla : a.length ≤ 1048576) (hlq : q.length ≤ 1048576) (hlb : b.length ≤ db) (w : World) (hr : NRow w A xs L) (ha : Law.Row w Ba (ivs a)) (hq : Law.Row w Bq (ivs q)) (hb : Law.Row w Bb (ivs b)) :
    Calls Try.prog 38 #[mv A L.length c, .slice Ba a.length da, .slice Bq q.length dq, .slice Bb b.length db] w fun e w' => e = .returned (.tuple #[.int .i64 (Q.chcQ L a q b).1, .bool (Q.chcQ L a q b).2]) ∧ Below w.heap.size w w' := by
  have HM := Lib.hid (MetIn.start (c := c) hr 29)
  have HG := Lib.hid (l6Good_any A c xs L _ HM.out.rows)
  have HS := Lib.hid fun (W : World) (h : Below w.heap.size w W) => l6Start_any A c xs L a q Ba Bq da dq hla hlq W (hr.stays h) (ha.stays h) (hq.stays h)
  cases hs : Q.srvQ L a q
  · rw [Q.chc_no1 hs]
    rw [hs] at HS
    generalize Q.metQ L = g at HG
    clear hr ha hq hb hs
    cases g
    · clear HS
      go_enter Try.func38, Try.ntmps38
      go_wp2_with fail
      generalize w.alloc (.cells #[.slice A L.length c] 29) = wa at HM HG ⊢
      go_at_call 57
      refine HG.out.mono ?_
      rintro e w1 ⟨rfl, hb⟩
      have HB := Lib.hid (HM.out.on hb).bl
      clear hb
      go_wp2
      go_ret2
      exact ⟨rfl, HB.out⟩
    · go_enter Try.func38, Try.ntmps38
      go_wp2_with fail
      generalize w.alloc (.cells #[.slice A L.length c] 29) = wa at HM HG ⊢
      go_at_call 57
      refine HG.out.mono ?_
      rintro e w1 ⟨rfl, hb⟩
      have HM1 := Lib.hid (HM.out.on hb)
      clear hb
      obtain ⟨hk0, hk1, hk2⟩ := HM1.out.bk
      go_wp2_with fail
      go_at_call 69
      refine (HS.out w1 HM1.out.bl).mono ?_
      rintro e w2 ⟨rfl, hb⟩
      have HB := Lib.hid (Law.then_ HM1.out.bl hb)
      clear hb
      go_wp2
      go_ret2
      exact ⟨rfl, HB.out⟩
  · have hm := Q.srv_good hs
    have hP := Q.srv_inP hs
    obtain ⟨l1, l3, l60⟩ := Q.srv_len hs
    have HC := Lib.hid fun (W : World) (h : Below w.heap.size w W) => l7Chained_any a q b Ba Bq Bb da dq db W (by omega) (by omega) hlb (hb.stays h)
    rw [hm] at HG
    cases hc : Q.chQ a.length q.length b
    · rw [Q.chc_no2 hc]
      rw [hc] at HC
      rw [hs] at HS
      clear hr ha hq hb hs hc hm hP
      go_enter Try.func38, Try.ntmps38
      go_wp2_with fail
      generalize w.alloc (.cells #[.slice A L.length c] 29) = wa at HM HG ⊢
      go_at_call 57
      refine HG.out.mono ?_
      rintro e w1 ⟨rfl, hb⟩
      have HM1 := Lib.hid (HM.out.on hb)
      clear hb
      obtain ⟨hk0, hk1, hk2⟩ := HM1.out.bk
      go_wp2_with fail
      go_at_call 69
      refine (HS.out w1 HM1.out.bl).mono ?_
      rintro e w2 ⟨rfl, hb⟩
      have HM2 := Lib.hid (HM1.out.on hb)
      clear hb hk0 hk1 hk2
      obtain ⟨hk0, hk1, hk2⟩ := HM2.out.bk
      go_wp2_with fail
      go_at_call 74
      refine (HC.out w2 HM2.out.bl).mono ?_
      rintro e w3 ⟨rfl, hb⟩
      have HB := Lib.hid (Law.then_ HM2.out.bl hb)
      clear hb
      go_wp2
      go_ret2
      exact ⟨rfl, HB.out⟩
    · rw [Q.chc_yes hs hc]
      have hin := Q.ch_in hc
      have hlen := (Q.ch_iff.1 hc).1
      have HK := Lib.hid fun (W : World) (h : Below w.heap.size w W) => l7Cost_any A c xs L a q b Ba Bq Bb da dq db W hm hP (by omega) (by omega) hlen hin (hr.stays h) (ha.stays h) (hq.stays h) (hb.stays h)
      rw [hc] at HC
      rw [hs] at HS
      generalize Q.cost L (a ++ q) a.length b = V at HK ⊢
      clear hr ha hq hb hs hc hm hP hin hlen
      go_enter Try.func38, Try.ntmps38
      go_wp2_with fail
      generalize w.alloc (.cells #[.slice A L.length c] 29) = wa at HM HG ⊢
      go_at_call 57
      refine HG.out.mono ?_
      rintro e w1 ⟨rfl, hb⟩
      have HM1 := Lib.hid (HM.out.on hb)
      clear hb
      obtain ⟨hk0, hk1, hk2⟩ := HM1.out.bk
      go_wp2_with fail
      go_at_call 69
      refine (HS.out w1 HM1.out.bl).mono ?_
      rintro e w2 ⟨rfl, hb⟩
      have HM2 := Lib.hid (HM1.out.on hb)
      clear hb hk0 hk1 hk2
      obtain ⟨hk0, hk1, hk2⟩ := HM2.out.bk
      go_wp2_with fail
      go_at_call 74
      refine (HC.out w2 HM2.out.bl).mono ?_
      rintro e w3 ⟨rfl, hb⟩
      have HM3 := Lib.hid (HM2.out.on hb)
      clear hb hk0 hk1 hk2
      obtain ⟨hk0, hk1, hk2⟩ := HM3.out.bk
      go_wp2_with fail
      go_at_call 75
      refine (HK.out w3 HM3.out.bl).mono ?_
      rintro e w4 ⟨rfl, hb⟩
      have HB := Lib.hid (Law.then_ HM3.out.bl hb)
      clear hb
      go_wp2
      go_ret2
      exact ⟨rfl, HB.out⟩
set_option maxHeartbeats 800000 in
theorem impChc_any (A : Option Addr) (c : Nat) (xs : List Value) (L : List (List Int)) (a q b : List Int) (Ba Bq Bb : Option Addr) (da dq db : Nat) (hll : ∀ l ∈ L, l.length ≤ 1048576) (hla : a.length ≤ 1048576) (hlq : q.length ≤ 1048576) (hlb0 : b.length ≤ 1048576) (hlb : b.length ≤ db) (w : World) (hr : NRow w A xs L) (ha : Law.Row w Ba (ivs a)) (hq : Law.Row w Bq (ivs q)) (hb : Law.Row w Bb (ivs b)) :
    Calls Try.prog 39 #[mv A L.length c, .slice Ba a.length da, .slice Bq q.length dq, .slice Bb b.length db] w fun e w' => e = .returned (.tuple #[.int .i64 (Q.chcQ L a q b).1, .bool (Q.chcQ L a q b).2]) ∧ Below w.heap.size w w' := by
  have HM := Lib.hid (MetIn.start (c := c) hr 29)
  cases hs : Q.srvQ L a q
  · rw [Q.chc_no1 hs]
    have HO := Lib.hid fun (W : World) (h : Below w.heap.size w W) => flowOf_no A c xs L a q Ba Bq da dq hll hla hlq W hs (hr.stays h) (ha.stays h) (hq.stays h)
    clear hr ha hq hb hs
    go_enter Try.func39, Try.ntmps39
    go_wp2_with fail
    generalize w.alloc (.cells #[.slice A L.length c] 29) = wa at HM ⊢
    obtain ⟨hk0, hk1, hk2⟩ := HM.out.bk
    go_wp2_with fail
    go_at_call 76
    refine (HO.out wa HM.out.bl).mono ?_
    rintro e w1 ⟨rfl, hb⟩
    have HB := Lib.hid (Law.then_ HM.out.bl hb)
    clear hb hk0 hk1 hk2
    go_wp2
    go_ret2
    exact ⟨rfl, HB.out.alloc HB.out.size _⟩
  · have hm := Q.srv_good hs
    have hP := Q.srv_inP hs
    obtain ⟨l1, l3, l60⟩ := Q.srv_len hs
    have hPl : (a ++ q).length = a.length + q.length := List.length_append
    have HO := Lib.hid fun (W : World) (h : Below w.heap.size w W) => flowOf_yes A c xs L a q Ba Bq da dq hll hla hlq W hs (hr.stays h) (ha.stays h) (hq.stays h)
    have HC := Lib.hid fun (W : World) (h : Below w.heap.size w W) C d (hp : Law.Row W C (ivs (a ++ q))) => isChain_any A c xs L a.length q.length C d (a ++ q) b Bb db W (by omega) (by omega) hlb0 hPl hlb (hr.stays h) hp (hb.stays h)
    cases hc : Q.chQ a.length q.length b
    · rw [Q.chc_no2 hc]
      rw [hc] at HC
      clear hr ha hq hb hs hc hm hP hPl
      generalize a ++ q = P at HO HC
      go_enter Try.func39, Try.ntmps39
      go_wp2_with fail
      generalize w.alloc (.cells #[.slice A L.length c] 29) = wa at HM ⊢
      obtain ⟨hk0, hk1, hk2⟩ := HM.out.bk
      go_wp2_with fail
      go_at_call 76
      refine (HO.out wa HM.out.bl).mono ?_
      rintro e w1 ⟨C, d, rfl, ho, hb⟩
      have HB := Lib.hid (Law.then_ HM.out.bl hb)
      have HP := Lib.hid (Law.Row.own ho)
      clear hb hk0 hk1 hk2 ho
      go_wp2_with fail
      have hb0 : Below w1.heap.size w1 (w1.alloc (.cells #[.slice A L.length c, .int .i64 (a.length : Int), .slice C P.length d] 88)) := (Below.refl _ _).alloc (Nat.le_refl _) _
      have HK := Lib.hid (Bk3.new w1 (.slice A L.length c) (.int .i64 (a.length : Int)) (.slice C P.length d) 88)
      have HB2 := Lib.hid (Law.then_ HB.out hb0)
      have HP2 := Lib.hid (HP.out.stays hb0)
      clear hb0
      generalize w1.alloc (.cells #[.slice A L.length c, .int .i64 (a.length : Int), .slice C P.length d] 88) = wb at HK HB2 HP2 ⊢
      obtain ⟨p0, p1, p2, f0, f1, f2, _⟩ := HK.out
      go_wp2_with fail
      go_at_call 77
      refine (HC.out wb HB2.out C d HP2.out).mono ?_
      rintro e w2 ⟨rfl, hb⟩
      have HB3 := Lib.hid (Law.then_ HB2.out hb)
      clear hb
      go_wp2
      go_ret2
      exact ⟨rfl, HB3.out⟩
    · rw [Q.chc_yes hs hc]
      have hin := Q.ch_in hc
      have hlen := (Q.ch_iff.1 hc).1
      have HKs := Lib.hid fun (W : World) (h : Below w.heap.size w W) C d (hp : Law.Row W C (ivs (a ++ q))) => cost_any A c xs L a.length C d (a ++ q) b Bb db W hm hP (by omega) (by omega) hin (hr.stays h) hp (hb.stays h)
      rw [hc] at HC
      generalize Q.cost L (a ++ q) a.length b = V at HKs ⊢
      clear hr ha hq hb hs hc hm hP hPl hin hlen
      generalize a ++ q = P at HO HC HKs
      go_enter Try.func39, Try.ntmps39
      go_wp2_with fail
      generalize w.alloc (.cells #[.slice A L.length c] 29) = wa at HM ⊢
      obtain ⟨hk0, hk1, hk2⟩ := HM.out.bk
      go_wp2_with fail
      go_at_call 76
      refine (HO.out wa HM.out.bl).mono ?_
      rintro e w1 ⟨C, d, rfl, ho, hb⟩
      have HB := Lib.hid (Law.then_ HM.out.bl hb)
      have HP := Lib.hid (Law.Row.own ho)
      clear hb hk0 hk1 hk2 ho
      go_wp2_with fail
      have hb0 : Below w1.heap.size w1 (w1.alloc (.cells #[.slice A L.length c, .int .i64 (a.length : Int), .slice C P.length d] 88)) := (Below.refl _ _).alloc (Nat.le_refl _) _
      have HK := Lib.hid (Bk3.new w1 (.slice A L.length c) (.int .i64 (a.length : Int)) (.slice C P.length d) 88)
      have HB2 := Lib.hid (Law.then_ HB.out hb0)
      have HP2 := Lib.hid (HP.out.stays hb0)
      clear hb0
      generalize w1.alloc (.cells #[.slice A L.length c, .int .i64 (a.length : Int), .slice C P.length d] 88) = wb at HK HB2 HP2 ⊢
      obtain ⟨p0, p1, p2, f0, f1, f2, _⟩ := HK.out
      go_wp2_with fail
      go_at_call 77
      refine (HC.out wb HB2.out C d HP2.out).mono ?_
      rintro e w2 ⟨rfl, hb⟩
      have HB3 := Lib.hid (Law.then_ HB2.out hb)
      have HP3 := Lib.hid (HP2.out.stays hb)
      have HK3 := Lib.hid (HK.out.on hb)
      clear hb p0 p1 p2 f0 f1 f2
      obtain ⟨p0, p1, p2, f0, f1, f2, _⟩ := HK3.out
      go_wp2_with fail
      go_at_call 78
      refine (HKs.out w2 HB3.out C d HP3.out).mono ?_
      rintro e w3 ⟨rfl, hb⟩
      have HB4 := Lib.hid (Law.then_ HB3.out hb)
      clear hb
      go_wp2
      go_ret2
      exact ⟨rfl, HB4.out⟩
end Go.Proofs.Ytphfjhnmnehfkaa
