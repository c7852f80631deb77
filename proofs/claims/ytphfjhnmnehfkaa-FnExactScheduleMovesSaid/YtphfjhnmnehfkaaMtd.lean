/-
  l6Two and the code's isMove; MoveCost and MatchConfigs, both sides.
-/
import Derived.Test.YtphfjhnmnehfkaaMtc
namespace Go.Proofs.Ytphfjhnmnehfkaa
open Go.RowKit
set_option linter.unusedVariables false
set_option maxHeartbeats 800000 in
theorem l6Two_any (A : Option Addr) (c : Nat) (xs : List Value) (L : List (List Int)) (a b : List Int) (Ba Bb : Option Addr) (da db : Nat) (hla : a.length ≤ 1048576) (hlb : b.length ≤ 1048576) (w : World) (hr : NRow w A xs L) (ha : Law.Row w Ba (ivs a)) (hb : Law.Row w Bb (ivs b)) :
    Calls Try.prog 83 #[mv A L.length c, .slice Ba a.length da, .slice Bb b.length db] w fun e w' => e = .returned (.bool (Q.twoQ L a b)) ∧ Below w.heap.size w w' := by
  have HM := Lib.hid (MetIn.start (c := c) hr 29)
  have HG := Lib.hid (l6Good_any A c xs L _ HM.out.rows)
  have HN : Hid (Q.twoQ L a b = (Q.metQ L && (Q.servers ((L.length : Int) - 1) a && (Q.servers ((L.length : Int) - 1) b && decide (a.length = b.length))))) := rfl
  cases hg : Q.metQ L
  · rw [hg] at HG HN
    clear hr ha hb hg
    generalize Q.twoQ L a b = V at HN ⊢
    go_enter Try.func83, Try.ntmps83
    go_wp2_with fail
    generalize w.alloc (.cells #[.slice A L.length c] 29) = wa at HM HG ⊢
    go_at_call 57
    refine HG.out.mono ?_
    rintro e w1 ⟨rfl, hb⟩
    have HB := Lib.hid (HM.out.on hb).bl
    clear hb
    go_wp2
    go_ret
    exact ⟨by rw [HN.out]; rfl, HB.out⟩
  · obtain ⟨_, ⟨h1, h6⟩, _⟩ := Q.met_sqr hg
    have HCa := Lib.hid fun (W : World) (h : Below w.heap.size w W) => l6Config_any L.length Ba da a W h1 h6 hla (ha.stays h)
    have HCb := Lib.hid fun (W : World) (h : Below w.heap.size w W) => l6Config_any L.length Bb db b W h1 h6 hlb (hb.stays h)
    rw [hg] at HG HN
    clear hr ha hb hg
    generalize Q.twoQ L a b = V at HN ⊢
    generalize hsa : Q.servers ((L.length : Int) - 1) a = s at HCa HN
    generalize hsb : Q.servers ((L.length : Int) - 1) b = t at HCb HN
    clear hsa hsb
    cases s
    · clear HCb
      go_enter Try.func83, Try.ntmps83
      go_wp2_with fail
      generalize w.alloc (.cells #[.slice A L.length c] 29) = wa at HM HG ⊢
      go_at_call 57
      refine HG.out.mono ?_
      rintro e w1 ⟨rfl, hb⟩
      have HM1 := Lib.hid (HM.out.on hb)
      clear hb
      obtain ⟨hk0, hk1, hk2⟩ := HM1.out.bk
      go_wp2_with fail
      go_at_call 58
      refine (HCa.out w1 HM1.out.bl).mono ?_
      rintro e w2 ⟨rfl, hb⟩
      have HB := Lib.hid (Law.then_ HM1.out.bl hb)
      clear hb
      go_wp2
      go_ret
      exact ⟨by rw [HN.out]; rfl, HB.out⟩
    · go_enter Try.func83, Try.ntmps83
      go_wp2_with fail
      generalize w.alloc (.cells #[.slice A L.length c] 29) = wa at HM HG ⊢
      go_at_call 57
      refine HG.out.mono ?_
      rintro e w1 ⟨rfl, hb⟩
      have HM1 := Lib.hid (HM.out.on hb)
      clear hb
      obtain ⟨hk0, hk1, hk2⟩ := HM1.out.bk
      go_wp2_with fail
      go_at_call 58
      refine (HCa.out w1 HM1.out.bl).mono ?_
      rintro e w2 ⟨rfl, hb⟩
      have HM2 := Lib.hid (HM1.out.on hb)
      clear hb hk0 hk1 hk2
      obtain ⟨hk0, hk1, hk2⟩ := HM2.out.bk
      go_wp2_with fail
      go_at_call 58
      refine (HCb.out w2 HM2.out.bl).mono ?_
      rintro e w3 ⟨rfl, hb⟩
      have HB := Lib.hid (Law.then_ HM2.out.bl hb)
      clear hb
      cases t
      · go_wp2
        go_ret
        exact ⟨by rw [HN.out]; rfl, HB.out⟩
      · by_cases he : a.length = b.length
        · have heB : ((a.length : Int) == (b.length : Int)) = true := by simp [he]
          rw [decide_eq_true he] at HN
          clear he
          go_wp2
          go_ret
          exact ⟨by rw [HN.out]; rfl, HB.out⟩
        · have heB : ((a.length : Int) == (b.length : Int)) = false := by simp; omega
          rw [decide_eq_false he] at HN
          clear he
          go_wp2
          go_ret
          exact ⟨by rw [HN.out]; rfl, HB.out⟩
set_option maxHeartbeats 800000 in
theorem isMove_any (A : Option Addr) (c : Nat) (xs : List Value) (L : List (List Int)) (a b : List Int) (Ba Bb : Option Addr) (da db : Nat) (hll : ∀ l ∈ L, l.length ≤ 1048576) (hla : a.length ≤ 1048576) (hlb : b.length ≤ 1048576) (w : World) (hr : NRow w A xs L) (ha : Law.Row w Ba (ivs a)) (hb : Law.Row w Bb (ivs b)) :
    Calls Try.prog 85 #[mv A L.length c, .slice Ba a.length da, .slice Bb b.length db] w fun e w' => e = .returned (.bool (Q.twoQ L a b)) ∧ Below w.heap.size w w' := by
  have HM := Lib.hid (MetIn.start (c := c) hr 29)
  have HG := Lib.hid (impMet_any A c xs L _ hll HM.out.rows)
  have HN : Hid (Q.twoQ L a b = (Q.metQ L && (Q.servers ((L.length : Int) - 1) a && (Q.servers ((L.length : Int) - 1) b && decide (a.length = b.length))))) := rfl
  cases hg : Q.metQ L
  · rw [hg] at HG HN
    clear hr ha hb hg
    generalize Q.twoQ L a b = V at HN ⊢
    go_enter Try.func85, Try.ntmps85
    go_wp2_with fail
    generalize w.alloc (.cells #[.slice A L.length c] 29) = wa at HM HG ⊢
    go_at_call 103
    refine HG.out.mono ?_
    rintro e w1 ⟨rfl, hb⟩
    have HB := Lib.hid (HM.out.on hb).bl
    clear hb
    go_wp2
    go_ret
    exact ⟨by rw [HN.out]; rfl, HB.out⟩
  · obtain ⟨_, ⟨h1, h6⟩, _⟩ := Q.met_sqr hg
    have HCa := Lib.hid fun (W : World) (h : Below w.heap.size w W) => isConfig_any A L.length c Ba da a W h1 h6 hla (ha.stays h)
    have HCb := Lib.hid fun (W : World) (h : Below w.heap.size w W) => isConfig_any A L.length c Bb db b W h1 h6 hlb (hb.stays h)
    rw [hg] at HG HN
    clear hr ha hb hg
    generalize Q.twoQ L a b = V at HN ⊢
    generalize hsa : Q.servers ((L.length : Int) - 1) a = s at HCa HN
    generalize hsb : Q.servers ((L.length : Int) - 1) b = t at HCb HN
    clear hsa hsb
    cases s
    · clear HCb
      go_enter Try.func85, Try.ntmps85
      go_wp2_with fail
      generalize w.alloc (.cells #[.slice A L.length c] 29) = wa at HM HG ⊢
      go_at_call 103
      refine HG.out.mono ?_
      rintro e w1 ⟨rfl, hb⟩
      have HM1 := Lib.hid (HM.out.on hb)
      clear hb
      obtain ⟨hk0, hk1, hk2⟩ := HM1.out.bk
      go_wp2_with fail
      go_at_call 118
      refine (HCa.out w1 HM1.out.bl).mono ?_
      rintro e w2 ⟨rfl, hb⟩
      have HB := Lib.hid (Law.then_ HM1.out.bl hb)
      clear hb
      go_wp2
      go_ret
      exact ⟨by rw [HN.out]; rfl, HB.out⟩
    · go_enter Try.func85, Try.ntmps85
      go_wp2_with fail
      generalize w.alloc (.cells #[.slice A L.length c] 29) = wa at HM HG ⊢
      go_at_call 103
      refine HG.out.mono ?_
      rintro e w1 ⟨rfl, hb⟩
      have HM1 := Lib.hid (HM.out.on hb)
      clear hb
      obtain ⟨hk0, hk1, hk2⟩ := HM1.out.bk
      go_wp2_with fail
      go_at_call 118
      refine (HCa.out w1 HM1.out.bl).mono ?_
      rintro e w2 ⟨rfl, hb⟩
      have HM2 := Lib.hid (HM1.out.on hb)
      clear hb hk0 hk1 hk2
      obtain ⟨hk0, hk1, hk2⟩ := HM2.out.bk
      go_wp2_with fail
      go_at_call 118
      refine (HCb.out w2 HM2.out.bl).mono ?_
      rintro e w3 ⟨rfl, hb⟩
      have HB := Lib.hid (Law.then_ HM2.out.bl hb)
      clear hb
      cases t
      · go_wp2
        go_ret
        exact ⟨by rw [HN.out]; rfl, HB.out⟩
      · by_cases he : a.length = b.length
        · have heB : ((a.length : Int) == (b.length : Int)) = true := by simp [he]
          rw [decide_eq_true he] at HN
          clear he
          go_wp2
          go_ret
          exact ⟨by rw [HN.out]; rfl, HB.out⟩
        · have heB : ((a.length : Int) == (b.length : Int)) = false := by simp; omega
          rw [decide_eq_false he] at HN
          clear he
          go_wp2
          go_ret
          exact ⟨by rw [HN.out]; rfl, HB.out⟩
namespace Q
theorem two_parts {L : List (List Int)} {a b : List Int} (h : twoQ L a b = true) : metQ L = true ∧ inP L a ∧ inP L b ∧ 1 ≤ a.length ∧ a.length ≤ 3 ∧ b.length = a.length :=
  have h' := two_iff.1 h
  ⟨h'.1, srv_in h'.2.1, srv_in h'.2.2.1, (servers_iff.1 h'.2.1).1, (servers_iff.1 h'.2.1).2.1, h'.2.2.2.symm⟩
end Q
/-- A call of the code's bestMatching from the start. -/
theorem bestM0 (A : Option Addr) (c : Nat) (xs : List Value) (L : List (List Int)) (a b : List Int) (Ba Bb : Option Addr) (da db : Nat) (w : World) (h2 : Q.twoQ L a b = true) (hr : NRow w A xs L) (ha : Law.Row w Ba (ivs a)) (hb : Law.Row w Bb (ivs b)) :
    Calls Try.prog 86 #[mv A L.length c, .slice Ba a.length da, .slice Bb b.length db, .slice none 0 0] w fun e w' => ∃ r, e = .returned (.tuple #[r, .int .i64 (Q.moveQ L a b).2]) ∧ w'.ownsRow w.heap.size 3 1 r (Q.moveQ L a b).1.length (ivs (Q.moveQ L a b).1) ∧ Below w.heap.size w w' := by
  obtain ⟨hm, hPa, hPb, h1, h3, hab⟩ := Q.two_parts h2
  rw [Q.move_bm hm hPa hPb h1 h3 hab]
  refine (bestM_any w A c xs L a b Ba Bb da db hm hPa hPb h1 h3 hab hr ha hb a.length [] (.slice none 0 0) w (by simp) (Below.refl _ _) (World.ownsRow_nil _ _ _ _)).mono fun e w' ⟨r, he, ho, hg, _⟩ => ⟨r, he, ho, ⟨hg.os, hg.tape, hg.output, hg.size, fun i hi => hg.block i hi (by simp [Value.ownBlock])⟩⟩
set_option maxHeartbeats 800000 in
theorem specMvc_any (A : Option Addr) (c : Nat) (xs : List Value) (L : List (List Int)) (a b : List Int) (Ba Bb : Option Addr) (da db : Nat) (hla : a.length ≤ 1048576) (hlb : b.length ≤ 1048576) (w : World) (hr : NRow w A xs L) (ha : Law.Row w Ba (ivs a)) (hb : Law.Row w Bb (ivs b)) :
    Calls Try.prog 42 #[mv A L.length c, .slice Ba a.length da, .slice Bb b.length db] w fun e w' => e = .returned (.tuple #[.int .i64 (Q.mvcQ L a b).1, .bool (Q.mvcQ L a b).2]) ∧ Below w.heap.size w w' := by
  have HM := Lib.hid (MetIn.start (c := c) hr 29)
  have HT := Lib.hid fun (W : World) (h : Below w.heap.size w W) => l6Two_any A c xs L a b Ba Bb da db hla hlb W (hr.stays h) (ha.stays h) (hb.stays h)
  cases h2 : Q.twoQ L a b
  · rw [Q.mvc_no h2]
    rw [h2] at HT
    clear hr ha hb h2
    go_enter Try.func42, Try.ntmps42
    go_wp2_with fail
    generalize w.alloc (.cells #[.slice A L.length c] 29) = wa at HM ⊢
    obtain ⟨hk0, hk1, hk2⟩ := HM.out.bk
    go_wp2_with fail
    go_at_call 83
    refine (HT.out wa HM.out.bl).mono ?_
    rintro e w1 ⟨rfl, hb⟩
    have HB := Lib.hid (HM.out.on hb).bl
    clear hb
    go_wp2
    go_ret2
    exact ⟨rfl, HB.out⟩
  · rw [Q.mvc_yes h2]
    obtain ⟨hm, hPa, hPb, h1, h3, hab⟩ := Q.two_parts h2
    have HV := Lib.hid fun (W : World) (h : Below w.heap.size w W) => l6Move_any A c xs L a b Ba Bb da db W hm hPa hPb h3 hab (hr.stays h) (ha.stays h) (hb.stays h)
    rw [h2] at HT
    clear hr ha hb h2 hm hPa hPb hab
    generalize Q.moveQ L a b = M at HV ⊢
    go_enter Try.func42, Try.ntmps42
    go_wp2_with fail
    generalize w.alloc (.cells #[.slice A L.length c] 29) = wa at HM ⊢
    obtain ⟨hk0, hk1, hk2⟩ := HM.out.bk
    go_wp2_with fail
    go_at_call 83
    refine (HT.out wa HM.out.bl).mono ?_
    rintro e w1 ⟨rfl, hb⟩
    have HM1 := Lib.hid (HM.out.on hb)
    clear hb hk0 hk1 hk2
    obtain ⟨hk0, hk1, hk2⟩ := HM1.out.bk
    go_wp2_with fail
    go_at_call 84
    refine (HV.out w1 HM1.out.bl).mono ?_
    rintro e w2 ⟨rfl, hb⟩
    have HB := Lib.hid (HM1.out.on hb).bl
    clear hb
    go_wp2
    go_ret2
    exact ⟨rfl, HB.out⟩
set_option maxHeartbeats 800000 in
theorem impMvc_any (A : Option Addr) (c : Nat) (xs : List Value) (L : List (List Int)) (a b : List Int) (Ba Bb : Option Addr) (da db : Nat) (hll : ∀ l ∈ L, l.length ≤ 1048576) (hla : a.length ≤ 1048576) (hlb : b.length ≤ 1048576) (w : World) (hr : NRow w A xs L) (ha : Law.Row w Ba (ivs a)) (hb : Law.Row w Bb (ivs b)) :
    Calls Try.prog 43 #[mv A L.length c, .slice Ba a.length da, .slice Bb b.length db] w fun e w' => e = .returned (.tuple #[.int .i64 (Q.mvcQ L a b).1, .bool (Q.mvcQ L a b).2]) ∧ Below w.heap.size w w' := by
  have HM := Lib.hid (MetIn.start (c := c) hr 29)
  have HT := Lib.hid fun (W : World) (h : Below w.heap.size w W) => isMove_any A c xs L a b Ba Bb da db hll hla hlb W (hr.stays h) (ha.stays h) (hb.stays h)
  cases h2 : Q.twoQ L a b
  · rw [Q.mvc_no h2]
    rw [h2] at HT
    clear hr ha hb h2
    go_enter Try.func43, Try.ntmps43
    go_wp2_with fail
    generalize w.alloc (.cells #[.slice A L.length c] 29) = wa at HM ⊢
    obtain ⟨hk0, hk1, hk2⟩ := HM.out.bk
    go_wp2_with fail
    go_at_call 85
    refine (HT.out wa HM.out.bl).mono ?_
    rintro e w1 ⟨rfl, hb⟩
    have HB := Lib.hid (HM.out.on hb).bl
    clear hb
    go_wp2
    go_ret2
    exact ⟨rfl, HB.out⟩
  · rw [Q.mvc_yes h2]
    have HV := Lib.hid fun (W : World) (h : Below w.heap.size w W) => bestM0 A c xs L a b Ba Bb da db W h2 (hr.stays h) (ha.stays h) (hb.stays h)
    rw [h2] at HT
    clear hr ha hb h2
    generalize Q.moveQ L a b = M at HV ⊢
    go_enter Try.func43, Try.ntmps43
    go_wp2_with fail
    generalize w.alloc (.cells #[.slice A L.length c] 29) = wa at HM ⊢
    obtain ⟨hk0, hk1, hk2⟩ := HM.out.bk
    go_wp2_with fail
    go_at_call 85
    refine (HT.out wa HM.out.bl).mono ?_
    rintro e w1 ⟨rfl, hb⟩
    have HM1 := Lib.hid (HM.out.on hb)
    clear hb hk0 hk1 hk2
    obtain ⟨hk0, hk1, hk2⟩ := HM1.out.bk
    go_wp2_with fail
    go_at_call 86
    refine (HV.out w1 HM1.out.bl).mono ?_
    rintro e w2 ⟨r, rfl, ho, hb⟩
    have HB := Lib.hid (HM1.out.on hb).bl
    clear hb ho
    go_wp2
    go_ret2
    exact ⟨rfl, HB.out⟩
set_option maxHeartbeats 800000 in
theorem specMch_any (A : Option Addr) (c : Nat) (xs : List Value) (L : List (List Int)) (a b : List Int) (Ba Bb : Option Addr) (da db : Nat) (hla : a.length ≤ 1048576) (hlb : b.length ≤ 1048576) (w : World) (hr : NRow w A xs L) (ha : Law.Row w Ba (ivs a)) (hb : Law.Row w Bb (ivs b)) :
    Calls Try.prog 44 #[mv A L.length c, .slice Ba a.length da, .slice Bb b.length db] w (rowSays (Q.mtchQ L a b) w) := by
  have HM := Lib.hid (MetIn.start (c := c) hr 29)
  have HT := Lib.hid fun (W : World) (h : Below w.heap.size w W) => l6Two_any A c xs L a b Ba Bb da db hla hlb W (hr.stays h) (ha.stays h) (hb.stays h)
  cases h2 : Q.twoQ L a b
  · rw [Q.mtch_no h2]
    rw [h2] at HT
    clear hr ha hb h2
    go_enter Try.func44, Try.ntmps44
    go_wp2_with fail
    generalize w.alloc (.cells #[.slice A L.length c] 29) = wa at HM ⊢
    obtain ⟨hk0, hk1, hk2⟩ := HM.out.bk
    go_wp2_with fail
    go_at_call 83
    refine (HT.out wa HM.out.bl).mono ?_
    rintro e w1 ⟨rfl, hb⟩
    have HB := Lib.hid (HM.out.on hb).bl
    clear hb
    go_wp2
    go_ret2
    exact ⟨_, rfl, own_down (ownsRow_nil _ _) HB.out.size, HB.out.alloc HB.out.size _⟩
  · rw [Q.mtch_yes h2]
    obtain ⟨hm, hPa, hPb, h1, h3, hab⟩ := Q.two_parts h2
    have HV := Lib.hid fun (W : World) (h : Below w.heap.size w W) => l6Match_any A c xs L a b Ba Bb da db W hm hPa hPb h3 hab (hr.stays h) (ha.stays h) (hb.stays h)
    rw [h2] at HT
    clear hr ha hb h2 hm hPa hPb hab
    generalize Q.moveQ L a b = M at HV ⊢
    go_enter Try.func44, Try.ntmps44
    go_wp2_with fail
    generalize w.alloc (.cells #[.slice A L.length c] 29) = wa at HM ⊢
    obtain ⟨hk0, hk1, hk2⟩ := HM.out.bk
    go_wp2_with fail
    go_at_call 83
    refine (HT.out wa HM.out.bl).mono ?_
    rintro e w1 ⟨rfl, hb⟩
    have HM1 := Lib.hid (HM.out.on hb)
    clear hb hk0 hk1 hk2
    obtain ⟨hk0, hk1, hk2⟩ := HM1.out.bk
    go_wp2_with fail
    go_at_call 87
    refine (HV.out w1 HM1.out.bl).mono ?_
    rintro e w2 ⟨v, rfl, ho, hb⟩
    have HB := Lib.hid (HM1.out.on hb).bl
    have HO := Lib.hid (own_down ho HM1.out.bl.size)
    clear hb ho
    go_wp2
    go_ret2
    exact ⟨_, rfl, HO.out, HB.out⟩
set_option maxHeartbeats 800000 in
theorem impMch_any (A : Option Addr) (c : Nat) (xs : List Value) (L : List (List Int)) (a b : List Int) (Ba Bb : Option Addr) (da db : Nat) (hll : ∀ l ∈ L, l.length ≤ 1048576) (hla : a.length ≤ 1048576) (hlb : b.length ≤ 1048576) (w : World) (hr : NRow w A xs L) (ha : Law.Row w Ba (ivs a)) (hb : Law.Row w Bb (ivs b)) :
    Calls Try.prog 45 #[mv A L.length c, .slice Ba a.length da, .slice Bb b.length db] w (rowSays (Q.mtchQ L a b) w) := by
  have HM := Lib.hid (MetIn.start (c := c) hr 29)
  have HT := Lib.hid fun (W : World) (h : Below w.heap.size w W) => isMove_any A c xs L a b Ba Bb da db hll hla hlb W (hr.stays h) (ha.stays h) (hb.stays h)
  cases h2 : Q.twoQ L a b
  · rw [Q.mtch_no h2]
    rw [h2] at HT
    clear hr ha hb h2
    go_enter Try.func45, Try.ntmps45
    go_wp2_with fail
    generalize w.alloc (.cells #[.slice A L.length c] 29) = wa at HM ⊢
    obtain ⟨hk0, hk1, hk2⟩ := HM.out.bk
    go_wp2_with fail
    go_at_call 85
    refine (HT.out wa HM.out.bl).mono ?_
    rintro e w1 ⟨rfl, hb⟩
    have HB := Lib.hid (HM.out.on hb).bl
    clear hb
    go_wp2
    go_ret2
    exact ⟨_, rfl, own_down (ownsRow_nil _ _) HB.out.size, HB.out.alloc HB.out.size _⟩
  · rw [Q.mtch_yes h2]
    have HV := Lib.hid fun (W : World) (h : Below w.heap.size w W) => bestM0 A c xs L a b Ba Bb da db W h2 (hr.stays h) (ha.stays h) (hb.stays h)
    rw [h2] at HT
    clear hr ha hb h2
    generalize Q.moveQ L a b = M at HV ⊢
    go_enter Try.func45, Try.ntmps45
    go_wp2_with fail
    generalize w.alloc (.cells #[.slice A L.length c] 29) = wa at HM ⊢
    obtain ⟨hk0, hk1, hk2⟩ := HM.out.bk
    go_wp2_with fail
    go_at_call 85
    refine (HT.out wa HM.out.bl).mono ?_
    rintro e w1 ⟨rfl, hb⟩
    have HM1 := Lib.hid (HM.out.on hb)
    clear hb hk0 hk1 hk2
    obtain ⟨hk0, hk1, hk2⟩ := HM1.out.bk
    go_wp2_with fail
    go_at_call 86
    refine (HV.out w1 HM1.out.bl).mono ?_
    rintro e w2 ⟨r, rfl, ho, hb⟩
    have HB := Lib.hid (HM1.out.on hb).bl
    have HO := Lib.hid (own_down ho HM1.out.bl.size)
    clear hb ho
    go_wp2
    go_ret2
    exact ⟨_, rfl, HO.out, HB.out⟩
end Go.Proofs.Ytphfjhnmnehfkaa
