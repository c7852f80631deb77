/-
  A metric, a configuration and a sequence of requests: isServing and l6Start. The mathematics of a metric.
-/
import Derived.Test.YtphfjhnmnehfkaaIcf
namespace Go.Proofs.Ytphfjhnmnehfkaa
open Go.RowKit
set_option linter.unusedVariables false
namespace Q
noncomputable def srvQ (L : List (List Int)) (a q : List Int) : Bool := metQ L && (servers ((L.length : Int) - 1) a && (decide (q.length ≤ 60) && within 0 ((L.length : Int) - 1) q))
theorem srv_iff {L : List (List Int)} {a q : List Int} : srvQ L a q = true ↔ metQ L = true ∧ servers ((L.length : Int) - 1) a = true ∧ q.length ≤ 60 ∧ within 0 ((L.length : Int) - 1) q = true := by simp [srvQ]
theorem met_dst {L : List (List Int)} (h : metQ L = true) {x y : Nat} (hx : x < L.length) (hy : y < L.length) : 0 ≤ dst L x y ∧ dst L x y ≤ 99 ∧ dst L x y = dst L y x := by
  have h1 := (tab_iff.1 (met_sqr h).1).2 x hx y hy
  unfold okD at h1
  by_cases e : x = y
  · subst e
    simp at h1
    omega
  · rw [if_neg e] at h1
    simp at h1
    omega
theorem met_self {L : List (List Int)} (h : metQ L = true) {x : Nat} (hx : x < L.length) : dst L x x = 0 := by
  have h1 := (tab_iff.1 (met_sqr h).1).2 x hx x hx
  simpa [okD] using h1
theorem within_nat {n : Nat} {l : List Int} (h : within 0 ((n : Int) - 1) l = true) {i : Nat} (hi : i < l.length) : ∃ x : Nat, l[i]? = some (x : Int) ∧ x < n := by
  obtain ⟨z, h1, h2, h3⟩ := within_at h hi
  obtain ⟨x, rfl⟩ := Int.eq_ofNat_of_zero_le h2
  exact ⟨x, h1, by omega⟩
end Q
set_option maxHeartbeats 800000 in
theorem l6Start_any (A : Option Addr) (c : Nat) (xs : List Value) (L : List (List Int)) (a q : List Int) (Ba Bq : Option Addr) (da dq : Nat) (hla : a.length ≤ 1048576) (hlq : q.length ≤ 1048576) (w : World) (hr : NRow w A xs L) (ha : Law.Row w Ba (ivs a)) (hq : Law.Row w Bq (ivs q)) :
    Calls Try.prog 69 #[mv A L.length c, .slice Ba a.length da, .slice Bq q.length dq] w fun e w' => e = .returned (.bool (Q.srvQ L a q)) ∧ Below w.heap.size w w' := by
  have HM := Lib.hid (MetIn.start (c := c) hr 29)
  have HG := Lib.hid (l6Good_any A c xs L _ HM.out.rows)
  have HN : Hid (Q.srvQ L a q = (Q.metQ L && (Q.servers ((L.length : Int) - 1) a && (decide (q.length ≤ 60) && Q.within 0 ((L.length : Int) - 1) q)))) := rfl
  cases hg : Q.metQ L
  · rw [hg] at HG HN
    clear hr ha hq hg
    generalize Q.srvQ L a q = V at HN ⊢
    go_enter Try.func69, Try.ntmps69
    go_wp2_with fail
    generalize w.alloc (.cells #[.slice A L.length c] 29) = wa at HM HG ⊢
    go_at_call 57
    refine HG.out.mono ?_
    rintro e w1 ⟨rfl, hb⟩
    have HB := Lib.hid (HM.out.on hb).bl
    clear hb
    go_wp2
    go_ret
    exact ⟨by rw [HN.out]; rfl, HB.out⟩
  · obtain ⟨_, ⟨h1, h6⟩, _⟩ := Q.met_sqr hg
    have HC := Lib.hid fun (W : World) (h : Below w.heap.size w W) => l6Config_any L.length Ba da a W h1 h6 hla (ha.stays h)
    have HL := Lib.hid fun (W : World) (h : Below w.heap.size w W) => l6List_any L.length Bq dq q W (by omega) (by omega) hlq (hq.stays h)
    rw [hg] at HG HN
    clear hr ha hq hg
    generalize Q.srvQ L a q = V at HN ⊢
    generalize Q.servers ((L.length : Int) - 1) a = s at HC HN
    generalize Q.within 0 ((L.length : Int) - 1) q = t at HL HN
    cases s
    · clear HL
      go_enter Try.func69, Try.ntmps69
      go_wp2_with fail
      generalize w.alloc (.cells #[.slice A L.length c] 29) = wa at HM HG ⊢
      go_at_call 57
      refine HG.out.mono ?_
      rintro e w1 ⟨rfl, hb⟩
      have HM1 := Lib.hid (HM.out.on hb)
      clear hb
      obtain ⟨hk0, hk1, hk2⟩ := HM1.out.bk
      go_wp2_with fail
      go_at_call 58
      refine (HC.out w1 HM1.out.bl).mono ?_
      rintro e w2 ⟨rfl, hb⟩
      have HB := Lib.hid (Law.then_ HM1.out.bl hb)
      clear hb
      go_wp2
      go_ret
      exact ⟨by rw [HN.out]; rfl, HB.out⟩
    · by_cases h60 : q.length ≤ 60
      · have h60I : (q.length : Int) ≤ 60 := by omega
        rw [decide_eq_true h60] at HN
        clear h60
        go_enter Try.func69, Try.ntmps69
        go_wp2_with fail
        generalize w.alloc (.cells #[.slice A L.length c] 29) = wa at HM HG ⊢
        go_at_call 57
        refine HG.out.mono ?_
        rintro e w1 ⟨rfl, hb⟩
        have HM1 := Lib.hid (HM.out.on hb)
        clear hb
        obtain ⟨hk0, hk1, hk2⟩ := HM1.out.bk
        go_wp2_with fail
        go_at_call 58
        refine (HC.out w1 HM1.out.bl).mono ?_
        rintro e w2 ⟨rfl, hb⟩
        have HM2 := Lib.hid (HM1.out.on hb)
        clear hb hk0 hk1 hk2
        obtain ⟨hk0, hk1, hk2⟩ := HM2.out.bk
        go_wp2_with fail
        go_at_call 108
        refine (HL.out w2 HM2.out.bl).mono ?_
        rintro e w3 ⟨rfl, e3⟩
        subst e3
        go_wp2
        go_ret
        exact ⟨by rw [HN.out]; cases t <;> rfl, HM2.out.bl⟩
      · have h60I : ¬ (q.length : Int) ≤ 60 := by omega
        rw [decide_eq_false h60] at HN
        clear h60 HL
        go_enter Try.func69, Try.ntmps69
        go_wp2_with fail
        generalize w.alloc (.cells #[.slice A L.length c] 29) = wa at HM HG ⊢
        go_at_call 57
        refine HG.out.mono ?_
        rintro e w1 ⟨rfl, hb⟩
        have HM1 := Lib.hid (HM.out.on hb)
        clear hb
        obtain ⟨hk0, hk1, hk2⟩ := HM1.out.bk
        go_wp2_with fail
        go_at_call 58
        refine (HC.out w1 HM1.out.bl).mono ?_
        rintro e w2 ⟨rfl, hb⟩
        have HB := Lib.hid (Law.then_ HM1.out.bl hb)
        clear hb
        go_wp2
        go_ret
        exact ⟨by rw [HN.out]; rfl, HB.out⟩
theorem isLen_any (n : Nat) (w : World) : Calls Try.prog 120 #[.int .i64 n] w fun e w' => e = .returned (.bool (decide (n ≤ 60))) ∧ w' = w := by
  by_cases h : n ≤ 60
  · have hI : (n : Int) ≤ 60 := by omega
    go_enter Try.func120, Try.ntmps120
    go_wp2
    go_ret
    exact ⟨by simp [h], rfl⟩
  · have hI : ¬ (n : Int) ≤ 60 := by omega
    go_enter Try.func120, Try.ntmps120
    go_wp2
    go_ret
    exact ⟨by simp, rfl⟩
set_option maxHeartbeats 800000 in
theorem isServing_any (A : Option Addr) (c : Nat) (xs : List Value) (L : List (List Int)) (a q : List Int) (Ba Bq : Option Addr) (da dq : Nat) (hll : ∀ l ∈ L, l.length ≤ 1048576) (hla : a.length ≤ 1048576) (hlq : q.length ≤ 1048576) (w : World) (hr : NRow w A xs L) (ha : Law.Row w Ba (ivs a)) (hq : Law.Row w Bq (ivs q)) :
    Calls Try.prog 90 #[mv A L.length c, .slice Ba a.length da, .slice Bq q.length dq] w fun e w' => e = .returned (.bool (Q.srvQ L a q)) ∧ Below w.heap.size w w' := by
  have HM := Lib.hid (MetIn.start (c := c) hr 29)
  have HG := Lib.hid (impMet_any A c xs L _ hll HM.out.rows)
  have HN : Hid (Q.srvQ L a q = (Q.metQ L && (Q.servers ((L.length : Int) - 1) a && (decide (q.length ≤ 60) && Q.within 0 ((L.length : Int) - 1) q)))) := rfl
  cases hg : Q.metQ L
  · rw [hg] at HG HN
    clear hr ha hq hg
    generalize Q.srvQ L a q = V at HN ⊢
    go_enter Try.func90, Try.ntmps90
    go_wp2_with fail
    generalize w.alloc (.cells #[.slice A L.length c] 29) = wa at HM HG ⊢
    go_at_call 103
    refine HG.out.mono ?_
    rintro e w1 ⟨rfl, hb⟩
    have HB := Lib.hid (HM.out.on hb).bl
    clear hb
    go_wp2
    go_ret
    exact ⟨by rw [HN.out]; rfl, HB.out⟩
  · obtain ⟨_, ⟨h1, h6⟩, _⟩ := Q.met_sqr hg
    have HC := Lib.hid fun (W : World) (h : Below w.heap.size w W) => isConfig_any A L.length c Ba da a W h1 h6 hla (ha.stays h)
    have HL := Lib.hid fun (W : World) (h : Below w.heap.size w W) => isWithin_any Bq dq q 0 ((L.length : Int) - 1) W hlq (hq.stays h)
    have HI := Lib.hid fun (W : World) => isLen_any q.length W
    have hw : IntKind.i64.wrap ((L.length : Int) - 1) = (L.length : Int) - 1 := IntWalk.i64_in _ (by omega)
    rw [hg] at HG HN
    clear hr ha hq hg
    generalize Q.srvQ L a q = V at HN ⊢
    generalize Q.servers ((L.length : Int) - 1) a = s at HC HN
    generalize Q.within 0 ((L.length : Int) - 1) q = t at HL HN
    generalize decide (q.length ≤ 60) = u at HI HN
    cases s
    · clear HL
      go_enter Try.func90, Try.ntmps90
      go_wp2_with fail
      generalize w.alloc (.cells #[.slice A L.length c] 29) = wa at HM HG ⊢
      go_at_call 103
      refine HG.out.mono ?_
      rintro e w1 ⟨rfl, hb⟩
      have HM1 := Lib.hid (HM.out.on hb)
      clear hb
      obtain ⟨hk0, hk1, hk2⟩ := HM1.out.bk
      go_wp2_with fail
      go_at_call 118
      refine (HC.out w1 HM1.out.bl).mono ?_
      rintro e w2 ⟨rfl, hb⟩
      have HB := Lib.hid (Law.then_ HM1.out.bl hb)
      clear hb
      go_wp2
      go_ret
      exact ⟨by rw [HN.out]; rfl, HB.out⟩
    · cases u
      · clear HL
        go_enter Try.func90, Try.ntmps90
        go_wp2_with fail
        generalize w.alloc (.cells #[.slice A L.length c] 29) = wa at HM HG ⊢
        go_at_call 103
        refine HG.out.mono ?_
        rintro e w1 ⟨rfl, hb⟩
        have HM1 := Lib.hid (HM.out.on hb)
        clear hb
        obtain ⟨hk0, hk1, hk2⟩ := HM1.out.bk
        go_wp2_with fail
        go_at_call 118
        refine (HC.out w1 HM1.out.bl).mono ?_
        rintro e w2 ⟨rfl, hb⟩
        have HB := Lib.hid (Law.then_ HM1.out.bl hb)
        clear hb
        go_wp2_with fail
        go_at_call 120
        refine (HI.out _).mono ?_
        rintro e w' ⟨rfl, hw'⟩
        obtain rfl := hw'.symm
        clear hw'
        go_wp2
        go_ret
        exact ⟨by rw [HN.out]; rfl, HB.out⟩
      · go_enter Try.func90, Try.ntmps90
        go_wp2_with fail
        generalize w.alloc (.cells #[.slice A L.length c] 29) = wa at HM HG ⊢
        go_at_call 103
        refine HG.out.mono ?_
        rintro e w1 ⟨rfl, hb⟩
        have HM1 := Lib.hid (HM.out.on hb)
        clear hb
        obtain ⟨hk0, hk1, hk2⟩ := HM1.out.bk
        go_wp2_with fail
        go_at_call 118
        refine (HC.out w1 HM1.out.bl).mono ?_
        rintro e w2 ⟨rfl, hb⟩
        have HM2 := Lib.hid (HM1.out.on hb)
        clear hb hk0 hk1 hk2
        obtain ⟨hk0, hk1, hk2⟩ := HM2.out.bk
        go_wp2_with fail
        go_at_call 120
        refine (HI.out _).mono ?_
        rintro e w' ⟨rfl, hw'⟩
        obtain rfl := hw'.symm
        clear hw'
        go_wp2_with fail
        go_at_call 81
        refine (HL.out _ HM2.out.bl).mono ?_
        rintro e w' ⟨rfl, hw'⟩
        obtain rfl := hw'.symm
        clear hw'
        go_wp2
        go_ret
        exact ⟨by rw [HN.out]; cases t <;> rfl, HM2.out.bl⟩
end Go.Proofs.Ytphfjhnmnehfkaa
