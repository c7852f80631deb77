/-
  NextWork: the model's lists, both sides whole.
-/
import Derived.Test.YthpoeeadhjnljaaNw8
namespace Go.Proofs.Ythpoeeadhjnljaa
open Go.RowKit
set_option linter.unusedVariables false
section
variable (A : Option Addr) (c : Nat) (xs : List Value) (L : List (List Int)) (B : Option Addr) (d : Nat) (ys : List Value) (S : List (List Int)) (w : World) (v : List Int) (V : Option Addr) (f : Nat)
set_option maxRecDepth 100000 in
set_option maxHeartbeats 1600000 in
theorem l8Near_any (hpr : Q.Pr L S) (hlv : v.length ≤ 1048576) (hL : NRow w A xs L) (hS : NRow w B ys S) (hV : Law.Row w V (ivs v)) :
    Calls Try.prog 74 #[pv A L.length c B S.length d, .slice V v.length f] w fun e w' => e = .returned (.bool (Q.nearQ L v)) ∧ Below w.heap.size w w' := by
  obtain ⟨bA, oA, rfl⟩ := hL.some_ hpr.n1
  have HP := Lib.hid (PIn.start (c := c) (d := d) hL hS 29)
  obtain ⟨p0, p1, _, _, _⟩ := HP.out.bk
  have HV := Lib.hid fun (W : World) (h : Below w.heap.size w W) => hV.stays h
  by_cases h1 : v.length = L.length
  · have h1b : ((v.length : Int) != (L.length : Int)) = false := by simp [h1]
    have HTL := Lib.hid fun (W : World) (h : NRow W (some ⟨bA, oA, none⟩) xs L) => h.tab hpr.sq hpr.n1
    have HNo2 : Hid (∀ s z, v[s]? = some z → Q.okW 0 100000 z = false → Q.nearQ L v = false) := fun s z hz hb => Q.near_no2 (Q.within_not (List.mem_of_getElem? hz) hb)
    have HNo := Lib.hid fun (t s : Nat) ht hs h => Q.near_no3 (L := L) (v := v) (t := t) (s := s) ht hs h
    have HYes : Hid ((∀ s z, s < L.length → v[s]? = some z → Q.okW 0 100000 z = true) → (∀ t, t < L.length → ∀ s, s < L.length → Q.nearP L v t s = true) → Q.nearQ L v = true) := fun ha h => Q.near_yes h1 (List.all_eq_true.2 fun z hz => by
      obtain ⟨j, hj, rfl⟩ := List.mem_iff_getElem.1 hz
      exact ha j _ (by omega) (List.getElem?_eq_getElem hj)) h
    have HVz : Hid (∀ s, s < L.length → ∃ z, v[s]? = some z) := fun s hs => ⟨_, List.getElem?_eq_getElem (by omega)⟩
    have HPt := Lib.hid fun (t s : Nat) (x y : Int) hx hy => Q.nearP_at (L := L) (v := v) (t := t) (s := s) (x := x) (y := y) hx hy
    have HD := Lib.hid fun (x y : Nat) (hx : x < L.length) (hy : y < L.length) => hpr.dst hx hy
    have HO : Hid (∀ z, Q.okW 0 100000 z = (decide (0 ≤ z) && decide (z ≤ 100000))) := fun z => rfl
    have hn4 := hpr.n4
    rw [h1]
    generalize Q.nearQ L v = X at HNo2 HNo HYes ⊢
    generalize Q.nearP L v = PP at HNo HYes HPt
    clear hL hS hV h1 h1b hpr
    go_enter Try.func74, Try.ntmps74
    go_wp2
    generalize w.alloc (.cells #[.slice (some ⟨bA, oA, none⟩) L.length c, .slice B S.length d] 29) = wa at HP p0 p1 ⊢
    clear p0 p1
    go_loop [5] (fun i => ∃ s : Nat, s ≤ L.length ∧ i = .int .i64 (s : Int) ∧ Hid (∀ s' z, s' < s → v[s']? = some z → Q.okW 0 100000 z = true)) (fun i => L.length - (intOf i).toNat)
    case atStart => exact ⟨0, Nat.zero_le _, rfl, fun s' z h => by omega⟩
    case round =>
      obtain ⟨s, hs, rfl, hall⟩ := hrel
      by_cases hls : s < L.length
      · have hlsI : (s : Int) < (L.length : Int) := by omega
        obtain ⟨z, hz⟩ := HVz.out s hls
        obtain ⟨bV, oV, eV, hbV, hcV⟩ := (HV.out wa HP.out.bl).at_ (ivs_some hz)
        subst eV
        have HI := Lib.hid fun W => l1In_any z 0 100000 W
        have hO := HO.out z
        generalize (decide (0 ≤ z) && decide (z ≤ 100000)) = ok at HI hO
        cases ok
        · have HN := Lib.hid (HNo2.out s z hz hO)
          clear hz hO hall HNo HNo2 HYes
          go_wp2_with (go_at_call 75; refine (HI.out _).mono ?_; rintro e w' ⟨rfl, hw'⟩; subst hw')
          go_ret
          exact ⟨by rw [HN.out]; first | rfl | simp, HP.out.bl⟩
        · have HA : Hid (∀ s' z, s' < s + 1 → v[s']? = some z → Q.okW 0 100000 z = true) := fun s' z' hs' hz' => by
            by_cases e : s' = s
            · subst e
              rw [hz] at hz'
              cases hz'
              exact hO
            · exact hall.out s' z' (by omega) hz'
          clear hz hO hall
          go_wp2_with (go_at_call 75; refine (HI.out _).mono ?_; rintro e w' ⟨rfl, hw'⟩; subst hw')
          go_round
          case rel => exact ⟨s + 1, by omega, by go_num, HA.out⟩
          case measure => simp [intOf]; omega
      · have hse : s = L.length := by omega
        have hlsI : ¬ (s : Int) < (L.length : Int) := by omega
        have HAll : Hid (∀ s z, s < L.length → v[s]? = some z → Q.okW 0 100000 z = true) := fun s' z h1 h2 => hall.out s' z (by omega) h2
        clear hse hall
        go_wp2
        go_loopw [6] (fun i wr => ∃ t : Nat, t ≤ L.length ∧ i = .int .i64 (t : Int) ∧ Hid (∃ m, wr = wa.drewN m) ∧ Hid (∀ s', s' < t → ∀ t', t' < L.length → PP t' s' = true)) (fun i _ => L.length - (intOf i).toNat)
        case atStart => exact ⟨0, Nat.zero_le _, rfl, ⟨0, rfl⟩, fun t' h => by omega⟩
        case round =>
          obtain ⟨s, hs, rfl, hw, hall⟩ := hrel
          obtain ⟨wo, hwo⟩ : ∃ wo, wo = wr := ⟨_, rfl⟩
          rw [← hwo] at hw ⊢
          clear hwo
          have HPo : Hid (PIn w wo (some ⟨bA, oA, none⟩) c xs L B d ys S) := by
            obtain ⟨q, e⟩ := hw.out
            rw [e]
            exact HP.out.drewN q
          by_cases hls : s < L.length
          · have hlsI : (s : Int) < (L.length : Int) := by omega
            go_wp2
            go_loopw [7] (fun i wr => ∃ t : Nat, t ≤ L.length ∧ i = .int .i64 (t : Int) ∧ Hid (∃ m, wr = wo.drewN m) ∧ Hid (∀ t', t' < t → PP t' s = true)) (fun i _ => L.length - (intOf i).toNat)
            case atStart => exact ⟨0, Nat.zero_le _, rfl, ⟨0, rfl⟩, fun t' h => by omega⟩
            case round =>
              obtain ⟨t, ht, rfl, hw2, hall2⟩ := hrel
              have HPr : Hid (∀ m, PIn w (wr.drewN m) (some ⟨bA, oA, none⟩) c xs L B d ys S ∧ ∃ q, wr.drewN m = wo.drewN q) := fun m => by
                obtain ⟨q, e⟩ := hw2.out
                rw [e]
                exact ⟨(HPo.out.drewN q).drewN m, q + m, by simp⟩
              have hP0 := (HPr.out 0).1
              have e0 : wr.drewN 0 = wr := rfl
              rw [e0] at hP0
              have HP1 := Lib.hid hP0
              clear hP0 e0
              obtain ⟨p0, p1, _, _, _⟩ := HP1.out.bk
              by_cases hlt : t < L.length
              · have hltI : (t : Int) < (L.length : Int) := by omega
                obtain ⟨x, hx⟩ := HVz.out t hlt
                obtain ⟨y, hy⟩ := HVz.out s hls
                have hxo := HAll.out t x hlt hx
                have hyo := HAll.out s y hls hy
                simp only [Q.okW, Bool.and_eq_true, decide_eq_true_eq] at hxo hyo
                obtain ⟨bV, oV, eV, hbV, hcV⟩ := (HV.out wr HP1.out.bl).at_ (ivs_some hx)
                obtain ⟨bV2, oV2, eV2, _, hcV2⟩ := (HV.out wr HP1.out.bl).at_ (ivs_some hy)
                subst eV
                cases eV2
                obtain ⟨b1, o1, d1, hc1, hcs1⟩ := HTL.out wr HP1.out.mv t hlt
                have hv1 := hcs1 s hls
                clear hcs1
                have hDD := HD.out t s hlt hls
                have D0 := hDD.1
                have D9 := hDD.2.1
                clear hDD
                have hPt := HPt.out t s x y hx hy
                generalize Q.dst L t s = D at hv1 D0 D9 hPt
                have hw1 : IntKind.i64.wrap (x + D) = x + D := IntWalk.i64_in _ (by omega)
                clear hx hy hw2
                by_cases hbad : x + D < y
                · have HN := Lib.hid (HNo.out t s hlt hls (by rw [hPt]; simp; omega))
                  have HB := Lib.hid fun m => (HPr.out m).1.bl
                  clear hPt hall hall2 HNo HYes
                  go_wp2
                  go_quiet (fail)
                  go_wp2
                  go_ret
                  exact ⟨by rw [HN.out]; first | rfl | simp, HB.out _⟩
                · have HA : Hid (∀ t', t' < t + 1 → PP t' s = true) := fun t' ht' => by
                    by_cases e : t' = t
                    · subst e
                      rw [hPt]
                      simp
                      omega
                    · exact hall2.out t' (by omega)
                  clear hPt hall2
                  go_wp2
                  go_quiet (fail)
                  go_wp2
                  go_roundw
                  case rel => exact ⟨t + 1, by omega, by go_num, (HPr.out _).2, HA.out⟩
                  case measure => simp [intOf]; omega
              · have hte : t = L.length := by omega
                have hltI : ¬ (t : Int) < (L.length : Int) := by omega
                have HA : Hid (∀ s', s' < s + 1 → ∀ t', t' < L.length → PP t' s' = true) := fun s' hs' t' ht' => by
                  by_cases e : s' = s
                  · rw [e]; exact hall2.out t' (by omega)
                  · exact hall.out s' (by omega) t' ht'
                have HWm : Hid (∃ q, wr = wa.drewN q) := by
                  obtain ⟨q, e⟩ := hw2.out
                  obtain ⟨q2, e2⟩ := hw.out
                  exact ⟨q2 + q, by rw [e, e2]; simp⟩
                clear hte hall hall2 hw hw2
                go_wp2
                go_roundw
                case rel => exact ⟨s + 1, by omega, by go_num, HWm.out, HA.out⟩
                case measure => simp [intOf]; omega
          · have hse : s = L.length := by omega
            have hlsI : ¬ (s : Int) < (L.length : Int) := by omega
            have HN := Lib.hid (HYes.out HAll.out fun t ht s' hs => hall.out s' (by omega) t ht)
            have HB := Lib.hid HPo.out.bl
            clear hse hall hw
            go_wp2
            go_ret
            exact ⟨by rw [HN.out]; rfl, HB.out⟩
  · have h1b : ((v.length : Int) != (L.length : Int)) = true := by simp; omega
    have h1I : ¬ (v.length : Int) = (L.length : Int) := by omega
    have HN := Lib.hid (Q.near_no1 h1)
    clear hL hS hV h1
    generalize v.length = vn at h1b h1I ⊢
    go_enter Try.func74, Try.ntmps74
    go_wp2
    go_ret
    exact ⟨by rw [HN.out]; first | rfl | simp, HP.out.bl⟩
set_option maxHeartbeats 800000 in
theorem impNw_any (r : Int) (hlL : ∀ l ∈ L, l.length ≤ 1048576) (hlS : ∀ l ∈ S, l.length ≤ 1048576) (hlv : v.length ≤ 1048576) (hL : NRow w A xs L) (hS : NRow w B ys S) (hV : Law.Row w V (ivs v)) :
    Calls Try.prog 38 #[pv A L.length c B S.length d, .slice V v.length f, .int .i64 r] w (rowSays (Q.nwQ L S v r) w) := by
  have HP := Lib.hid (PIn.start (c := c) (d := d) hL hS 29)
  have HV := Lib.hid fun (W : World) (h : Below w.heap.size w W) => hV.stays h
  have HG := Lib.hid fun (W : World) (h1 : NRow W A xs L) (h2 : NRow W B ys S) => impPr_any A c xs L B d ys S W hlL hlS h1 h2
  have HK := Lib.hid fun (W : World) (h1 : NRow W A xs L) (h2 : NRow W B ys S) => isKind_any A c xs L B d ys S W r h1 h2
  cases hp : Q.prQ L S
  · rw [Q.nw_no (by rw [hp]; rfl)]
    rw [hp] at HG
    clear hL hS hV hp
    go_enter Try.func38, Try.ntmps38
    go_wp2_with fail
    generalize w.alloc (.cells #[.slice A L.length c, .slice B S.length d] 29) = wa at HP ⊢
    obtain ⟨p0, p1, _, _, _⟩ := HP.out.bk
    go_wp2_with fail
    go_at_call 62
    refine (HG.out _ HP.out.mv HP.out.sv).mono ?_
    rintro e w1 ⟨rfl, hb⟩
    have HP1 := Lib.hid (HP.out.on hb)
    clear p0 p1 hb
    obtain ⟨p0, p1, _, _, _⟩ := HP1.out.bk
    go_wp2
    go_ret2
    exact ⟨_, rfl, own_down (ownsRow_nil _ _) HP1.out.bl.size, HP1.out.bl.alloc HP1.out.bl.size _⟩
  · have hpr := Q.pr_iff.1 hp
    have HNr := Lib.hid fun (W : World) (h : Below w.heap.size w W) (h1 : NRow W A xs L) (h2 : NRow W B ys S) => isNumbers_any A c xs L B d ys S W v V f hpr hlv h1 h2 (hV.stays h)
    rw [hp] at HG
    have hm1 := hpr.m1
    have hm4 := hpr.m4
    cases hk : (decide (0 ≤ r) && decide (r < (S.length : Int)))
    · rw [Q.nw_no (by rw [hk]; simp)]
      rw [hk] at HK
      clear hL hS hV hp hpr hk HNr
      go_enter Try.func38, Try.ntmps38
      go_wp2_with fail
      generalize w.alloc (.cells #[.slice A L.length c, .slice B S.length d] 29) = wa at HP ⊢
      obtain ⟨p0, p1, _, _, _⟩ := HP.out.bk
      go_wp2_with fail
      go_at_call 62
      refine (HG.out _ HP.out.mv HP.out.sv).mono ?_
      rintro e w1 ⟨rfl, hb⟩
      have HP1 := Lib.hid (HP.out.on hb)
      clear p0 p1 hb
      obtain ⟨p0, p1, _, _, _⟩ := HP1.out.bk
      go_wp2_with fail
      go_at_call 77
      refine (HK.out _ HP1.out.mv HP1.out.sv).mono ?_
      rintro e w2 ⟨rfl, hb⟩
      have HP2 := Lib.hid (HP1.out.on hb)
      clear p0 p1 hb
      obtain ⟨p0, p1, _, _, _⟩ := HP2.out.bk
      go_wp2
      go_ret2
      exact ⟨_, rfl, own_down (ownsRow_nil _ _) HP2.out.bl.size, HP2.out.bl.alloc HP2.out.bl.size _⟩
    · rw [hk] at HK
      cases hn : Q.nearQ L v
      · rw [Q.nw_no (by rw [hn]; simp)]
        rw [hn] at HNr
        clear hL hS hV hp hpr hk hn
        go_enter Try.func38, Try.ntmps38
        go_wp2_with fail
        generalize w.alloc (.cells #[.slice A L.length c, .slice B S.length d] 29) = wa at HP ⊢
        obtain ⟨p0, p1, _, _, _⟩ := HP.out.bk
        go_wp2_with fail
        go_at_call 62
        refine (HG.out _ HP.out.mv HP.out.sv).mono ?_
        rintro e w1 ⟨rfl, hb⟩
        have HP1 := Lib.hid (HP.out.on hb)
        clear p0 p1 hb
        obtain ⟨p0, p1, _, _, _⟩ := HP1.out.bk
        go_wp2_with fail
        go_at_call 77
        refine (HK.out _ HP1.out.mv HP1.out.sv).mono ?_
        rintro e w2 ⟨rfl, hb⟩
        have HP2 := Lib.hid (HP1.out.on hb)
        clear p0 p1 hb
        obtain ⟨p0, p1, _, _, _⟩ := HP2.out.bk
        go_wp2_with fail
        go_at_call 78
        refine (HNr.out _ HP2.out.bl HP2.out.mv HP2.out.sv).mono ?_
        rintro e w3 ⟨rfl, hb⟩
        have HP3 := Lib.hid (HP2.out.on hb)
        clear p0 p1 hb
        obtain ⟨p0, p1, _, _, _⟩ := HP3.out.bk
        go_wp2
        go_ret2
        exact ⟨_, rfl, own_down (ownsRow_nil _ _) HP3.out.bl.size, HP3.out.bl.alloc HP3.out.bl.size _⟩
      · rw [Q.nw_yes (by rw [hp, hk, hn]; rfl)]
        simp only [Bool.and_eq_true, decide_eq_true_eq] at hk
        obtain ⟨r0, rfl⟩ := Int.eq_ofNat_of_zero_le hk.1
        have hr0 : r0 < S.length := by omega
        rw [Int.toNat_natCast]
        rw [hn] at HNr
        obtain ⟨hvl, _⟩ := Q.near_parts hn
        have hvv := Q.near_vals hn
        have HW := Lib.hid fun (W : World) (h : Below w.heap.size w W) (h1 : NRow W A xs L) (h2 : NRow W B ys S) => workAfter_any A c xs L B d ys S W v V f hpr (by decide) r0 hr0 hvl hvv h1 h2 (hV.stays h)
        generalize Q.nextQ L S v r0 = K at HW ⊢
        clear hL hS hV hp hpr hn hvl hvv hk
        go_enter Try.func38, Try.ntmps38
        go_wp2_with fail
        generalize w.alloc (.cells #[.slice A L.length c, .slice B S.length d] 29) = wa at HP ⊢
        obtain ⟨p0, p1, _, _, _⟩ := HP.out.bk
        go_wp2_with fail
        go_at_call 62
        refine (HG.out _ HP.out.mv HP.out.sv).mono ?_
        rintro e w1 ⟨rfl, hb⟩
        have HP1 := Lib.hid (HP.out.on hb)
        clear p0 p1 hb
        obtain ⟨p0, p1, _, _, _⟩ := HP1.out.bk
        go_wp2_with fail
        go_at_call 77
        refine (HK.out _ HP1.out.mv HP1.out.sv).mono ?_
        rintro e w2 ⟨rfl, hb⟩
        have HP2 := Lib.hid (HP1.out.on hb)
        clear p0 p1 hb
        obtain ⟨p0, p1, _, _, _⟩ := HP2.out.bk
        go_wp2_with fail
        go_at_call 78
        refine (HNr.out _ HP2.out.bl HP2.out.mv HP2.out.sv).mono ?_
        rintro e w3 ⟨rfl, hb⟩
        have HP3 := Lib.hid (HP2.out.on hb)
        clear p0 p1 hb
        obtain ⟨p0, p1, _, _, _⟩ := HP3.out.bk
        go_wp2_with fail
        go_at_call 79
        refine (HW.out _ HP3.out.bl HP3.out.mv HP3.out.sv).mono ?_
        rintro e w9 ⟨v9, rfl, ho, hb⟩
        have HB := Lib.hid (Law.then_ HP3.out.bl hb)
        have HO := Lib.hid (own_down ho HP3.out.bl.size)
        clear ho hb p0 p1
        go_wp2
        go_ret2
        exact ⟨_, rfl, HO.out, HB.out⟩
set_option maxHeartbeats 800000 in
theorem specNw_any (r : Int) (hlL : ∀ l ∈ L, l.length ≤ 1048576) (hlS : ∀ l ∈ S, l.length ≤ 1048576) (hlv : v.length ≤ 1048576) (hL : NRow w A xs L) (hS : NRow w B ys S) (hV : Law.Row w V (ivs v)) :
    Calls Try.prog 37 #[pv A L.length c B S.length d, .slice V v.length f, .int .i64 r] w (rowSays (Q.nwQ L S v r) w) := by
  have HP := Lib.hid (PIn.start (c := c) (d := d) hL hS 29)
  have HV := Lib.hid fun (W : World) (h : Below w.heap.size w W) => hV.stays h
  have HG := Lib.hid fun (W : World) (h1 : NRow W A xs L) (h2 : NRow W B ys S) => l8Good_any A c xs L B d ys S W hlS h1 h2
  have HK := Lib.hid fun W => l1In_any r 0 ((S.length : Int) - 1) W
  rw [show (decide (0 ≤ r) && decide (r ≤ (S.length : Int) - 1)) = (decide (0 ≤ r) && decide (r < (S.length : Int))) by congr 1; rw [Bool.eq_iff_iff]; simp; omega] at HK
  cases hp : Q.prQ L S
  · rw [Q.nw_no (by rw [hp]; rfl)]
    rw [hp] at HG
    clear hL hS hV hp
    go_enter Try.func37, Try.ntmps37
    go_wp2_with fail
    generalize w.alloc (.cells #[.slice A L.length c, .slice B S.length d] 29) = wa at HP ⊢
    obtain ⟨p0, p1, _, _, _⟩ := HP.out.bk
    go_wp2_with fail
    go_at_call 60
    refine (HG.out _ HP.out.mv HP.out.sv).mono ?_
    rintro e w1 ⟨rfl, hb⟩
    have HP1 := Lib.hid (HP.out.on hb)
    clear p0 p1 hb
    obtain ⟨p0, p1, _, _, _⟩ := HP1.out.bk
    go_wp2
    go_ret2
    exact ⟨_, rfl, own_down (ownsRow_nil _ _) HP1.out.bl.size, HP1.out.bl.alloc HP1.out.bl.size _⟩
  · have hpr := Q.pr_iff.1 hp
    have HNr := Lib.hid fun (W : World) (h : Below w.heap.size w W) (h1 : NRow W A xs L) (h2 : NRow W B ys S) => l8Near_any A c xs L B d ys S W v V f hpr hlv h1 h2 (hV.stays h)
    rw [hp] at HG
    have hm1 := hpr.m1
    have hm4 := hpr.m4
    cases hn : Q.nearQ L v
    · rw [Q.nw_no (by rw [hn]; simp)]
      rw [hn] at HNr
      clear hL hS hV hp hpr hn
      go_enter Try.func37, Try.ntmps37
      go_wp2_with fail
      generalize w.alloc (.cells #[.slice A L.length c, .slice B S.length d] 29) = wa at HP ⊢
      obtain ⟨p0, p1, _, _, _⟩ := HP.out.bk
      go_wp2_with fail
      go_at_call 60
      refine (HG.out _ HP.out.mv HP.out.sv).mono ?_
      rintro e w1 ⟨rfl, hb⟩
      have HP1 := Lib.hid (HP.out.on hb)
      clear p0 p1 hb
      obtain ⟨p0, p1, _, _, _⟩ := HP1.out.bk
      go_wp2_with fail
      go_at_call 74
      refine (HNr.out _ HP1.out.bl HP1.out.mv HP1.out.sv).mono ?_
      rintro e w2 ⟨rfl, hb⟩
      have HP2 := Lib.hid (HP1.out.on hb)
      clear p0 p1 hb
      obtain ⟨p0, p1, _, _, _⟩ := HP2.out.bk
      go_wp2
      go_ret2
      exact ⟨_, rfl, own_down (ownsRow_nil _ _) HP2.out.bl.size, HP2.out.bl.alloc HP2.out.bl.size _⟩
    · cases hk : (decide (0 ≤ r) && decide (r < (S.length : Int)))
      · rw [Q.nw_no (by rw [hk]; simp)]
        rw [hn] at HNr
        rw [hk] at HK
        clear hL hS hV hp hpr hk hn
        go_enter Try.func37, Try.ntmps37
        go_wp2_with fail
        generalize w.alloc (.cells #[.slice A L.length c, .slice B S.length d] 29) = wa at HP ⊢
        obtain ⟨p0, p1, _, _, _⟩ := HP.out.bk
        go_wp2_with fail
        go_at_call 60
        refine (HG.out _ HP.out.mv HP.out.sv).mono ?_
        rintro e w1 ⟨rfl, hb⟩
        have HP1 := Lib.hid (HP.out.on hb)
        clear p0 p1 hb
        obtain ⟨p0, p1, _, _, _⟩ := HP1.out.bk
        go_wp2_with fail
        go_at_call 74
        refine (HNr.out _ HP1.out.bl HP1.out.mv HP1.out.sv).mono ?_
        rintro e w2 ⟨rfl, hb⟩
        have HP2 := Lib.hid (HP1.out.on hb)
        clear p0 p1 hb
        obtain ⟨p0, p1, _, _, _⟩ := HP2.out.bk
        go_wp2_with fail
        go_at_call 75
        refine (HK.out _).mono ?_
        rintro e w' ⟨rfl, hw'⟩
        obtain rfl := hw'.symm
        clear hw'
        go_wp2
        go_ret2
        exact ⟨_, rfl, own_down (ownsRow_nil _ _) HP2.out.bl.size, HP2.out.bl.alloc HP2.out.bl.size _⟩
      · rw [Q.nw_yes (by rw [hp, hk, hn]; rfl)]
        have hk2 := hk
        simp only [Bool.and_eq_true, decide_eq_true_eq] at hk2
        obtain ⟨r0, rfl⟩ := Int.eq_ofNat_of_zero_le hk2.1
        have hr0 : r0 < S.length := by omega
        rw [Int.toNat_natCast]
        rw [hn] at HNr
        rw [hk] at HK
        obtain ⟨hvl, _⟩ := Q.near_parts hn
        have hvv := Q.near_vals hn
        have HW := Lib.hid fun (W : World) (h : Below w.heap.size w W) (h1 : NRow W A xs L) (h2 : NRow W B ys S) => l8Next_any A c xs L B d ys S W v V f hpr (by decide) r0 hr0 hvl hvv h1 h2 (hV.stays h)
        generalize Q.nextQ L S v r0 = K at HW ⊢
        clear hL hS hV hp hpr hn hvl hvv hk hk2
        go_enter Try.func37, Try.ntmps37
        go_wp2_with fail
        generalize w.alloc (.cells #[.slice A L.length c, .slice B S.length d] 29) = wa at HP ⊢
        obtain ⟨p0, p1, _, _, _⟩ := HP.out.bk
        go_wp2_with fail
        go_at_call 60
        refine (HG.out _ HP.out.mv HP.out.sv).mono ?_
        rintro e w1 ⟨rfl, hb⟩
        have HP1 := Lib.hid (HP.out.on hb)
        clear p0 p1 hb
        obtain ⟨p0, p1, _, _, _⟩ := HP1.out.bk
        go_wp2_with fail
        go_at_call 74
        refine (HNr.out _ HP1.out.bl HP1.out.mv HP1.out.sv).mono ?_
        rintro e w2 ⟨rfl, hb⟩
        have HP2 := Lib.hid (HP1.out.on hb)
        clear p0 p1 hb
        obtain ⟨p0, p1, _, _, _⟩ := HP2.out.bk
        go_wp2_with fail
        go_at_call 75
        refine (HK.out _).mono ?_
        rintro e w' ⟨rfl, hw'⟩
        obtain rfl := hw'.symm
        clear hw'
        go_wp2_with fail
        go_at_call 76
        refine (HW.out _ HP2.out.bl HP2.out.mv HP2.out.sv).mono ?_
        rintro e w9 ⟨v9, rfl, ho, hb⟩
        have HB := Lib.hid (Law.then_ HP2.out.bl hb)
        have HO := Lib.hid (own_down ho HP2.out.bl.size)
        clear ho hb p0 p1
        go_wp2
        go_ret2
        exact ⟨_, rfl, HO.out, HB.out⟩
end
end Go.Proofs.Ythpoeeadhjnljaa
