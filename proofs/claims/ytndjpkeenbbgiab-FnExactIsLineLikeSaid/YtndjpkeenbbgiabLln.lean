/-
  IsLineLike, the mathematics; the library's Max and Index of a row.
-/
import Derived.Test.YtndjpkeenbbgiabIcf
import Derived.BigQuiet
namespace Go.Proofs.Ytndjpkeenbbgiab
open Go.RowKit
set_option linter.unusedVariables false
namespace Q
def lineAt (L : List (List Int)) (e : Nat) : Prop := ∀ x, x < L.length → ∀ y, y < L.length → dst L x y = ap (dst L e x) (dst L e y)
def far (L : List (List Int)) (e : Nat) : Prop := ∃ s, s < L.length ∧ ∀ v, v < L.length → dst L s v ≤ dst L s e
theorem ap_cases (a b : Int) : (a ≤ b ∧ ap a b = b - a) ∨ (b < a ∧ ap a b = a - b) := by
  unfold ap
  by_cases h : a ≤ b
  · exact .inl ⟨h, if_pos h⟩
  · exact .inr ⟨by omega, if_neg h⟩
theorem line_calc (X Y E S : Int) (hx : ap S X ≤ ap S E) (hy : ap S Y ≤ ap S E) : ap X Y = ap (ap E X) (ap E Y) := by
  rcases ap_cases S X with ⟨_, e1⟩ | ⟨_, e1⟩ <;> rcases ap_cases S Y with ⟨_, e2⟩ | ⟨_, e2⟩ <;> rcases ap_cases S E with ⟨_, e3⟩ | ⟨_, e3⟩ <;> rcases ap_cases E X with ⟨_, e4⟩ | ⟨_, e4⟩ <;> rcases ap_cases E Y with ⟨_, e5⟩ | ⟨_, e5⟩ <;> rw [e1] at hx <;> rw [e2] at hy <;> rw [e3] at hx hy <;> rw [e4, e5] <;> unfold ap <;> split <;> split <;> omega
theorem line_far {L : List (List Int)} {a e : Nat} (h : lineAt L a) (he : e < L.length) (hf : far L e) : lineAt L e := by
  obtain ⟨s, hs, hv⟩ := hf
  intro x hx y hy
  have h1 := hv x hx
  have h2 := hv y hy
  rw [h s hs x hx, h s hs e he] at h1
  rw [h s hs y hy, h s hs e he] at h2
  rw [h x hx y hy, h e he x hx, h e he y hy]
  exact line_calc _ _ _ _ h1 h2
open Classical in
noncomputable def linQ (L : List (List Int)) : Bool × Bool := if metQ L then (decide (∃ e, e < L.length ∧ lineAt L e), true) else (false, false)
theorem lin_no {L : List (List Int)} (h : metQ L = false) : linQ L = (false, false) := if_neg (by simp [h])
open Classical in
/-- What a far point tells. -/
theorem lin_far {L : List (List Int)} (h : metQ L = true) {e : Nat} (he : e < L.length) (hf : far L e) : (lineAt L e → linQ L = (true, true)) ∧ (¬ lineAt L e → linQ L = (false, true)) := by
  constructor
  · intro hl
    rw [linQ, if_pos h, decide_eq_true ⟨e, he, hl⟩]
  · intro hl
    rw [linQ, if_pos h, decide_eq_false]
    rintro ⟨a, _, ha⟩
    exact hl (line_far ha he hf)
theorem fold_le : ∀ (l : List Int) (a : Int), a ≤ l.foldl max a ∧ ∀ z ∈ l, z ≤ l.foldl max a
  | [], a => ⟨Int.le_refl _, fun z h => by simp at h⟩
  | y :: l, a => by
    obtain ⟨h1, h2⟩ := fold_le l (max a y)
    refine ⟨?_, fun z hz => ?_⟩
    · show a ≤ l.foldl max (max a y)
      omega
    · show z ≤ l.foldl max (max a y)
      rcases List.mem_cons.1 hz with e | hz
      · omega
      · exact h2 z hz
theorem fold_mem : ∀ (l : List Int) (a : Int), l.foldl max a = a ∨ l.foldl max a ∈ l
  | [], a => .inl rfl
  | y :: l, a => by
    show l.foldl max (max a y) = a ∨ l.foldl max (max a y) ∈ y :: l
    rcases fold_mem l (max a y) with h | h
    · rw [h]
      by_cases e : a ≤ y
      · exact .inr (by rw [show max a y = y by omega]; exact List.mem_cons_self ..)
      · exact .inl (by omega)
    · exact .inr (List.mem_cons_of_mem _ h)
theorem max_mem {l : List Int} (h : l ≠ []) : Lib.maxOf l ∈ l ∧ ∀ z ∈ l, z ≤ Lib.maxOf l := by
  cases l with
  | nil => exact absurd rfl h
  | cons y l =>
    refine ⟨?_, fun z hz => ?_⟩
    · rcases fold_mem (y :: l) y with e | e
      · show (y :: l).foldl max y ∈ y :: l
        rw [e]
        exact List.mem_cons_self ..
      · exact e
    · exact (fold_le (y :: l) y).2 z hz
theorem idx_mem (x : Int) : ∀ (l : List Int) (k : Nat), x ∈ l → ∃ e, l[e]? = some x ∧ Lib.idxFrom l x k = ((k + e : Nat) : Int)
  | [], k, h => by simp at h
  | y :: ys, k, h => by
    by_cases e : y = x
    · exact ⟨0, by simp [e], by simp [Lib.idxFrom, e]⟩
    · rcases List.mem_cons.1 h with h | h
      · exact absurd h.symm e
      · obtain ⟨i, h1, h2⟩ := idx_mem x ys (k + 1) h
        refine ⟨i + 1, by simpa using h1, ?_⟩
        unfold Lib.idxFrom
        rw [if_neg e, h2]
        omega
end Q
theorem max_row {w : World} {A : Option Addr} {c : Nat} {zs : List Int} (hr : Law.Row w A (ivs zs)) (h1 : 1 ≤ zs.length) (hn : zs.length ≤ 1048576) :
    Calls Try.prog 64 #[.slice A zs.length c] w fun e w' => e = .returned (.int .i64 (Lib.maxOf zs)) ∧ w' = w := by
  obtain ⟨b, off, rfl, _, hc⟩ := hr (by intro e; have : zs.length = 0 := by have := congrArg List.length e; simpa [ivs] using this
                                        omega)
  have h := Try.slices_Max_int b off zs.length c zs w (by omega) (Nat.le_refl _) (by omega) (fun j hj => hc j _ (by rw [ivs, List.getElem?_map, List.getElem?_eq_getElem hj, List.getD_eq_getElem?_getD, List.getElem?_eq_getElem hj]; rfl))
  rw [List.take_length] at h
  exact h
theorem index_row {w : World} {A : Option Addr} {c : Nat} {zs : List Int} (hr : Law.Row w A (ivs zs)) (h1 : 1 ≤ zs.length) (hn : zs.length ≤ 1048576) (x : Int) :
    Calls Try.prog 63 #[.slice A zs.length c, .int .i64 x] w fun e w' => e = .returned (.int .i64 (Lib.idxOf zs x)) ∧ w' = w := by
  obtain ⟨b, off, rfl, _, hc⟩ := hr (by intro e; have : zs.length = 0 := by have := congrArg List.length e; simpa [ivs] using this
                                        omega)
  have h := Try.slices_Index_int b off zs.length c zs x w (Nat.le_refl _) (by omega) (fun j hj => hc j _ (by rw [ivs, List.getElem?_map, List.getElem?_eq_getElem hj, List.getD_eq_getElem?_getD, List.getElem?_eq_getElem hj]; rfl))
  rw [List.take_length] at h
  exact h
set_option maxHeartbeats 1600000 in
theorem specLin_any (A : Option Addr) (c : Nat) (xs : List Value) (L : List (List Int)) (w : World) (hr : NRow w A xs L) :
    Calls Try.prog 31 #[mv A L.length c] w fun e w' => e = .returned (.tuple #[.bool (Q.linQ L).1, .bool (Q.linQ L).2]) ∧ Below w.heap.size w w' := by
  have HM := Lib.hid (MetIn.start (c := c) hr 29)
  have HG := Lib.hid (l6Good_any A c xs L _ HM.out.rows)
  clear hr
  cases hg : Q.metQ L
  · rw [Q.lin_no hg]
    rw [hg] at HG
    clear hg
    go_enter Try.func31, Try.ntmps31
    go_wp2_with fail
    generalize w.alloc (.cells #[.slice A L.length c] 29) = wa at HM HG ⊢
    go_at_call 53
    refine HG.out.mono ?_
    rintro e w1 ⟨rfl, hb⟩
    have HB := Lib.hid (HM.out.on hb).bl
    clear hb
    go_wp2
    go_ret2
    exact ⟨rfl, HB.out⟩
  · rw [hg] at HG
    obtain ⟨htab, ⟨h1, h6⟩, hsq⟩ := Q.met_sqr hg
    have HS := Lib.hid hsq
    have HBd := Lib.hid (fun x y => Q.tab_bd htab (x := x) (y := y))
    have HLF := Lib.hid (fun e (he : e < L.length) (hf : Q.far L e) => Q.lin_far hg he hf)
    have HSy : Hid (∀ x y, x < L.length → y < L.length → Q.dst L x y = Q.dst L y x) := fun x y hx hy => by
      have := (Q.tab_iff.1 htab).2 x hx y hy
      simp only [Q.okD, Bool.and_eq_true, decide_eq_true_eq] at this
      exact this.1
    generalize Q.linQ L = V at HLF ⊢
    clear hg htab hsq
    go_enter Try.func31, Try.ntmps31
    go_wp2_with fail
    generalize w.alloc (.cells #[.slice A L.length c] 29) = wa at HM HG ⊢
    go_at_call 53
    refine HG.out.mono ?_
    rintro e w1 ⟨rfl, hb⟩
    have HM1 := Lib.hid (HM.out.on hb)
    clear hb HM HG
    obtain ⟨hk0, hk1, hk2⟩ := HM1.out.bk
    go_wp2
    go_loop [5, 6, 7] (fun e m i => ∃ (x E : Nat) (M : Int), x ≤ L.length ∧ E < L.length ∧ i = .int .i64 (x : Int) ∧ e = .int .i64 (E : Int) ∧ m = .int .i64 M ∧ Hid (∀ u v, u < x → v < L.length → Q.dst L u v ≤ M) ∧ Hid ((M = 0) ∨ ∃ y, y < L.length ∧ Q.dst L E y = M) ∧ Hid (0 ≤ M)) (fun _ _ i => L.length - (intOf i).toNat)
    case atStart => exact ⟨0, 0, 0, Nat.zero_le _, by omega, rfl, rfl, rfl, fun u v h => by omega, .inl rfl, Int.le_refl _⟩
    case round =>
      obtain ⟨x, E, M, hx, hE, rfl, rfl, rfl, hm1, hm2, hm3⟩ := hrel
      by_cases hltx : x < L.length
      · have hltxI : (x : Int) < (L.length : Int) := by omega
        go_wp2
        go_loop [5, 6, 8] (fun e m i => ∃ (y E : Nat) (M' : Int), y ≤ L.length ∧ E < L.length ∧ i = .int .i64 (y : Int) ∧ e = .int .i64 (E : Int) ∧ m = .int .i64 M' ∧ Hid (∀ u v, u < x → v < L.length → Q.dst L u v ≤ M') ∧ Hid (∀ v, v < y → Q.dst L x v ≤ M') ∧ Hid ((M' = 0) ∨ ∃ y, y < L.length ∧ Q.dst L E y = M') ∧ Hid (0 ≤ M')) (fun _ _ i => L.length - (intOf i).toNat)
        case atStart => exact ⟨0, E, M, Nat.zero_le _, hE, rfl, rfl, rfl, hm1, fun v h => by omega, hm2, hm3⟩
        case round =>
          obtain ⟨y, E', M', hy, hE', rfl, rfl, rfl, hn1, hn2, hn3, hn4⟩ := hrel
          by_cases hlty : y < L.length
          · have hltyI : (y : Int) < (L.length : Int) := by omega
            obtain ⟨b, off, bx, ox, dx, rfl, hbb, hcx, hbx, hcxy⟩ := HM1.out.rows.dst_at HS.out hltx hlty
            have hbd := HBd.out x y hltx hlty
            have HD : Hid (∀ D, D = Q.dst L x y → (M' < D → (∀ u v, u < x → v < L.length → Q.dst L u v ≤ D) ∧ (∀ v, v < y + 1 → Q.dst L x v ≤ D) ∧ ((D = 0) ∨ ∃ y, y < L.length ∧ Q.dst L x y = D)) ∧ (¬ M' < D → ∀ v, v < y + 1 → Q.dst L x v ≤ M')) := fun D hD => by
              refine ⟨fun h => ⟨fun u v h1 h2 => ?_, fun v hv => ?_, .inr ⟨y, hlty, hD.symm⟩⟩, fun h v hv => ?_⟩
              · have := hn1.out u v h1 h2
                omega
              · by_cases e : v = y
                · rw [e, hD]; exact Int.le_refl _
                · have := hn2.out v (by omega)
                  omega
              · by_cases e : v = y
                · rw [e, ← hD]; omega
                · exact hn2.out v (by omega)
            obtain ⟨D, hD⟩ : ∃ D, D = Q.dst L x y := ⟨_, rfl⟩
            obtain ⟨hd1, hd2⟩ := HD.out D hD
            rw [← hD] at hcxy hbd
            clear HD hD
            by_cases hlt2 : M' < D
            · obtain ⟨g1, g2, g3⟩ := hd1 hlt2
              have G1 := Lib.hid g1
              have G2 := Lib.hid g2
              have G3 := Lib.hid g3
              have G4 : Hid (0 ≤ D) := hbd.1
              clear hd1 hd2 g1 g2 g3 hn1 hn2 hn3 hn4
              go_wp2
              go_round
              case rel => exact ⟨y + 1, x, D, by omega, hltx, by go_num, rfl, rfl, G1.out, G2.out, G3.out, G4.out⟩
              case measure => simp [intOf]; omega
            · have G2 := Lib.hid (hd2 hlt2)
              clear hd1 hd2
              go_wp2
              go_round
              case rel => exact ⟨y + 1, E', M', by omega, hE', by go_num, rfl, rfl, hn1.out, G2.out, hn3.out, hn4.out⟩
              case measure => simp [intOf]; omega
          · have hye : y = L.length := by omega
            have hltyI : ¬ (y : Int) < (L.length : Int) := by omega
            have HN : Hid (∀ u v, u < x + 1 → v < L.length → Q.dst L u v ≤ M') := fun u v h1 h2 => by
              by_cases e : u = x
              · rw [e]; exact hn2.out v (by omega)
              · exact hn1.out u v (by omega) h2
            clear hye
            go_wp2
            go_round
            case rel => exact ⟨x + 1, E', M', by omega, hE', by go_num, rfl, rfl, HN.out, hn3.out, hn4.out⟩
            case measure => simp [intOf]; omega
      · have hxe : x = L.length := by omega
        have hltxI : ¬ (x : Int) < (L.length : Int) := by omega
        have hEI : (E : Int) < (L.length : Int) := by omega
        have HFar : Hid (Q.far L E) := by
          show Q.far L E
          rcases hm2.out with e | ⟨s, hs, e⟩
          · refine ⟨E, hE, fun v hv => ?_⟩
            have h1 := hm1.out E v (by omega) hv
            have h2 := HBd.out E E hE hE
            omega
          · refine ⟨s, hs, fun v hv => ?_⟩
            have h1 := hm1.out s v (by omega) hv
            rw [HSy.out s E hs hE, e]
            exact h1
        obtain ⟨hy, hn⟩ := HLF.out E hE HFar.out
        have HY := Lib.hid hy
        have HNo := Lib.hid hn
        clear hxe hm1 hm2 hm3 hy hn HLF HFar
        have HMs := HM1
        clear HM1
        go_wp2
        go_loopw [9] (fun i wr => ∃ x : Nat, x ≤ L.length ∧ i = .int .i64 (x : Int) ∧ Hid (∀ u, u < x → ∀ v, v < L.length → Q.dst L u v = Q.ap (Q.dst L E u) (Q.dst L E v)) ∧ Hid (MetIn w wr A c xs L)) (fun i _ => L.length - (intOf i).toNat)
        case atStart => exact ⟨0, Nat.zero_le _, rfl, fun u h => by omega, HMs.out⟩
        case round =>
          obtain ⟨x, hx, rfl, hall, hm1⟩ := hrel
          by_cases hltx : x < L.length
          · have hltxI : (x : Int) < (L.length : Int) := by omega
            obtain ⟨wo, hwo⟩ : ∃ wo, wo = wr := ⟨_, rfl⟩
            rw [← hwo] at hm1 ⊢
            clear hwo
            go_wp2
            go_loopw [10] (fun i wr => ∃ y : Nat, y ≤ L.length ∧ i = .int .i64 (y : Int) ∧ Hid (∀ v, v < y → Q.dst L x v = Q.ap (Q.dst L E x) (Q.dst L E v)) ∧ Hid (MetIn w wr A c xs L)) (fun i _ => L.length - (intOf i).toNat)
            case atStart => exact ⟨0, Nat.zero_le _, rfl, fun v h => by omega, hm1⟩
            case round =>
              obtain ⟨y, hy, rfl, hall2, hm2⟩ := hrel
              by_cases hlty : y < L.length
              · have hltyI : (y : Int) < (L.length : Int) := by omega
                have hD1 := HBd.out E x hE hltx
                have hD2 := HBd.out E y hE hlty
                have hYes : Hid (Q.dst L x y = Q.ap (Q.dst L E x) (Q.dst L E y) → ∀ v, v < y + 1 → Q.dst L x v = Q.ap (Q.dst L E x) (Q.dst L E v)) := fun h v hv => by
                  by_cases e : v = y
                  · rw [e]; exact h
                  · exact hall2.out v (by omega)
                have hNo : Hid (¬ Q.dst L x y = Q.ap (Q.dst L E x) (Q.dst L E y) → V = (false, true)) := fun h => HNo.out fun hl => h (hl x hltx y hlty)
                obtain ⟨hk0', hk1', hk2'⟩ := hm2.out.bk
                obtain ⟨b, off, be, oe, de, rfl, hbb, hce, hbe, hcex⟩ := hm2.out.rows.dst_at HS.out hE hltx
                obtain ⟨_, _, be', oe', de', e, _, hce', _, hcey⟩ := hm2.out.rows.dst_at HS.out hE hlty
                cases e
                rw [hce] at hce'
                cases hce'
                have HCell : Hid (∀ W, MetIn w W (some ⟨b, off, none⟩) c xs L → ∃ bx ox dx, W.cell? ⟨b, off + x, none⟩ = some (.slice (some ⟨bx, ox, none⟩) L.length dx) ∧ W.cell? ⟨bx, ox + y, none⟩ = some (.int .i64 (Q.dst L x y))) := fun W hW => by
                  obtain ⟨_, _, bx, ox, dx, e, _, h1, _, h2⟩ := hW.rows.dst_at HS.out hltx hlty
                  cases e
                  exact ⟨bx, ox, dx, h1, h2⟩
                have HI := Lib.hid fun W => most_ap (Q.dst L E x) (Q.dst L E y) W
                generalize Q.dst L x y = D3 at *
                generalize Q.ap (Q.dst L E x) (Q.dst L E y) = P at *
                generalize Q.dst L E x = D1 at *
                generalize Q.dst L E y = D2 at *
                have hw1 : IntKind.i64.wrap (D1 - D2) = D1 - D2 := IntWalk.i64_in _ (by omega)
                have hw2 : IntKind.i64.wrap (D2 - D1) = D2 - D1 := IntWalk.i64_in _ (by omega)
                have hneg : -(D1 - D2) = D2 - D1 := by omega
                have hw3 : IntKind.i64.wrap (-(D1 - D2)) = D2 - D1 := by rw [hneg]; exact hw2
                have HMd : Hid (∀ n, MetIn w (wr.drewN n) (some ⟨b, off, none⟩) c xs L) := fun n => hm2.out.drewN n
                go_wp2
                go_quiet (fail)
                generalize hW : World.drewN wr _ = W
                have HMW : Hid (MetIn w W (some ⟨b, off, none⟩) c xs L) := by rw [← hW]; exact HMd.out _
                clear hW HMd hk0' hk1' hk2' hbb hce hbe hcex hcey
                obtain ⟨hk0', hk1', hk2'⟩ := HMW.out.bk
                obtain ⟨bx, ox, dx, hcx, hcxy⟩ := HCell.out W HMW.out
                by_cases hDP : D3 = P
                · have HN := Lib.hid (hYes.out hDP)
                  subst hDP
                  clear hYes hNo
                  go_wp2_with fail
                  go_quiet ((go_at_call 61; exact Calls.quiet_of_same (HI.out _)))
                  go_wp2
                  go_roundw
                  case rel => exact ⟨y + 1, by omega, by go_num, HN.out, HMW.out.drewN _⟩
                  case measure => simp [intOf]; omega
                · have HN := Lib.hid (hNo.out hDP)
                  clear hYes hNo
                  go_wp2_with fail
                  go_quiet ((go_at_call 61; exact Calls.quiet_of_same (HI.out _)))
                  go_wp2
                  go_ret2
                  exact ⟨by rw [HN.out]; rfl, Law.up HMW.out.bl _⟩
              · have hye : y = L.length := by omega
                have hltyI : ¬ (y : Int) < (L.length : Int) := by omega
                have HN : Hid (∀ u, u < x + 1 → ∀ v, v < L.length → Q.dst L u v = Q.ap (Q.dst L E u) (Q.dst L E v)) := fun u h1 v h2 => by
                  by_cases e : u = x
                  · rw [e]; exact hall2.out v (by omega)
                  · exact hall.out u (by omega) v h2
                clear hye
                go_wp2
                go_roundw
                case rel => exact ⟨x + 1, by omega, by go_num, HN.out, hm2.out⟩
                case measure => simp [intOf]; omega
          · have hxe : x = L.length := by omega
            have hltxI : ¬ (x : Int) < (L.length : Int) := by omega
            have HV := Lib.hid (HY.out fun u hu v hv => hall.out u (by omega) v hv)
            clear hxe hall
            go_wp2
            go_ret2
            exact ⟨by rw [HV.out]; rfl, hm1.out.bl⟩
end Go.Proofs.Ytndjpkeenbbgiab
