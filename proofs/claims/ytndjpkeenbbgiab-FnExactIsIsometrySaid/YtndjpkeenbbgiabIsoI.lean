/-
  IsIsometry: both sides.
-/
import Derived.Test.YtndjpkeenbbgiabIso
namespace Go.Proofs.Ytndjpkeenbbgiab
open Go.RowKit
set_option linter.unusedVariables false
namespace Q
theorem perm_at {n : Nat} {to : List Int} (h : permQ n to = true) {x : Nat} (hx : x < n) : ∃ p : Nat, to[x]? = some (p : Int) ∧ p < n := by
  obtain ⟨hl, ha⟩ := perm_iff.1 h
  obtain ⟨_, hb⟩ := pig_of n to hl ha
  have h1 : to[x]? = some to[x] := List.getElem?_eq_getElem (by omega)
  obtain ⟨h2, h3⟩ := hb _ (List.getElem_mem (show x < to.length by omega))
  obtain ⟨p, hp⟩ := Int.eq_ofNat_of_zero_le h2
  exact ⟨p, by rw [h1, hp], by omega⟩
theorem okT_eq {L : List (List Int)} {to : List Int} {x y p q : Nat} (hp : to[x]? = some (p : Int)) (hq : to[y]? = some (q : Int)) : okT L to x y = decide (dst L x y = dst L p q) := by
  unfold okT
  rw [List.getD_eq_getElem?_getD, List.getD_eq_getElem?_getD, hp, hq]
  simp
theorem iso_no1 {L : List (List Int)} {to : List Int} (h : metQ L = false) : isoQ L to = (false, false) := if_neg (by simp [h])
theorem iso_no2 {L : List (List Int)} {to : List Int} (h : permQ L.length to = false) : isoQ L to = (false, false) := if_neg (by simp [h])
theorem iso_yes {L : List (List Int)} {to : List Int} (h1 : metQ L = true) (h2 : permQ L.length to = true) : isoQ L to = (keeps L to, true) := if_pos (by simp [h1, h2])
end Q
set_option maxHeartbeats 1600000 in
theorem specIso_any (A : Option Addr) (c : Nat) (xs : List Value) (L : List (List Int)) (to : List Int) (B : Option Addr) (d : Nat) (hl : to.length ≤ 1048576) (w : World) (hr : NRow w A xs L) (hs : Law.Row w B (ivs to)) :
    Calls Try.prog 24 #[mv A L.length c, .slice B to.length d] w fun e w' => e = .returned (.tuple #[.bool (Q.isoQ L to).1, .bool (Q.isoQ L to).2]) ∧ Below w.heap.size w w' := by
  have HM := Lib.hid (MetIn.start (c := c) hr 29)
  have HG := Lib.hid (l6Good_any A c xs L _ HM.out.rows)
  have HTo := Lib.hid hs
  cases hg : Q.metQ L
  · rw [Q.iso_no1 hg]
    rw [hg] at HG
    clear hr hs hg
    go_enter Try.func24, Try.ntmps24
    go_wp2_with fail
    generalize w.alloc (.cells #[.slice A L.length c] 29) = wa at HM HG ⊢
    go_at_call 53
    refine HG.out.mono ?_
    rintro e w1 ⟨rfl, hb⟩
    have HB := Lib.hid (HM.out.on hb).bl
    clear hb
    go_wp2
    go_ret2
    exact ⟨rfl, HB.out⟩
  · rw [hg] at HG
    obtain ⟨htab, ⟨h1, h6⟩, hsq⟩ := Q.met_sqr hg
    have HP := Lib.hid fun (W : World) (h : Below w.heap.size w W) => l6Perm_any L.length B d to W h6 hl (hs.stays h)
    cases hp : Q.permQ L.length to
    · rw [Q.iso_no2 hp]
      rw [hp] at HP
      clear hr hs hg hp htab hsq
      go_enter Try.func24, Try.ntmps24
      go_wp2_with fail
      generalize w.alloc (.cells #[.slice A L.length c] 29) = wa at HM HG ⊢
      go_at_call 53
      refine HG.out.mono ?_
      rintro e w1 ⟨rfl, hb⟩
      have HM1 := Lib.hid (HM.out.on hb)
      clear hb
      obtain ⟨hk0, hk1, hk2⟩ := HM1.out.bk
      have HB1 := Lib.hid HM1.out.bl
      go_wp2_with fail
      go_at_call 57
      refine (HP.out w1 HM1.out.bl).mono ?_
      rintro e w2 ⟨rfl, hb⟩
      obtain rfl := hb.symm
      clear hb
      have HB2 := HB1
      go_wp2
      go_ret2
      exact ⟨rfl, HB2.out⟩
    · rw [Q.iso_yes hg hp]
      rw [hp] at HP
      have hlen := (Q.perm_iff.1 hp).1
      have HPt : Hid (∀ x, x < L.length → ∃ p : Nat, to[x]? = some (p : Int) ∧ p < L.length) := fun x hx => Q.perm_at hp hx
      have HS := Lib.hid hsq
      rw [hlen] at HP ⊢
      clear hr hs hg hp htab hsq hl hlen
      go_enter Try.func24, Try.ntmps24
      go_wp2_with fail
      generalize w.alloc (.cells #[.slice A L.length c] 29) = wa at HM HG ⊢
      go_at_call 53
      refine HG.out.mono ?_
      rintro e w1 ⟨rfl, hb⟩
      have HM1 := Lib.hid (HM.out.on hb)
      clear hb
      obtain ⟨hk0, hk1, hk2⟩ := HM1.out.bk
      go_wp2_with fail
      go_at_call 57
      refine (HP.out w1 HM1.out.bl).mono ?_
      rintro e w2 ⟨rfl, hb⟩
      obtain rfl := hb.symm
      clear hb
      have HM2 := HM1
      obtain ⟨hk0, hk1, hk2⟩ := HM2.out.bk
      go_wp2
      go_loopw [6] (fun i wr => ∃ x : Nat, x ≤ L.length ∧ i = .int .i64 (x : Int) ∧ Hid (∀ x' y, x' < x → y < L.length → Q.okT L to x' y = true) ∧ Hid (MetIn w wr A c xs L)) (fun i _ => L.length - (intOf i).toNat)
      case atStart => exact ⟨0, Nat.zero_le _, rfl, fun x' y h => by omega, HM2.out⟩
      case round =>
        obtain ⟨x, hx, rfl, hall, hm1⟩ := hrel
        by_cases hltx : x < L.length
        · have hltxI : (x : Int) < (L.length : Int) := by omega
          obtain ⟨b, off, bx, ox, dx, rfl, hb, hcx, hbx, _⟩ := hm1.out.rows.dst_at HS.out hltx hltx
          obtain ⟨wo, hwo⟩ : ∃ wo, wo = wr := ⟨_, rfl⟩
          rw [← hwo] at hm1 hb hcx hbx ⊢
          clear hwo hk0 hk1 hk2
          obtain ⟨hk0, hk1, hk2⟩ := hm1.out.bk
          go_wp2
          go_loopw [7] (fun i wr => ∃ y : Nat, y ≤ L.length ∧ i = .int .i64 (y : Int) ∧ Hid (∀ y', y' < y → Q.okT L to x y' = true) ∧ Hid (MetIn w wr (some ⟨b, off, none⟩) c xs L) ∧ Hid (Below wo.heap.size wo wr)) (fun i _ => L.length - (intOf i).toNat)
          case atStart => exact ⟨0, Nat.zero_le _, rfl, fun y' h => by omega, hm1, Below.refl _ _⟩
          case round =>
            obtain ⟨y, hy, rfl, hall2, hm2, hbo⟩ := hrel
            by_cases hlty : y < L.length
            · have hltyI : (y : Int) < (L.length : Int) := by omega
              obtain ⟨hk0', hk1', hk2'⟩ := hm2.out.bk
              have hcx2 : wr.cell? ⟨b, off + x, none⟩ = some (.slice (some ⟨bx, ox, none⟩) L.length dx) := (hbo.out.cell (p := ⟨b, off + x, none⟩) hb).trans hcx
              obtain ⟨_, _, bx', ox', dx', e, _, hcx', _, hcxy⟩ := hm2.out.rows.dst_at HS.out hltx hlty
              cases e
              rw [hcx2] at hcx'
              cases hcx'
              obtain ⟨p, hp, hpn⟩ := HPt.out x hltx
              obtain ⟨q, hq, hqn⟩ := HPt.out y hlty
              have hpI : (p : Int) < (L.length : Int) := by omega
              have hqI : (q : Int) < (L.length : Int) := by omega
              obtain ⟨_, _, bp, op, dp, e, _, hcp, _, hcpq⟩ := hm2.out.rows.dst_at HS.out hpn hqn
              cases e
              obtain ⟨bt, ot, rfl, hbt, htp⟩ := (HTo.out.stays hm2.out.bl).at_ (ivs_some hp)
              obtain ⟨_, _, e, _, htq⟩ := (HTo.out.stays hm2.out.bl).at_ (ivs_some hq)
              cases e
              have HE := Lib.hid (Q.okT_eq (L := L) hp hq)
              have HNo : Hid (Q.okT L to x y = false → Q.keeps L to = false) := Q.keeps_no hltx hlty
              have HYes : Hid (Q.okT L to x y = true → ∀ y', y' < y + 1 → Q.okT L to x y' = true) := fun h y' hy' => by
                by_cases e : y' = y
                · rw [e]; exact h
                · exact hall2.out y' (by omega)
              generalize Q.dst L x y = D1 at *
              generalize Q.dst L p q = D2 at *
              clear hp hq hall2
              by_cases hDD : D1 = D2
              · have HN := Lib.hid (HYes.out (by rw [HE.out, decide_eq_true hDD]))
                subst hDD
                clear HNo HYes HE
                go_wp2
                go_quiet (fail)
                go_wp2
                go_roundw
                case rel => exact ⟨y + 1, by omega, by go_num, HN.out, hm2.out.drewN _, Law.up hbo.out _⟩
                case measure => simp [intOf]; omega
              · have HN := Lib.hid (HNo.out (by rw [HE.out, decide_eq_false hDD]))
                have hDD2 : ¬ D2 = D1 := fun e => hDD e.symm
                clear HNo HYes HE
                go_wp2
                go_quiet (fail)
                go_wp2
                go_ret2
                exact ⟨by rw [HN.out]; rfl, Law.up hm2.out.bl _⟩
            · have hye : y = L.length := by omega
              have hltyI : ¬ (y : Int) < (L.length : Int) := by omega
              have HN : Hid (∀ x' y, x' < x + 1 → y < L.length → Q.okT L to x' y = true) := fun x' y' h1 h2 => by
                by_cases e : x' = x
                · rw [e]; exact hall2.out y' (by omega)
                · exact hall.out x' y' (by omega) h2
              clear hye hall2
              go_wp2
              go_roundw
              case rel => exact ⟨x + 1, by omega, by go_num, HN.out, hm2.out⟩
              case measure => simp [intOf]; omega
        · have hxe : x = L.length := by omega
          have hltxI : ¬ (x : Int) < (L.length : Int) := by omega
          have HN : Hid (Q.keeps L to = true) := Q.keeps_iff.2 fun x' h1 y h2 => hall.out x' y (by omega) h2
          clear hxe hall
          go_wp2
          go_ret2
          exact ⟨by rw [HN.out]; rfl, hm1.out.bl⟩
set_option maxHeartbeats 1600000 in
theorem impIso_any (A : Option Addr) (c : Nat) (xs : List Value) (L : List (List Int)) (to : List Int) (B : Option Addr) (d : Nat) (hl : to.length ≤ 1048576) (w : World) (hll : ∀ l ∈ L, l.length ≤ 1048576) (hr : NRow w A xs L) (hs : Law.Row w B (ivs to)) :
    Calls Try.prog 26 #[mv A L.length c, .slice B to.length d] w fun e w' => e = .returned (.tuple #[.bool (Q.isoQ L to).1, .bool (Q.isoQ L to).2]) ∧ Below w.heap.size w w' := by
  have HM := Lib.hid (MetIn.start (c := c) hr 29)
  have HG := Lib.hid (impMet_any A c xs L _ hll HM.out.rows)
  have HTo := Lib.hid hs
  cases hg : Q.metQ L
  · rw [Q.iso_no1 hg]
    rw [hg] at HG
    clear hr hs hg
    go_enter Try.func26, Try.ntmps26
    go_wp2_with fail
    generalize w.alloc (.cells #[.slice A L.length c] 29) = wa at HM HG ⊢
    go_at_call 55
    refine HG.out.mono ?_
    rintro e w1 ⟨rfl, hb⟩
    have HB := Lib.hid (HM.out.on hb).bl
    clear hb
    go_wp2
    go_ret2
    exact ⟨rfl, HB.out⟩
  · rw [hg] at HG
    obtain ⟨htab, ⟨h1, h6⟩, hsq⟩ := Q.met_sqr hg
    have HP := Lib.hid fun (W : World) (h : Below w.heap.size w W) => (Q.each_perm h1 h6 to) ▸ eachOnce_any L.length B d to W hl (hs.stays h)
    cases hp : Q.permQ L.length to
    · rw [Q.iso_no2 hp]
      rw [hp] at HP
      clear hr hs hg hp htab hsq
      go_enter Try.func26, Try.ntmps26
      go_wp2_with fail
      generalize w.alloc (.cells #[.slice A L.length c] 29) = wa at HM HG ⊢
      go_at_call 55
      refine HG.out.mono ?_
      rintro e w1 ⟨rfl, hb⟩
      have HM1 := Lib.hid (HM.out.on hb)
      clear hb
      obtain ⟨hk0, hk1, hk2⟩ := HM1.out.bk
      have HB1 := Lib.hid HM1.out.bl
      go_wp2_with fail
      go_at_call 58
      refine (HP.out w1 HM1.out.bl).mono ?_
      rintro e w2 ⟨rfl, hb⟩
      have HB2 := Lib.hid (Law.then_ HM1.out.bl hb)
      clear hb
      go_wp2
      go_ret2
      exact ⟨rfl, HB2.out⟩
    · rw [Q.iso_yes hg hp]
      rw [hp] at HP
      have hlen := (Q.perm_iff.1 hp).1
      have HPt : Hid (∀ x, x < L.length → ∃ p : Nat, to[x]? = some (p : Int) ∧ p < L.length) := fun x hx => Q.perm_at hp hx
      have HS := Lib.hid hsq
      rw [hlen] at HP ⊢
      clear hr hs hg hp htab hsq hl hlen
      go_enter Try.func26, Try.ntmps26
      go_wp2_with fail
      generalize w.alloc (.cells #[.slice A L.length c] 29) = wa at HM HG ⊢
      go_at_call 55
      refine HG.out.mono ?_
      rintro e w1 ⟨rfl, hb⟩
      have HM1 := Lib.hid (HM.out.on hb)
      clear hb
      obtain ⟨hk0, hk1, hk2⟩ := HM1.out.bk
      go_wp2_with fail
      go_at_call 58
      refine (HP.out w1 HM1.out.bl).mono ?_
      rintro e w2 ⟨rfl, hb⟩
      have HM2 := Lib.hid (HM1.out.on hb)
      clear hb hk0 hk1 hk2
      obtain ⟨hk0, hk1, hk2⟩ := HM2.out.bk
      go_wp2
      go_loopw [24] (fun i wr => ∃ x : Nat, x ≤ L.length ∧ i = .int .i64 (x : Int) ∧ Hid (∀ x' y, x' < x → y < L.length → Q.okT L to x' y = true) ∧ Hid (MetIn w wr A c xs L)) (fun i _ => L.length - (intOf i).toNat)
      case atStart => exact ⟨0, Nat.zero_le _, rfl, fun x' y h => by omega, HM2.out⟩
      case round =>
        obtain ⟨x, hx, rfl, hall, hm1⟩ := hrel
        by_cases hltx : x < L.length
        · have hltxI : (x : Int) < (L.length : Int) := by omega
          obtain ⟨b, off, bx, ox, dx, rfl, hb, hcx, hbx, _⟩ := hm1.out.rows.dst_at HS.out hltx hltx
          obtain ⟨wo, hwo⟩ : ∃ wo, wo = wr := ⟨_, rfl⟩
          rw [← hwo] at hm1 hb hcx hbx ⊢
          clear hwo hk0 hk1 hk2
          obtain ⟨hk0, hk1, hk2⟩ := hm1.out.bk
          go_wp2
          go_loopw [31] (fun i wr => ∃ y : Nat, y ≤ L.length ∧ i = .int .i64 (y : Int) ∧ Hid (∀ y', y' < y → Q.okT L to x y' = true) ∧ Hid (MetIn w wr (some ⟨b, off, none⟩) c xs L) ∧ Hid (Below wo.heap.size wo wr)) (fun i _ => L.length - (intOf i).toNat)
          case atStart => exact ⟨0, Nat.zero_le _, rfl, fun y' h => by omega, hm1, Below.refl _ _⟩
          case round =>
            obtain ⟨y, hy, rfl, hall2, hm2, hbo⟩ := hrel
            by_cases hlty : y < L.length
            · have hltyI : (y : Int) < (L.length : Int) := by omega
              obtain ⟨hk0', hk1', hk2'⟩ := hm2.out.bk
              have hcx2 : wr.cell? ⟨b, off + x, none⟩ = some (.slice (some ⟨bx, ox, none⟩) L.length dx) := (hbo.out.cell (p := ⟨b, off + x, none⟩) hb).trans hcx
              obtain ⟨_, _, bx', ox', dx', e, _, hcx', _, hcxy⟩ := hm2.out.rows.dst_at HS.out hltx hlty
              cases e
              rw [hcx2] at hcx'
              cases hcx'
              obtain ⟨p, hp, hpn⟩ := HPt.out x hltx
              obtain ⟨q, hq, hqn⟩ := HPt.out y hlty
              have hpI : (p : Int) < (L.length : Int) := by omega
              have hqI : (q : Int) < (L.length : Int) := by omega
              obtain ⟨_, _, bp, op, dp, e, _, hcp, _, hcpq⟩ := hm2.out.rows.dst_at HS.out hpn hqn
              cases e
              obtain ⟨bt, ot, rfl, hbt, htp⟩ := (HTo.out.stays hm2.out.bl).at_ (ivs_some hp)
              obtain ⟨_, _, e, _, htq⟩ := (HTo.out.stays hm2.out.bl).at_ (ivs_some hq)
              cases e
              have HE := Lib.hid (Q.okT_eq (L := L) hp hq)
              have HNo : Hid (Q.okT L to x y = false → Q.keeps L to = false) := Q.keeps_no hltx hlty
              have HYes : Hid (Q.okT L to x y = true → ∀ y', y' < y + 1 → Q.okT L to x y' = true) := fun h y' hy' => by
                by_cases e : y' = y
                · rw [e]; exact h
                · exact hall2.out y' (by omega)
              generalize Q.dst L x y = D1 at *
              generalize Q.dst L p q = D2 at *
              clear hp hq hall2
              by_cases hDD : D1 = D2
              · have HN := Lib.hid (HYes.out (by rw [HE.out, decide_eq_true hDD]))
                subst hDD
                clear HNo HYes HE
                go_wp2
                go_quiet (fail)
                go_wp2
                go_roundw
                case rel => exact ⟨y + 1, by omega, by go_num, HN.out, hm2.out.drewN _, Law.up hbo.out _⟩
                case measure => simp [intOf]; omega
              · have HN := Lib.hid (HNo.out (by rw [HE.out, decide_eq_false hDD]))
                have hDD2 : ¬ D2 = D1 := fun e => hDD e.symm
                clear HNo HYes HE
                go_wp2
                go_quiet (fail)
                go_wp2
                go_ret2
                exact ⟨by rw [HN.out]; rfl, Law.up hm2.out.bl _⟩
            · have hye : y = L.length := by omega
              have hltyI : ¬ (y : Int) < (L.length : Int) := by omega
              have HN : Hid (∀ x' y, x' < x + 1 → y < L.length → Q.okT L to x' y = true) := fun x' y' h1 h2 => by
                by_cases e : x' = x
                · rw [e]; exact hall2.out y' (by omega)
                · exact hall.out x' y' (by omega) h2
              clear hye hall2
              go_wp2
              go_roundw
              case rel => exact ⟨x + 1, by omega, by go_num, HN.out, hm2.out⟩
              case measure => simp [intOf]; omega
        · have hxe : x = L.length := by omega
          have hltxI : ¬ (x : Int) < (L.length : Int) := by omega
          have HN : Hid (Q.keeps L to = true) := Q.keeps_iff.2 fun x' h1 y h2 => hall.out x' y (by omega) h2
          clear hxe hall
          go_wp2
          go_ret2
          exact ⟨by rw [HN.out]; rfl, hm1.out.bl⟩
end Go.Proofs.Ytndjpkeenbbgiab
