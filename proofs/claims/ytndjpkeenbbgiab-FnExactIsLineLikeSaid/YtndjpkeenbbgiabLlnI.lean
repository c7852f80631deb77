/-
  IsLineLike: the code's.
-/
import Derived.Test.YtndjpkeenbbgiabLln
namespace Go.Proofs.Ytndjpkeenbbgiab
open Go.RowKit
set_option linter.unusedVariables false
set_option maxHeartbeats 1600000 in
theorem impLin_any (A : Option Addr) (c : Nat) (xs : List Value) (L : List (List Int)) (w : World) (hll : ∀ l ∈ L, l.length ≤ 1048576) (hr : NRow w A xs L) :
    Calls Try.prog 32 #[mv A L.length c] w fun e w' => e = .returned (.tuple #[.bool (Q.linQ L).1, .bool (Q.linQ L).2]) ∧ Below w.heap.size w w' := by
  have HM := Lib.hid (MetIn.start (c := c) hr 29)
  have HG := Lib.hid (impMet_any A c xs L _ hll HM.out.rows)
  clear hr hll
  cases hg : Q.metQ L
  · rw [Q.lin_no hg]
    rw [hg] at HG
    clear hg
    go_enter Try.func32, Try.ntmps32
    go_wp2_with fail
    generalize w.alloc (.cells #[.slice A L.length c] 29) = wa at HM HG ⊢
    go_at_call 55
    refine HG.out.mono ?_
    rintro e w1 ⟨rfl, hb⟩
    have HB := Lib.hid (HM.out.on hb).bl
    clear hb
    go_wp2
    go_ret2
    exact ⟨rfl, HB.out⟩
  · rw [hg] at HG
    obtain ⟨htab, ⟨h1, h6⟩, hsq⟩ := Q.met_sqr hg
    have HS := Lib.hid hsq
    have HBd := Lib.hid (fun x y => Q.tab_bd htab (x := x) (y := y))
    obtain ⟨l0, hl0, hln0⟩ := Q.sqr_row hsq (x := 0) (by omega)
    have hne : l0 ≠ [] := fun e => by rw [e] at hln0; simp at hln0; omega
    obtain ⟨hmx1, hmx2⟩ := Q.max_mem hne
    obtain ⟨E, hE0, hE1⟩ := Q.idx_mem (Lib.maxOf l0) l0 0 hmx1
    have hE : E < L.length := by rw [← hln0]; exact (List.getElem?_eq_some_iff.1 hE0).1
    have hd0 : ∀ v, v < L.length → l0[v]? = some (Q.dst L 0 v) := fun v hv => by
      obtain ⟨l, g1, g2, g3⟩ := Q.sqr_at hsq (x := 0) (y := v) (by omega) hv
      rw [hl0] at g1
      cases g1
      exact g3
    have HFar : Hid (Q.far L E) := by
      show Q.far L E
      refine ⟨0, by omega, fun v hv => ?_⟩
      have h2 := hmx2 _ (List.mem_of_getElem? (hd0 v hv))
      rw [hd0 E hE] at hE0
      have h3 := Option.some.inj hE0
      omega
    obtain ⟨hy, hn⟩ := Q.lin_far hg hE HFar.out
    have HY := Lib.hid hy
    have HNo := Lib.hid hn
    have HIdx : Hid (Lib.idxOf l0 (Lib.maxOf l0) = (E : Int)) := by show _ = _; unfold Lib.idxOf; rw [hE1]; omega
    generalize Q.linQ L = V at HY HNo ⊢
    have HL0 := Lib.hid hl0
    have hEI : (E : Int) < (L.length : Int) := by omega
    clear hg htab hsq hy hn hmx1 hmx2 hE0 hE1 hd0 HFar hl0 hne
    go_enter Try.func32, Try.ntmps32
    go_wp2_with fail
    generalize w.alloc (.cells #[.slice A L.length c] 29) = wa at HM HG ⊢
    go_at_call 55
    refine HG.out.mono ?_
    rintro e w1 ⟨rfl, hb⟩
    have HM1 := Lib.hid (HM.out.on hb)
    clear hb HM HG
    obtain ⟨hk0, hk1, hk2⟩ := HM1.out.bk
    obtain ⟨b, off, B, d, rfl, hbb, hc0, hrow⟩ := HM1.out.rows.row_at HL0.out
    rw [Nat.add_zero] at hc0
    have HMax := Lib.hid fun (X : World) (h : Below w1.heap.size w1 X) => max_row (hrow.stays h) (c := d) (by omega) (by omega)
    have HIx := Lib.hid fun (X : World) (h : Below w1.heap.size w1 X) => index_row (hrow.stays h) (c := d) (by omega) (by omega) (Lib.maxOf l0)
    rw [HIdx.out] at HIx
    rw [hln0] at HMax HIx hc0
    clear hln0 hrow HIdx HL0
    generalize Lib.maxOf l0 = mx at HMax HIx
    have h0I : (0 : Int) < (L.length : Int) := by omega
    have HMd : Hid (∀ n, MetIn w (w1.drewN n) (some ⟨b, off, none⟩) c xs L) := fun n => HM1.out.drewN n
    go_wp2_with fail
    go_quiet ((first | (go_at_call 64; exact Calls.quiet_of_same (HMax.out _ (Law.up (Below.refl _ _) _))) | (go_at_call 63; exact Calls.quiet_of_same (HIx.out _ (Law.up (Below.refl _ _) _)))))
    generalize hW : World.drewN w1 _ = ws
    have HMs : Hid (MetIn w ws (some ⟨b, off, none⟩) c xs L) := by rw [← hW]; exact HMd.out _
    clear hW HMd hk0 hk1 hk2 hc0 hbb HMax HIx HM1
    obtain ⟨hk0, hk1, hk2⟩ := HMs.out.bk
    obtain ⟨_, _, be, oe, de, e, hbb, hce, hbe, _⟩ := HMs.out.rows.dst_at HS.out hE hE
    cases e
    have HCE : Hid (∀ W, MetIn w W (some ⟨b, off, none⟩) c xs L → Below ws.heap.size ws W → ∀ z, z < L.length → W.cell? ⟨be, oe + z, none⟩ = some (.int .i64 (Q.dst L E z))) := fun W hW hB z hz => by
      obtain ⟨_, _, bx', ox', dx', e, _, hcx', _, hcxz⟩ := hW.rows.dst_at HS.out hE hz
      cases e
      rw [(hB.cell (p := ⟨b, off + E, none⟩) hbb).trans hce] at hcx'
      cases hcx'
      exact hcxz
    go_wp2
    go_loopw [31] (fun i wr => ∃ x : Nat, x ≤ L.length ∧ i = .int .i64 (x : Int) ∧ Hid (∀ u, u < x → ∀ v, v < L.length → Q.dst L u v = Q.ap (Q.dst L E u) (Q.dst L E v)) ∧ Hid (MetIn w wr (some ⟨b, off, none⟩) c xs L) ∧ Hid (Below ws.heap.size ws wr)) (fun i _ => L.length - (intOf i).toNat)
    case atStart => exact ⟨0, Nat.zero_le _, rfl, fun u h => by omega, HMs.out, Below.refl _ _⟩
    case round =>
      obtain ⟨x, hx, rfl, hall, hm1, hbs1⟩ := hrel
      by_cases hltx : x < L.length
      · have hltxI : (x : Int) < (L.length : Int) := by omega
        obtain ⟨_, _, bx, ox, dx, e, hbx0, hcx, hbx, _⟩ := hm1.out.rows.dst_at HS.out hltx hltx
        cases e
        obtain ⟨wo, hwo⟩ : ∃ wo, wo = wr := ⟨_, rfl⟩
        rw [← hwo] at hm1 hbs1 hbx0 hcx hbx ⊢
        clear hwo hk0 hk1 hk2 hbb hce hbe
        obtain ⟨hk0, hk1, hk2⟩ := hm1.out.bk
        have HCX : Hid (∀ W, MetIn w W (some ⟨b, off, none⟩) c xs L → Below wo.heap.size wo W → ∀ z, z < L.length → W.cell? ⟨bx, ox + z, none⟩ = some (.int .i64 (Q.dst L x z))) := fun W hW hB z hz => by
          obtain ⟨_, _, bx', ox', dx', e, _, hcx', _, hcxz⟩ := hW.rows.dst_at HS.out hltx hz
          cases e
          rw [(hB.cell (p := ⟨b, off + x, none⟩) hbx0).trans hcx] at hcx'
          cases hcx'
          exact hcxz
        go_wp2
        go_loopw [38] (fun i wr => ∃ y : Nat, y ≤ L.length ∧ i = .int .i64 (y : Int) ∧ Hid (∀ v, v < y → Q.dst L x v = Q.ap (Q.dst L E x) (Q.dst L E v)) ∧ Hid (MetIn w wr (some ⟨b, off, none⟩) c xs L) ∧ Hid (Below ws.heap.size ws wr) ∧ Hid (Below wo.heap.size wo wr)) (fun i _ => L.length - (intOf i).toNat)
        case atStart => exact ⟨0, Nat.zero_le _, rfl, fun v h => by omega, hm1, hbs1, Below.refl _ _⟩
        case round =>
          obtain ⟨y, hy, rfl, hall2, hm2, hbs2, hbo2⟩ := hrel
          by_cases hlty : y < L.length
          · have hltyI : (y : Int) < (L.length : Int) := by omega
            have hD1 := HBd.out E x hE hltx
            have hD2 := HBd.out E y hE hlty
            have hYes : Hid (Q.dst L x y = Q.ap (Q.dst L E x) (Q.dst L E y) → ∀ v, v < y + 1 → Q.dst L x v = Q.ap (Q.dst L E x) (Q.dst L E v)) := fun h v hv => by
              by_cases e : v = y
              · rw [e]; exact h
              · exact hall2.out v (by omega)
            have hNo : Hid (¬ Q.dst L x y = Q.ap (Q.dst L E x) (Q.dst L E y) → V = (false, true)) := fun h => HNo.out fun hl => h (hl x hltx y hlty)
            have hcxy := HCX.out _ hm2.out hbo2.out y hlty
            have hcex := HCE.out _ hm2.out hbs2.out x hltx
            have hcey := HCE.out _ hm2.out hbs2.out y hlty
            have HI := Lib.hid fun W => apart_any (Q.dst L E x) (Q.dst L E y) W hD1.1 hD1.2 hD2.1 hD2.2
            generalize Q.dst L x y = D3 at *
            generalize Q.ap (Q.dst L E x) (Q.dst L E y) = P at *
            generalize Q.dst L E x = D1 at *
            generalize Q.dst L E y = D2 at *
            by_cases hDP : D3 = P
            · have HN := Lib.hid (hYes.out hDP)
              subst hDP
              clear hYes hNo
              go_wp2_with fail
              go_quiet ((go_at_call 65; exact Calls.quiet_of_same (HI.out _)))
              go_wp2
              go_roundw
              case rel => exact ⟨y + 1, by omega, by go_num, HN.out, hm2.out.drewN _, Law.up hbs2.out _, Law.up hbo2.out _⟩
              case measure => simp [intOf]; omega
            · have HN := Lib.hid (hNo.out hDP)
              clear hYes hNo
              go_wp2_with fail
              go_quiet ((go_at_call 65; exact Calls.quiet_of_same (HI.out _)))
              go_wp2
              go_ret2
              exact ⟨by rw [HN.out]; rfl, Law.up hm2.out.bl _⟩
          · have hye : y = L.length := by omega
            have hltyI : ¬ (y : Int) < (L.length : Int) := by omega
            have HN : Hid (∀ u, u < x + 1 → ∀ v, v < L.length → Q.dst L u v = Q.ap (Q.dst L E u) (Q.dst L E v)) := fun u h1 v h2 => by
              by_cases e : u = x
              · rw [e]; exact hall2.out v (by omega)
              · exact hall.out u (by omega) v h2
            clear hye
            go_wp2
            go_roundw
            case rel => exact ⟨x + 1, by omega, by go_num, HN.out, hm2.out, hbs2.out⟩
            case measure => simp [intOf]; omega
      · have hxe : x = L.length := by omega
        have hltxI : ¬ (x : Int) < (L.length : Int) := by omega
        have HV := Lib.hid (HY.out fun u hu v hv => hall.out u (by omega) v hv)
        clear hxe hall
        go_wp2
        go_ret2
        exact ⟨by rw [HV.out]; rfl, hm1.out.bl⟩
end Go.Proofs.Ytndjpkeenbbgiab
