/-
  IsMetric and FirstDetour: the code's and the model's.
-/
import Derived.Test.YtammlkaclooohaaTbI
namespace Go.Proofs.Ytammlkaclooohaa
open Go.RowKit
set_option linter.unusedVariables false
open Classical in
set_option maxHeartbeats 400000 in
theorem isWhole_any (A : Option Addr) (c : Nat) (xs : List Value) (L : List (List Int)) (w : World) (hll : ∀ l ∈ L, l.length ≤ 1048576) (hr : NRow w A xs L) :
    Calls Try.prog 185 #[mv A L.length c] w fun e w' => e = .returned (.bool (Q.tabQ false L)) ∧ Below w.heap.size w w' := by
  have HM := Lib.hid (MetIn.start (c := c) hr 150)
  have HT := Lib.hid (isTable_any A c xs L _ hll HM.out.rows)
  clear hr hll
  cases ht : Q.tabQ true L
  · have HN : Hid (Q.tabQ false L = false) := by
      show _ = _
      rw [Bool.eq_false_iff]
      intro h
      rw [(Q.whole_iff.1 h).1] at ht
      cases ht
    rw [ht] at HT
    clear ht
    go_enter Try.func185, Try.ntmps185
    go_wp2_with fail
    generalize w.alloc (.cells #[.slice A L.length c] 150) = wa at HM HT ⊢
    go_at_call 198
    refine HT.out.mono ?_
    rintro e w1 ⟨rfl, hb⟩
    have HB := Lib.hid (HM.out.on hb).bl
    clear hb
    go_wp2
    go_ret
    exact ⟨by rw [HN.out]; rfl, HB.out⟩
  · obtain ⟨hsq, _⟩ := Q.tab_iff.1 ht
    obtain ⟨⟨_, hl6⟩, hs⟩ := Q.sqr_iff.1 hsq
    have HN : Hid (Q.tabQ false L = decide (∀ l ∈ L, ¬ (-1 : Int) ∈ l)) := by
      show _ = _
      rw [Bool.eq_iff_iff, Q.whole_iff, decide_eq_true_iff]
      exact ⟨fun h => h.2, fun h => ⟨ht, h⟩⟩
    have HC := Lib.hid fun (W : World) (h : NRow W A xs L) => hasNo_any A c xs L W hl6 hs h
    rw [ht] at HT
    clear ht hsq hs
    generalize decide (∀ l ∈ L, ¬ (-1 : Int) ∈ l) = b at HN HC
    go_enter Try.func185, Try.ntmps185
    go_wp2_with fail
    generalize w.alloc (.cells #[.slice A L.length c] 150) = wa at HM HT ⊢
    go_at_call 198
    refine HT.out.mono ?_
    rintro e w1 ⟨rfl, hb⟩
    have HM1 := Lib.hid (HM.out.on hb)
    clear hb
    obtain ⟨hk0, hk1, hk2⟩ := HM1.out.bk
    have HC1 := Lib.hid (HC.out w1 HM1.out.rows)
    go_wp2_with fail
    go_at_call 154
    refine (HC1.out).mono ?_
    rintro e w' ⟨rfl, hw'⟩
    obtain rfl := hw'.symm
    clear hw'
    go_wp2
    go_ret
    exact ⟨by rw [HN.out]; cases b <;> rfl, HM1.out.bl⟩
set_option maxHeartbeats 800000 in
theorem impFd_good (A : Option Addr) (c : Nat) (xs : List Value) (L : List (List Int)) (w : World) (ht : Q.tabQ false L = true) (hr : NRow w A xs L) :
    Calls Try.prog 184 #[mv A L.length c] w (rowSays (Q.det L, decide (0 < (Q.det L).length)) w) := by
  obtain ⟨hsq, _⟩ := Q.tab_iff.1 ht
  obtain ⟨⟨hl1, hl6⟩, hs⟩ := Q.sqr_iff.1 hsq
  have HM := Lib.hid (MetIn.start (c := c) hr 150)
  have HT := Lib.hid (isWhole_any A c xs L _ (fun l hl => by have := hs l hl; omega) HM.out.rows)
  have HBd := Lib.hid (fun x y => Q.tab_bd ht (x := x) (y := y))
  have HS := Lib.hid hs
  have HDet : Hid (∀ r, Q.IsDet L r → Q.det L = r) := fun r h => Q.det_of h
  rw [ht] at HT
  generalize Q.det L = R at HDet ⊢
  clear hr ht hsq hs
  go_enter Try.func184, Try.ntmps184
  go_wp2_with fail
  generalize w.alloc (.cells #[.slice A L.length c] 150) = wa at HM HT ⊢
  go_at_call 185
  refine HT.out.mono ?_
  rintro e w1 ⟨rfl, hb⟩
  have HM1 := Lib.hid (HM.out.on hb)
  clear hb
  obtain ⟨hk0, hk1, hk2⟩ := HM1.out.bk
  go_wp2
  go_loopw [16] (fun i wr => ∃ x : Nat, x ≤ L.length ∧ i = .int .i64 (x : Int) ∧ Hid (Q.NoB L x 0 0) ∧ Hid (MetIn w wr A c xs L)) (fun i _ => L.length - (intOf i).toNat)
  case atStart => exact ⟨0, Nat.zero_le _, rfl, Q.NoB.zero L, HM1.out⟩
  case round =>
    obtain ⟨x, hx, rfl, hn1, hm1⟩ := hrel
    by_cases hltx : x < L.length
    · have hltxI : (x : Int) < (L.length : Int) := by omega
      obtain ⟨b, off, bx, ox, dx, rfl, hb, hcx, hbx, _⟩ := hm1.out.rows.dst_at HS.out hltx hltx
      obtain ⟨wo, hwo⟩ : ∃ wo, wo = wr := ⟨_, rfl⟩
      rw [← hwo] at hm1 hb hcx hbx ⊢
      clear hwo hk0 hk1 hk2
      obtain ⟨hk0, hk1, hk2⟩ := hm1.out.bk
      have HCX : Hid (∀ W, MetIn w W (some ⟨b, off, none⟩) c xs L → Below wo.heap.size wo W → ∀ z, z < L.length → W.cell? ⟨bx, ox + z, none⟩ = some (.int .i64 (Q.dst L x z))) := fun W hW hB z hz => by
        obtain ⟨_, _, bx', ox', dx', e, _, hcx', _, hcxz⟩ := hW.rows.dst_at HS.out hltx hz
        cases e
        rw [(hB.cell (p := ⟨b, off + x, none⟩) hb).trans hcx] at hcx'
        cases hcx'
        exact hcxz
      go_wp2
      go_loopw [24] (fun i wr => ∃ y : Nat, y ≤ L.length ∧ i = .int .i64 (y : Int) ∧ Hid (Q.NoB L x y 0) ∧ Hid (MetIn w wr (some ⟨b, off, none⟩) c xs L) ∧ Hid (Below wo.heap.size wo wr)) (fun i _ => L.length - (intOf i).toNat)
      case atStart => exact ⟨0, Nat.zero_le _, rfl, hn1, hm1, Below.refl _ _⟩
      case round =>
        obtain ⟨y, hy, rfl, hn2, hm2, hbo2⟩ := hrel
        by_cases hlty : y < L.length
        · have hltyI : (y : Int) < (L.length : Int) := by omega
          obtain ⟨_, _, by_, oy, dy, e, hb2, hcy, hby, _⟩ := hm2.out.rows.dst_at HS.out hlty hlty
          cases e
          obtain ⟨wp, hwp⟩ : ∃ wp, wp = wr := ⟨_, rfl⟩
          rw [← hwp] at hm2 hb2 hcy hby hbo2 ⊢
          clear hwp
          have HCY : Hid (∀ W, MetIn w W (some ⟨b, off, none⟩) c xs L → Below wp.heap.size wp W → ∀ z, z < L.length → W.cell? ⟨by_, oy + z, none⟩ = some (.int .i64 (Q.dst L y z))) := fun W hW hB z hz => by
            obtain ⟨_, _, bx', ox', dx', e, _, hcx', _, hcxz⟩ := hW.rows.dst_at HS.out hlty hz
            cases e
            rw [(hB.cell (p := ⟨b, off + y, none⟩) hb2).trans hcy] at hcx'
            cases hcx'
            exact hcxz
          go_wp2
          go_loopw [31] (fun i wr => ∃ z : Nat, z ≤ L.length ∧ i = .int .i64 (z : Int) ∧ Hid (Q.NoB L x y z) ∧ Hid (MetIn w wr (some ⟨b, off, none⟩) c xs L) ∧ Hid (Below wo.heap.size wo wr) ∧ Hid (Below wp.heap.size wp wr)) (fun i _ => L.length - (intOf i).toNat)
          case atStart => exact ⟨0, Nat.zero_le _, rfl, hn2, hm2, hbo2, Below.refl _ _⟩
          case round =>
            obtain ⟨z, hz, rfl, hn3, hm3, hbo3, hbp3⟩ := hrel
            by_cases hltz : z < L.length
            · have hltzI : (z : Int) < (L.length : Int) := by omega
              have hcxy := HCX.out _ hm3.out hbo3.out y hlty
              have hcxz := HCX.out _ hm3.out hbo3.out z hltz
              have hcyz := HCY.out _ hm3.out hbp3.out z hltz
              have hb1 := HBd.out x y hltx hlty
              have hb2 := HBd.out y z hlty hltz
              have hb3 := HBd.out x z hltx hltz
              have HBad : Hid (Q.bad L x y z ↔ Q.dst L x y + Q.dst L y z < Q.dst L x z) := Iff.rfl
              generalize Q.dst L x y = D1 at *
              generalize Q.dst L y z = D2 at *
              generalize Q.dst L x z = D3 at *
              by_cases hbad : D1 + D2 < D3
              · have HR := Lib.hid (HDet.out _ (.inr ⟨x, y, z, hltx, hlty, hltz, rfl, HBad.out.2 hbad, hn3.out⟩))
                have HL3 : Hid (∀ m, World.ownsRow ((wr.drewN m).alloc (.cells #[.int .i64 x, .int .i64 y, .int .i64 z] 3)) wr.heap.size 3 1 (.slice (some ⟨wr.heap.size, 0, none⟩) 3 3) 3 [.int .i64 x, .int .i64 y, .int .i64 z]) := fun m => row_lit3 (wr.drewN m) _ _ _ _
                go_wp2
                go_quiet (fail)
                go_wp2
                go_ret2
                rw [HR.out]
                exact ⟨_, rfl, own_down (HL3.out _) hm3.out.bl.size, (Law.up hm3.out.bl _).alloc hm3.out.bl.size _⟩
              · have HN := Lib.hid (hn3.out.z (fun h => hbad (HBad.out.1 h)))
                go_wp2
                go_quiet (fail)
                go_wp2
                go_roundw
                case rel => exact ⟨z + 1, by omega, by go_num, HN.out, hm3.out.drewN _, Law.up hbo3.out _, Law.up hbp3.out _⟩
                case measure => simp [intOf]; omega
            · have hze : z = L.length := by omega
              have hltzI : ¬ (z : Int) < (L.length : Int) := by omega
              have HN : Hid (Q.NoB L x (y + 1) 0) := Q.NoB.y (by rw [← hze]; exact hn3.out)
              clear hze
              go_wp2
              go_roundw
              case rel => exact ⟨y + 1, by omega, by go_num, HN.out, hm3.out, hbo3.out⟩
              case measure => simp [intOf]; omega
        · have hye : y = L.length := by omega
          have hltyI : ¬ (y : Int) < (L.length : Int) := by omega
          have HN : Hid (Q.NoB L (x + 1) 0 0) := Q.NoB.x (by rw [← hye]; exact hn2.out)
          clear hye
          go_wp2
          go_roundw
          case rel => exact ⟨x + 1, by omega, by go_num, HN.out, hm2.out⟩
          case measure => simp [intOf]; omega
    · have hxe : x = L.length := by omega
      have hltxI : ¬ (x : Int) < (L.length : Int) := by omega
      have HR := Lib.hid (HDet.out [] (.inl ⟨rfl, by rw [← hxe]; exact hn1.out⟩))
      clear hxe
      go_wp2
      go_ret2
      rw [HR.out]
      exact ⟨_, rfl, own_down (ownsRow_nil _ _) hm1.out.bl.size, hm1.out.bl.alloc hm1.out.bl.size _⟩
end Go.Proofs.Ytammlkaclooohaa
