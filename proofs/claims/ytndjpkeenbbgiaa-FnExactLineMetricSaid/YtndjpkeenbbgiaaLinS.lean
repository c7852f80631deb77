/-
  LineMetric: the model's.
-/
import Derived.Test.YtndjpkeenbbgiaaLinI
import Derived.Test.YtndjpkeenbbgiaaOwnS
import Derived.Test.YtndjpkeenbbgiaaApp
import Derived.StillTailTactics
namespace Go.Proofs.Ytndjpkeenbbgiaa
open Go.RowKit
set_option linter.unusedVariables false
set_option maxRecDepth 100000 in
set_option maxHeartbeats 3200000 in
theorem l6Line_any (l : List Int) (A : Option Addr) (c : Nat) (w : World) (n1 : 1 ≤ l.length) (n6 : l.length ≤ 6) (hX : ∀ k, k < l.length → ∃ x, l[k]? = some x ∧ 0 ≤ x ∧ x ≤ 99) (hr : Law.Row w A (ivs l)) :
    Calls Try.prog 69 #[.slice A l.length c] w (mSays (Q.tabK (Q.linG l) l.length l.length) w) := by
  have HM0 := Lib.hid (MBox.new w (.slice none 0 0))
  have HB0 : Hid (Below w.heap.size w (w.alloc (.cells #[.slice none 0 0] 43))) := (Below.refl _ _).alloc (Nat.le_refl _) _
  have HS0 : Hid (w.heap.size < (w.alloc (.cells #[.slice none 0 0] 43)).heap.size) := HM0.out.lt
  have HR := Lib.hid hr
  have HX := Lib.hid hX
  have n6I : (l.length : Int) ≤ 6 := by omega
  have HU := Lib.hid fun W => l6Uniform_any l.length 0 W n6
  have HFS := Lib.hid (Q.fil_start (Q.linG l) l.length)
  have HUL := Lib.hid (Q.uniK_len l.length 0 l.length)
  clear hr hX
  generalize Q.uniK l.length 0 l.length = M0 at HU HFS HUL
  go_enter Try.func69, Try.ntmps69
  go_wp2_with fail
  generalize w.alloc (.cells #[.slice none 0 0] 43) = wa at HM0 HB0 HS0 ⊢
  go_at_call 73
  refine (HU.out _).mono ?_
  rintro e w1 ⟨v, ys, rfl, ho, hno, hb⟩
  rw [HUL.out] at ho
  obtain ⟨A1, c1, rfl, _, _, _⟩ := Law.own_len ho
  have b1 : Below w1.heap.size w1 (w1.alloc (.cells #[.slice A1 l.length c1] 43)) := (Below.refl _ _).alloc (Nat.le_refl _) _
  have HF : Hid (FilIn w (w1.alloc (.cells #[.slice A1 l.length c1] 43)) wa.heap.size w1.heap.size A1 l.length c1 ys M0) :=
    ⟨MBox.new w1 _, own_past ho b1, hno.past b1, (HM0.out.on hb).on b1, Law.then_ (Law.then_ HB0.out hb) b1⟩
  have HBS : Hid (w.heap.size ≤ wa.heap.size) := HB0.out.size
  clear ho hno hb b1
  go_wp2_with fail
  generalize w1.alloc (.cells #[.slice A1 l.length c1] 43) = w2 at HF ⊢
  go_loopw [4] (fun i wr => ∃ x : Nat, x ≤ l.length ∧ i = .int .i64 (x : Int) ∧ Hid (∃ M, FilIn w wr wa.heap.size w1.heap.size A1 l.length c1 ys M ∧ Q.fil (Q.linG l) l.length x 0 M)) (fun i _ => l.length - (intOf i).toNat)
  case atStart => exact ⟨0, Nat.zero_le _, rfl, ⟨M0, HF.out, HFS.out⟩⟩
  case round =>
    obtain ⟨x, hx, rfl, hM⟩ := hrel
    clear HF HFS HUL HU
    by_cases hltx : x < l.length
    · have hltxI : (x : Int) < (l.length : Int) := by omega
      obtain ⟨w3, hw3⟩ : ∃ w3, w3 = wr := ⟨_, rfl⟩
      rw [← hw3] at hM ⊢
      clear hw3
      obtain ⟨a, ha, a1, a2⟩ := HX.out x hltx
      have HA := Lib.hid ha
      clear ha
      go_wp2_with fail
      go_loopw [5] (fun i wq => ∃ y : Nat, y ≤ l.length ∧ i = .int .i64 (y : Int) ∧ Hid (∃ M, FilIn w wq wa.heap.size w1.heap.size A1 l.length c1 ys M ∧ Q.fil (Q.linG l) l.length x y M)) (fun i _ => l.length - (intOf i).toNat)
      case atStart => exact ⟨0, Nat.zero_le _, rfl, hM.out⟩
      case round =>
        obtain ⟨y, hy, rfl, hN⟩ := hrel
        clear hM
        obtain ⟨M, hf, hq⟩ := hN.out
        by_cases hlty : y < l.length
        · have hltyI : (y : Int) < (l.length : Int) := by omega
          obtain ⟨b, hb, b1, b2⟩ := HX.out y hlty
          have hRa := HR.out.stays hf.bl
          obtain ⟨k1, o1, e1, hk1, hca⟩ := hRa.at_ (ivs_some HA.out)
          obtain ⟨k2, o2, e2, hk2, hcb⟩ := hRa.at_ (ivs_some hb)
          subst e1
          injection e2 with e2
          injection e2 with e3 e4
          subst e3 e4
          have hw : IntKind.i64.wrap (a - b) = a - b := IntWalk.i64_in _ (by omega)
          have hw2 : IntKind.i64.wrap (b - a) = b - a := IntWalk.i64_in _ (by omega)
          have HAp := Lib.hid (most_ap a b wr.drew)
          have hM1 := hq.1
          have hM2 := hq.2.1
          obtain ⟨g, gx, cx, row, rfl, hc1, hc2, hf2, hrow, hput⟩ := hf.at_ HBS.out hM1 hM2 hltx hlty
          have HF := Lib.hid (hput (Q.ap a b))
          have HQ := Lib.hid (Q.fil_set (v := Q.ap a b) hq hrow hlty (by
            by_cases hxy : x = y
            · subst hxy
              rw [if_pos rfl]
              rw [HA.out] at hb
              injection hb with hb
              subst hb
              unfold Q.ap
              split <;> omega
            · rw [if_neg hxy]
              unfold Q.linG
              rw [Q.getD_of HA.out, Q.getD_of hb]))
          have hbx := hf.box.cell
          have HH : Hid (wr.drew.cell? ⟨gx, y, none⟩ = some (.int .i64 (Q.dst M x y)) ∧ wr.drew.frozen? ⟨gx, y, none⟩ = false) := ⟨hc2, hf2⟩
          generalize Q.dst M x y = dd at HH
          clear hf hq hN hb hRa hM1 hM2 hc2 hf2 hrow hput
          go_wp2_with fail
          generalize Q.ap a b = z at HAp HF HQ
          go_still_tail 26, (by kernel_rfl)
          still_call HAp.out
          repeat still_step
          refine wpStill_nil ?_
          change wpList _ _ _ _ _ wr.drew
          obtain ⟨hcO', hfO'⟩ := HH.out
          go_wp2
          go_roundw
          case rel => exact ⟨y + 1, by omega, by go_num, ⟨_, HF.out.drewN 1, HQ.out⟩⟩
          case measure => simp [intOf]; omega
        · have hye : y = l.length := by omega
          have hltyI : ¬ (y : Int) < (l.length : Int) := by omega
          rw [hye] at hq
          have HF := Lib.hid hf
          have HQ := Lib.hid (Q.fil_row hq)
          have HYE := Lib.hid hye
          clear hf hq hN hye
          go_wp2
          go_roundw
          case rel => exact ⟨x + 1, by omega, by go_num, ⟨M, HF.out, HQ.out⟩⟩
          case measure => simp [intOf]; omega
    · have hxe : x = l.length := by omega
      have hltxI : ¬ (x : Int) < (l.length : Int) := by omega
      obtain ⟨M, hf, hq⟩ := hM.out
      rw [hxe] at hq
      have hMe := Q.fil_end hq
      subst hMe
      have HTL := Lib.hid (Q.tabK_len (Q.linG l) l.length l.length)
      have hbx := hf.box.cell
      have hk0 := hf.res.cell
      have hkf := hf.res.frozen
      have hkl := hf.res.lt
      have E2 := Lib.hid (hf.res.set (.slice A1 l.length c1)).cell
      have HB' := Lib.hid (hf.bl.setCell (p := ⟨w.heap.size, 0, none⟩) (Nat.le_refl _) (.slice A1 l.length c1))
      have HO' := Lib.hid (own_box hf.own hf.res rows_nm (.slice A1 l.length c1))
      have HN' := Lib.hid (hf.rows.store ⟨w.heap.size, 0, none⟩ (by show w.heap.size < _; exact HS0.out) (.slice A1 l.length c1))
      have HXE := Lib.hid hxe
      clear hf hq hM hxe
      go_wp2
      refine ret_met1 (b := w.heap.size) (x := .slice A1 l.length c1) rfl rfl rfl E2.out ⟨_, ys, rfl, ?_, HN'.out.down HBS.out, HB'.out⟩
      show World.ownsRow _ _ _ _ _ (Q.tabK (Q.linG l) l.length l.length).length _
      rw [HTL.out]
      exact own_down HO'.out HBS.out
end Go.Proofs.Ytndjpkeenbbgiaa
