/-
  algorithmOf over the function literal of LazyAlgorithm: a table by a function of a state and a request.
-/
import Derived.Test.YthpoeeadhjnljaaAo9
namespace Go.Proofs.Ythpoeeadhjnljaa
open Go.RowKit
set_option linter.unusedVariables false
set_option maxRecDepth 100000 in
set_option maxHeartbeats 3200000 in
theorem algorithmOfL_any (A : Option Addr) (c : Nat) (xs0 : List Value) (L : List (List Int)) (B : Option Addr) (d : Nat) (ys : List Value) (S : List (List Int)) (w : World) (b0 : Nat) (g : Nat → Nat → Int) (hn4 : L.length ≤ 4) (hm4 : S.length ≤ 4) (hL : NRow w A xs0 L) (hS : NRow w B ys S)
    (hg : ∀ (x y : Nat) (W : World), x < L.length → y < S.length → Below w.heap.size w W → Calls Try.prog 84 #[.int .i64 (x : Int), .int .i64 (y : Int), .pointer (some ⟨b0, 0, none⟩)] W fun e w' => e = .returned (.int .i64 (g x y)) ∧ Below W.heap.size W w') :
    Calls Try.prog 81 #[pv A L.length c B S.length d, .func (.func 84) #[] #[.pointer (some ⟨b0, 0, none⟩)]] w (nrSays (Q.mdK g S.length L.length) w) := by
  obtain ⟨i0, hi, hz0, hz1, hz2⟩ := info_parts infoInts
  obtain ⟨i1, hj', hq0, hq1, hq2⟩ := info_parts infoII
  have HP := Lib.hid (PIn.start (c := c) (d := d) hL hS 29)
  obtain ⟨p0, p1, _, _, _⟩ := HP.out.bk
  have HG := Lib.hid hg
  clear hg hL hS
  go_enter Try.func81, Try.ntmps81
  go_wp2_with (at_make; refine wpList_make_full _ rfl _ _ 22 rfl (w.heap.size + 1) 35 i1 (.slice none 0 0) 1 Try.underlying22 hj' hq0 hq1 .i64 .i64 _ _ L.length rfl rfl rfl rfl ?c1 ?c2 ?c3 ?_)
  case c1 => rw [hq2]; omega
  case c2 => unfold maxLen; omega
  case c3 => first | exact Nat.le_refl _ | omega | (simp; done) | (simp; omega)
  intro w1 hown hgr
  rw [made_nils] at hown
  have hsa0 : (w.alloc (.cells #[.slice A L.length c, .slice B S.length d] 29)).heap.size = w.heap.size + 1 := by simp
  have HB1 : Hid (Below (w.alloc (.cells #[.slice A L.length c, .slice B S.length d] 29)).heap.size (w.alloc (.cells #[.slice A L.length c, .slice B S.length d] 29)) w1) := Lib.hid ((Below.refl _ _).grown hgr (Nat.le_refl _) (fun k e => by cases e))
  clear hgr
  generalize w.alloc (.cells #[.slice A L.length c, .slice B S.length d] 29) = wa at HP HB1 hsa0 hown p0 p1 ⊢
  clear p0 p1
  try rw [← hsa0] at hown
  try rw [← hsa0]
  clear hsa0
  have HO1 : Hid (w1.ownsRow wa.heap.size 35 1 (.slice (some ⟨wa.heap.size, 0, none⟩) L.length L.length) L.length (List.replicate L.length (.slice none 0 0))) := Lib.hid hown
  clear hown
  go_wp2_with fail
  go_loopw [14] (fun i wr => ∃ x : Nat, x ≤ L.length ∧ i = .int .i64 (x : Int) ∧ Hid (∃ xs, wr.ownsRow wa.heap.size 35 1 (.slice (some ⟨wa.heap.size, 0, none⟩) L.length L.length) L.length (xs ++ List.replicate (L.length - x) (.slice none 0 0)) ∧ NOwn wr wa.heap.size xs (Q.mdK g S.length x)) ∧ Hid (Below wa.heap.size wa wr)) (fun i _ => L.length - (intOf i).toNat)
  case atStart => exact ⟨0, Nat.zero_le _, rfl, ⟨[], HO1.out, NOwn.nil _ _⟩, HB1.out⟩
  case round =>
    obtain ⟨x, hx, rfl, hv, hb⟩ := hrel
    clear HO1 HB1
    by_cases hltx : x < L.length
    · have hltxI : (x : Int) < (L.length : Int) := by omega
      obtain ⟨w2, hw2⟩ : ∃ w2, w2 = wr := ⟨_, rfl⟩
      rw [← hw2] at hv hb ⊢
      clear hw2
      obtain ⟨xs, ho, hn⟩ := hv.out
      have hxl : xs.length = x := by rw [hn.len, Q.mdK_len]
      have hap := hn.nothere8
      have hlt2 : wa.heap.size < w2.heap.size := (ho.lt wa.heap.size rfl).2
      have HPr := Lib.hid (HP.out.on hb.out)
      obtain ⟨p0, p1, _, _, _⟩ := HPr.out.bk
      go_wp2_with (at_make; refine wpList_make_full _ rfl _ _ 35 rfl w2.heap.size 3 i0 (.int .i64 0) 1 Try.underlying35 hi hz0 hz1 .i64 .i64 _ _ S.length rfl rfl rfl rfl ?cm3a ?cm3b ?cm3c ?_)
      case cm3a => rw [hz2]; omega
      case cm3b => unfold maxLen; omega
      case cm3c => first | exact Nat.le_refl _ | omega | (simp; done) | (simp; omega)
      intro w3 hm3 hg3
      replace hm3 := made_own (w := w3) hm3
      have hb3 : Below w2.heap.size w2 w3 := (Below.refl _ _).grown hg3 (Nat.le_refl _) (fun k e => by cases e)
      have ho3 := own_past ho hb3
      have hn3 := hn.past hb3
      have hcO : w3.cell? ⟨wa.heap.size, x, none⟩ = some (.slice none 0 0) := (ho3.cellAt x (by omega)).trans (by
        rw [List.getElem?_append_right (by omega), hxl, Nat.sub_self, List.getElem?_replicate, if_pos (by omega)])
      have hfO := ho3.frozenAt x
      have hst := ho3.stored x (.slice (some ⟨w2.heap.size, 0, none⟩) S.length S.length)
      have ho4 := hst.1
      rw [nils_set xs L.length x _ hxl hltx] at ho4
      have HO4 := Lib.hid ho4
      have HN4 := Lib.hid (hn3.outer ints_ne ho3 hst.2)
      have HR4 := Lib.hid (own_set hm3 ⟨wa.heap.size, x, none⟩ (by show wa.heap.size ≠ w2.heap.size; omega) (.slice (some ⟨w2.heap.size, 0, none⟩) S.length S.length))
      have HB4 := Lib.hid ((Law.then_ hb.out hb3).setCell (p := ⟨wa.heap.size, x, none⟩) (Nat.le_refl _) (.slice (some ⟨w2.heap.size, 0, none⟩) S.length S.length))
      have HP4 := Lib.hid (HP.out.on HB4.out)
      obtain ⟨q0, q1, _, _, _⟩ := HP4.out.bk
      have HA := Lib.hid hap
      have HN2 := Lib.hid hn
      clear hv ho hn hap hb hb3 ho3 hn3 hst ho4 hm3 hg3 p0 p1
      go_wp2_with fail
      generalize w3.setCell ⟨wa.heap.size, x, none⟩ (.slice (some ⟨w2.heap.size, 0, none⟩) S.length S.length) = w4 at HO4 HN4 HR4 HB4 HP4 q0 q1 ⊢
      clear q0 q1
      have HPZ := Lib.hid (Q.fill_zero (g x) S.length)
      go_loopw [27] (fun i wq => ∃ y : Nat, y ≤ S.length ∧ i = .int .i64 (y : Int) ∧ Hid (wq.ownsRow w2.heap.size 3 1 (.slice (some ⟨w2.heap.size, 0, none⟩) S.length S.length) S.length (ivs (Q.fillK (g x) S.length y))) ∧ Hid (wq.ownsRow wa.heap.size 35 1 (.slice (some ⟨wa.heap.size, 0, none⟩) L.length L.length) L.length (xs ++ [.slice (some ⟨w2.heap.size, 0, none⟩) S.length S.length] ++ List.replicate (L.length - (x + 1)) (.slice none 0 0))) ∧ Hid (NOwn wq wa.heap.size xs (Q.mdK g S.length x)) ∧ Hid (Below wa.heap.size wa wq)) (fun i _ => S.length - (intOf i).toNat)
      case atStart => exact ⟨0, Nat.zero_le _, rfl, (by show World.ownsRow _ _ _ _ _ _ _; rw [HPZ.out]; exact HR4.out), HO4.out, HN4.out, HB4.out⟩
      case round =>
        obtain ⟨y, hy, rfl, hr, ho, hn, hb⟩ := hrel
        clear HR4 HO4 HN4 HB4 HPZ HP4
        by_cases hlty : y < S.length
        · have hltyI : (y : Int) < (S.length : Int) := by omega
          obtain ⟨w5, hw5⟩ : ∃ w5, w5 = wr := ⟨_, rfl⟩
          rw [← hw5] at hr ho hn hb ⊢
          clear hw5
          have HC := Lib.hid (HG.out x y w5.drew hltx hlty ((HP.out.on hb.out).bl.drew))
          have HT := Lib.hid (Q.fill_set (f := g x) (n := S.length) (k := y))
          have hcx : w5.cell? ⟨wa.heap.size, x, none⟩ = some (.slice (some ⟨w2.heap.size, 0, none⟩) S.length S.length) := (ho.out.cellAt x (by omega)).trans (by
            rw [List.append_assoc, List.getElem?_append_right (by omega), hxl, Nat.sub_self]
            rfl)
          have hcl := Law.cell_in hcx
          have HF := Lib.hid (Q.fill_at (f := g x) hlty)
          generalize g x y = z at HC HT
          go_wp2_with fail
          go_region_law ((go_simp; go_at_call 84; refine HC.out.mono ?_; rintro e w6 ⟨rfl, hb9⟩; have hb8 := ((Below.refl w5.heap.size w5).drew).trans hb9; have hcy := (hb8.cell (p := ⟨wa.heap.size, x, none⟩) hcl).trans hcx; have hr6 := own_past hr.out hb8; have hrc := own_cell hr6 HF.out; have hrf := hr6.frozenAt y))
          all_goals
            have HR' := Lib.hid (own_put hr6 y z)
            rw [HT.out] at HR'
            have HO' := Lib.hid (own_set (own_past ho.out hb8) ⟨w2.heap.size, y, none⟩ (by show w2.heap.size ≠ wa.heap.size; omega) (.int .i64 z))
            have HN' := Lib.hid ((hn.out.past hb8).setBlk8 ⟨w2.heap.size, y, none⟩ HA.out (.int .i64 z))
            have HB' := Lib.hid ((Law.then_ hb.out hb8).setCell (p := ⟨w2.heap.size, y, none⟩) (by show wa.heap.size ≤ w2.heap.size; omega) (.int .i64 z))
            clear hr ho hn hb hb9 hb8 hcy hr6 hrc hrf hcx hcl
            go_wp2
            go_roundw
            case rel => exact ⟨y + 1, by omega, by go_num, HR'.out, HO'.out, HN'.out, HB'.out⟩
            case measure => simp [intOf]; omega
        · have hye : y = S.length := by omega
          have hltyI : ¬ (y : Int) < (S.length : Int) := by omega
          have hrr := hr.out
          rw [hye, Q.fill_end] at hrr
          have HTR : Hid (Q.mdK g S.length (x + 1) = Q.mdK g S.length x ++ [Q.mdRow g S.length x]) := rfl
          have HNS := Lib.hid (NOwn.snoc HN2.out hn.out (x := .slice (some ⟨w2.heap.size, 0, none⟩) S.length S.length) (l := Q.mdRow g S.length x) (by rw [Q.mdRow_len]; exact hrr) (by omega))
          rw [← HTR.out] at HNS
          clear hye hr hrr hn
          go_wp2
          go_roundw
          case rel => exact ⟨x + 1, by omega, by go_num, ⟨_, ho.out, HNS.out⟩, hb.out⟩
          case measure => simp [intOf]; omega
    · have hxe : x = L.length := by omega
      have hltxI : ¬ (x : Int) < (L.length : Int) := by omega
      obtain ⟨xs, ho, hn⟩ := hv.out
      rw [hxe, Nat.sub_self, List.replicate_zero, List.append_nil] at ho
      rw [hxe] at hn
      have HPr := Lib.hid (HP.out.on hb.out)
      have HO' := Lib.hid (own_down ho HP.out.bl.size)
      have HN' := Lib.hid (hn.down HP.out.bl.size)
      have HUL := Lib.hid (Q.mdK_len g S.length L.length)
      clear hxe hv ho hn hb
      go_wp2
      go_ret
      refine ⟨_, xs, rfl, ?_, HN'.out, HPr.out.bl⟩
      rw [HUL.out]
      exact HO'.out
end Go.Proofs.Ythpoeeadhjnljaa
