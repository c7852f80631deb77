/-
  The code's tableOf over the function literal of UniformMetric: a table by a function of two points.
-/
import Derived.Test.YtndjpkeenbbgiaaMbx
import Derived.Test.YtndjpkeenbbgiaaPart
import Derived.Test.YtndjpkeenbbgiaaCru
import Derived.StillTailTactics
namespace Go.Proofs.Ytndjpkeenbbgiaa
open Go.RowKit
set_option linter.unusedVariables false
theorem NOwn.setBlk {w : World} {base : Nat} {xs : List Value} {L : List (List Int)} (h : NOwn w base xs L) (p : Addr) (hp : ∀ x ∈ xs, x.ownBlock ≠ some p.block) (u : Value) : NOwn (w.setCell p u) base xs L :=
  ⟨h.len, fun j x l h1 h2 => (h.own j x l h1 h2).kept (setBy w p u) (.inr (hp x (List.mem_of_getElem? h1))), h.apart⟩
theorem NOwn.nothere {w : World} {base : Nat} {xs : List Value} {L : List (List Int)} (h : NOwn w base xs L) : ∀ x ∈ xs, x.ownBlock ≠ some w.heap.size := by
  intro x hx e
  obtain ⟨j, hj, rfl⟩ := List.mem_iff_getElem.1 hx
  obtain ⟨l, hl⟩ := h.some_ (List.getElem?_eq_getElem hj)
  have := ((h.own j _ l (List.getElem?_eq_getElem hj) hl).lt _ e).2
  omega
namespace Q
def tabRow (g : Nat → Nat → Int) (n x : Nat) : List Int := part (fun y => if x = y then 0 else g x y) n n
def tabK (g : Nat → Nat → Int) (n : Nat) : Nat → List (List Int)
  | 0 => []
  | x + 1 => tabK g n x ++ [tabRow g n x]
theorem tabK_len (g : Nat → Nat → Int) (n : Nat) : ∀ x, (tabK g n x).length = x
  | 0 => rfl
  | x + 1 => by rw [tabK, List.length_append, tabK_len g n x]; rfl
theorem part_skip (f : Nat → Int) {n k : Nat} (h : f k = 0) : part f n (k + 1) = part f n k := by
  unfold part
  refine List.map_congr_left fun i _ => ?_
  rcases Nat.lt_trichotomy i k with h1 | h1 | h1
  · rw [if_pos h1, if_pos (by omega)]
  · subst h1
    rw [if_pos (by omega), if_neg (by omega), h]
  · rw [if_neg (by omega), if_neg (by omega)]
end Q
set_option maxRecDepth 100000 in
set_option maxHeartbeats 1600000 in
theorem tableU_any (bx : Nat) (g : Nat → Nat → Int) (n : Nat) (w : World) (h6 : n ≤ 6)
    (hg : ∀ (x y : Nat) (W : World), x < n → y < n → x ≠ y → Below w.heap.size w W → Calls Try.prog 75 #[.int .i64 x, .int .i64 y, .pointer (some ⟨bx, 0, none⟩)] W fun e w' => e = .returned (.int .i64 (g x y)) ∧ w' = W) :
    Calls Try.prog 96 #[.int .i64 n, .func (.func 75) #[] #[.pointer (some ⟨bx, 0, none⟩)]] w (mSays (Q.tabK g n n) w) := by
  obtain ⟨i0, hi, hz0, hz1, hz2⟩ := info_parts infoInts
  obtain ⟨i1, hj', hq0, hq1, hq2⟩ := info_parts infoII
  have HG := Lib.hid hg
  have n6I : (n : Int) ≤ 6 := by omega
  clear hg
  go_enter Try.func96, Try.ntmps96
  have hM0 := MBox.new w (.slice none 0 0)
  have hB0 : Below w.heap.size w (w.alloc (.cells #[.slice none 0 0] 43)) := (Below.refl _ _).alloc (Nat.le_refl _) _
  have hs0 : w.heap.size + 1 ≤ (w.alloc (.cells #[.slice none 0 0] 43)).heap.size := by simp
  go_wp2_with (at_make; refine wpList_make_full _ rfl _ _ 34 rfl (w.heap.size + 1) 22 i1 (.slice none 0 0) 1 Try.underlying34 hj' hq0 hq1 .i64 .i64 _ _ n rfl rfl rfl rfl ?c1 ?c2 ?c3 ?_)
  case c1 => rw [hq2]; omega
  case c2 => unfold maxLen; omega
  case c3 => first | exact Nat.le_refl _ | omega | (simp; done) | (simp; omega)
  intro w1 hown hgr
  rw [made_nils] at hown
  have HM1 : Hid (MBox w1 w.heap.size (.slice none 0 0)) := hM0.grown hgr (by simp)
  have HB1 : Hid (Below w.heap.size w w1) := hB0.grown hgr (by simp) (fun k e => by cases e)
  have HS1 : Hid (w.heap.size + 2 ≤ w1.heap.size) := Nat.succ_le_of_lt (hown.lt (w.heap.size + 1) rfl).2
  have HO1 := Lib.hid hown
  clear hown hgr hM0 hB0 hs0
  go_wp2_with fail
  go_loopw [12] (fun i wr => ∃ x : Nat, x ≤ n ∧ i = .int .i64 (x : Int) ∧ Hid (∃ xs, wr.ownsRow (w.heap.size + 1) 22 1 (.slice (some ⟨w.heap.size + 1, 0, none⟩) n n) n (xs ++ List.replicate (n - x) (.slice none 0 0)) ∧ NOwn wr (w.heap.size + 1) xs (Q.tabK g n x)) ∧ Hid (MBox wr w.heap.size (.slice none 0 0)) ∧ Hid (Below w.heap.size w wr) ∧ Hid (w.heap.size + 2 ≤ wr.heap.size)) (fun i _ => n - (intOf i).toNat)
  case atStart => exact ⟨0, Nat.zero_le _, rfl, ⟨[], HO1.out, NOwn.nil _ _⟩, HM1.out, HB1.out, HS1.out⟩
  case round =>
    obtain ⟨x, hx, rfl, hv, hbox, hb, hs2⟩ := hrel
    clear HO1 HM1 HB1 HS1
    by_cases hltx : x < n
    · have hltxI : (x : Int) < (n : Int) := by omega
      obtain ⟨w2, hw2⟩ : ∃ w2, w2 = wr := ⟨_, rfl⟩
      rw [← hw2] at hv hbox hb hs2 ⊢
      clear hw2
      obtain ⟨xs, ho, hn⟩ := hv.out
      have hxl : xs.length = x := by rw [hn.len, Q.tabK_len]
      have hap := hn.nothere
      go_wp2_with (at_make; refine wpList_make_full _ rfl _ _ 22 rfl w2.heap.size 3 i0 (.int .i64 0) 1 Try.underlying22 hi hz0 hz1 .i64 .i64 _ _ n rfl rfl rfl rfl ?cm3a ?cm3b ?cm3c ?_)
      case cm3a => rw [hz2]; omega
      case cm3b => unfold maxLen; omega
      case cm3c => first | exact Nat.le_refl _ | omega | (simp; omega)
      intro w3 hm3 hg3
      replace hm3 := made_own (w := w3) hm3
      have hb3 : Below w2.heap.size w2 w3 := (Below.refl _ _).grown hg3 (Nat.le_refl _) (fun k e => by cases e)
      have ho3 := own_past ho hb3
      have hn3 := hn.past hb3
      have hcO : w3.cell? ⟨w.heap.size + 1, x, none⟩ = some (.slice none 0 0) := (ho3.cellAt x (by omega)).trans (by
        rw [List.getElem?_append_right (by omega), hxl, Nat.sub_self, List.getElem?_replicate, if_pos (by omega)])
      have hfO := ho3.frozenAt x
      have hst := ho3.stored x (.slice (some ⟨w2.heap.size, 0, none⟩) n n)
      have ho4 := hst.1
      rw [nils_set xs n x _ hxl hltx] at ho4
      have HO4 := Lib.hid ho4
      have HN4 := Lib.hid (hn3.outer ints_ne ho3 hst.2)
      have HR4 := Lib.hid (own_set hm3 ⟨w.heap.size + 1, x, none⟩ (by show w.heap.size + 1 ≠ _; have := hs2.out; omega) (.slice (some ⟨w2.heap.size, 0, none⟩) n n))
      have HM4 := Lib.hid ((hbox.out.on hb3).other ⟨w.heap.size + 1, x, none⟩ (by show w.heap.size ≠ w.heap.size + 1; omega) (.slice (some ⟨w2.heap.size, 0, none⟩) n n))
      have HB4 := Lib.hid ((Law.then_ hb.out hb3).setCell (p := ⟨w.heap.size + 1, x, none⟩) (by show w.heap.size ≤ w.heap.size + 1; omega) (.slice (some ⟨w2.heap.size, 0, none⟩) n n))
      have HS4 : Hid (w.heap.size + 2 ≤ (w3.setCell ⟨w.heap.size + 1, x, none⟩ (.slice (some ⟨w2.heap.size, 0, none⟩) n n)).heap.size) := by show _ ≤ _; have h1 := hs2.out; have h2 := hb3.size; simp; omega
      have HA := Lib.hid hap
      have HN2 := Lib.hid hn
      have HK := hs2.out
      clear hv ho hn hap hb hbox hb3 ho3 hn3 hst ho4 hm3 hg3 hs2
      go_wp2_with fail
      generalize w3.setCell ⟨w.heap.size + 1, x, none⟩ (.slice (some ⟨w2.heap.size, 0, none⟩) n n) = w4 at HO4 HN4 HR4 HM4 HB4 HS4 ⊢
      have HPZ := Lib.hid (Q.part_zero (fun y => if x = y then 0 else g x y) n)
      go_loopw [21] (fun i wq => ∃ y : Nat, y ≤ n ∧ i = .int .i64 (y : Int) ∧ Hid (wq.ownsRow w2.heap.size 3 1 (.slice (some ⟨w2.heap.size, 0, none⟩) n n) n (ivs (Q.part (fun y => if x = y then 0 else g x y) n y))) ∧ Hid (wq.ownsRow (w.heap.size + 1) 22 1 (.slice (some ⟨w.heap.size + 1, 0, none⟩) n n) n (xs ++ [.slice (some ⟨w2.heap.size, 0, none⟩) n n] ++ List.replicate (n - (x + 1)) (.slice none 0 0))) ∧ Hid (NOwn wq (w.heap.size + 1) xs (Q.tabK g n x)) ∧ Hid (MBox wq w.heap.size (.slice none 0 0)) ∧ Hid (Below w.heap.size w wq) ∧ Hid (w.heap.size + 2 ≤ wq.heap.size)) (fun i _ => n - (intOf i).toNat)
      case atStart => exact ⟨0, Nat.zero_le _, rfl, (by show World.ownsRow _ _ _ _ _ _ _; rw [HPZ.out]; exact HR4.out), HO4.out, HN4.out, HM4.out, HB4.out, HS4.out⟩
      case round =>
        obtain ⟨y, hy, rfl, hr, ho, hn, hm, hb, hs⟩ := hrel
        clear HR4 HO4 HN4 HM4 HB4 HPZ HS4
        by_cases hlty : y < n
        · have hltyI : (y : Int) < (n : Int) := by omega
          obtain ⟨w5, hw5⟩ : ∃ w5, w5 = wr := ⟨_, rfl⟩
          rw [← hw5] at hr ho hn hm hb hs ⊢
          clear hw5
          by_cases hxy : x = y
          · have hxyI : (x : Int) = (y : Int) := by omega
            have HT := Lib.hid (Q.part_skip (f := fun y => if x = y then 0 else g x y) (n := n) (k := y) (if_pos hxy))
            have HXY := Lib.hid hxy
            clear hxy
            go_wp2
            go_roundw
            case rel => exact ⟨y + 1, by omega, by go_num, (by show World.ownsRow _ _ _ _ _ _ _; rw [HT.out]; exact hr.out), ho.out, hn.out, hm.out, hb.out, hs.out⟩
            case measure => simp [intOf]; omega
          · have hxyI : ¬ (x : Int) = (y : Int) := by omega
            have HC := Lib.hid (HG.out x y w5.drew hltx hlty hxy hb.out.drew)
            have HT := Lib.hid (Q.part_set (fun y => if x = y then 0 else g x y) hlty)
            rw [if_neg hxy] at HT
            have hrc := own_cell hr.out (Q.part_at (fun y => if x = y then 0 else g x y) hlty)
            have hrf := hr.out.frozenAt y
            have HH : Hid (w5.drew.cell? ⟨w2.heap.size, y, none⟩ = some (.int .i64 0) ∧ w5.drew.frozen? ⟨w2.heap.size, y, none⟩ = false) := ⟨hrc, hrf⟩
            have hcx : w5.cell? ⟨w.heap.size + 1, x, none⟩ = some (.slice (some ⟨w2.heap.size, 0, none⟩) n n) := (ho.out.cellAt x (by omega)).trans (by
              rw [List.append_assoc, List.getElem?_append_right (by omega), hxl, Nat.sub_self]
              rfl)
            have HR' := Lib.hid (own_put hr.out y (g x y))
            rw [HT.out] at HR'
            have HO' := Lib.hid (own_set ho.out ⟨w2.heap.size, y, none⟩ (by show w2.heap.size ≠ _; omega) (.int .i64 (g x y)))
            have HN' := Lib.hid (hn.out.setBlk ⟨w2.heap.size, y, none⟩ HA.out (.int .i64 (g x y)))
            have HM' := Lib.hid (hm.out.other ⟨w2.heap.size, y, none⟩ (by show _ ≠ w2.heap.size; omega) (.int .i64 (g x y)))
            have HB' := Lib.hid (hb.out.setCell (p := ⟨w2.heap.size, y, none⟩) (by show w.heap.size ≤ w2.heap.size; omega) (.int .i64 (g x y)))
            have HS' : Hid (w.heap.size + 2 ≤ (w5.setCell ⟨w2.heap.size, y, none⟩ (.int .i64 (g x y))).heap.size) := by show _ ≤ _; simpa using hs.out
            have HXY := Lib.hid hxy
            clear hr ho hn hm hb hs hrc hrf hxy HT
            generalize g x y = z at HC HR' HO' HN' HM' HB' HS'
            go_wp2_with fail
            go_still_tail 10, (by kernel_rfl)
            still_call HC.out
            repeat still_step
            refine wpStill_nil ?_
            change wpList _ _ _ _ _ w5.drew
            obtain ⟨hcO', hfO'⟩ := HH.out
            go_wp2
            go_roundw
            case rel => exact ⟨y + 1, by omega, by go_num, HR'.out, HO'.out, (HN'.out.drewN 1), HM'.out, HB'.out.drew, HS'.out⟩
            case measure => simp [intOf]; omega
        · have hye : y = n := by omega
          have hltyI : ¬ (y : Int) < (n : Int) := by omega
          subst hye
          have HTR : Hid (Q.tabK g y (x + 1) = Q.tabK g y x ++ [Q.tabRow g y x]) := rfl
          have HNS := Lib.hid (NOwn.snoc HN2.out hn.out (x := .slice (some ⟨w2.heap.size, 0, none⟩) y y) (l := Q.tabRow g y x) (by rw [show (Q.tabRow g y x).length = y from Q.part_len _ _ _]; exact hr.out) (by omega))
          rw [← HTR.out] at HNS
          clear hr hn
          go_wp2
          go_roundw
          case rel => exact ⟨x + 1, by omega, by go_num, ⟨_, ho.out, HNS.out⟩, hm.out, hb.out, hs.out⟩
          case measure => simp [intOf]; omega
    · have hxe : x = n := by omega
      have hltxI : ¬ (x : Int) < (n : Int) := by omega
      subst hxe
      obtain ⟨xs, ho, hn⟩ := hv.out
      rw [Nat.sub_self, List.replicate_zero, List.append_nil] at ho
      have hk0 := hbox.out.cell
      have hkf := hbox.out.frozen
      have hkl := hbox.out.lt
      have E2 := Lib.hid (hbox.out.set (.slice (some ⟨w.heap.size + 1, 0, none⟩) x x)).cell
      have HO' := Lib.hid (own_box (own_down ho (Nat.le_succ _)) hbox.out rows_nm (.slice (some ⟨w.heap.size + 1, 0, none⟩) x x))
      have HN' := Lib.hid (hn.store ⟨w.heap.size, 0, none⟩ (by show w.heap.size < _; omega) (.slice (some ⟨w.heap.size + 1, 0, none⟩) x x))
      have HB' := Lib.hid (hb.out.setCell (p := ⟨w.heap.size, 0, none⟩) (Nat.le_refl _) (.slice (some ⟨w.heap.size + 1, 0, none⟩) x x))
      have HUL := Lib.hid (Q.tabK_len g x x)
      clear hv ho hn hbox hb hs2
      go_wp2
      refine ret_met1 (b := w.heap.size) (x := .slice (some ⟨w.heap.size + 1, 0, none⟩) x x) rfl rfl rfl E2.out ⟨_, xs, rfl, ?_, HN'.out.down (by omega), HB'.out⟩
      rw [HUL.out]
      exact HO'.out
end Go.Proofs.Ytndjpkeenbbgiaa
