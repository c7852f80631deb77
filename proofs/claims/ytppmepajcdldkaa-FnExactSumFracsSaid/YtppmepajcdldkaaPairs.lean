/-
  Slices of fractions in the laws' own helpers: 'szFracS', 'toFracS', 'eqFracS'.
-/
import Derived.Test.YtppmepajcdldkaaConv
import Derived.Test.YtppmepajcdldkaaLaw2
import Derived.OwnWalk
import Derived.LoopTactic
import Derived.Deep.RegionHeld3
namespace Go.Proofs.Ytppmepajcdldkaa
open Go.RowKit
set_option linter.unusedVariables false
theorem infoFrac : (Try.prog.info? 25).map (fun i => (i.zero, i.size, i.bytes)) = some (some (.agg #[.int .i64 0, .int .i64 0]), 2, 16) := by kernel_rfl
theorem ownsRow_past {w w' : World} {base B n : Nat} {e : TypeId} {size : Nat} {v : Value} {xs : List Value} (h : w.ownsRow base e size v n xs) (hb : Below B w w') (hB : w.heap.size ≤ B) : w'.ownsRow base e size v n xs := by
  refine ⟨h.1, ?_⟩
  rcases h.2 with h' | ⟨g, cap, cur, h1, h2, h3, h4⟩
  · exact .inl h'
  · exact .inr ⟨g, cap, cur, h1, h2, (hb.block g (Nat.lt_of_lt_of_le (Array.getElem?_eq_some_iff.1 h3).1 hB)).trans h3, h4⟩
/-- The first k fractions lie in the cells xs, two to each. -/
def Fill (zs : List (Int × Int)) (k : Nat) (xs : List Value) : Prop := ∀ j, j < k → ∀ z, zs[j]? = some z → xs[j * 2]? = some (.int .i64 z.1) ∧ xs[j * 2 + 1]? = some (.int .i64 z.2)
theorem Fill.next {zs : List (Int × Int)} {k : Nat} {xs : List Value} (h : Fill zs k xs) {z : Int × Int} (hz : zs[k]? = some z) (hl : k * 2 + 1 < xs.length) : Fill zs (k + 1) ((xs.set (k * 2) (.int .i64 z.1)).set (k * 2 + 1) (.int .i64 z.2)) := by
  intro j hj y hy
  rcases Nat.lt_or_ge j k with h' | h'
  · obtain ⟨a, b⟩ := h j h' y hy
    rw [List.getElem?_set_ne (by omega), List.getElem?_set_ne (by omega), List.getElem?_set_ne (by omega), List.getElem?_set_ne (by omega)]
    exact ⟨a, b⟩
  · obtain rfl : j = k := by omega
    rw [hz] at hy
    injection hy with hy
    subst hy
    constructor
    · rw [List.getElem?_set_ne (by omega), List.getElem?_set_self (by omega)]
    · rw [List.getElem?_set_self (by rw [List.length_set]; omega)]
theorem szFrac_any (A : Option Addr) (c n : Nat) (w : World) (hn : n ≤ 9223372036854775807) :
    Calls Try.prog 33 #[.slice A n c, .int .i64 1048576] w fun e w' => e = .returned (.int .i64 (if (1048576 : Int) - n < 0 then -1 else 1048576 - n)) ∧ w' = w := by
  by_cases h : (1048576 : Int) - n < 0
  · rw [if_pos h]
    go_enter Try.func33, Try.ntmps33
    go_wp2
    go_ret
    exact ⟨rfl, rfl⟩
  · rw [if_neg h]
    go_enter Try.func33, Try.ntmps33
    go_wp2
    go_ret
    exact ⟨rfl, rfl⟩
set_option maxHeartbeats 1600000 in
theorem toFracS_any (A : Option Addr) (c : Nat) (zs : List (Int × Int)) (w : World) (hn : zs.length ≤ 1048576) (hr : Law.Row2 w A zs) :
    Calls Try.prog 35 #[.slice A zs.length c] w fun e w' => ∃ A', e = .returned (.slice A' zs.length zs.length) ∧ Law.Row2 w' A' zs ∧ Below w.heap.size w w' := by
  obtain ⟨i0, hi, hz0, hz1, hz2⟩ := info_parts infoFrac
  have HR := Lib.hid hr
  clear hr
  go_enter Try.func35, Try.ntmps35
  go_wp2_with (at_make; refine wpList_make_full _ rfl _ _ 40 rfl w.heap.size 25 i0 (.agg #[.int .i64 0, .int .i64 0]) 2 Try.underlying40 hi hz0 hz1 .i64 .i64 _ _ zs.length rfl rfl rfl rfl ?c1 ?c2 ?c3 ?_)
  case c1 => rw [hz2]; omega
  case c2 => unfold maxLen; omega
  case c3 => exact Nat.le_refl _
  intro w1 hown hg
  have hb1 : Below w.heap.size w w1 := (Below.refl _ _).grown hg (Nat.le_refl _) (fun k e => by cases e)
  have HO : Hid (∃ xs, w1.ownsRow w.heap.size 25 2 (.slice (some ⟨w.heap.size, 0, none⟩) zs.length zs.length) zs.length xs ∧ Fill zs 0 xs) := ⟨_, hown, fun j hj => by omega⟩
  have HB := Lib.hid hb1
  clear hown hg hb1
  go_wp2_with fail
  go_loopw [4] (fun i wr => ∃ k : Nat, k ≤ zs.length ∧ i = .int .i64 k ∧ Hid (∃ xs, wr.ownsRow w.heap.size 25 2 (.slice (some ⟨w.heap.size, 0, none⟩) zs.length zs.length) zs.length xs ∧ Fill zs k xs) ∧ Hid (Below w.heap.size w wr)) (fun i _ => zs.length - (intOf i).toNat)
  case atStart => exact ⟨0, Nat.zero_le _, rfl, HO.out, HB.out⟩
  case round =>
    obtain ⟨k, hk, rfl, ho, hb⟩ := hrel
    by_cases hlt : k < zs.length
    · have hzk : zs[k]? = some zs[k] := List.getElem?_eq_getElem hlt
      obtain ⟨b, off, rfl, hbl, hc0, hc1⟩ := (HR.out.stays hb.out).at_ hzk
      have hltI : (k : Int) < (zs.length : Int) := by omega
      obtain ⟨z, hz⟩ : ∃ z, z = zs[k] := ⟨_, rfl⟩
      rw [← hz] at hc0 hc1 hzk
      have HZ := Lib.hid hzk
      clear hz hzk
      go_wp2_with fail
      go_at_call 14
      refine (toFrac_any z.1 z.2 _).mono ?_
      rintro e w2 ⟨rfl, hb2⟩
      obtain ⟨xs, ho1, hfill⟩ := ho.out
      have ho2 := ownsRow_past ho1 hb2 (Nat.le_refl _)
      have hlen : xs.length = zs.length * 2 := ho1.1
      obtain ⟨u0, hu0⟩ : ∃ u, xs[k * 2]? = some u := ⟨_, List.getElem?_eq_getElem (by omega)⟩
      obtain ⟨u1, hu1⟩ : ∃ u, xs[k * 2 + 1]? = some u := ⟨_, List.getElem?_eq_getElem (by omega)⟩
      have hcO0 : w2.cell? ⟨w.heap.size, k * 2, none⟩ = some u0 := (ho2.cellAt (k * 2) (by omega)).trans hu0
      have hcO1 : w2.cell? ⟨w.heap.size, k * 2 + 1, none⟩ = some u1 := (ho2.cellAt (k * 2 + 1) (by omega)).trans hu1
      have hfO0 := ho2.frozenAt (k * 2)
      have hfO1 := ho2.frozenAt (k * 2 + 1)
      have ho3 := ((ho2.stored (k * 2) (.int .i64 z.1)).1.stored (k * 2 + 1) (.int .i64 z.2)).1
      have HS := Lib.hid (And.intro ho3 (hfill.next HZ.out (by omega)))
      have HB' := Lib.hid (Below.setCell (p := ⟨w.heap.size, k * 2 + 1, none⟩) (Below.setCell (p := ⟨w.heap.size, k * 2, none⟩) (Law.then_ hb.out hb2) (Nat.le_refl _) (.int .i64 z.1)) (Nat.le_refl _) (.int .i64 z.2))
      clear ho ho1 ho2 ho3 hfill hb hb2 hu0 hu1 hlen
      go_wp2
      go_roundw
      case rel => exact ⟨k + 1, by omega, by go_num, ⟨_, HS.out⟩, HB'.out⟩
      case measure => simp [intOf]; omega
    · have hke : k = zs.length := by omega
      have hltI : ¬ (k : Int) < (zs.length : Int) := by omega
      have HK := Lib.hid hke
      clear hke
      go_wp2
      go_ret
      obtain ⟨xs, ho1, hfill⟩ := ho.out
      refine ⟨_, rfl, fun hne => ⟨w.heap.size, 0, rfl, ?_, fun j z hj => ?_⟩, hb.out⟩
      · rcases ho1.lt w.heap.size rfl with ⟨_, h⟩
        exact h
      · obtain ⟨hjl, _⟩ := List.getElem?_eq_some_iff.1 hj
        obtain ⟨a, b⟩ := hfill j (by rw [HK.out]; exact hjl) z hj
        rw [Nat.zero_add]
        exact ⟨(ho1.cellAt (j * 2) (by omega)).trans a, (ho1.cellAt (j * 2 + 1) (by omega)).trans b⟩
/-- Two rows with the same fractions are equal for 'eqFracS'. -/
theorem eqFracS_same (A B : Option Addr) (c d : Nat) (zs : List (Int × Int)) (w : World) (hn : zs.length ≤ 9223372036854775807) (ha : Law.Row2 w A zs) (hb : Law.Row2 w B zs) :
    Calls Try.prog 37 #[.slice A zs.length c, .slice B zs.length d] w fun e w' => e = .returned (.bool true) ∧ Below w.heap.size w w' := by
  have HA := Lib.hid ha
  have HB := Lib.hid hb
  clear ha hb
  go_enter Try.func37, Try.ntmps37
  go_wp2
  go_loopw [5] (fun i wr => ∃ k : Nat, k ≤ zs.length ∧ i = .int .i64 k ∧ Hid (Below w.heap.size w wr)) (fun i _ => zs.length - (intOf i).toNat)
  case atStart => exact ⟨0, Nat.zero_le _, rfl, Below.refl _ _⟩
  case round =>
    obtain ⟨k, hk, rfl, hbw⟩ := hrel
    by_cases hlt : k < zs.length
    · have hzk : zs[k]? = some zs[k] := List.getElem?_eq_getElem hlt
      obtain ⟨b, off, rfl, hbl, hc0, hc1⟩ := HA.out.at_ hzk
      obtain ⟨b', off', rfl, hbl', hd0, hd1⟩ := HB.out.at_ hzk
      have hltI : (k : Int) < (zs.length : Int) := by omega
      generalize zs[k].1 = z1 at hc0 hc1 hd0 hd1
      generalize zs[k].2 = z2 at hc0 hc1 hd0 hd1
      have HM : Hid (∀ w' : World, Below w.heap.size w w' → w'.cell? ⟨b, off + k * 2, none⟩ = some (.int .i64 z1) ∧ w'.cell? ⟨b, off + k * 2 + 1, none⟩ = some (.int .i64 z2) ∧ w'.cell? ⟨b', off' + k * 2, none⟩ = some (.int .i64 z1) ∧ w'.cell? ⟨b', off' + k * 2 + 1, none⟩ = some (.int .i64 z2) ∧ Below w.heap.size w w') := Lib.hid fun w' h => ⟨(h.cell (p := ⟨b, off + k * 2, none⟩) hbl).trans hc0, (h.cell (p := ⟨b, off + k * 2 + 1, none⟩) hbl).trans hc1, (h.cell (p := ⟨b', off' + k * 2, none⟩) hbl').trans hd0, (h.cell (p := ⟨b', off' + k * 2 + 1, none⟩) hbl').trans hd1, h⟩
      clear hc0 hc1 hd0 hd1 hzk
      obtain ⟨e0, e1, e2, e3, _⟩ := HM.out wr hbw.out
      have hs0 := HM.out wr.drew hbw.out.drew
      go_wp2_with fail
      go_region_held3 (fun w' => w'.cell? ⟨b, off + k * 2, none⟩ = some (.int .i64 z1) ∧ w'.cell? ⟨b, off + k * 2 + 1, none⟩ = some (.int .i64 z2) ∧ w'.cell? ⟨b', off' + k * 2, none⟩ = some (.int .i64 z1) ∧ w'.cell? ⟨b', off' + k * 2 + 1, none⟩ = some (.int .i64 z2) ∧ Below w.heap.size w w') ((first | exact hs0 | exact HM.out _ (Law.then_ (by assumption : _ ∧ _ ∧ _ ∧ _ ∧ Below w.heap.size w _).2.2.2.2 (by assumption)))) (first
        | (go_at_call 18; refine (eqFrac_yes z1 z2 _).mono ?_; rintro e w1 ⟨rfl, hb1⟩))
      all_goals
        have hh := (by assumption : _ ∧ _ ∧ _ ∧ _ ∧ Below w.heap.size w w1)
        have HL := Lib.hid hh.2.2.2.2
        clear hh hs0 hb1
        go_wp2
        go_roundw
        case rel => exact ⟨k + 1, by omega, by go_num, HL.out⟩
        case measure => simp [intOf]; omega
    · have hltI : ¬ (k : Int) < (zs.length : Int) := by omega
      go_wp2
      go_ret
      exact ⟨rfl, hbw.out⟩
end Go.Proofs.Ytppmepajcdldkaa
