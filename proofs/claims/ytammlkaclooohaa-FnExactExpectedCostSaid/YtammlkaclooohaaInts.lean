/-
  Slices of ints in the laws' own helpers: 'toIntS', 'eqIntS'.
-/
import Derived.Test.YtammlkaclooohaaProg
import Derived.Test.YtammlkaclooohaaLaw
import Derived.Lib.Hide
import Derived.WalkKit
import Derived.LoopTactic
import Derived.OwnWalk
import Derived.WalkSpells
import Derived.Deep.QuietTactic
import Derived.BigQuiet
namespace Go.Proofs.Ytammlkaclooohaa
open Go.RowKit
abbrev ivs (zs : List Int) : List Value := zs.map (Value.int .i64)
theorem ivs_at {zs : List Int} {k : Nat} (h : k < zs.length) : (ivs zs)[k]? = some (.int .i64 zs[k]) := by
  rw [List.getElem?_map, List.getElem?_eq_getElem h]; rfl
theorem infoInts : (Try.prog.info? 3).map (fun i => (i.zero, i.size, i.bytes)) = some (some (.int .i64 0), 1, 8) := by kernel_rfl
/-- A row filled from the left. -/
def fillS (xs zs : List Value) (k : Nat) : List Value := xs.take k ++ zs.drop k
theorem fillS_length {xs zs : List Value} {k : Nat} (h : k ≤ xs.length) (hz : zs.length = xs.length) : (fillS xs zs k).length = xs.length := by
  unfold fillS; rw [List.length_append, List.length_take, List.length_drop]; omega
theorem fillS_set {xs zs : List Value} {k : Nat} {u : Value} (hu : xs[k]? = some u) (hz : k < zs.length) : (fillS xs zs k).set k u = fillS xs zs (k + 1) := by
  obtain ⟨hk, e⟩ := List.getElem?_eq_some_iff.1 hu
  unfold fillS
  rw [List.set_append, if_neg (by rw [List.length_take]; omega), List.length_take, Nat.min_eq_left (by omega), Nat.sub_self, List.take_succ_eq_append_getElem hk, e,
    List.drop_eq_getElem_cons hz, List.set_cons_zero, List.append_assoc]
  rfl
theorem fillS_all {xs zs : List Value} {k : Nat} (h : xs.length = k) (hz : zs.length ≤ k) : fillS xs zs k = xs := by
  unfold fillS; rw [List.take_of_length_le (by omega), List.drop_of_length_le hz, List.append_nil]
/-- What 'toIntS' gives: a new row with the same ints. -/
def toSays (ss : List Int) (w : World) (e : Ending) (w' : World) : Prop :=
  ∃ v, e = .returned v ∧ w'.ownsRow w.heap.size 3 1 v ss.length (ivs ss) ∧ Below w.heap.size w w'
set_option maxHeartbeats 1600000 in
theorem toInt_any (A : Option Addr) (c : Nat) (ss : List Int) (w : World) (hn : ss.length ≤ 1048576) (hr : Law.Row w A (ivs ss)) :
    Calls Try.prog 20 #[.slice A ss.length c] w (toSays ss w) := by
  obtain ⟨i0, hi, hz0, hz1, hz2⟩ := info_parts infoInts
  have HR := Lib.hid hr
  clear hr
  go_enter Try.func20, Try.ntmps20
  go_wp2_with (at_make; refine wpList_make_full _ rfl _ _ 25 rfl w.heap.size 3 i0 (.int .i64 0) 1 Try.underlying25 hi hz0 hz1 .i64 .i64 _ _ ss.length rfl rfl rfl rfl ?c1 ?c2 ?c3 ?_)
  case c1 => rw [hz2]; omega
  case c2 => unfold maxLen; omega
  case c3 => exact Nat.le_refl _
  intro w1 hown hg
  have hz : (madeCells #[Value.int .i64 0] ss.length).toList.length = ss.length := by rw [Array.length_toList, size_madeCells]
  have hb1 : Below w.heap.size w w1 := (Below.refl _ _).grown hg (Nat.le_refl _) (fun k e => by cases e)
  obtain ⟨zs, hzs⟩ : ∃ zs, zs = (madeCells #[Value.int .i64 0] ss.length).toList := ⟨_, rfl⟩
  rw [← hzs] at hown hz
  have HZ := Lib.hid hz
  have HO := Lib.hid hown
  have HB := Lib.hid hb1
  clear hzs hz hown hg hb1
  go_wp2_with fail
  go_loopw [4] (fun i wr => ∃ k : Nat, k ≤ ss.length ∧ i = .int .i64 k ∧ Hid (wr.ownsRow w.heap.size 3 1 (.slice (some ⟨w.heap.size, 0, none⟩) ss.length ss.length) ss.length (fillS (ivs ss) zs k)) ∧ Hid (Below w.heap.size w wr)) (fun i _ => ss.length - (intOf i).toNat)
  case atStart => exact ⟨0, Nat.zero_le _, rfl, HO.out, HB.out⟩
  case round =>
    obtain ⟨k, hk, rfl, ho, hb⟩ := hrel
    by_cases hlt : k < ss.length
    · obtain ⟨b, off, rfl, hbl, hc⟩ := (HR.out.stays hb.out).at_ (ivs_at hlt)
      have hl : (fillS (ivs ss) zs k).length = ss.length := by rw [fillS_length (by simp; omega) (by simp [HZ.out])]; simp
      obtain ⟨u, hu⟩ : ∃ u, (fillS (ivs ss) zs k)[k]? = some u := ⟨_, List.getElem?_eq_getElem (by omega)⟩
      have hcO : wr.cell? ⟨w.heap.size, k, none⟩ = some u := (ho.out.cellAt k (by omega)).trans hu
      have hfO := ho.out.frozenAt k
      have HS := Lib.hid (ho.out.stored k (.int .i64 ss[k])).1
      have HB' := Lib.hid (hb.out.setCell (p := ⟨w.heap.size, k, none⟩) (Nat.le_refl _) (.int .i64 ss[k]))
      have HF := Lib.hid (fillS_set (xs := ivs ss) (zs := zs) (ivs_at hlt) (by rw [HZ.out]; exact hlt))
      clear ho hb hu hl
      go_wp2
      go_roundw
      case rel => exact ⟨k + 1, by omega, by go_num, (by show World.ownsRow _ _ _ _ _ _ _; rw [← HF.out]; exact HS.out), HB'.out⟩
      case measure => simp [intOf]; omega
    · have hke : k = ss.length := by omega
      have HF : Hid (fillS (ivs ss) zs k = ivs ss) := by show fillS _ _ _ = _; rw [hke]; exact fillS_all (by simp) (Nat.le_of_eq HZ.out)
      clear hke
      go_wp2
      go_ret
      refine ⟨_, rfl, ?_, hb.out⟩
      rw [← HF.out]
      exact ho.out
/-- Two rows with the same ints are equal for 'eqIntS'. -/
theorem eqInt_same (A B : Option Addr) (c d : Nat) (ss : List Int) (w : World) (hn : ss.length ≤ 9223372036854775807) (ha : Law.Row w A (ivs ss)) (hb : Law.Row w B (ivs ss)) :
    Calls Try.prog 25 #[.slice A ss.length c, .slice B ss.length d] w fun e w' => e = .returned (.bool true) ∧ ∃ m, w' = w.drewN m := by
  have HA := Lib.hid ha
  have HB := Lib.hid hb
  clear ha hb
  go_enter Try.func25, Try.ntmps25
  go_wp2
  go_loopw [5] (fun i wr => ∃ k m : Nat, k ≤ ss.length ∧ i = .int .i64 k ∧ wr = w.drewN m) (fun i _ => ss.length - (intOf i).toNat)
  case atStart => exact ⟨0, 0, Nat.zero_le _, rfl, rfl⟩
  case round =>
    obtain ⟨k, m, hk, rfl, rfl⟩ := hrel
    by_cases hlt : k < ss.length
    · obtain ⟨b, off, rfl, hbl, hc⟩ := HA.out.at_ (ivs_at hlt)
      obtain ⟨b', off', rfl, hbl', hc'⟩ := HB.out.at_ (ivs_at hlt)
      have hlt' : (k : Int) < (ss.length : Int) := by omega
      go_wp2
      go_quiet (fail)
      go_wp2
      go_roundw
      case rel => exact ⟨k + 1, _, by omega, by go_num, rfl⟩
      case measure => simp [intOf]; omega
    · go_wp2
      go_ret
      exact ⟨rfl, m, rfl⟩
end Go.Proofs.Ytammlkaclooohaa
