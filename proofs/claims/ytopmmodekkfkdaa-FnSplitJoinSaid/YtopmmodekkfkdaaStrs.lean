/-
  Slices of strings in the laws' own helpers: 'szStringS', 'toStringS', 'eqStringS'.
-/
import Derived.Test.YtopmmodekkfkdaaRows
import Derived.Test.YtopmmodekkfkdaaLaw
import Derived.Lib.Hide
import Derived.LoopTactic
import Derived.OwnWalk
import Derived.Laws.Strings
import Derived.WalkSpells
import Derived.Deep.QuietTactic
import Derived.BigQuiet
namespace Go.Proofs.Ytopmmodekkfkdaa
open Go.RowKit
abbrev svs (ss : List ByteArray) : List Value := ss.map Value.string
theorem svs_at {ss : List ByteArray} {k : Nat} (h : k < ss.length) : (svs ss)[k]? = some (.string ss[k]) := by
  rw [List.getElem?_map, List.getElem?_eq_getElem h]; rfl
/-- The bytes of the first k strings. -/
def tot (ss : List ByteArray) (k : Nat) : Nat := ((ss.take k).map (·.size)).sum
theorem tot_zero (ss : List ByteArray) : tot ss 0 = 0 := rfl
theorem tot_succ {ss : List ByteArray} {k : Nat} (h : k < ss.length) : tot ss (k + 1) = tot ss k + ss[k].size := by
  unfold tot
  rw [List.take_succ_eq_append_getElem h, List.map_append, List.sum_append, List.map_cons, List.map_nil, List.sum_cons, List.sum_nil, Nat.add_zero]
theorem tot_le {ss : List ByteArray} {k : Nat} (h : k < ss.length) : tot ss k + ss[k].size ≤ tot ss ss.length := by
  have mono : ∀ m, k + 1 + m ≤ ss.length → tot ss (k + 1) ≤ tot ss (k + 1 + m) := by
    intro m
    induction m with
    | zero => intro _; exact Nat.le_refl _
    | succ m ih =>
      intro hm
      have := ih (by omega)
      have h2 := tot_succ (ss := ss) (k := k + 1 + m) (by omega)
      rw [show k + 1 + (m + 1) = k + 1 + m + 1 by omega, h2]; omega
  have h1 := mono (ss.length - (k + 1)) (by omega)
  rw [show k + 1 + (ss.length - (k + 1)) = ss.length by omega, tot_succ h] at h1
  exact h1
/-- What 'szStringS' tells: where it is not negative, the strings and their bytes are within the bound. -/
def szSays (ss : List ByteArray) (left : Int) (w : World) (e : Ending) (w' : World) : Prop :=
  ∃ r : Int, e = .returned (.int .i64 r) ∧ w = w' ∧ -1 ≤ r ∧ r ≤ left ∧ (0 ≤ r → (ss.length : Int) + tot ss ss.length ≤ left)
set_option maxHeartbeats 800000 in
theorem szStr_any (A : Option Addr) (c : Nat) (ss : List ByteArray) (left : Int) (w : World) (hn : ss.length ≤ 9223372036854775807) (hz : ∀ s ∈ ss, s.size ≤ 9223372036854775807) (hl0 : 0 ≤ left) (hl : left ≤ 1048576) (hr : Law.Row w A (svs ss)) :
    Calls Try.prog 21 #[.slice A ss.length c, .int .i64 left] w (szSays ss left w) := by
  have HR := Lib.hid hr
  have HZ := Lib.hid hz
  clear hr hz
  by_cases h0 : left - ss.length < 0
  · go_enter Try.func21, Try.ntmps21
    go_wp2
    go_ret
    exact ⟨-1, rfl, rfl, by omega, by omega, fun h => by omega⟩
  · go_enter Try.func21, Try.ntmps21
    go_wp2
    go_loop [1, 5] (fun l i => ∃ k : Nat, k ≤ ss.length ∧ i = .int .i64 k ∧ ∃ m : Int, l = .int .i64 m ∧ Hid (m = left - ss.length - tot ss k) ∧ 0 ≤ m ∧ m ≤ left) (fun _ i => ss.length - (intOf i).toNat)
    case atStart => exact ⟨0, Nat.zero_le _, rfl, _, rfl, (by show left - (ss.length : Int) = _; rw [tot_zero]; omega), by omega, by omega⟩
    case round =>
      obtain ⟨k, hk, rfl, m, rfl, hm, hm0, hm1⟩ := hrel
      by_cases hlt : k < ss.length
      · obtain ⟨b, off, rfl, hb, hc⟩ := HR.out.at_ (svs_at hlt)
        have hsz := HZ.out _ (List.getElem_mem hlt)
        have HT := Lib.hid (tot_succ hlt)
        have HL := Lib.hid (tot_le hlt)
        by_cases h1 : m - (ss[k].size : Int) < 0
        · go_wp2
          go_ret
          exact ⟨-1, rfl, rfl, by omega, by omega, fun h => by omega⟩
        · go_wp2
          go_round
          case rel => exact ⟨k + 1, by omega, by go_num, _, rfl, (by show m - (ss[k].size : Int) = _; rw [HT.out, hm.out]; omega), by omega, by omega⟩
          case measure => simp [intOf]; omega
      · have hke : k = ss.length := by omega
        have HK := Lib.hid hke
        clear hke
        go_wp2
        go_ret
        refine ⟨m, rfl, rfl, by omega, by omega, fun _ => ?_⟩
        have := hm.out
        rw [HK.out] at this
        omega
/-- A row filled from the left. -/
def fillS (xs zs : List Value) (k : Nat) : List Value := xs.take k ++ zs.drop k
theorem fillS_length {xs zs : List Value} {k : Nat} (h : k ≤ xs.length) (hz : zs.length = xs.length) : (fillS xs zs k).length = xs.length := by
  unfold fillS; rw [List.length_append, List.length_take, List.length_drop]; omega
theorem fillS_set {xs zs : List Value} {k : Nat} {u : Value} (hu : xs[k]? = some u) (hz : k < zs.length) : (fillS xs zs k).set k u = fillS xs zs (k + 1) := by
  obtain ⟨hk, e⟩ := List.getElem?_eq_some_iff.1 hu
  unfold fillS
  rw [List.set_append, if_neg (by rw [List.length_take]; omega), List.length_take, Nat.min_eq_left (by omega), Nat.sub_self, List.take_succ_eq_append_getElem hk, e,
    List.drop_eq_getElem_cons hz, List.set_cons_zero, List.append_assoc]
  rfl
theorem fillS_all {xs zs : List Value} {k : Nat} (h : xs.length = k) (hz : zs.length ≤ k) : fillS xs zs k = xs := by
  unfold fillS; rw [List.take_of_length_le (by omega), List.drop_of_length_le hz, List.append_nil]
theorem infoStrs : (Try.prog.info? 9).map (fun i => (i.zero, i.size, i.bytes)) = some (some (.string ⟨#[]⟩), 1, 16) := by kernel_rfl
/-- What 'toStringS' gives: a new row with the same strings. -/
def toSays (ss : List ByteArray) (w : World) (e : Ending) (w' : World) : Prop :=
  ∃ v, e = .returned v ∧ w'.ownsRow w.heap.size 9 1 v ss.length (svs ss) ∧ Below w.heap.size w w'
set_option maxHeartbeats 1600000 in
theorem toStr_any (A : Option Addr) (c : Nat) (ss : List ByteArray) (w : World) (hn : ss.length ≤ 1048576) (hr : Law.Row w A (svs ss)) :
    Calls Try.prog 22 #[.slice A ss.length c] w (toSays ss w) := by
  obtain ⟨i0, hi, hz0, hz1, hz2⟩ := info_parts infoStrs
  have HR := Lib.hid hr
  clear hr
  go_enter Try.func22, Try.ntmps22
  go_wp2_with (at_make; refine wpList_make_full _ rfl _ _ 26 rfl w.heap.size 9 i0 (.string ⟨#[]⟩) 1 Try.underlying26 hi hz0 hz1 .i64 .i64 _ _ ss.length rfl rfl rfl rfl ?c1 ?c2 ?c3 ?_)
  case c1 => rw [hz2]; omega
  case c2 => unfold maxLen; omega
  case c3 => exact Nat.le_refl _
  intro w1 hown hg
  have hz : (madeCells #[Value.string ⟨#[]⟩] ss.length).toList.length = ss.length := by rw [Array.length_toList, size_madeCells]
  have hb1 : Below w.heap.size w w1 := (Below.refl _ _).grown hg (Nat.le_refl _) (fun k e => by cases e)
  obtain ⟨zs, hzs⟩ : ∃ zs, zs = (madeCells #[Value.string ⟨#[]⟩] ss.length).toList := ⟨_, rfl⟩
  rw [← hzs] at hown hz
  have HZ := Lib.hid hz
  have HO := Lib.hid hown
  have HB := Lib.hid hb1
  clear hzs hz hown hg hb1
  go_wp2_with fail
  go_loopw [4] (fun i wr => ∃ k : Nat, k ≤ ss.length ∧ i = .int .i64 k ∧ Hid (wr.ownsRow w.heap.size 9 1 (.slice (some ⟨w.heap.size, 0, none⟩) ss.length ss.length) ss.length (fillS (svs ss) zs k)) ∧ Hid (Below w.heap.size w wr)) (fun i _ => ss.length - (intOf i).toNat)
  case atStart => exact ⟨0, Nat.zero_le _, rfl, HO.out, HB.out⟩
  case round =>
    obtain ⟨k, hk, rfl, ho, hb⟩ := hrel
    by_cases hlt : k < ss.length
    · obtain ⟨b, off, rfl, hbl, hc⟩ := (HR.out.stays hb.out).at_ (svs_at hlt)
      have hl : (fillS (svs ss) zs k).length = ss.length := by rw [fillS_length (by simp; omega) (by simp [HZ.out])]; simp
      obtain ⟨u, hu⟩ : ∃ u, (fillS (svs ss) zs k)[k]? = some u := ⟨_, List.getElem?_eq_getElem (by omega)⟩
      have hcO : wr.cell? ⟨w.heap.size, k, none⟩ = some u := (ho.out.cellAt k (by omega)).trans hu
      have hfO := ho.out.frozenAt k
      have HS := Lib.hid (ho.out.stored k (.string ss[k])).1
      have HB' := Lib.hid (hb.out.setCell (p := ⟨w.heap.size, k, none⟩) (Nat.le_refl _) (.string ss[k]))
      have HF := Lib.hid (fillS_set (xs := svs ss) (zs := zs) (svs_at hlt) (by rw [HZ.out]; exact hlt))
      clear ho hb hu hl
      go_wp2
      go_roundw
      case rel => exact ⟨k + 1, by omega, by go_num, (by show World.ownsRow _ _ _ _ _ _ _; rw [← HF.out]; exact HS.out), HB'.out⟩
      case measure => simp [intOf]; omega
    · have hke : k = ss.length := by omega
      have HF : Hid (fillS (svs ss) zs k = svs ss) := by show fillS _ _ _ = _; rw [hke]; exact fillS_all (by simp) (Nat.le_of_eq HZ.out)
      clear hke
      go_wp2
      go_ret
      refine ⟨_, rfl, ?_, hb.out⟩
      rw [← HF.out]
      exact ho.out
/-- Two rows with the same strings are equal for 'eqStringS'. -/
theorem eqStr_same (A B : Option Addr) (c d : Nat) (ss : List ByteArray) (w : World) (hn : ss.length ≤ 9223372036854775807) (ha : Law.Row w A (svs ss)) (hb : Law.Row w B (svs ss)) :
    Calls Try.prog 18 #[.slice A ss.length c, .slice B ss.length d] w fun e w' => e = .returned (.bool true) ∧ ∃ m, w' = w.drewN m := by
  have HA := Lib.hid ha
  have HB := Lib.hid hb
  clear ha hb
  go_enter Try.func18, Try.ntmps18
  go_wp2
  go_loopw [5] (fun i wr => ∃ k m : Nat, k ≤ ss.length ∧ i = .int .i64 k ∧ wr = w.drewN m) (fun i _ => ss.length - (intOf i).toNat)
  case atStart => exact ⟨0, 0, Nat.zero_le _, rfl, rfl⟩
  case round =>
    obtain ⟨k, m, hk, rfl, rfl⟩ := hrel
    by_cases hlt : k < ss.length
    · obtain ⟨b, off, rfl, hbl, hc⟩ := HA.out.at_ (svs_at hlt)
      obtain ⟨b', off', rfl, hbl', hc'⟩ := HB.out.at_ (svs_at hlt)
      have hlt' : (k : Int) < (ss.length : Int) := by omega
      go_wp2
      go_quiet (fail)
      go_wp2
      go_roundw
      case rel => exact ⟨k + 1, _, by omega, by go_num, rfl⟩
      case measure => simp [intOf]; omega
    · go_wp2
      go_ret
      exact ⟨rfl, m, rfl⟩
end Go.Proofs.Ytopmmodekkfkdaa
