/-
  The model's l1Own (a row of one's own with the same numbers) and l1Has (whether a number stands in a row).
-/
import Derived.Test.YtphfjhnmnehfkaaApp
import Derived.Test.YtphfjhnmnehfkaaAppB
import Derived.Deep.RegionLaw
namespace Go.Proofs.Ytphfjhnmnehfkaa
open Go.RowKit
set_option linter.unusedVariables false
set_option maxHeartbeats 800000 in
theorem l1Own_any (A : Option Addr) (c : Nat) (zs : List Int) (w : World) (h3 : zs.length ≤ 1000000) (hr : Law.Row w A (ivs zs)) :
    Calls Try.prog 93 #[.slice A zs.length c] w (rowSays1 zs w) := by
  obtain ⟨i0, hi, hz0, hz1, hz2⟩ := info_parts infoInts
  have b0 : Below w.heap.size w (w.alloc (.cells #[] 3)) := (Below.refl _ _).alloc (Nat.le_refl _) _
  have HR := Lib.hid (hr.stays b0)
  have H0 : Hid ((w.alloc (.cells #[] 3)).ownsRow w.heap.size 3 1 (.slice (some ⟨w.heap.size, 0, none⟩) 0 0) 0 (ivs [])) := ownsRow_nil w 3
  have HB0 := Lib.hid b0
  clear hr b0
  go_enter Try.func93, Try.ntmps93
  go_wp2_with (at_builtin; refine list_app rfl _ _ 25 rfl Try.underlying25 hi hz0 hz1 hz2 rfl H0.out rfl rfl HR.out ?c1 ?c2 ?_)
  case c1 => simp
  case c2 => omega
  intro v w1 ho hg
  have HB := Lib.hid (HB0.out.grown hg (by simp) (fun k e => (H0.out.lt k e).1))
  have HO := Lib.hid ho
  clear ho hg
  go_wp2
  go_ret
  exact ⟨_, rfl, HO.out, HB.out⟩
set_option maxHeartbeats 800000 in
theorem l1Has_any (A : Option Addr) (c : Nat) (zs : List Int) (x : Int) (w : World) (hn : zs.length ≤ 1048576) (hr : Law.Row w A (ivs zs)) :
    Calls Try.prog 89 #[.slice A zs.length c, .int .i64 x] w fun e w' => e = .returned (.bool (decide (x ∈ zs))) ∧ w' = w := by
  have HR := Lib.hid hr
  clear hr
  go_enter Try.func89, Try.ntmps89
  go_wp2
  go_loop [5] (fun i => ∃ k : Nat, k ≤ zs.length ∧ i = .int .i64 (k : Int) ∧ Hid (¬ x ∈ zs.take k)) (fun i => zs.length - (intOf i).toNat)
  case atStart => exact ⟨0, Nat.zero_le _, rfl, by (show ¬ _); simp⟩
  case round =>
    obtain ⟨k, hk, rfl, hall⟩ := hrel
    by_cases hlt : k < zs.length
    · obtain ⟨y, hy⟩ : ∃ y, zs[k]? = some y := ⟨_, List.getElem?_eq_getElem hlt⟩
      obtain ⟨b, off, rfl, hbl, hc⟩ := HR.out.at_ (ivs_some hy)
      have hltI : (k : Int) < (zs.length : Int) := by omega
      have hm : y ∈ zs := List.mem_of_getElem? hy
      have HT := Lib.hid (Q.take_snoc hy)
      clear hy
      by_cases hyx : y = x
      · subst hyx
        have HN : Hid (decide (y ∈ zs) = true) := by show _ = _; simpa using hm
        clear hm hall
        go_wp2
        go_ret
        exact ⟨by rw [HN.out]; rfl, rfl⟩
      · have HN : Hid (¬ x ∈ zs.take (k + 1)) := by
          show ¬ _
          rw [HT.out]
          intro h
          rcases List.mem_append.1 h with h | h
          · exact hall.out h
          · exact hyx (List.mem_singleton.1 h).symm
        have hyb : (y == x) = false := by simpa using hyx
        clear hm hall
        go_wp2
        go_round
        case rel => exact ⟨k + 1, by omega, by go_num, HN.out⟩
        case measure => simp [intOf]; omega
    · have hke : k = zs.length := by omega
      have hltI : ¬ (k : Int) < (zs.length : Int) := by omega
      have HN : Hid (decide (x ∈ zs) = false) := by
        show _ = _
        have := hall.out
        rw [hke, List.take_length] at this
        simpa using this
      clear hke hall
      go_wp2
      go_ret
      exact ⟨by rw [HN.out]; rfl, rfl⟩
end Go.Proofs.Ytphfjhnmnehfkaa
