/-
  The code's differentItems.
-/
import Derived.Test.YtndjpkeenbbgiabOwn
import Derived.Test.YtndjpkeenbbgiabPut
namespace Go.Proofs.Ytndjpkeenbbgiab
open Go.RowKit
set_option linter.unusedVariables false
/-- The cells of 'seen' behind the numbers l. -/
def seenCells (l : List Int) : List Value := (List.range 8).map fun (x : Nat) => .bool (decide ((x : Int) ∈ l))
def Seen8 (W : World) (g : Nat) (l : List Int) : Prop := ∀ x : Nat, x < 8 → W.cell? ⟨g, x, none⟩ = some (.bool (decide ((x : Int) ∈ l))) ∧ W.frozen? ⟨g, x, none⟩ = false
theorem Seen8.put {W : World} {g : Nat} {l : List Int} (h : Seen8 W g l) {x : Nat} (hx : x < 8) : Seen8 (W.setCell ⟨g, x, none⟩ (.bool true)) g (l ++ [(x : Int)]) := fun y hy => by
  refine ⟨?_, by simpa using (h y hy).2⟩
  by_cases e : y = x
  · subst e
    rw [World.cell?_setCell_same _ _ _ (h y hy).1]
    simp
  · rw [World.cell?_setCell_other _ _ _ _ (fun h => by injection h with _ h; exact e (by omega)), (h y hy).1]
    have : ((y : Int) ∈ l ++ [(x : Int)]) ↔ (y : Int) ∈ l := by simp; omega
    simp [this]
theorem Seen8.same {W : World} {g : Nat} {l : List Int} (h : Seen8 W g l) {x : Nat} (hx : (x : Int) ∈ l) : Seen8 W g (l ++ [(x : Int)]) := fun y hy => by
  rw [show decide ((y : Int) ∈ l ++ [(x : Int)]) = decide ((y : Int) ∈ l) from by
    rw [decide_eq_decide]
    constructor
    · intro h
      rcases List.mem_append.1 h with h | h
      · exact h
      · rw [List.mem_singleton.1 h]; exact hx
    · exact fun h => List.mem_append_left _ h]
  exact h y hy
set_option maxHeartbeats 1600000 in
theorem difItems_any (A : Option Addr) (c : Nat) (zs : List Int) (w : World) (h3 : zs.length ≤ 60) (hx : ∀ k, k < zs.length → ∃ x : Nat, zs[k]? = some (x : Int) ∧ x < 8) (hr : Law.Row w A (ivs zs)) :
    Calls Try.prog 99 #[.slice A zs.length c] w fun e w' => e = .returned (.int .i64 (Q.dif zs : Nat)) ∧ Below w.heap.size w w' := by
  have HR := Lib.hid hr
  have HX := Lib.hid hx
  clear hr hx
  go_enter Try.func99, Try.ntmps99
  go_wp2
  go_loopw [4, 9] (fun c i wr => ∃ k : Nat, k ≤ zs.length ∧ i = .int .i64 k ∧ c = .int .i64 (Q.dif (zs.take k) : Nat) ∧ Hid (Seen8 wr w.heap.size (zs.take k)) ∧ Hid (Below w.heap.size w wr)) (fun _ i _ => zs.length - (intOf i).toNat)
  case atStart =>
    refine ⟨0, Nat.zero_le _, rfl, rfl, fun x hx => ?_, (Below.refl _ _).alloc (Nat.le_refl _) _⟩
    match x, hx with
    | 0, _ => exact ⟨by simp, by simp⟩
    | 1, _ => exact ⟨by simp, by simp⟩
    | 2, _ => exact ⟨by simp, by simp⟩
    | 3, _ => exact ⟨by simp, by simp⟩
    | 4, _ => exact ⟨by simp, by simp⟩
    | 5, _ => exact ⟨by simp, by simp⟩
    | 6, _ => exact ⟨by simp, by simp⟩
    | 7, _ => exact ⟨by simp, by simp⟩
  case round =>
    obtain ⟨k, hk, rfl, rfl, hs, hb⟩ := hrel
    by_cases hlt : k < zs.length
    · obtain ⟨x, hx, hx8⟩ := HX.out k hlt
      obtain ⟨b, off, rfl, hbl, hc⟩ := (HR.out.stays hb.out).at_ (ivs_some hx)
      have hltI : (k : Int) < (zs.length : Int) := by omega
      have hxI : (x : Int) < 8 := by omega
      obtain ⟨hcS, hfS⟩ := hs.out x hx8
      have HT := Lib.hid (Q.take_snoc hx)
      have HD := Lib.hid (Q.dif_snoc (zs.take k) (x : Int))
      have hq : Q.dif (zs.take k) ≤ 60 := Nat.le_trans (Q.dif_le _) (by rw [List.length_take]; omega)
      by_cases hm : (x : Int) ∈ zs.take k
      · have HS : Hid (Seen8 wr w.heap.size (zs.take (k + 1))) := by rw [HT.out]; exact Lib.hid (hs.out.same hm)
        have HE : Hid (Q.dif (zs.take (k + 1)) = Q.dif (zs.take k)) := by show _ = _; rw [HT.out, HD.out, if_pos hm]; rfl
        rw [decide_eq_true hm] at hcS
        clear hm hs hx HT HD
        generalize Q.dif (zs.take k) = q at *
        go_wp2
        go_roundw
        case rel => exact ⟨k + 1, by omega, by go_num, by rw [HE.out], HS.out, hb.out⟩
        case measure => simp [intOf]; omega
      · have HS : Hid (Seen8 (wr.setCell ⟨w.heap.size, x, none⟩ (.bool true)) w.heap.size (zs.take (k + 1))) := by rw [HT.out]; exact Lib.hid (hs.out.put hx8)
        have HE : Hid (Q.dif (zs.take (k + 1)) = Q.dif (zs.take k) + 1) := by show _ = _; rw [HT.out, HD.out, if_neg hm]
        have HB' := Lib.hid (hb.out.setCell (p := ⟨w.heap.size, x, none⟩) (Nat.le_refl _) (.bool true))
        rw [decide_eq_false hm] at hcS
        clear hm hs hx hb HT HD
        generalize Q.dif (zs.take k) = q at *
        go_wp2
        go_roundw
        case rel => exact ⟨k + 1, by omega, by go_num, by rw [HE.out]; go_num, HS.out, HB'.out⟩
        case measure => simp [intOf]; omega
    · have hke : k = zs.length := by omega
      have hltI : ¬ (k : Int) < (zs.length : Int) := by omega
      have HF : Hid (zs.take k = zs) := by show _ = _; rw [hke, List.take_length]
      clear hke
      go_wp2
      go_ret
      exact ⟨by rw [HF.out]; rfl, hb.out⟩
end Go.Proofs.Ytndjpkeenbbgiab
