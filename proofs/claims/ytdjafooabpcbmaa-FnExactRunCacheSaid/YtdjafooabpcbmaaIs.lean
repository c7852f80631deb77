/-
  The code's differentItems. The code's tests of a cache: hasMarks, hasValidMarks, isFull, hasValidHand. The code's tests of a cache: isFull, hasValidHand. The code's IsCache: whether a cache is valid. The code's NewCache and startOf: the empty cache with which a run begins.
-/
import Derived.Test.YtdjafooabpcbmaaBa
import Derived.Test.YtdjafooabpcbmaaMsa
import Derived.Test.YtdjafooabpcbmaaQs
import Derived.Test.YtdjafooabpcbmaaCm
/- The code's differentItems. -/
namespace Go.Proofs.Ytdjafooabpcbmaa
open Go.RowKit
set_option linter.unusedVariables false
/-- The cells of 'seen' behind the numbers l. -/
def seenCells (l : List Int) : List Value := (List.range 8).map fun (x : Nat) => .bool (decide ((x : Int) ∈ l))
def Seen8 (W : World) (g : Nat) (l : List Int) : Prop := ∀ x : Nat, x < 8 → W.cell? ⟨g, x, none⟩ = some (.bool (decide ((x : Int) ∈ l))) ∧ W.frozen? ⟨g, x, none⟩ = false
theorem Seen8.put {W : World} {g : Nat} {l : List Int} (h : Seen8 W g l) {x : Nat} (hx : x < 8) : Seen8 (W.setCell ⟨g, x, none⟩ (.bool true)) g (l ++ [(x : Int)]) := fun y hy => by
  refine ⟨?_, by simpa using (h y hy).2⟩
  by_cases e : y = x
  · subst e
    rw [World.cell?_setCell_same _ _ _ (h y hy).1]
    simp
  · rw [World.cell?_setCell_other _ _ _ _ (fun h => by injection h with _ h; exact e (by omega)), (h y hy).1]
    have : ((y : Int) ∈ l ++ [(x : Int)]) ↔ (y : Int) ∈ l := by simp; omega
    simp [this]
theorem Seen8.same {W : World} {g : Nat} {l : List Int} (h : Seen8 W g l) {x : Nat} (hx : (x : Int) ∈ l) : Seen8 W g (l ++ [(x : Int)]) := fun y hy => by
  rw [show decide ((y : Int) ∈ l ++ [(x : Int)]) = decide ((y : Int) ∈ l) from by
    rw [decide_eq_decide]
    constructor
    · intro h
      rcases List.mem_append.1 h with h | h
      · exact h
      · rw [List.mem_singleton.1 h]; exact hx
    · exact fun h => List.mem_append_left _ h]
  exact h y hy
set_option maxHeartbeats 1600000 in
theorem difItems_any (A : Option Addr) (c : Nat) (zs : List Int) (w : World) (h3 : zs.length ≤ 60) (hx : ∀ k, k < zs.length → ∃ x : Nat, zs[k]? = some (x : Int) ∧ x < 8) (hr : Law.Row w A (ivs zs)) :
    Calls Try.prog 91 #[.slice A zs.length c] w fun e w' => e = .returned (.int .i64 (Q.dif zs : Nat)) ∧ Below w.heap.size w w' := by
  have HR := Lib.hid hr
  have HX := Lib.hid hx
  clear hr hx
  go_enter Try.func91, Try.ntmps91
  go_wp2
  go_loopw [4, 9] (fun c i wr => ∃ k : Nat, k ≤ zs.length ∧ i = .int .i64 k ∧ c = .int .i64 (Q.dif (zs.take k) : Nat) ∧ Hid (Seen8 wr w.heap.size (zs.take k)) ∧ Hid (Below w.heap.size w wr)) (fun _ i _ => zs.length - (intOf i).toNat)
  case atStart =>
    refine ⟨0, Nat.zero_le _, rfl, rfl, fun x hx => ?_, (Below.refl _ _).alloc (Nat.le_refl _) _⟩
    match x, hx with
    | 0, _ => exact ⟨by simp, by simp⟩
    | 1, _ => exact ⟨by simp, by simp⟩
    | 2, _ => exact ⟨by simp, by simp⟩
    | 3, _ => exact ⟨by simp, by simp⟩
    | 4, _ => exact ⟨by simp, by simp⟩
    | 5, _ => exact ⟨by simp, by simp⟩
    | 6, _ => exact ⟨by simp, by simp⟩
    | 7, _ => exact ⟨by simp, by simp⟩
  case round =>
    obtain ⟨k, hk, rfl, rfl, hs, hb⟩ := hrel
    by_cases hlt : k < zs.length
    · obtain ⟨x, hx, hx8⟩ := HX.out k hlt
      obtain ⟨b, off, rfl, hbl, hc⟩ := (HR.out.stays hb.out).at_ (ivs_some hx)
      have hltI : (k : Int) < (zs.length : Int) := by omega
      have hxI : (x : Int) < 8 := by omega
      obtain ⟨hcS, hfS⟩ := hs.out x hx8
      have HT := Lib.hid (Q.take_snoc hx)
      have HD := Lib.hid (Q.dif_snoc (zs.take k) (x : Int))
      have hq : Q.dif (zs.take k) ≤ 60 := Nat.le_trans (Q.dif_le _) (by rw [List.length_take]; omega)
      by_cases hm : (x : Int) ∈ zs.take k
      · have HS : Hid (Seen8 wr w.heap.size (zs.take (k + 1))) := by rw [HT.out]; exact Lib.hid (hs.out.same hm)
        have HE : Hid (Q.dif (zs.take (k + 1)) = Q.dif (zs.take k)) := by show _ = _; rw [HT.out, HD.out, if_pos hm]; rfl
        rw [decide_eq_true hm] at hcS
        clear hm hs hx HT HD
        generalize Q.dif (zs.take k) = q at *
        go_wp2
        go_roundw
        case rel => exact ⟨k + 1, by omega, by go_num, by rw [HE.out], HS.out, hb.out⟩
        case measure => simp [intOf]; omega
      · have HS : Hid (Seen8 (wr.setCell ⟨w.heap.size, x, none⟩ (.bool true)) w.heap.size (zs.take (k + 1))) := by rw [HT.out]; exact Lib.hid (hs.out.put hx8)
        have HE : Hid (Q.dif (zs.take (k + 1)) = Q.dif (zs.take k) + 1) := by show _ = _; rw [HT.out, HD.out, if_neg hm]
        have HB' := Lib.hid (hb.out.setCell (p := ⟨w.heap.size, x, none⟩) (Nat.le_refl _) (.bool true))
        rw [decide_eq_false hm] at hcS
        clear hm hs hx hb HT HD
        generalize Q.dif (zs.take k) = q at *
        go_wp2
        go_roundw
        case rel => exact ⟨k + 1, by omega, by go_num, by rw [HE.out]; go_num, HS.out, HB'.out⟩
        case measure => simp [intOf]; omega
    · have hke : k = zs.length := by omega
      have hltI : ¬ (k : Int) < (zs.length : Int) := by omega
      have HF : Hid (zs.take k = zs) := by show _ = _; rw [hke, List.take_length]
      clear hke
      go_wp2
      go_ret
      exact ⟨by rw [HF.out]; rfl, hb.out⟩
end Go.Proofs.Ytdjafooabpcbmaa

/- The code's tests of a cache: hasMarks, hasValidMarks, isFull, hasValidHand. -/
namespace Go.Proofs.Ytdjafooabpcbmaa
open Go.RowKit
set_option linter.unusedVariables false
noncomputable def bo (P : Prop) : Bool := @decide P (Classical.propDecidable P)
theorem bo_true {P : Prop} (h : P) : bo P = true := by unfold bo; simp [h]
theorem bo_false {P : Prop} (h : ¬ P) : bo P = false := by unfold bo; simp [h]
theorem bo_iff {P Q : Prop} (h : P ↔ Q) : bo P = bo Q := by
  rw [propext h]
def marksP (p : Int) (ps ms : List Int) : Prop := if p = 5 then ms.length = ps.length ∧ ∀ z ∈ ms, 1 ≤ z ∧ z ≤ 60 else if p = 6 then ms.length = ps.length ∧ ∀ z ∈ ms, 0 ≤ z ∧ z ≤ 1 else ms = []
def handP (p s : Int) (n : Nat) (h : Int) : Prop := if p = 6 ∧ (n : Int) = s then 0 ≤ h ∧ h < s else h = 0
theorem okC_iff (n : Int) (c : Ca) : Q.okC n c ↔ (1 ≤ n ∧ n ≤ 8) ∧ (1 ≤ c.p ∧ c.p ≤ 7) ∧ (1 ≤ c.s ∧ c.s ≤ 6) ∧ (c.ps.length : Int) ≤ c.s ∧ (∀ z ∈ c.ps, 0 ≤ z ∧ z ≤ n - 1) ∧ c.ps.Nodup ∧ marksP c.p c.ps c.ms ∧ handP c.p c.s c.ps.length c.h := Iff.rfl
theorem impHasMarks_any (p : Int) (w : World) : Calls Try.prog 113 #[.int .i64 p] w fun e w' => e = .returned (.bool ((p == 5) || (p == 6))) ∧ w' = w := by
  cases h5 : (p == 5)
  · go_enter Try.func113, Try.ntmps113
    go_wp2
    go_ret
    exact ⟨rfl, rfl⟩
  · go_enter Try.func113, Try.ntmps113
    go_wp2
    go_ret
    exact ⟨rfl, rfl⟩
section
variable {W : World} {A B : Option Addr} {d e : Nat} {c : Ca}
set_option maxRecDepth 20000 in
set_option maxHeartbeats 1600000 in
theorem validMarks_5 (h : CaIn W A d B e c) (hp : c.p = 5) (hl : c.ms.length ≤ 1048576) (hl2 : c.ps.length ≤ 1048576) : Calls Try.prog 105 #[caV c A d B e] W fun r W' => r = .returned (.bool (bo (marksP c.p c.ps c.ms))) ∧ Below W.heap.size W W' := by
  have HM : Hid (∀ X, Calls Try.prog 113 #[.int .i64 5] X fun e w' => e = .returned (.bool true) ∧ w' = X) := Lib.hid fun X => impHasMarks_any 5 X
  have HP : Hid (bo (marksP c.p c.ps c.ms) = bo (c.ms.length = c.ps.length ∧ ∀ z ∈ c.ms, 1 ≤ z ∧ z ≤ 60)) := by show _ = _; rw [hp]; rfl
  have HR := Lib.hid h.2.2.2
  have HE := Lib.hid (show caV c A d B e = .agg #[.int .i64 5, .int .i64 c.s, .slice A c.ps.length d, .slice B c.ms.length e, .int .i64 c.h] by rw [← hp]; rfl)
  rw [HE.out]
  clear h hp
  go_enter Try.func105, Try.ntmps105
  go_wp2_with fail
  have hb0 : Below W.heap.size W (W.alloc (.cells #[.int .i64 5, .int .i64 c.s, .slice A c.ps.length d, .slice B c.ms.length e, .int .i64 c.h] 26)) := (Below.refl _ _).alloc (Nat.le_refl _) _
  have HB := Lib.hid (blk5_of (heap_alloc_new W (.cells #[.int .i64 5, .int .i64 c.s, .slice A c.ps.length d, .slice B c.ms.length e, .int .i64 c.h] 26)))
  have HB0 := Lib.hid hb0
  have HR1 := Lib.hid (HR.out.stays hb0)
  generalize W.alloc (.cells #[.int .i64 5, .int .i64 c.s, .slice A c.ps.length d, .slice B c.ms.length e, .int .i64 c.h] 26) = X at HB HB0 HR1 ⊢
  clear hb0
  go_at_call 113
  refine (HM.out _).mono ?_
  rintro r w' ⟨rfl, hw'⟩
  obtain rfl := hw'.symm
  clear hw'
  obtain ⟨c0, c1, c2, c3, c4, f0, f1, f2, f3, f4⟩ := HB.out
  go_wp2_with fail
  go_loop [21] (fun i => ∃ k : Nat, k ≤ c.ms.length ∧ i = .int .i64 k ∧ Hid (∀ j y, j < k → c.ms[j]? = some y → 1 ≤ y ∧ y ≤ 60)) (fun i => c.ms.length - (intOf i).toNat)
  case atStart => exact ⟨0, Nat.zero_le _, rfl, fun j y h => by omega⟩
  case round =>
    obtain ⟨k, hk, rfl, hall⟩ := hrel
    by_cases hlt : k < c.ms.length
    · have hltI : (k : Int) < (c.ms.length : Int) := by omega
      obtain ⟨y, hy⟩ : ∃ y, c.ms[k]? = some y := ⟨_, List.getElem?_eq_getElem hlt⟩
      obtain ⟨b, off, rfl, hbl, hc⟩ := HR1.out.at_ (ivs_some hy)
      have HY := Lib.hid hy
      clear hy
      by_cases hlo : y < 1
      · have HN : Hid (bo (c.ms.length = c.ps.length ∧ ∀ z ∈ c.ms, 1 ≤ z ∧ z ≤ 60) = false) := bo_false fun h => by have := h.2 y (List.mem_of_getElem? HY.out); omega
        clear hall
        go_wp2
        go_ret
        exact ⟨by rw [HP.out, HN.out]; rfl, HB0.out⟩
      · by_cases hhi : 60 < y
        · have HN : Hid (bo (c.ms.length = c.ps.length ∧ ∀ z ∈ c.ms, 1 ≤ z ∧ z ≤ 60) = false) := bo_false fun h => by have := h.2 y (List.mem_of_getElem? HY.out); omega
          clear hall
          go_wp2
          go_ret
          exact ⟨by rw [HP.out, HN.out]; rfl, HB0.out⟩
        · have HN : Hid (∀ j z, j < k + 1 → c.ms[j]? = some z → 1 ≤ z ∧ z ≤ 60) := fun j z hj hz => by
            rcases Nat.lt_or_ge j k with h | h
            · exact hall.out j z h hz
            · obtain rfl : j = k := by omega
              rw [HY.out] at hz
              injection hz with hz
              omega
          clear hall
          go_wp2
          go_round
          case rel => exact ⟨k + 1, by omega, by go_num, HN.out⟩
          case measure => simp [intOf]; omega
    · have hke : k = c.ms.length := by omega
      have hltI : ¬ (k : Int) < (c.ms.length : Int) := by omega
      have HA : Hid (∀ z ∈ c.ms, 1 ≤ z ∧ z ≤ 60) := fun z hz => by
        obtain ⟨j, hj⟩ := List.getElem?_of_mem hz
        have := (List.getElem?_eq_some_iff.1 hj).1
        exact hall.out j z (by omega) hj
      clear hall hke
      by_cases heq : c.ms.length = c.ps.length
      · have HN : Hid (bo (c.ms.length = c.ps.length ∧ ∀ z ∈ c.ms, 1 ≤ z ∧ z ≤ 60) = true) := bo_true ⟨heq, HA.out⟩
        have heb : ((c.ms.length : Int) == (c.ps.length : Int)) = true := by rw [heq]; simp
        clear heq
        go_wp2
        go_ret
        exact ⟨by rw [HP.out, HN.out]; first | rfl | simp, HB0.out⟩
      · have HN : Hid (bo (c.ms.length = c.ps.length ∧ ∀ z ∈ c.ms, 1 ≤ z ∧ z ≤ 60) = false) := bo_false fun h => heq h.1
        have heb : ((c.ms.length : Int) == (c.ps.length : Int)) = false := by simp; omega
        clear heq
        go_wp2
        go_ret
        exact ⟨by rw [HP.out, HN.out]; first | rfl | simp, HB0.out⟩
set_option maxRecDepth 20000 in
set_option maxHeartbeats 1600000 in
theorem validMarks_6 (h : CaIn W A d B e c) (hp : c.p = 6) (hl : c.ms.length ≤ 1048576) (hl2 : c.ps.length ≤ 1048576) : Calls Try.prog 105 #[caV c A d B e] W fun r W' => r = .returned (.bool (bo (marksP c.p c.ps c.ms))) ∧ Below W.heap.size W W' := by
  have HM : Hid (∀ X, Calls Try.prog 113 #[.int .i64 6] X fun e w' => e = .returned (.bool true) ∧ w' = X) := Lib.hid fun X => impHasMarks_any 6 X
  have HP : Hid (bo (marksP c.p c.ps c.ms) = bo (c.ms.length = c.ps.length ∧ ∀ z ∈ c.ms, 0 ≤ z ∧ z ≤ 1)) := by show _ = _; rw [hp]; rfl
  have HR := Lib.hid h.2.2.2
  have HE := Lib.hid (show caV c A d B e = .agg #[.int .i64 6, .int .i64 c.s, .slice A c.ps.length d, .slice B c.ms.length e, .int .i64 c.h] by rw [← hp]; rfl)
  rw [HE.out]
  clear h hp
  go_enter Try.func105, Try.ntmps105
  go_wp2_with fail
  have hb0 : Below W.heap.size W (W.alloc (.cells #[.int .i64 6, .int .i64 c.s, .slice A c.ps.length d, .slice B c.ms.length e, .int .i64 c.h] 26)) := (Below.refl _ _).alloc (Nat.le_refl _) _
  have HB := Lib.hid (blk5_of (heap_alloc_new W (.cells #[.int .i64 6, .int .i64 c.s, .slice A c.ps.length d, .slice B c.ms.length e, .int .i64 c.h] 26)))
  have HB0 := Lib.hid hb0
  have HR1 := Lib.hid (HR.out.stays hb0)
  generalize W.alloc (.cells #[.int .i64 6, .int .i64 c.s, .slice A c.ps.length d, .slice B c.ms.length e, .int .i64 c.h] 26) = X at HB HB0 HR1 ⊢
  clear hb0
  go_at_call 113
  refine (HM.out _).mono ?_
  rintro r w' ⟨rfl, hw'⟩
  obtain rfl := hw'.symm
  clear hw'
  obtain ⟨c0, c1, c2, c3, c4, f0, f1, f2, f3, f4⟩ := HB.out
  go_wp2_with fail
  go_loop [21] (fun i => ∃ k : Nat, k ≤ c.ms.length ∧ i = .int .i64 k ∧ Hid (∀ j y, j < k → c.ms[j]? = some y → 0 ≤ y ∧ y ≤ 1)) (fun i => c.ms.length - (intOf i).toNat)
  case atStart => exact ⟨0, Nat.zero_le _, rfl, fun j y h => by omega⟩
  case round =>
    obtain ⟨k, hk, rfl, hall⟩ := hrel
    by_cases hlt : k < c.ms.length
    · have hltI : (k : Int) < (c.ms.length : Int) := by omega
      obtain ⟨y, hy⟩ : ∃ y, c.ms[k]? = some y := ⟨_, List.getElem?_eq_getElem hlt⟩
      obtain ⟨b, off, rfl, hbl, hc⟩ := HR1.out.at_ (ivs_some hy)
      have HY := Lib.hid hy
      clear hy
      by_cases hlo : y < 0
      · have HN : Hid (bo (c.ms.length = c.ps.length ∧ ∀ z ∈ c.ms, 0 ≤ z ∧ z ≤ 1) = false) := bo_false fun h => by have := h.2 y (List.mem_of_getElem? HY.out); omega
        clear hall
        go_wp2
        go_ret
        exact ⟨by rw [HP.out, HN.out]; rfl, HB0.out⟩
      · by_cases hhi : 1 < y
        · have HN : Hid (bo (c.ms.length = c.ps.length ∧ ∀ z ∈ c.ms, 0 ≤ z ∧ z ≤ 1) = false) := bo_false fun h => by have := h.2 y (List.mem_of_getElem? HY.out); omega
          clear hall
          go_wp2
          go_ret
          exact ⟨by rw [HP.out, HN.out]; rfl, HB0.out⟩
        · have HN : Hid (∀ j z, j < k + 1 → c.ms[j]? = some z → 0 ≤ z ∧ z ≤ 1) := fun j z hj hz => by
            rcases Nat.lt_or_ge j k with h | h
            · exact hall.out j z h hz
            · obtain rfl : j = k := by omega
              rw [HY.out] at hz
              injection hz with hz
              omega
          clear hall
          go_wp2
          go_round
          case rel => exact ⟨k + 1, by omega, by go_num, HN.out⟩
          case measure => simp [intOf]; omega
    · have hke : k = c.ms.length := by omega
      have hltI : ¬ (k : Int) < (c.ms.length : Int) := by omega
      have HA : Hid (∀ z ∈ c.ms, 0 ≤ z ∧ z ≤ 1) := fun z hz => by
        obtain ⟨j, hj⟩ := List.getElem?_of_mem hz
        have := (List.getElem?_eq_some_iff.1 hj).1
        exact hall.out j z (by omega) hj
      clear hall hke
      by_cases heq : c.ms.length = c.ps.length
      · have HN : Hid (bo (c.ms.length = c.ps.length ∧ ∀ z ∈ c.ms, 0 ≤ z ∧ z ≤ 1) = true) := bo_true ⟨heq, HA.out⟩
        have heb : ((c.ms.length : Int) == (c.ps.length : Int)) = true := by rw [heq]; simp
        clear heq
        go_wp2
        go_ret
        exact ⟨by rw [HP.out, HN.out]; first | rfl | simp, HB0.out⟩
      · have HN : Hid (bo (c.ms.length = c.ps.length ∧ ∀ z ∈ c.ms, 0 ≤ z ∧ z ≤ 1) = false) := bo_false fun h => heq h.1
        have heb : ((c.ms.length : Int) == (c.ps.length : Int)) = false := by simp; omega
        clear heq
        go_wp2
        go_ret
        exact ⟨by rw [HP.out, HN.out]; first | rfl | simp, HB0.out⟩
set_option maxRecDepth 20000 in
set_option maxHeartbeats 1600000 in
theorem validMarks_no (hp5 : c.p ≠ 5) (hp6 : c.p ≠ 6) : Calls Try.prog 105 #[caV c A d B e] W fun r W' => r = .returned (.bool (bo (marksP c.p c.ps c.ms))) ∧ Below W.heap.size W W' := by
  have HM : Hid (∀ X, Calls Try.prog 113 #[.int .i64 c.p] X fun e w' => e = .returned (.bool false) ∧ w' = X) := Lib.hid fun X => by
    have := impHasMarks_any c.p X
    rw [show ((c.p == 5) || (c.p == 6)) = false by simp; omega] at this
    exact this
  have HP : Hid (bo (marksP c.p c.ps c.ms) = bo (c.ms = [])) := by show _ = _; unfold marksP; rw [if_neg hp5, if_neg hp6]
  unfold caV
  clear hp5 hp6
  cases hms : (((c.ms.length : Int)) == 0)
  · have HN : Hid (bo (c.ms = []) = false) := bo_false fun h => by rw [h] at hms; simp at hms
    go_enter Try.func105, Try.ntmps105
    go_wp2_with fail
    go_at_call 113
    refine (HM.out _).mono ?_
    rintro e w' ⟨rfl, hw'⟩
    obtain rfl := hw'.symm
    clear hw'
    go_wp2
    go_ret
    exact ⟨by rw [HP.out, HN.out]; first | rfl | simp, (Below.refl _ _).alloc (Nat.le_refl _) _⟩
  · have HN : Hid (bo (c.ms = []) = true) := bo_true (by have : c.ms.length = 0 := by simpa using hms
                                                         exact List.eq_nil_of_length_eq_zero this)
    go_enter Try.func105, Try.ntmps105
    go_wp2_with fail
    go_at_call 113
    refine (HM.out _).mono ?_
    rintro e w' ⟨rfl, hw'⟩
    obtain rfl := hw'.symm
    clear hw'
    go_wp2
    go_ret
    exact ⟨by rw [HP.out, HN.out]; first | rfl | simp, (Below.refl _ _).alloc (Nat.le_refl _) _⟩
theorem validMarks_any (h : CaIn W A d B e c) (hl : c.ms.length ≤ 1048576) (hl2 : c.ps.length ≤ 1048576) : Calls Try.prog 105 #[caV c A d B e] W fun r W' => r = .returned (.bool (bo (marksP c.p c.ps c.ms))) ∧ Below W.heap.size W W' := by
  by_cases h5 : c.p = 5
  · exact validMarks_5 h h5 hl hl2
  · by_cases h6 : c.p = 6
    · exact validMarks_6 h h6 hl hl2
    · exact validMarks_no h5 h6
end
end Go.Proofs.Ytdjafooabpcbmaa

/- The code's tests of a cache: isFull, hasValidHand. -/
namespace Go.Proofs.Ytdjafooabpcbmaa
open Go.RowKit
set_option linter.unusedVariables false
theorem impFull_any (W : World) (c : Ca) (A B : Option Addr) (d e : Nat) : Calls Try.prog 111 #[caV c A d B e] W fun r W' => r = .returned (.bool ((c.ps.length : Int) == c.s)) ∧ Below W.heap.size W W' := by
  unfold caV
  go_enter Try.func111, Try.ntmps111
  go_wp2
  go_ret
  exact ⟨rfl, (Below.refl _ _).alloc (Nat.le_refl _) _⟩
set_option maxRecDepth 20000 in
set_option maxHeartbeats 1600000 in
theorem validHand_any (W : World) (c : Ca) (A B : Option Addr) (d e : Nat) : Calls Try.prog 106 #[caV c A d B e] W fun r W' => r = .returned (.bool (bo (handP c.p c.s c.ps.length c.h))) ∧ Below W.heap.size W W' := by
  by_cases h6 : c.p = 6
  · have HE := Lib.hid (show caV c A d B e = .agg #[.int .i64 6, .int .i64 c.s, .slice A c.ps.length d, .slice B c.ms.length e, .int .i64 c.h] by rw [← h6]; rfl)
    rw [HE.out]
    cases hf : ((c.ps.length : Int) == c.s)
    · have HN : Hid (bo (handP c.p c.s c.ps.length c.h) = (c.h == 0)) := by
        show _ = _
        have hf' : (c.ps.length : Int) ≠ c.s := by simpa using hf
        unfold handP
        rw [if_neg (fun h => hf' h.2)]
        by_cases h0 : c.h = 0
        · rw [bo_true h0]; simp [h0]
        · rw [bo_false h0]; simp [h0]
      clear h6
      go_enter Try.func106, Try.ntmps106
      go_wp2
      go_ret
      exact ⟨by rw [HN.out]; rfl, ((Below.refl _ _).alloc (Nat.le_refl _) _).alloc (by simp) _⟩
    · have HN : Hid (bo (handP c.p c.s c.ps.length c.h) = bo (0 ≤ c.h ∧ c.h < c.s)) := by
        show _ = _
        unfold handP
        rw [if_pos ⟨h6, by simpa using hf⟩]
      clear h6
      by_cases h0 : 0 ≤ c.h
      · have HN2 : Hid (bo (0 ≤ c.h ∧ c.h < c.s) = decide (c.h < c.s)) := by
          show _ = _
          by_cases h1 : c.h < c.s
          · rw [bo_true ⟨h0, h1⟩]; simp [h1]
          · rw [bo_false fun h => h1 h.2]; simp [h1]
        go_enter Try.func106, Try.ntmps106
        go_wp2
        go_ret
        exact ⟨by rw [HN.out, HN2.out]; rfl, ((Below.refl _ _).alloc (Nat.le_refl _) _).alloc (by simp) _⟩
      · have HN2 : Hid (bo (0 ≤ c.h ∧ c.h < c.s) = false) := bo_false fun h => h0 h.1
        go_enter Try.func106, Try.ntmps106
        go_wp2
        go_ret
        exact ⟨by rw [HN.out, HN2.out]; rfl, ((Below.refl _ _).alloc (Nat.le_refl _) _).alloc (by simp) _⟩
  · have HN : Hid (bo (handP c.p c.s c.ps.length c.h) = (c.h == 0)) := by
      show _ = _
      unfold handP
      rw [if_neg (fun h => h6 h.1)]
      by_cases h0 : c.h = 0
      · rw [bo_true h0]; simp [h0]
      · rw [bo_false h0]; simp [h0]
    unfold caV
    go_enter Try.func106, Try.ntmps106
    go_wp2
    go_ret
    exact ⟨by rw [HN.out]; rfl, (Below.refl _ _).alloc (Nat.le_refl _) _⟩
end Go.Proofs.Ytdjafooabpcbmaa

/- The code's IsCache: whether a cache is valid. -/
namespace Go.Proofs.Ytdjafooabpcbmaa
open Go.RowKit
set_option linter.unusedVariables false
theorem Q.dif_nodup (l : List Int) : Q.dif l = l.length ↔ l.Nodup := by
  have key : ∀ m : List Int, Q.difR m ≤ m.length ∧ (Q.difR m = m.length ↔ m.Nodup) := by
    intro m
    induction m with
    | nil => simp [Q.difR]
    | cons x m ih =>
      obtain ⟨h1, h2⟩ := ih
      unfold Q.difR
      by_cases hx : x ∈ m
      · simp [hx]; omega
      · simp [hx, ← h2]; omega
  have := (key l.reverse).2
  rw [(List.reverse_perm l).nodup_iff, List.length_reverse] at this
  exact this
/-- What IsCache answers. -/
def isSays (n : Int) (c : Ca) (W : World) (r : Ending) (W' : World) : Prop := r = .returned (.bool (bo (Q.okC n c))) ∧ Below W.heap.size W W'
section
variable {W : World} {A B : Option Addr} {d e : Nat} {c : Ca}
set_option maxRecDepth 20000 in
set_option maxHeartbeats 3200000 in
theorem impIsCache_any (n : Int) (h : CaIn W A d B e c) (hl : c.ps.length ≤ 1048576) (hl2 : c.ms.length ≤ 1048576) : Calls Try.prog 66 #[.int .i64 n, caV c A d B e] W (isSays n c W) := by
  have HG : Hid (∀ X, Below W.heap.size W X → Calls Try.prog 67 #[.int .i64 n, .slice A c.ps.length d] X fun e w' => e = .returned (.bool (Q.good n c.ps)) ∧ w' = X) := Lib.hid fun X hb => impIsReq_any n A d c.ps X hl (h.1.2.2.stays hb)
  have HP := Lib.hid fun X => isPolicy_any c.p X
  have HS := Lib.hid fun X => isSize_any c.s X
  have HMk := Lib.hid fun X (hb : Below W.heap.size W X) => validMarks_any (h.stays hb) hl2 hl
  have HHd := Lib.hid fun X => validHand_any X c A B d e
  have HQ := Lib.hid (okC_iff n c)
  have HR := Lib.hid h.1.2.2
  unfold isSays
  unfold caV at HMk HHd ⊢
  clear h
  cases hp : Q.okP c.p
  · have HN : Hid (bo (Q.okC n c) = false) := bo_false fun h => by have := Q.okP_iff.2 (HQ.out.1 h).2.1; rw [hp] at this; cases this
    rw [hp] at HP
    clear hp
    go_enter Try.func66, Try.ntmps66
    go_wp2_with fail
    have HB0 : Hid (Below W.heap.size W (W.alloc (.cells #[.int .i64 c.p, .int .i64 c.s, .slice A c.ps.length d, .slice B c.ms.length e, .int .i64 c.h] 26))) := (Below.refl _ _).alloc (Nat.le_refl _) _
    have HBB := Lib.hid (blk5_of (heap_alloc_new W (.cells #[.int .i64 c.p, .int .i64 c.s, .slice A c.ps.length d, .slice B c.ms.length e, .int .i64 c.h] 26)))
    generalize W.alloc (.cells #[.int .i64 c.p, .int .i64 c.s, .slice A c.ps.length d, .slice B c.ms.length e, .int .i64 c.h] 26) = X at HB0 HBB ⊢
    go_at_call 80
    refine (HP.out _).mono ?_
    rintro r w' ⟨rfl, hw'⟩
    obtain rfl := hw'.symm
    clear hw'
    obtain ⟨c0, c1, c2, c3, c4, f0, f1, f2, f3, f4⟩ := HBB.out
    go_wp2
    go_ret
    exact ⟨by rw [HN.out]; rfl, HB0.out⟩
  · rw [hp] at HP
    have hp' := Q.okP_iff.1 hp
    clear hp
    cases hs : Q.okS c.s
    · have HN : Hid (bo (Q.okC n c) = false) := bo_false fun h => by have := Q.okS_iff.2 (HQ.out.1 h).2.2.1; rw [hs] at this; cases this
      rw [hs] at HS
      clear hs hp'
      go_enter Try.func66, Try.ntmps66
      go_wp2_with fail
      have HB0 : Hid (Below W.heap.size W (W.alloc (.cells #[.int .i64 c.p, .int .i64 c.s, .slice A c.ps.length d, .slice B c.ms.length e, .int .i64 c.h] 26))) := (Below.refl _ _).alloc (Nat.le_refl _) _
      have HBB := Lib.hid (blk5_of (heap_alloc_new W (.cells #[.int .i64 c.p, .int .i64 c.s, .slice A c.ps.length d, .slice B c.ms.length e, .int .i64 c.h] 26)))
      generalize W.alloc (.cells #[.int .i64 c.p, .int .i64 c.s, .slice A c.ps.length d, .slice B c.ms.length e, .int .i64 c.h] 26) = X at HB0 HBB ⊢
      go_at_call 80
      refine (HP.out _).mono ?_
      rintro r w' ⟨rfl, hw'⟩
      obtain rfl := hw'.symm
      clear hw'
      obtain ⟨c0, c1, c2, c3, c4, f0, f1, f2, f3, f4⟩ := HBB.out
      go_wp2_with fail
      go_at_call 104
      refine (HS.out _).mono ?_
      rintro r w' ⟨rfl, hw'⟩
      obtain rfl := hw'.symm
      clear hw'
      go_wp2
      go_ret
      exact ⟨by rw [HN.out]; rfl, HB0.out⟩
    · rw [hs] at HS
      have hs' := Q.okS_iff.1 hs
      clear hs
      by_cases hlen : c.s < (c.ps.length : Int)
      · have HN : Hid (bo (Q.okC n c) = false) := bo_false fun h => by have := (HQ.out.1 h).2.2.2.1; omega
        clear hp' hs'
        go_enter Try.func66, Try.ntmps66
        go_wp2_with fail
        have HB0 : Hid (Below W.heap.size W (W.alloc (.cells #[.int .i64 c.p, .int .i64 c.s, .slice A c.ps.length d, .slice B c.ms.length e, .int .i64 c.h] 26))) := (Below.refl _ _).alloc (Nat.le_refl _) _
        have HBB := Lib.hid (blk5_of (heap_alloc_new W (.cells #[.int .i64 c.p, .int .i64 c.s, .slice A c.ps.length d, .slice B c.ms.length e, .int .i64 c.h] 26)))
        generalize W.alloc (.cells #[.int .i64 c.p, .int .i64 c.s, .slice A c.ps.length d, .slice B c.ms.length e, .int .i64 c.h] 26) = X at HB0 HBB ⊢
        go_at_call 80
        refine (HP.out _).mono ?_
        rintro r w' ⟨rfl, hw'⟩
        obtain rfl := hw'.symm
        clear hw'
        obtain ⟨c0, c1, c2, c3, c4, f0, f1, f2, f3, f4⟩ := HBB.out
        go_wp2_with fail
        go_at_call 104
        refine (HS.out _).mono ?_
        rintro r w' ⟨rfl, hw'⟩
        obtain rfl := hw'.symm
        clear hw'
        go_wp2
        go_ret
        exact ⟨by rw [HN.out]; rfl, HB0.out⟩
      · cases hg : Q.good n c.ps
        · have HN : Hid (bo (Q.okC n c) = false) := bo_false fun h => by
            have h' := HQ.out.1 h
            have := Q.good_iff.2 ⟨h'.1, by have := h'.2.2.2.1; omega, h'.2.2.2.2.1⟩
            rw [hg] at this; cases this
          rw [hg] at HG
          clear hg hp'
          go_enter Try.func66, Try.ntmps66
          go_wp2_with fail
          have HB0 : Hid (Below W.heap.size W (W.alloc (.cells #[.int .i64 c.p, .int .i64 c.s, .slice A c.ps.length d, .slice B c.ms.length e, .int .i64 c.h] 26))) := (Below.refl _ _).alloc (Nat.le_refl _) _
          have HBB := Lib.hid (blk5_of (heap_alloc_new W (.cells #[.int .i64 c.p, .int .i64 c.s, .slice A c.ps.length d, .slice B c.ms.length e, .int .i64 c.h] 26)))
          generalize W.alloc (.cells #[.int .i64 c.p, .int .i64 c.s, .slice A c.ps.length d, .slice B c.ms.length e, .int .i64 c.h] 26) = X at HB0 HBB ⊢
          go_at_call 80
          refine (HP.out _).mono ?_
          rintro r w' ⟨rfl, hw'⟩
          obtain rfl := hw'.symm
          clear hw'
          obtain ⟨c0, c1, c2, c3, c4, f0, f1, f2, f3, f4⟩ := HBB.out
          go_wp2_with fail
          go_at_call 104
          refine (HS.out _).mono ?_
          rintro r w' ⟨rfl, hw'⟩
          obtain rfl := hw'.symm
          clear hw'
          go_wp2_with fail
          go_quiet ((go_at_call 67; exact Calls.quiet_of_same (HG.out _ (Law.up HB0.out _))))
          go_wp2
          go_ret
          exact ⟨by rw [HN.out]; rfl, Law.up HB0.out _⟩
        · rw [hg] at HG
          have hgi := Q.good_iff.1 hg
          have HD : Hid (∀ X, Below W.heap.size W X → Calls Try.prog 91 #[.slice A c.ps.length d] X fun e w' => e = .returned (.int .i64 (Q.dif c.ps : Nat)) ∧ Below X.heap.size X w') := Lib.hid fun X hb => difItems_any A d c.ps X (by omega) (fun k hk => by
            obtain ⟨N, hN, _, hN8, _, hx⟩ := Q.good_nat hg
            obtain ⟨x, hx1, hx2⟩ := hx k hk
            exact ⟨x, hx1, by omega⟩) (HR.out.stays hb)
          by_cases hd : Q.dif c.ps = c.ps.length
          · rw [hd] at HD
            have HN : Hid (bo (Q.okC n c) = bo (marksP c.p c.ps c.ms ∧ handP c.p c.s c.ps.length c.h)) := bo_iff ⟨fun h => (HQ.out.1 h).2.2.2.2.2.2, fun h => HQ.out.2 ⟨hgi.1, hp', hs', by omega, hgi.2.2, (Q.dif_nodup _).1 hd, h⟩⟩
            clear hg hd hgi hp'
            go_enter Try.func66, Try.ntmps66
            go_wp2_with fail
            have HB0 : Hid (Below W.heap.size W (W.alloc (.cells #[.int .i64 c.p, .int .i64 c.s, .slice A c.ps.length d, .slice B c.ms.length e, .int .i64 c.h] 26))) := (Below.refl _ _).alloc (Nat.le_refl _) _
            have HBB := Lib.hid (blk5_of (heap_alloc_new W (.cells #[.int .i64 c.p, .int .i64 c.s, .slice A c.ps.length d, .slice B c.ms.length e, .int .i64 c.h] 26)))
            generalize W.alloc (.cells #[.int .i64 c.p, .int .i64 c.s, .slice A c.ps.length d, .slice B c.ms.length e, .int .i64 c.h] 26) = X at HB0 HBB ⊢
            go_at_call 80
            refine (HP.out _).mono ?_
            rintro r w' ⟨rfl, hw'⟩
            obtain rfl := hw'.symm
            clear hw'
            obtain ⟨c0, c1, c2, c3, c4, f0, f1, f2, f3, f4⟩ := HBB.out
            go_wp2_with fail
            go_at_call 104
            refine (HS.out _).mono ?_
            rintro r w' ⟨rfl, hw'⟩
            obtain rfl := hw'.symm
            clear hw'
            go_wp2_with fail
            clear c0 c1 c2 c3 c4 f0 f1 f2 f3 f4
            obtain ⟨c0, c1, c2, c3, c4, _, _, _, _, _⟩ := HBB.out
            go_region_law ((first
              | (go_simp; go_at_call 67; refine (HG.out _ (HB0.out.drew)).mono ?_; rintro r w' ⟨rfl, hw'⟩; obtain rfl := hw'.symm; clear hw')
              | (go_simp; go_at_call 91; refine (HD.out _ (HB0.out.drew)).mono ?_; rintro r w1 ⟨rfl, hb1⟩; have hb1 := ((Below.refl X.heap.size X).drew).trans hb1; have HB1 := Lib.hid (HB0.out.trans (hb1.mono HB0.out.size)); have HBK := Lib.hid (HBB.out.kept (hb1.block W.heap.size (Law.cell_in c0))); obtain ⟨d0, d1, d2, d3, d4, _, _, _, _, _⟩ := HBK.out; clear hb1)))
            all_goals
              go_wp2_with fail
              go_at_call 105
              refine (HMk.out _ HB1.out).mono ?_
              rintro r w2 ⟨rfl, hb2⟩
              have HBL := Lib.hid (HBK.out.kept (hb2.block W.heap.size (Law.cell_in HBK.out.c0)))
              have HB2 := Lib.hid (HB1.out.trans (hb2.mono HB1.out.size))
              clear hb2
              obtain ⟨e0, e1, e2, e3, e4, _, _, _, _, _⟩ := HBL.out
              cases hmk : bo (marksP c.p c.ps c.ms)
              · have HN2 : Hid (bo (marksP c.p c.ps c.ms ∧ handP c.p c.s c.ps.length c.h) = false) := bo_false fun h => by rw [bo_true h.1] at hmk; cases hmk
                clear hmk
                go_wp2
                go_ret
                exact ⟨by rw [HN.out, HN2.out]; rfl, HB2.out⟩
              · have HN2 : Hid (bo (marksP c.p c.ps c.ms ∧ handP c.p c.s c.ps.length c.h) = bo (handP c.p c.s c.ps.length c.h)) := bo_iff ⟨fun h => h.2, fun h => ⟨Classical.byContradiction fun h' => (by rw [bo_false h'] at hmk; exact absurd hmk (by decide)), h⟩⟩
                clear hmk
                generalize bo (handP c.p c.s c.ps.length c.h) = y at HN2 HHd
                go_wp2_with fail
                go_at_call 106
                refine (HHd.out _).mono ?_
                rintro r w3 ⟨rfl, hb3⟩
                have HB3 := Lib.hid (HB2.out.trans (hb3.mono HB2.out.size))
                clear hb3
                go_wp2
                go_ret
                exact ⟨by rw [HN.out, HN2.out]; rfl, HB3.out⟩
          · have HN : Hid (bo (Q.okC n c) = false) := bo_false fun h => hd ((Q.dif_nodup _).2 (HQ.out.1 h).2.2.2.2.2.1)
            have hdI : ¬ ((Q.dif c.ps : Nat) : Int) = (c.ps.length : Int) := by omega
            have hdb : (((Q.dif c.ps : Nat) : Int) == (c.ps.length : Int)) = false := by simpa using hdI
            clear hg hd hgi hp'
            generalize Q.dif c.ps = q at *
            go_enter Try.func66, Try.ntmps66
            go_wp2_with fail
            have HB0 : Hid (Below W.heap.size W (W.alloc (.cells #[.int .i64 c.p, .int .i64 c.s, .slice A c.ps.length d, .slice B c.ms.length e, .int .i64 c.h] 26))) := (Below.refl _ _).alloc (Nat.le_refl _) _
            have HBB := Lib.hid (blk5_of (heap_alloc_new W (.cells #[.int .i64 c.p, .int .i64 c.s, .slice A c.ps.length d, .slice B c.ms.length e, .int .i64 c.h] 26)))
            generalize W.alloc (.cells #[.int .i64 c.p, .int .i64 c.s, .slice A c.ps.length d, .slice B c.ms.length e, .int .i64 c.h] 26) = X at HB0 HBB ⊢
            go_at_call 80
            refine (HP.out _).mono ?_
            rintro r w' ⟨rfl, hw'⟩
            obtain rfl := hw'.symm
            clear hw'
            obtain ⟨c0, c1, c2, c3, c4, f0, f1, f2, f3, f4⟩ := HBB.out
            go_wp2_with fail
            go_at_call 104
            refine (HS.out _).mono ?_
            rintro r w' ⟨rfl, hw'⟩
            obtain rfl := hw'.symm
            clear hw'
            go_wp2_with fail
            clear c0 c1 c2 c3 c4 f0 f1 f2 f3 f4
            obtain ⟨c0, c1, c2, c3, c4, _, _, _, _, _⟩ := HBB.out
            go_region_law ((first
              | (go_simp; go_at_call 67; refine (HG.out _ (HB0.out.drew)).mono ?_; rintro r w' ⟨rfl, hw'⟩; obtain rfl := hw'.symm; clear hw')
              | (go_simp; go_at_call 91; refine (HD.out _ (HB0.out.drew)).mono ?_; rintro r w1 ⟨rfl, hb1⟩; have hb1 := ((Below.refl X.heap.size X).drew).trans hb1; have HB1 := Lib.hid (HB0.out.trans (hb1.mono HB0.out.size)); have HBK := Lib.hid (HBB.out.kept (hb1.block W.heap.size (Law.cell_in c0))); obtain ⟨d0, d1, d2, d3, d4, _, _, _, _, _⟩ := HBK.out; clear hb1)))
            all_goals
              go_wp2
              go_ret
              exact ⟨by rw [HN.out]; rfl, HB1.out⟩
end
end Go.Proofs.Ytdjafooabpcbmaa

/- The code's NewCache and startOf: the empty cache with which a run begins. -/
namespace Go.Proofs.Ytdjafooabpcbmaa
open Go.RowKit
set_option linter.unusedVariables false
theorem Q.new_okC (n p s : Int) : Q.okC n (Q.newC p s) ↔ Q.okN n = true ∧ Q.sizes p s = true := by
  constructor
  · intro h
    have h' := (okC_iff n _).1 h
    refine ⟨Q.okN_iff.2 h'.1, ?_⟩
    have h2 := h'.2.1
    have h3 := h'.2.2.1
    simp only [Q.newC] at h2 h3
    simp [Q.sizes, h2, h3]
  · rintro ⟨h1, h2⟩
    have h3 : (1 ≤ p ∧ p ≤ 7) ∧ 1 ≤ s ∧ s ≤ 6 := by simpa [Q.sizes] using h2
    exact Q.new_ok (Q.okN_iff.1 h1) h3.1 h3.2
theorem heap_lt5 {W : World} {k : Nat} {o : Obj} (h : W.heap[k]? = some o) : k < W.heap.size := (Array.getElem?_eq_some_iff.1 h).1
/-- What is handed out: the empty cache and true, or nothing and false. -/
def newTup (p s : Int) : Bool → Value
  | true => .tuple #[.agg #[.int .i64 p, .int .i64 s, .slice none 0 0, .slice none 0 0, .int .i64 0], .bool true]
  | false => .tuple #[.agg #[.int .i64 0, .int .i64 0, .slice none 0 0, .slice none 0 0, .int .i64 0], .bool false]
theorem in_nil (W : World) (p s : Int) : CaIn W none 0 none 0 (Q.newC p s) := ⟨⟨Nat.le_refl _, Nat.zero_le _, fun h => absurd rfl h⟩, ⟨Nat.le_refl _, Nat.zero_le _, fun h => absurd rfl h⟩⟩
theorem al2 (W : World) (o0 o1 : Obj) : ((W.alloc o0).alloc o1).heap[W.heap.size]? = some o0 ∧ ((W.alloc o0).alloc o1).heap[W.heap.size + 1]? = some o1 ∧ ((W.alloc o0).alloc o1).heap.size = W.heap.size + 1 + 1 ∧ Below W.heap.size W ((W.alloc o0).alloc o1) := by
  have a1 : Below (W.alloc o0).heap.size (W.alloc o0) ((W.alloc o0).alloc o1) := (Below.refl _ _).alloc (Nat.le_refl _) _
  have s1 : (W.alloc o0).heap.size = W.heap.size + 1 := by simp
  refine ⟨?_, ?_, by simp, ((Below.refl W.heap.size W).alloc (Nat.le_refl _) _).alloc (by simp) _⟩
  · rw [a1.block _ (by omega)]
    exact heap_alloc_new W o0
  · rw [← s1]
    exact heap_alloc_new _ o1
set_option maxRecDepth 20000 in
set_option maxHeartbeats 800000 in
theorem impNew_any (n p s : Int) (W : World) : Calls Try.prog 118 #[.int .i64 n, .int .i64 p, .int .i64 s] W fun r W' => r = .returned (newTup p s (Q.okN n && Q.sizes p s)) ∧ Below W.heap.size W W' := by
  have hI := fun X => impIsCache_any (c := Q.newC p s) n (in_nil X p s) (Nat.zero_le _) (Nat.zero_le _)
  have hb : bo (Q.okC n (Q.newC p s)) = (Q.okN n && Q.sizes p s) := by
    cases h : (Q.okN n && Q.sizes p s)
    · exact bo_false fun h' => by have := (Q.new_okC n p s).1 h'; rw [this.1, this.2] at h; cases h
    · exact bo_true ((Q.new_okC n p s).2 ((Bool.and_eq_true _ _).mp h))
  unfold isSays at hI
  rw [hb] at hI
  have HI := Lib.hid hI
  unfold caV Q.newC at HI
  simp only [List.length_nil] at HI
  clear hI hb
  generalize (Q.okN n && Q.sizes p s) = ok at HI ⊢
  cases ok
  all_goals
    go_enter Try.func118, Try.ntmps118
    go_wp2_with fail
    have H2 := Lib.hid (al2 W (.cells #[.int .i64 0, .int .i64 0, .slice none 0 0, .slice none 0 0, .int .i64 0] 26) (.cells #[.int .i64 p, .int .i64 s, .slice none 0 0, .slice none 0 0, .int .i64 0] 26))
    generalize (W.alloc (.cells #[.int .i64 0, .int .i64 0, .slice none 0 0, .slice none 0 0, .int .i64 0] 26)).alloc (.cells #[.int .i64 p, .int .i64 s, .slice none 0 0, .slice none 0 0, .int .i64 0] 26) = X at H2 ⊢
    refine (HI.out X).mono ?_
    rintro r w1 ⟨rfl, hb1⟩
    have hsX := H2.out.2.2.1
    have HB0 := Lib.hid ((blk5_of H2.out.1).kept (hb1.block _ (by omega)))
    obtain ⟨c0, c1, c2, c3, c4, f0, f1, f2, f3, f4⟩ := HB0.out
    obtain ⟨d0, d1, d2, d3, d4, _, _, _, _, _⟩ := (blk5_of H2.out.2.1).kept (hb1.block _ (by omega))
    have HL := Lib.hid (H2.out.2.2.2.trans (hb1.mono (by omega)))
    clear hb1
    go_wp2
  · exact ret_ca rfl rfl rfl (HB0.out.all _ _ _ _ _) rfl ⟨rfl, below5 HL.out (Nat.le_refl _) _ _ _ _ _⟩
  · exact ret_ca rfl rfl rfl (HB0.out.all _ _ _ _ _) rfl ⟨rfl, below5 HL.out (Nat.le_refl _) _ _ _ _ _⟩
set_option maxRecDepth 20000 in
set_option maxHeartbeats 800000 in
theorem startOf_any (n p s : Int) (zs : List Int) (R : Option Addr) (q : Nat) (W : World) (hl : zs.length ≤ 1048576) (hr : Law.Row W R (ivs zs)) : Calls Try.prog 75 #[.int .i64 n, .int .i64 p, .int .i64 s, .slice R zs.length q] W fun r W' => r = .returned (newTup p s (Q.good n zs && Q.sizes p s)) ∧ Below W.heap.size W W' := by
  have HQ := Lib.hid fun X (hb : Below W.heap.size W X) => impIsReq_any n R q zs X hl (hr.stays hb)
  have HN := Lib.hid fun X => impNew_any n p s X
  have H1 := Lib.hid (And.intro (heap_alloc_new W (.cells #[.int .i64 0, .int .i64 0, .slice none 0 0, .slice none 0 0, .int .i64 0] 26)) ((Below.refl W.heap.size W).alloc (Nat.le_refl _) (.cells #[.int .i64 0, .int .i64 0, .slice none 0 0, .slice none 0 0, .int .i64 0] 26)))
  cases hg : Q.good n zs
  · rw [hg] at HQ
    clear hr hg
    go_enter Try.func75, Try.ntmps75
    go_wp2_with fail
    generalize W.alloc (.cells #[.int .i64 0, .int .i64 0, .slice none 0 0, .slice none 0 0, .int .i64 0] 26) = X at H1 ⊢
    go_at_call 67
    refine (HQ.out X H1.out.2).mono ?_
    rintro r w' ⟨rfl, hw'⟩
    obtain rfl := hw'.symm
    clear hw'
    obtain ⟨c0, c1, c2, c3, c4, f0, f1, f2, f3, f4⟩ := blk5_of H1.out.1
    go_wp2
    exact ret_ca rfl rfl rfl ((blk5_of H1.out.1).all _ _ _ _ _) rfl ⟨rfl, below5 H1.out.2 (Nat.le_refl _) _ _ _ _ _⟩
  · rw [hg] at HQ
    have hn : Q.okN n = true := Q.okN_iff.2 (Q.good_iff.1 hg).1
    rw [hn] at HN
    clear hr hg hn
    simp only [Bool.true_and] at HN ⊢
    generalize Q.sizes p s = ok at HN ⊢
    go_enter Try.func75, Try.ntmps75
    go_wp2_with fail
    generalize W.alloc (.cells #[.int .i64 0, .int .i64 0, .slice none 0 0, .slice none 0 0, .int .i64 0] 26) = X at H1 ⊢
    go_at_call 67
    refine (HQ.out X H1.out.2).mono ?_
    rintro r w' ⟨rfl, hw'⟩
    obtain rfl := hw'.symm
    clear hw'
    go_wp2_with fail
    go_at_call 118
    refine (HN.out X).mono ?_
    rintro r w1 ⟨rfl, hb1⟩
    have hlt := heap_lt5 H1.out.1
    have HB0 := Lib.hid ((blk5_of H1.out.1).kept (hb1.block _ hlt))
    obtain ⟨c0, c1, c2, c3, c4, f0, f1, f2, f3, f4⟩ := HB0.out
    have HL := Lib.hid (H1.out.2.trans (hb1.mono (by omega)))
    clear hb1
    cases ok
    all_goals
      unfold newTup
      go_wp2
      exact ret_ca rfl rfl rfl (HB0.out.all _ _ _ _ _) rfl ⟨rfl, below5 HL.out (Nat.le_refl _) _ _ _ _ _⟩
end Go.Proofs.Ytdjafooabpcbmaa
