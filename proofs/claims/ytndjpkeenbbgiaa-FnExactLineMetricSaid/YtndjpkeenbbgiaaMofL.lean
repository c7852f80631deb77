/-
  The code's metricOf over the function literal of LineMetric.
-/
import Derived.Test.YtndjpkeenbbgiaaMof
import Derived.Test.YtndjpkeenbbgiaaTbL
namespace Go.Proofs.Ytndjpkeenbbgiaa
open Go.RowKit
set_option linter.unusedVariables false
set_option maxHeartbeats 800000 in
theorem metricL_any (bx : Nat) (g : Nat → Nat → Int) (n : Int) (w : World)
    (hg : ∀ (x y : Nat) (W : World), (x : Int) < n → (y : Int) < n → x ≠ y → Below w.heap.size w W → Calls Try.prog 72 #[.int .i64 x, .int .i64 y, .pointer (some ⟨bx, 0, none⟩)] W fun e w' => e = .returned (.int .i64 (g x y)) ∧ ∃ m, w' = W.drewN m) :
    Calls Try.prog 71 #[.int .i64 n, .func (.func 72) #[] #[.pointer (some ⟨bx, 0, none⟩)]] w (mrSays (Q.mofQ g n) w) := by
  have HM0 := Lib.hid (MBox.new w (.slice none 0 0))
  have HB0 : Hid (Below w.heap.size w (w.alloc (.cells #[.slice none 0 0] 43))) := (Below.refl _ _).alloc (Nat.le_refl _) _
  by_cases hn : 1 ≤ n ∧ n ≤ 6
  · obtain ⟨N, rfl⟩ := Int.eq_ofNat_of_zero_le (show 0 ≤ n by omega)
    have hT := tableL_any bx g N (w.alloc (.cells #[.slice none 0 0] 43)) (by omega) (fun x y W hx hy hxy hW => hg x y W (by omega) (by omega) hxy (Law.then_ HB0.out hW))
    have HT := Lib.hid hT
    have HL := Lib.hid (Q.tabK_len g N N)
    have HMem : Hid (∀ l ∈ Q.tabK g N N, l.length ≤ 1048576) := fun l hl => by rw [Q.tabK_mem hl]; omega
    have HQ : Hid (Q.mofQ g (N : Int) = if Q.metQ (Q.tabK g N N) = true then (Q.tabK g N N, true) else ([], false)) := by
      show _ = _
      rw [Q.mofQ]
      by_cases hm : Q.metQ (Q.tabK g N N) = true
      · rw [if_pos hm]; exact if_pos ⟨hn, hm⟩
      · rw [if_neg hm]; exact if_neg (fun h => hm h.2)
    have h1 : ¬ (N : Int) < 1 := by omega
    have h6 : ¬ 6 < (N : Int) := by omega
    have HS0 : Hid (w.heap.size < (w.alloc (.cells #[.slice none 0 0] 43)).heap.size) := HM0.out.lt
    clear hg hn hT
    generalize Q.mofQ g (N : Int) = X at HQ ⊢
    generalize Q.tabK g N N = T at HT HL HMem HQ
    go_enter Try.func71, Try.ntmps71
    go_wp2_with fail
    generalize w.alloc (.cells #[.slice none 0 0] 43) = wa at HM0 HB0 HT HS0 ⊢
    go_at_call 96
    refine HT.out.mono ?_
    rintro e w1 ⟨v, ys, rfl, ho, hno, hb⟩
    obtain ⟨A1, c1, rfl, _, _, _⟩ := Law.own_len ho
    have HO1 := Lib.hid ho
    have HN1 := Lib.hid hno
    have HM1 := Lib.hid (HM0.out.on hb)
    have HB1 := Lib.hid (Law.then_ HB0.out hb)
    have HBa := Lib.hid hb
    have HW : Hid (w.heap.size ≤ wa.heap.size) := HB0.out.size
    have HMt := Lib.hid fun (W : World) (h : NRow W A1 ys T) => impMet_any A1 c1 ys T W HMem.out h
    clear ho hno hb HT
    go_wp2_with fail
    have HBX : Hid (MBox (w1.alloc (.cells #[.slice A1 T.length c1] 43)) w1.heap.size (.slice A1 T.length c1)) := MBox.new _ _
    have HO2 := Lib.hid (own_past HO1.out ((Below.refl _ _).alloc (Nat.le_refl _) (.cells #[.slice A1 T.length c1] 43)))
    have HN2 := Lib.hid (HN1.out.alloc (.cells #[.slice A1 T.length c1] 43))
    have HM2 := Lib.hid (HM1.out.alloc (.cells #[.slice A1 T.length c1] 43))
    have HB2 := Lib.hid (HB1.out.alloc HB1.out.size (.cells #[.slice A1 T.length c1] 43))
    have HNE : Hid (w.heap.size ≠ w1.heap.size) := Nat.ne_of_lt HM1.out.lt
    generalize w1.alloc (.cells #[.slice A1 T.length c1] 43) = w2 at HBX HO2 HN2 HM2 HB2 ⊢
    go_at_call 46
    refine (HMt.out w2 (NRow.of HO2.out HN2.out)).mono ?_
    rintro e w3 ⟨rfl, hb⟩
    have HBX3 := Lib.hid (HBX.out.on hb)
    have HO3 := Lib.hid (own_past HO2.out hb)
    have HN3 := Lib.hid (HN2.out.past hb)
    have HM3 := Lib.hid (HM2.out.on hb)
    have HB3 := Lib.hid (Law.then_ HB2.out hb)
    clear hb HMt HBX HO2 HN2 HM2 HB2 HO1 HN1 HM1 HB1 HBa HM0 HB0
    generalize Q.metQ T = V at HQ ⊢
    have hk1 := HBX3.out.cell
    have hk0 := HM3.out.cell
    have hkf := HM3.out.frozen
    have hkl := HM3.out.lt
    cases V
    · have hX := HQ.out.trans (if_neg (by decide))
      clear HQ
      subst hX
      have E2 := Lib.hid (HM3.out.set (.slice none 0 0)).cell
      have HB' := Lib.hid (HB3.out.setCell (p := ⟨w.heap.size, 0, none⟩) (Nat.le_refl _) (.slice none 0 0))
      go_wp2
      refine ret_met (b := w.heap.size) (x := .slice none 0 0) (f := .bool false) rfl rfl rfl E2.out rfl ⟨_, [], rfl, own_none _ _ _, NOwn.nil _ _, HB'.out⟩
    · have hX := HQ.out.trans (if_pos rfl)
      clear HQ
      subst hX
      have E2 := Lib.hid (HM3.out.set (.slice A1 T.length c1)).cell
      have HB' := Lib.hid (HB3.out.setCell (p := ⟨w.heap.size, 0, none⟩) (Nat.le_refl _) (.slice A1 T.length c1))
      have HO' := Lib.hid (own_box HO3.out HM3.out rows_nm (.slice A1 T.length c1))
      have HN' := Lib.hid (HN3.out.store ⟨w.heap.size, 0, none⟩ (by show w.heap.size < _; have := HS0.out; omega) (.slice A1 T.length c1))
      go_wp2
      refine ret_met (b := w.heap.size) (x := .slice A1 T.length c1) (f := .bool true) rfl rfl rfl E2.out rfl ⟨_, ys, rfl, own_down HO'.out HW.out, HN'.out.down HW.out, HB'.out⟩
  · rw [show Q.mofQ g n = ([], false) from if_neg (fun h => hn h.1)]
    clear hg
    have hk0 := HM0.out.cell
    have hkf := HM0.out.frozen
    have hkl := HM0.out.lt
    by_cases h1 : n < 1
    · clear hn
      go_enter Try.func71, Try.ntmps71
      go_wp2
      refine ret_met (b := w.heap.size) (x := .slice none 0 0) (f := .bool false) rfl rfl rfl HM0.out.cell rfl ⟨_, [], rfl, own_none _ _ _, NOwn.nil _ _, HB0.out⟩
    · have h6 : 6 < n := by omega
      clear hn
      go_enter Try.func71, Try.ntmps71
      go_wp2
      refine ret_met (b := w.heap.size) (x := .slice none 0 0) (f := .bool false) rfl rfl rfl HM0.out.cell rfl ⟨_, [], rfl, own_none _ _ _, NOwn.nil _ _, HB0.out⟩
end Go.Proofs.Ytndjpkeenbbgiaa
