/-
  UniformMetric, the model's and the code's.
-/
import Derived.Test.YtndjpkeenbbgiaaMof
namespace Go.Proofs.Ytndjpkeenbbgiaa
open Go.RowKit
set_option linter.unusedVariables false
namespace Q
noncomputable def uniQ (n d : Int) : List (List Int) × Bool := if (1 ≤ n ∧ n ≤ 6) ∧ (1 ≤ d ∧ d ≤ 99) then (uniK n.toNat d n.toNat, true) else ([], false)
theorem uniQ_mof {n d : Int} (h : 1 ≤ d ∧ d ≤ 99) : uniQ n d = mofQ (fun _ _ => d) n := by
  unfold uniQ mofQ
  by_cases hn : 1 ≤ n ∧ n ≤ 6
  · rw [if_pos ⟨hn, h⟩, if_pos ⟨hn, tab_met (by omega) (by omega) (fun _ _ _ _ _ => ⟨rfl, h⟩) (fun _ _ _ _ _ _ _ _ _ => by omega)⟩, uniK_tab]
  · rw [if_neg (fun e => hn e.1), if_neg (fun e => hn e.1)]
end Q
set_option maxHeartbeats 800000 in
theorem uniLit_any (bx : Nat) (d x y : Int) (W : World) (h : W.cell? ⟨bx, 0, none⟩ = some (.int .i64 d)) :
    Calls Try.prog 75 #[.int .i64 x, .int .i64 y, .pointer (some ⟨bx, 0, none⟩)] W fun e w' => e = .returned (.int .i64 d) ∧ w' = W := by
  go_enter Try.func75, Try.ntmps75
  go_wp2
  go_ret
  exact ⟨rfl, rfl⟩
set_option maxHeartbeats 800000 in
theorem impUni_any (n d : Int) (w : World) : Calls Try.prog 42 #[.int .i64 n, .int .i64 d] w (mrSays (Q.uniQ n d) w) := by
  by_cases h : 1 ≤ d ∧ d ≤ 99
  · rw [Q.uniQ_mof h]
    obtain ⟨h1, h2⟩ := h
    have h1' : ¬ d < 1 := by omega
    have h2' : ¬ 99 < d := by omega
    have hc : ((w.alloc (.cells #[.int .i64 d] 3)).alloc (.cells #[.slice none 0 0] 43)).cell? ⟨w.heap.size, 0, none⟩ = some (.int .i64 d) := by
      have h0 : (w.alloc (.cells #[.int .i64 d] 3)).cell? ⟨w.heap.size, 0, none⟩ = some (.int .i64 d) := new_cell _ _ _
      exact (((Below.refl (w.alloc (.cells #[.int .i64 d] 3)).heap.size _).alloc (Nat.le_refl _) _).cell (p := ⟨w.heap.size, 0, none⟩) (by show w.heap.size < _; simp)).trans h0
    have HM0 : Hid (MBox ((w.alloc (.cells #[.int .i64 d] 3)).alloc (.cells #[.slice none 0 0] 43)) (w.heap.size + 1) (.slice none 0 0)) := by
      have h := MBox.new (w.alloc (.cells #[.int .i64 d] 3)) (.slice none 0 0)
      rwa [show (w.alloc (.cells #[.int .i64 d] 3)).heap.size = w.heap.size + 1 by simp] at h
    have HB0 : Hid (Below w.heap.size w ((w.alloc (.cells #[.int .i64 d] 3)).alloc (.cells #[.slice none 0 0] 43))) := ((Below.refl _ _).alloc (Nat.le_refl _) _).alloc (by simp) _
    have HS0 : Hid (w.heap.size + 2 ≤ ((w.alloc (.cells #[.int .i64 d] 3)).alloc (.cells #[.slice none 0 0] 43)).heap.size) := by show _ ≤ _; simp
    have HT := Lib.hid (metricU_any w.heap.size (fun _ _ => d) n ((w.alloc (.cells #[.int .i64 d] 3)).alloc (.cells #[.slice none 0 0] 43)) (fun x y W _ _ _ hW => uniLit_any w.heap.size d x y W ((hW.cell (p := ⟨w.heap.size, 0, none⟩) (by show w.heap.size < _; simp; omega)).trans hc)))
    go_enter Try.func42, Try.ntmps42
    generalize Q.mofQ (fun _ _ => d) n = X at HT ⊢
    go_wp2_with fail
    generalize (w.alloc (.cells #[.int .i64 d] 3)).alloc (.cells #[.slice none 0 0] 43) = wa at HM0 HB0 HS0 HT hc ⊢
    go_wp2_with fail
    go_at_call 71
    refine HT.out.mono ?_
    rintro e w1 ⟨v, ys, rfl, ho, hno, hb⟩
    obtain ⟨A1, c1, rfl, _, _, _⟩ := Law.own_len ho
    have HM1 := Lib.hid (HM0.out.on hb)
    have HB1 := Lib.hid (Law.then_ HB0.out hb)
    have hk0 := HM1.out.cell
    have hkf := HM1.out.frozen
    have hkl := HM1.out.lt
    have hs := HS0.out
    have E2 := Lib.hid (HM1.out.set (.slice A1 X.1.length c1)).cell
    have HB' := Lib.hid (HB1.out.setCell (p := ⟨w.heap.size + 1, 0, none⟩) (by show w.heap.size ≤ w.heap.size + 1; omega) (.slice A1 X.1.length c1))
    have HO' := Lib.hid (own_box ho HM1.out rows_nm (.slice A1 X.1.length c1))
    have HN' := Lib.hid (hno.store ⟨w.heap.size + 1, 0, none⟩ (by show w.heap.size + 1 < _; omega) (.slice A1 X.1.length c1))
    clear ho hno hb
    go_wp2
    refine ret_met (b := w.heap.size + 1) (x := .slice A1 X.1.length c1) (f := .bool X.2) rfl rfl rfl E2.out rfl ⟨_, ys, rfl, own_down HO'.out (by omega), HN'.out.down (by omega), HB'.out⟩
  · have HQ : Hid (Q.uniQ n d = ([], false)) := if_neg (fun e => h e.2)
    rw [HQ.out]
    have HM0 : Hid (MBox ((w.alloc (.cells #[.int .i64 d] 3)).alloc (.cells #[.slice none 0 0] 43)) (w.heap.size + 1) (.slice none 0 0)) := by
      have h := MBox.new (w.alloc (.cells #[.int .i64 d] 3)) (.slice none 0 0)
      rwa [show (w.alloc (.cells #[.int .i64 d] 3)).heap.size = w.heap.size + 1 by simp] at h
    have HB0 : Hid (Below w.heap.size w ((w.alloc (.cells #[.int .i64 d] 3)).alloc (.cells #[.slice none 0 0] 43))) := ((Below.refl _ _).alloc (Nat.le_refl _) _).alloc (by simp) _
    by_cases h1 : d < 1
    · clear h
      go_enter Try.func42, Try.ntmps42
      go_wp2
      refine ret_met (b := w.heap.size + 1) (x := .slice none 0 0) (f := .bool false) rfl rfl rfl HM0.out.cell rfl ⟨_, [], rfl, own_none _ _ _, NOwn.nil _ _, HB0.out⟩
    · have h2 : 99 < d := by omega
      clear h
      go_enter Try.func42, Try.ntmps42
      go_wp2
      refine ret_met (b := w.heap.size + 1) (x := .slice none 0 0) (f := .bool false) rfl rfl rfl HM0.out.cell rfl ⟨_, [], rfl, own_none _ _ _, NOwn.nil _ _, HB0.out⟩
set_option maxHeartbeats 800000 in
theorem specUni_any (n d : Int) (w : World) : Calls Try.prog 41 #[.int .i64 n, .int .i64 d] w (mrSays (Q.uniQ n d) w) := by
  have HM0 := Lib.hid (MBox.new w (.slice none 0 0))
  have HB0 : Hid (Below w.heap.size w (w.alloc (.cells #[.slice none 0 0] 43))) := (Below.refl _ _).alloc (Nat.le_refl _) _
  have HI := Lib.hid fun W => l1In_any n 1 6 W
  have HJ := Lib.hid fun W => l1In_any d 1 99 W
  by_cases hn : 1 ≤ n ∧ n ≤ 6
  · rw [show (decide ((1 : Int) ≤ n) && decide (n ≤ 6)) = true by simp; omega] at HI
    by_cases h : 1 ≤ d ∧ d ≤ 99
    · rw [show (decide ((1 : Int) ≤ d) && decide (d ≤ 99)) = true by simp; omega] at HJ
      obtain ⟨N, rfl⟩ := Int.eq_ofNat_of_zero_le (show 0 ≤ n by omega)
      rw [show Q.uniQ (N : Int) d = (Q.uniK N d N, true) from if_pos ⟨hn, h⟩]
      have HT := Lib.hid fun W => l6Uniform_any N d W (by omega)
      generalize Q.uniK N d N = T at HT ⊢
      have HS0 : Hid (w.heap.size < (w.alloc (.cells #[.slice none 0 0] 43)).heap.size) := HM0.out.lt
      clear hn h
      go_enter Try.func41, Try.ntmps41
      go_wp2_with fail
      go_at_call 59
      refine (HI.out _).mono ?_
      rintro e w' ⟨rfl, hw'⟩
      obtain rfl := hw'.symm
      clear hw'
      go_wp2_with fail
      go_at_call 59
      refine (HJ.out _).mono ?_
      rintro e w' ⟨rfl, hw'⟩
      obtain rfl := hw'.symm
      clear hw'
      go_wp2_with fail
      generalize w.alloc (.cells #[.slice none 0 0] 43) = wa at HM0 HB0 HS0 ⊢
      go_at_call 73
      refine (HT.out _).mono ?_
      rintro e w1 ⟨v, ys, rfl, ho, hno, hb⟩
      obtain ⟨A1, c1, rfl, _, _, _⟩ := Law.own_len ho
      have HM1 := Lib.hid (HM0.out.on hb)
      have HB1 := Lib.hid (Law.then_ HB0.out hb)
      have hk0 := HM1.out.cell
      have hkf := HM1.out.frozen
      have hkl := HM1.out.lt
      have hs := HS0.out
      have E2 := Lib.hid (HM1.out.set (.slice A1 T.length c1)).cell
      have HB' := Lib.hid (HB1.out.setCell (p := ⟨w.heap.size, 0, none⟩) (Nat.le_refl _) (.slice A1 T.length c1))
      have HO' := Lib.hid (own_box ho HM1.out rows_nm (.slice A1 T.length c1))
      have HN' := Lib.hid (hno.store ⟨w.heap.size, 0, none⟩ (by show w.heap.size < _; omega) (.slice A1 T.length c1))
      clear ho hno hb
      go_wp2
      refine ret_met (b := w.heap.size) (x := .slice A1 T.length c1) (f := .bool true) rfl rfl rfl E2.out rfl ⟨_, ys, rfl, own_down HO'.out (by omega), HN'.out.down (by omega), HB'.out⟩
    · rw [show (decide ((1 : Int) ≤ d) && decide (d ≤ 99)) = false by simp; omega] at HJ
      rw [show Q.uniQ n d = ([], false) from if_neg (fun e => h e.2)]
      clear hn h
      go_enter Try.func41, Try.ntmps41
      go_wp2_with fail
      go_at_call 59
      refine (HI.out _).mono ?_
      rintro e w' ⟨rfl, hw'⟩
      obtain rfl := hw'.symm
      clear hw'
      go_wp2_with fail
      go_at_call 59
      refine (HJ.out _).mono ?_
      rintro e w' ⟨rfl, hw'⟩
      obtain rfl := hw'.symm
      clear hw'
      go_wp2
      refine ret_met (b := w.heap.size) (x := .slice none 0 0) (f := .bool false) rfl rfl rfl HM0.out.cell rfl ⟨_, [], rfl, own_none _ _ _, NOwn.nil _ _, HB0.out⟩
  · rw [show (decide ((1 : Int) ≤ n) && decide (n ≤ 6)) = false by simp; omega] at HI
    rw [show Q.uniQ n d = ([], false) from if_neg (fun e => hn e.1)]
    clear hn HJ
    go_enter Try.func41, Try.ntmps41
    go_wp2_with fail
    go_at_call 59
    refine (HI.out _).mono ?_
    rintro e w' ⟨rfl, hw'⟩
    obtain rfl := hw'.symm
    clear hw'
    go_wp2
    refine ret_met (b := w.heap.size) (x := .slice none 0 0) (f := .bool false) rfl rfl rfl HM0.out.cell rfl ⟨_, [], rfl, own_none _ _ _, NOwn.nil _ _, HB0.out⟩
end Go.Proofs.Ytndjpkeenbbgiaa
