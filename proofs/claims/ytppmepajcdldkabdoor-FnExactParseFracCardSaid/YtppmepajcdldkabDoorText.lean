/-
  The text of a fraction: the model's (l2Text, FracText) and the code's (FracText).
-/
import Derived.Test.YtppmepajcdldkabDoorNum
import Derived.Test.YtppmepajcdldkabDoorTab
import Derived.Test.YtppmepajcdldkabDoorShelf
import Derived.Test.YtppmepajcdldkabDoorConv
import Derived.Deep.RegionHeld3
namespace Go.Proofs.YtppmepajcdldkabDoor
open Go.RowKit Go.Sort
set_option linter.unusedVariables false
/-- A fraction's text. -/
def txt (n d : Int) : ByteArray := if d = 1 then numS n else numS n ++ { data := #[47] } ++ numS d
theorem txt_one (n : Int) : txt n 1 = numS n := if_pos rfl
theorem txt_two {n d : Int} (h : ¬ d = 1) : txt n d = numS n ++ { data := #[47] } ++ numS d := if_neg h
theorem add_one (n : Int) (h1 : -1000000000000000000 ≤ n) (h2 : n ≤ 1000000000000000000) (W : World) : (Op.stringOp .add (numS n) ({ data := #[47] } : ByteArray)).run Tryd.prog W = .ok (.string (numS n ++ { data := #[47] })) W := by
  have := numS_size n h1 h2
  rw [run_string_add_sum]
  have e : ({ data := #[47] } : ByteArray).size = 1 := rfl
  omega
theorem add_two (n d : Int) (h1 : -1000000000000000000 ≤ n) (h2 : n ≤ 1000000000000000000) (h3 : -1000000000000000000 ≤ d) (h4 : d ≤ 1000000000000000000) (W : World) : (Op.stringOp .add (numS n ++ ({ data := #[47] } : ByteArray)) (numS d)).run Tryd.prog W = .ok (.string (numS n ++ { data := #[47] } ++ numS d)) W := by
  have := numS_size n h1 h2
  have := numS_size d h3 h4
  rw [run_string_add_sum]
  rw [ByteArray.size_append]
  have e : ({ data := #[47] } : ByteArray).size = 1 := rfl
  omega
set_option maxHeartbeats 800000 in
theorem l2Text_any (n d : Int) (w : World) (h1 : -1000000000000000000 ≤ n) (h2 : n ≤ 1000000000000000000) (h3 : -1000000000000000000 ≤ d) (h4 : d ≤ 1000000000000000000) :
    Calls Tryd.prog 12 #[fr n d] w fun e w' => e = .returned (.string (txt n d)) ∧ Below w.heap.size w w' := by
  have HN := Lib.hid fun W => l1Num_any n W h1 h2
  by_cases hd : d = 1
  · subst hd
    rw [txt_one]
    go_enter Tryd.func12, Tryd.ntmps12
    go_wp2_with (go_at_call 21; refine (HN.out _).mono ?_; rintro e w' ⟨rfl, k, rfl⟩)
    go_ret
    refine ⟨rfl, ?_⟩
    (repeat (first | exact Below.refl _ _ | refine Below.setCell ?_ (by first | omega | (simp; omega) | (simp; done)) _ | refine Below.drew ?_ | refine Law.up ?_ _ | refine Below.alloc ?_ (by first | omega | (simp; omega) | (simp; done)) _ | refine Law.then_ ?_ (Hid.out (by assumption))))
  · rw [txt_two hd]
    have HD := Lib.hid fun W => l1Num_any d W h3 h4
    have ha := add_one n h1 h2
    have hb := add_two n d h1 h2 h3 h4
    go_enter Tryd.func12, Tryd.ntmps12
    go_wp2_with fail
    go_quiet (first
      | (go_at_call_of 21 n; exact Calls.quiet_of (HN.out _))
      | (go_at_call_of 21 d; exact Calls.quiet_of (HD.out _)))
    go_wp2
    go_ret
    refine ⟨rfl, ?_⟩
    (repeat (first | exact Below.refl _ _ | refine Below.setCell ?_ (by first | omega | (simp; omega) | (simp; done)) _ | refine Below.drew ?_ | refine Law.up ?_ _ | refine Below.alloc ?_ (by first | omega | (simp; omega) | (simp; done)) _ | refine Law.then_ ?_ (Hid.out (by assumption))))
def textR (n d : Int) : ByteArray × Bool := if F.good n d = true then (txt n d, true) else (⟨#[]⟩, false)
theorem specText_any (n d : Int) (w : World) : Calls Tryd.prog 5 #[fr n d] w fun e w' => e = .returned (.tuple #[.string (textR n d).1, .bool (textR n d).2]) ∧ Below w.heap.size w w' := by
  have HG := Lib.hid fun W => l2Good_any n d W
  by_cases h : F.good n d = true
  · rw [show textR n d = (txt n d, true) from if_pos h]
    have g := F.good_iff.1 h
    have HC := Lib.hid fun W => l2Text_any n d W (by omega) (by omega) (by omega) (by omega)
    rw [h] at HG
    clear h g
    go_enter Tryd.func5, Tryd.ntmps5
    go_wp2_with fail
    go_at_call 11
    refine (HG.out _).mono ?_
    rintro e w1 ⟨rfl, hb1⟩
    have B1 : Hid (Below w.heap.size w w1) := Lib.hid (Law.then_ (by (repeat (first | exact Below.refl _ _ | refine Below.setCell ?_ (by first | omega | (simp; omega) | (simp; done)) _ | refine Below.drew ?_ | refine Law.up ?_ _ | refine Below.alloc ?_ (by first | omega | (simp; omega) | (simp; done)) _ | refine Law.then_ ?_ (Hid.out (by assumption))))) hb1)
    have sz1 := hb1.size; (try simp at sz1)
    obtain ⟨c10, c11, f10, f11⟩ := Blk.below (b := w.heap.size) (x := .int .i64 n) (y := .int .i64 d) ⟨by go_simp, by go_simp, by go_simp, by go_simp⟩ hb1 (by first | omega | (simp; omega) | (simp; done))
    clear hb1
    go_wp2_with fail
    go_at_call 12
    refine (HC.out _).mono ?_
    rintro e w2 ⟨rfl, hb2⟩
    have B2 : Hid (Below w.heap.size w w2) := Lib.hid (Law.then_ (by (repeat (first | exact Below.refl _ _ | refine Below.setCell ?_ (by first | omega | (simp; omega) | (simp; done)) _ | refine Below.drew ?_ | refine Law.up ?_ _ | refine Below.alloc ?_ (by first | omega | (simp; omega) | (simp; done)) _ | refine Law.then_ ?_ (Hid.out (by assumption))))) hb2)
    have sz2 := hb2.size; (try simp at sz2)
    clear hb2
    go_wp2
    go_ret2
    refine ⟨rfl, ?_⟩
    (repeat (first | exact Below.refl _ _ | refine Below.setCell ?_ (by first | omega | (simp; omega) | (simp; done)) _ | refine Below.drew ?_ | refine Law.up ?_ _ | refine Below.alloc ?_ (by first | omega | (simp; omega) | (simp; done)) _ | refine Law.then_ ?_ (Hid.out (by assumption))))
  · rw [show textR n d = (⟨#[]⟩, false) from if_neg h]
    rw [Bool.eq_false_iff.2 h] at HG
    clear h
    go_enter Tryd.func5, Tryd.ntmps5
    go_wp2_with fail
    go_at_call 11
    refine (HG.out _).mono ?_
    rintro e w1 ⟨rfl, hb1⟩
    have B1 : Hid (Below w.heap.size w w1) := Lib.hid (Law.then_ (by (repeat (first | exact Below.refl _ _ | refine Below.setCell ?_ (by first | omega | (simp; omega) | (simp; done)) _ | refine Below.drew ?_ | refine Law.up ?_ _ | refine Below.alloc ?_ (by first | omega | (simp; omega) | (simp; done)) _ | refine Law.then_ ?_ (Hid.out (by assumption))))) hb1)
    have sz1 := hb1.size; (try simp at sz1)
    clear hb1
    go_wp2
    go_ret2
    refine ⟨rfl, ?_⟩
    (repeat (first | exact Below.refl _ _ | refine Below.setCell ?_ (by first | omega | (simp; omega) | (simp; done)) _ | refine Below.drew ?_ | refine Law.up ?_ _ | refine Below.alloc ?_ (by first | omega | (simp; omega) | (simp; done)) _ | refine Law.then_ ?_ (Hid.out (by assumption))))
theorem keep_box {w W w' : World} {n d : Int} (h : W.cell? ⟨w.heap.size, 0, none⟩ = some (.int .i64 n) ∧ W.cell? ⟨w.heap.size, 1, none⟩ = some (.int .i64 d) ∧ Below w.heap.size w W ∧ w.heap.size + 1 ≤ W.heap.size) (hb : Below W.heap.size W w') :
    w'.cell? ⟨w.heap.size, 0, none⟩ = some (.int .i64 n) ∧ w'.cell? ⟨w.heap.size, 1, none⟩ = some (.int .i64 d) ∧ Below w.heap.size w w' ∧ w.heap.size + 1 ≤ w'.heap.size :=
  ⟨(hb.cell (p := ⟨w.heap.size, 0, none⟩) (by show w.heap.size < _; omega)).trans h.1, (hb.cell (p := ⟨w.heap.size, 1, none⟩) (by show w.heap.size < _; omega)).trans h.2.1, h.2.2.1.trans (hb.mono (by omega)), Nat.le_trans h.2.2.2 hb.size⟩
theorem itoa_any (n : Int) (w : World) (h1 : -1000000000000000000 ≤ n) (h2 : n ≤ 1000000000000000000) (ht : Tab w) : Calls Tryd.prog 14 #[.int .i64 n] w fun e w' => e = .returned (.string (numS n)) ∧ Below w.heap.size w w' :=
  (Tryd.strconv_Itoa n (by omega) (by omega) w ht).mono fun e w' ⟨a, k, os, b⟩ => ⟨a, by rw [b]; exact ⟨rfl, rfl, rfl, by rw [size_grow]; exact Nat.le_add_right _ _, fun i hi => heap_grow_old (w.drewN k) os hi⟩⟩
set_option maxHeartbeats 1600000 in
theorem implText_any (n d : Int) (w : World) (wn : (Lit.int .i64 n).wf = true) (wd : (Lit.int .i64 d).wf = true) (ht : Tab w) : Calls Tryd.prog 7 #[fr n d] w fun e w' => e = .returned (.tuple #[.string (textR n d).1, .bool (textR n d).2]) ∧ Below w.heap.size w w' := by
  have HG := Lib.hid fun W => isFrac_any n d W wn wd
  have HT := Lib.hid ht
  clear wn wd ht
  by_cases h : F.good n d = true
  · rw [show textR n d = (txt n d, true) from if_pos h]
    have g := F.good_iff.1 h
    rw [h] at HG
    have HI : Hid (∀ W, Below w.heap.size w W → Calls Tryd.prog 14 #[.int .i64 n] W fun e w' => e = .returned (.string (numS n)) ∧ Below W.heap.size W w') := Lib.hid fun W hW => itoa_any n W (by omega) (by omega) (HT.out.stays hW)
    have HD : Hid (∀ W, Below w.heap.size w W → Calls Tryd.prog 14 #[.int .i64 d] W fun e w' => e = .returned (.string (numS d)) ∧ Below W.heap.size W w') := Lib.hid fun W hW => itoa_any d W (by omega) (by omega) (HT.out.stays hW)
    by_cases hd : d = 1
    · subst hd
      rw [txt_one]
      clear h g HD
      go_enter Tryd.func7, Tryd.ntmps7
      go_wp2_with fail
      go_at_call 13
      refine (HG.out _).mono ?_
      rintro e w1 ⟨rfl, hb1⟩
      have B1 : Hid (Below w.heap.size w w1) := Lib.hid (Law.then_ (by (repeat (first | exact Below.refl _ _ | refine Below.setCell ?_ (by first | omega | (simp; omega) | (simp; done)) _ | refine Below.drew ?_ | refine Law.up ?_ _ | refine Below.alloc ?_ (by first | omega | (simp; omega) | (simp; done)) _ | refine Law.then_ ?_ (Hid.out (by assumption))))) hb1)
      have sz1 := hb1.size; (try simp at sz1)
      obtain ⟨c10, c11, f10, f11⟩ := Blk.below (b := w.heap.size) (x := .int .i64 n) (y := .int .i64 1) ⟨by go_simp, by go_simp, by go_simp, by go_simp⟩ hb1 (by first | omega | (simp; omega) | (simp; done))
      clear hb1
      go_wp2_with fail
      go_at_call 14
      refine (HI.out _ B1.out).mono ?_
      rintro e w2 ⟨rfl, hb2⟩
      have B2 : Hid (Below w.heap.size w w2) := Lib.hid (Law.then_ (by (repeat (first | exact Below.refl _ _ | refine Below.setCell ?_ (by first | omega | (simp; omega) | (simp; done)) _ | refine Below.drew ?_ | refine Law.up ?_ _ | refine Below.alloc ?_ (by first | omega | (simp; omega) | (simp; done)) _ | refine Law.then_ ?_ (Hid.out (by assumption))))) hb2)
      have sz2 := hb2.size; (try simp at sz2)
      clear hb2
      go_wp2
      go_ret2
      refine ⟨rfl, ?_⟩
      (repeat (first | exact Below.refl _ _ | refine Below.setCell ?_ (by first | omega | (simp; omega) | (simp; done)) _ | refine Below.drew ?_ | refine Law.up ?_ _ | refine Below.alloc ?_ (by first | omega | (simp; omega) | (simp; done)) _ | refine Law.then_ ?_ (Hid.out (by assumption))))
    · rw [txt_two hd]
      have ha := add_one n (by omega) (by omega)
      have hb := add_two n d (by omega) (by omega) (by omega) (by omega)
      clear h g
      go_enter Tryd.func7, Tryd.ntmps7
      go_wp2_with fail
      go_at_call 13
      refine (HG.out _).mono ?_
      rintro e w1 ⟨rfl, hb1⟩
      have B1 : Hid (Below w.heap.size w w1) := Lib.hid (Law.then_ (by (repeat (first | exact Below.refl _ _ | refine Below.setCell ?_ (by first | omega | (simp; omega) | (simp; done)) _ | refine Below.drew ?_ | refine Law.up ?_ _ | refine Below.alloc ?_ (by first | omega | (simp; omega) | (simp; done)) _ | refine Law.then_ ?_ (Hid.out (by assumption))))) hb1)
      have sz1 := hb1.size; (try simp at sz1)
      have hs0 : w1.drew.cell? ⟨w.heap.size, 0, none⟩ = some (.int .i64 n) ∧ w1.drew.cell? ⟨w.heap.size, 1, none⟩ = some (.int .i64 d) ∧ Below w.heap.size w w1.drew ∧ w.heap.size + 1 ≤ w1.drew.heap.size := by
        obtain ⟨c10, c11, f10, f11⟩ := Blk.below (b := w.heap.size) (x := .int .i64 n) (y := .int .i64 d) ⟨by go_simp, by go_simp, by go_simp, by go_simp⟩ hb1 (by first | omega | (simp; omega) | (simp; done))
        exact ⟨c10, c11, B1.out.drew, by simpa using hb1.size⟩
      obtain ⟨c10, c11, f10, f11⟩ := Blk.below (b := w.heap.size) (x := .int .i64 n) (y := .int .i64 d) ⟨by go_simp, by go_simp, by go_simp, by go_simp⟩ hb1 (by first | omega | (simp; omega) | (simp; done))
      clear hb1
      go_wp2_with fail
      go_region_held3 (fun w' => w'.cell? ⟨w.heap.size, 0, none⟩ = some (.int .i64 n) ∧ w'.cell? ⟨w.heap.size, 1, none⟩ = some (.int .i64 d) ∧ Below w.heap.size w w' ∧ w.heap.size + 1 ≤ w'.heap.size) ((first | exact hs0 | exact keep_box (by assumption) (by assumption))) (first
        | (go_at_call_of 14 n; refine (HI.out _ (by first | exact hs0.2.2.1 | exact (by assumption : _ ∧ _ ∧ Below w.heap.size w _ ∧ _).2.2.1)).mono ?_; rintro e w2 ⟨rfl, hb2⟩)
        | (go_at_call_of 14 d; refine (HD.out _ (by first | exact hs0.2.2.1 | exact (by assumption : _ ∧ _ ∧ Below w.heap.size w _ ∧ _).2.2.1)).mono ?_; rintro e w3 ⟨rfl, hb3⟩))
      all_goals
        have hh := (by assumption : _ ∧ _ ∧ Below w.heap.size w w3 ∧ _)
        have B3 := Lib.hid hh.2.2.1
        clear hh hs0
        go_wp2
        go_ret2
        exact ⟨rfl, B3.out⟩
  · rw [show textR n d = (⟨#[]⟩, false) from if_neg h]
    rw [Bool.eq_false_iff.2 h] at HG
    clear h
    go_enter Tryd.func7, Tryd.ntmps7
    go_wp2_with fail
    go_at_call 13
    refine (HG.out _).mono ?_
    rintro e w1 ⟨rfl, hb1⟩
    have B1 : Hid (Below w.heap.size w w1) := Lib.hid (Law.then_ (by (repeat (first | exact Below.refl _ _ | refine Below.setCell ?_ (by first | omega | (simp; omega) | (simp; done)) _ | refine Below.drew ?_ | refine Law.up ?_ _ | refine Below.alloc ?_ (by first | omega | (simp; omega) | (simp; done)) _ | refine Law.then_ ?_ (Hid.out (by assumption))))) hb1)
    have sz1 := hb1.size; (try simp at sz1)
    clear hb1
    go_wp2
    go_ret2
    refine ⟨rfl, ?_⟩
    (repeat (first | exact Below.refl _ _ | refine Below.setCell ?_ (by first | omega | (simp; omega) | (simp; done)) _ | refine Below.drew ?_ | refine Law.up ?_ _ | refine Below.alloc ?_ (by first | omega | (simp; omega) | (simp; done)) _ | refine Law.then_ ?_ (Hid.out (by assumption))))
end Go.Proofs.YtppmepajcdldkabDoor
