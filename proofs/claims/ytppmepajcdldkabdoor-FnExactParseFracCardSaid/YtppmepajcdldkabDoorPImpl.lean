/-
  The contract of the program's ParseFrac: cut at the first '/', both parts read, the text written anew.
-/
import Derived.Test.YtppmepajcdldkabDoorText
import Derived.Test.YtppmepajcdldkabDoorNumOf
namespace Go.Proofs.YtppmepajcdldkabDoor
open Go.RowKit Go.Sort
set_option linter.unusedVariables false
/-- The library's variable MaxLen holds some int. -/
def Mx (w : World) : Prop := ∃ m, w.cell? ⟨0, 0, none⟩ = some (.int .i64 m)
theorem Mx.stays {w w' : World} (h : Mx w) (hb : Below w.heap.size w w') : Mx w' := by
  obtain ⟨m, h⟩ := h
  refine ⟨m, (hb.cell ?_).trans h⟩
  rcases Nat.lt_or_ge 0 w.heap.size with h' | h'
  · exact h'
  · unfold World.cell? at h
    rw [Array.getElem?_eq_none h'] at h
    simp at h
theorem mx_of_shaped {w : World} (h : w.ShapedOpen Tryd.prog) : Mx w := Tryd.laysM145.s1_3 w h
/-- What stands ahead of the first '/', what behind it, and whether it is there. -/
def partA (s : ByteArray) : ByteArray := ⟨(Lib.cut s.data.toList [47]).1.toArray⟩
def partB (s : ByteArray) : ByteArray := ⟨(Lib.cut s.data.toList [47]).2.1.toArray⟩
def parted (s : ByteArray) : Bool := (Lib.cut s.data.toList [47]).2.2
def partD (s : ByteArray) : ByteArray := if parted s = true then partB s else { data := #[49] }
theorem cut_any (s : ByteArray) (w : World) (hs : s.size ≤ 1048576) (hm : Mx w) :
    Calls Tryd.prog 16 #[.string s, .string ⟨#[47]⟩] w fun e w' => e = .returned (.tuple #[.string (partA s), .string (partB s), .bool (parted s)]) ∧ Below w.heap.size w w' := by
  obtain ⟨m, hm⟩ := hm
  refine (Any.strings_Cut { Tryd.laysM145 with } s ⟨#[47]⟩ m w (by omega) hm).mono ?_
  rintro e w' ⟨he, k, hk⟩
  exact ⟨he, by rw [hk]; exact Law.draws _ _ _⟩
theorem cut_len (l : List UInt8) : (Lib.cut l [47]).1.length ≤ l.length ∧ (Lib.cut l [47]).2.1.length ≤ l.length := by
  unfold Lib.cut
  split
  · simp only [List.length_take, List.length_drop]
    omega
  · simp
theorem part_sizes (s : ByteArray) : (partA s).size ≤ s.size ∧ (partB s).size ≤ s.size := by
  have hl : s.data.toList.length = s.size := Array.length_toList
  have := cut_len s.data.toList
  have e1 : (partA s).size = (Lib.cut s.data.toList [47]).1.length := by
    unfold partA
    exact size_of_list _
  have e2 : (partB s).size = (Lib.cut s.data.toList [47]).2.1.length := by
    unfold partB
    exact size_of_list _
  omega
/-- How the code's ParseFrac ends. -/
noncomputable def pfi (s : ByteArray) : Int × Int × Bool := open Classical in
  if ((nrd (partA s)).2 = true ∧ (nrd (partD s)).2 = true) ∧ F.good (nrd (partA s)).1 (nrd (partD s)).1 = true ∧ txt (nrd (partA s)).1 (nrd (partD s)).1 = s then ((nrd (partA s)).1, (nrd (partD s)).1, true) else (0, 0, false)
open Classical in
theorem pfi_eq (s : ByteArray) : pfi s = if ((nrd (partA s)).2 = true ∧ (nrd (partD s)).2 = true) ∧ F.good (nrd (partA s)).1 (nrd (partD s)).1 = true ∧ txt (nrd (partA s)).1 (nrd (partD s)).1 = s then ((nrd (partA s)).1, (nrd (partD s)).1, true) else (0, 0, false) := rfl
set_option maxHeartbeats 1600000 in
theorem implPF_any (s : ByteArray) (w : World) (hs : s.size ≤ 1048576) (ht : Tab w) (he : Errs w) (hm : Mx w) :
    Calls Tryd.prog 9 #[.string s] w fun e w' => e = .returned (res (pfi s)) ∧ Below w.heap.size w w' := by
  obtain ⟨z1, z2⟩ := part_sizes s
  have HT := Lib.hid ht
  have HE := Lib.hid he
  have HM := Lib.hid hm
  clear ht he hm
  have HC : Hid (∀ W, Below w.heap.size w W → Calls Tryd.prog 16 #[.string s, .string ⟨#[47]⟩] W fun e w' => e = .returned (.tuple #[.string (partA s), .string (partB s), .bool (parted s)]) ∧ Below W.heap.size W w') := Lib.hid fun W hW => cut_any s W hs (HM.out.stays hW)
  have HA : Hid (∀ W, Below w.heap.size w W → Calls Tryd.prog 17 #[.string (partA s)] W fun e w' => e = .returned (.tuple #[.int .i64 (nrd (partA s)).1, .bool (nrd (partA s)).2]) ∧ Below W.heap.size W w') := Lib.hid fun W hW => numberOf_any (partA s) W (by omega) (HT.out.stays hW) (HE.out.stays hW)
  have zD : (partD s).size ≤ 1048576 := by
    unfold partD
    split
    · omega
    · decide
  have HD : Hid (∀ W, Below w.heap.size w W → Calls Tryd.prog 17 #[.string (partD s)] W fun e w' => e = .returned (.tuple #[.int .i64 (nrd (partD s)).1, .bool (nrd (partD s)).2]) ∧ Below W.heap.size W w') := Lib.hid fun W hW => numberOf_any (partD s) W zD (HT.out.stays hW) (HE.out.stays hW)
  have in1 := nrd_in (partA s)
  have in2 := nrd_in (partD s)
  have HX : Hid (∀ W, Below w.heap.size w W → Calls Tryd.prog 7 #[fr (nrd (partA s)).1 (nrd (partD s)).1] W fun e w' => e = .returned (.tuple #[.string (textR (nrd (partA s)).1 (nrd (partD s)).1).1, .bool (textR (nrd (partA s)).1 (nrd (partD s)).1).2]) ∧ Below W.heap.size W w') := Lib.hid fun W hW => implText_any _ _ W (wf_small in1.1 in1.2) (wf_small in2.1 in2.2) (HT.out.stays hW)
  have HP := Lib.hid (pfi_eq s)
  have hpd : parted s = true → partD s = partB s := fun h => if_pos h
  have hpn : parted s = false → partD s = { data := #[49] } := fun h => if_neg (by rw [h]; exact Bool.false_ne_true)
  clear z1 z2 zD in1 in2
  generalize pfi s = P at HP ⊢
  generalize nrd (partA s) = X1 at HA HX HP
  generalize nrd (partD s) = X2 at HD HX HP
  obtain ⟨v1, o1⟩ := X1
  obtain ⟨v2, o2⟩ := X2
  by_cases hp : parted s = true
  · rw [hpd hp] at HD
    rw [hp] at HC
    clear hpd hpn hp
    cases o1
    · have HR : Hid (P = (0, 0, false)) := HP.out.trans (if_neg fun h => Bool.noConfusion h.1.1)
      clear HP
      go_enter Tryd.func9, Tryd.ntmps9
      go_wp2_with fail
      go_at_call 16
      refine (HC.out _ (by (repeat (first | exact Below.refl _ _ | refine Below.setCell ?_ (by first | omega | (simp; omega) | (simp; done)) _ | refine Below.drew ?_ | refine Law.up ?_ _ | refine Below.alloc ?_ (by first | omega | (simp; omega) | (simp; done)) _ | refine Law.then_ ?_ (Hid.out (by assumption)))))).mono ?_
      rintro e w1 ⟨rfl, hb1⟩
      have B1 : Hid (Below w.heap.size w w1) := Lib.hid (Law.then_ (by (repeat (first | exact Below.refl _ _ | refine Below.setCell ?_ (by first | omega | (simp; omega) | (simp; done)) _ | refine Below.drew ?_ | refine Law.up ?_ _ | refine Below.alloc ?_ (by first | omega | (simp; omega) | (simp; done)) _ | refine Law.then_ ?_ (Hid.out (by assumption))))) hb1)
      have sz1 := hb1.size; (try simp at sz1)
      obtain ⟨c10, c11, f10, f11⟩ := Blk.below (b := w.heap.size) (x := .int .i64 0) (y := .int .i64 0) ⟨by go_simp, by go_simp, by go_simp, by go_simp⟩ hb1 (by first | omega | (simp; omega) | (simp; done))
      have lt1 : w.heap.size < w1.heap.size := by omega
      have ne1 : ¬ w1.heap.size = w.heap.size := by omega
      have ne2 : ¬ w.heap.size = w1.heap.size := by omega
      clear hb1
      go_wp2_with fail
      go_at_call 17
      refine (HA.out _ (by (repeat (first | exact Below.refl _ _ | refine Below.setCell ?_ (by first | omega | (simp; omega) | (simp; done)) _ | refine Below.drew ?_ | refine Law.up ?_ _ | refine Below.alloc ?_ (by first | omega | (simp; omega) | (simp; done)) _ | refine Law.then_ ?_ (Hid.out (by assumption)))))).mono ?_
      rintro e w2 ⟨rfl, hb2⟩
      have B2 : Hid (Below w.heap.size w w2) := Lib.hid (Law.then_ (by (repeat (first | exact Below.refl _ _ | refine Below.setCell ?_ (by first | omega | (simp; omega) | (simp; done)) _ | refine Below.drew ?_ | refine Law.up ?_ _ | refine Below.alloc ?_ (by first | omega | (simp; omega) | (simp; done)) _ | refine Law.then_ ?_ (Hid.out (by assumption))))) hb2)
      have sz2 := hb2.size; (try simp at sz2)
      obtain ⟨c20, c21, f20, f21⟩ := Blk.below (b := w.heap.size) (x := .int .i64 0) (y := .int .i64 0) ⟨by go_simp, by go_simp, by go_simp, by go_simp⟩ hb2 (by first | omega | (simp; omega) | (simp; done))
      obtain ⟨c30, c31, f30, f31⟩ := Blk.below (b := w1.heap.size) (x := .int .i64 0) (y := .int .i64 0) ⟨by go_simp, by go_simp, by go_simp, by go_simp⟩ hb2 (by first | omega | (simp; omega) | (simp; done))
      clear hb2 c10 c11 f10 f11
      go_wp2
      refine ret_frac (x := .int .i64 0) (y := .int .i64 0) rfl rfl rfl ⟨by go_simp, by go_simp, by go_simp, by go_simp⟩ rfl ⟨by rw [HR.out]; rfl, ?_⟩
      (repeat (first | exact Below.refl _ _ | refine Below.setCell ?_ (by first | omega | (simp; omega) | (simp; done)) _ | refine Below.drew ?_ | refine Law.up ?_ _ | refine Below.alloc ?_ (by first | omega | (simp; omega) | (simp; done)) _ | refine Law.then_ ?_ (Hid.out (by assumption))))
    · cases o2
      · have HR : Hid (P = (0, 0, false)) := HP.out.trans (if_neg fun h => Bool.noConfusion h.1.2)
        clear HP
        go_enter Tryd.func9, Tryd.ntmps9
        go_wp2_with fail
        go_at_call 16
        refine (HC.out _ (by (repeat (first | exact Below.refl _ _ | refine Below.setCell ?_ (by first | omega | (simp; omega) | (simp; done)) _ | refine Below.drew ?_ | refine Law.up ?_ _ | refine Below.alloc ?_ (by first | omega | (simp; omega) | (simp; done)) _ | refine Law.then_ ?_ (Hid.out (by assumption)))))).mono ?_
        rintro e w1 ⟨rfl, hb1⟩
        have B1 : Hid (Below w.heap.size w w1) := Lib.hid (Law.then_ (by (repeat (first | exact Below.refl _ _ | refine Below.setCell ?_ (by first | omega | (simp; omega) | (simp; done)) _ | refine Below.drew ?_ | refine Law.up ?_ _ | refine Below.alloc ?_ (by first | omega | (simp; omega) | (simp; done)) _ | refine Law.then_ ?_ (Hid.out (by assumption))))) hb1)
        have sz1 := hb1.size; (try simp at sz1)
        obtain ⟨c10, c11, f10, f11⟩ := Blk.below (b := w.heap.size) (x := .int .i64 0) (y := .int .i64 0) ⟨by go_simp, by go_simp, by go_simp, by go_simp⟩ hb1 (by first | omega | (simp; omega) | (simp; done))
        have lt1 : w.heap.size < w1.heap.size := by omega
        have ne1 : ¬ w1.heap.size = w.heap.size := by omega
        have ne2 : ¬ w.heap.size = w1.heap.size := by omega
        clear hb1
        go_wp2_with fail
        go_at_call 17
        refine (HA.out _ (by (repeat (first | exact Below.refl _ _ | refine Below.setCell ?_ (by first | omega | (simp; omega) | (simp; done)) _ | refine Below.drew ?_ | refine Law.up ?_ _ | refine Below.alloc ?_ (by first | omega | (simp; omega) | (simp; done)) _ | refine Law.then_ ?_ (Hid.out (by assumption)))))).mono ?_
        rintro e w2 ⟨rfl, hb2⟩
        have B2 : Hid (Below w.heap.size w w2) := Lib.hid (Law.then_ (by (repeat (first | exact Below.refl _ _ | refine Below.setCell ?_ (by first | omega | (simp; omega) | (simp; done)) _ | refine Below.drew ?_ | refine Law.up ?_ _ | refine Below.alloc ?_ (by first | omega | (simp; omega) | (simp; done)) _ | refine Law.then_ ?_ (Hid.out (by assumption))))) hb2)
        have sz2 := hb2.size; (try simp at sz2)
        obtain ⟨c20, c21, f20, f21⟩ := Blk.below (b := w.heap.size) (x := .int .i64 0) (y := .int .i64 0) ⟨by go_simp, by go_simp, by go_simp, by go_simp⟩ hb2 (by first | omega | (simp; omega) | (simp; done))
        obtain ⟨c30, c31, f30, f31⟩ := Blk.below (b := w1.heap.size) (x := .int .i64 0) (y := .int .i64 0) ⟨by go_simp, by go_simp, by go_simp, by go_simp⟩ hb2 (by first | omega | (simp; omega) | (simp; done))
        clear hb2 c10 c11 f10 f11
        go_wp2_with fail
        go_at_call 17
        refine (HD.out _ (by (repeat (first | exact Below.refl _ _ | refine Below.setCell ?_ (by first | omega | (simp; omega) | (simp; done)) _ | refine Below.drew ?_ | refine Law.up ?_ _ | refine Below.alloc ?_ (by first | omega | (simp; omega) | (simp; done)) _ | refine Law.then_ ?_ (Hid.out (by assumption)))))).mono ?_
        rintro e w3 ⟨rfl, hb3⟩
        have B3 : Hid (Below w.heap.size w w3) := Lib.hid (Law.then_ (by (repeat (first | exact Below.refl _ _ | refine Below.setCell ?_ (by first | omega | (simp; omega) | (simp; done)) _ | refine Below.drew ?_ | refine Law.up ?_ _ | refine Below.alloc ?_ (by first | omega | (simp; omega) | (simp; done)) _ | refine Law.then_ ?_ (Hid.out (by assumption))))) hb3)
        have sz3 := hb3.size; (try simp at sz3)
        obtain ⟨c40, c41, f40, f41⟩ := Blk.below (b := w.heap.size) (x := .int .i64 0) (y := .int .i64 0) ⟨by go_simp, by go_simp, by go_simp, by go_simp⟩ hb3 (by first | omega | (simp; omega) | (simp; done))
        obtain ⟨c50, c51, f50, f51⟩ := Blk.below (b := w1.heap.size) (x := .int .i64 v1) (y := .int .i64 0) ⟨by go_simp, by go_simp, by go_simp, by go_simp⟩ hb3 (by first | omega | (simp; omega) | (simp; done))
        clear hb3 c20 c21 f20 f21 c30 c31 f30 f31
        go_wp2
        refine ret_frac (x := .int .i64 0) (y := .int .i64 0) rfl rfl rfl ⟨by go_simp, by go_simp, by go_simp, by go_simp⟩ rfl ⟨by rw [HR.out]; rfl, ?_⟩
        (repeat (first | exact Below.refl _ _ | refine Below.setCell ?_ (by first | omega | (simp; omega) | (simp; done)) _ | refine Below.drew ?_ | refine Law.up ?_ _ | refine Below.alloc ?_ (by first | omega | (simp; omega) | (simp; done)) _ | refine Law.then_ ?_ (Hid.out (by assumption))))
      · by_cases hg : F.good v1 v2 = true
        · by_cases ht : txt v1 v2 = s
          · have HR : Hid (P = (v1, v2, true)) := HP.out.trans (if_pos ⟨⟨rfl, rfl⟩, hg, ht⟩)
            rw [show textR v1 v2 = (txt v1 v2, true) from if_pos hg] at HX
            have hts : txt v1 v2 = s := ht
            clear hg ht
            clear HP
            go_enter Tryd.func9, Tryd.ntmps9
            go_wp2_with fail
            go_at_call 16
            refine (HC.out _ (by (repeat (first | exact Below.refl _ _ | refine Below.setCell ?_ (by first | omega | (simp; omega) | (simp; done)) _ | refine Below.drew ?_ | refine Law.up ?_ _ | refine Below.alloc ?_ (by first | omega | (simp; omega) | (simp; done)) _ | refine Law.then_ ?_ (Hid.out (by assumption)))))).mono ?_
            rintro e w1 ⟨rfl, hb1⟩
            have B1 : Hid (Below w.heap.size w w1) := Lib.hid (Law.then_ (by (repeat (first | exact Below.refl _ _ | refine Below.setCell ?_ (by first | omega | (simp; omega) | (simp; done)) _ | refine Below.drew ?_ | refine Law.up ?_ _ | refine Below.alloc ?_ (by first | omega | (simp; omega) | (simp; done)) _ | refine Law.then_ ?_ (Hid.out (by assumption))))) hb1)
            have sz1 := hb1.size; (try simp at sz1)
            obtain ⟨c10, c11, f10, f11⟩ := Blk.below (b := w.heap.size) (x := .int .i64 0) (y := .int .i64 0) ⟨by go_simp, by go_simp, by go_simp, by go_simp⟩ hb1 (by first | omega | (simp; omega) | (simp; done))
            have lt1 : w.heap.size < w1.heap.size := by omega
            have ne1 : ¬ w1.heap.size = w.heap.size := by omega
            have ne2 : ¬ w.heap.size = w1.heap.size := by omega
            clear hb1
            go_wp2_with fail
            go_at_call 17
            refine (HA.out _ (by (repeat (first | exact Below.refl _ _ | refine Below.setCell ?_ (by first | omega | (simp; omega) | (simp; done)) _ | refine Below.drew ?_ | refine Law.up ?_ _ | refine Below.alloc ?_ (by first | omega | (simp; omega) | (simp; done)) _ | refine Law.then_ ?_ (Hid.out (by assumption)))))).mono ?_
            rintro e w2 ⟨rfl, hb2⟩
            have B2 : Hid (Below w.heap.size w w2) := Lib.hid (Law.then_ (by (repeat (first | exact Below.refl _ _ | refine Below.setCell ?_ (by first | omega | (simp; omega) | (simp; done)) _ | refine Below.drew ?_ | refine Law.up ?_ _ | refine Below.alloc ?_ (by first | omega | (simp; omega) | (simp; done)) _ | refine Law.then_ ?_ (Hid.out (by assumption))))) hb2)
            have sz2 := hb2.size; (try simp at sz2)
            obtain ⟨c20, c21, f20, f21⟩ := Blk.below (b := w.heap.size) (x := .int .i64 0) (y := .int .i64 0) ⟨by go_simp, by go_simp, by go_simp, by go_simp⟩ hb2 (by first | omega | (simp; omega) | (simp; done))
            obtain ⟨c30, c31, f30, f31⟩ := Blk.below (b := w1.heap.size) (x := .int .i64 0) (y := .int .i64 0) ⟨by go_simp, by go_simp, by go_simp, by go_simp⟩ hb2 (by first | omega | (simp; omega) | (simp; done))
            clear hb2 c10 c11 f10 f11
            go_wp2_with fail
            go_at_call 17
            refine (HD.out _ (by (repeat (first | exact Below.refl _ _ | refine Below.setCell ?_ (by first | omega | (simp; omega) | (simp; done)) _ | refine Below.drew ?_ | refine Law.up ?_ _ | refine Below.alloc ?_ (by first | omega | (simp; omega) | (simp; done)) _ | refine Law.then_ ?_ (Hid.out (by assumption)))))).mono ?_
            rintro e w3 ⟨rfl, hb3⟩
            have B3 : Hid (Below w.heap.size w w3) := Lib.hid (Law.then_ (by (repeat (first | exact Below.refl _ _ | refine Below.setCell ?_ (by first | omega | (simp; omega) | (simp; done)) _ | refine Below.drew ?_ | refine Law.up ?_ _ | refine Below.alloc ?_ (by first | omega | (simp; omega) | (simp; done)) _ | refine Law.then_ ?_ (Hid.out (by assumption))))) hb3)
            have sz3 := hb3.size; (try simp at sz3)
            obtain ⟨c40, c41, f40, f41⟩ := Blk.below (b := w.heap.size) (x := .int .i64 0) (y := .int .i64 0) ⟨by go_simp, by go_simp, by go_simp, by go_simp⟩ hb3 (by first | omega | (simp; omega) | (simp; done))
            obtain ⟨c50, c51, f50, f51⟩ := Blk.below (b := w1.heap.size) (x := .int .i64 v1) (y := .int .i64 0) ⟨by go_simp, by go_simp, by go_simp, by go_simp⟩ hb3 (by first | omega | (simp; omega) | (simp; done))
            clear hb3 c20 c21 f20 f21 c30 c31 f30 f31
            go_wp2_with fail
            go_at_call 7
            refine (HX.out _ (by (repeat (first | exact Below.refl _ _ | refine Below.setCell ?_ (by first | omega | (simp; omega) | (simp; done)) _ | refine Below.drew ?_ | refine Law.up ?_ _ | refine Below.alloc ?_ (by first | omega | (simp; omega) | (simp; done)) _ | refine Law.then_ ?_ (Hid.out (by assumption)))))).mono ?_
            rintro e w4 ⟨rfl, hb4⟩
            have B4 : Hid (Below w.heap.size w w4) := Lib.hid (Law.then_ (by (repeat (first | exact Below.refl _ _ | refine Below.setCell ?_ (by first | omega | (simp; omega) | (simp; done)) _ | refine Below.drew ?_ | refine Law.up ?_ _ | refine Below.alloc ?_ (by first | omega | (simp; omega) | (simp; done)) _ | refine Law.then_ ?_ (Hid.out (by assumption))))) hb4)
            have sz4 := hb4.size; (try simp at sz4)
            obtain ⟨c60, c61, f60, f61⟩ := Blk.below (b := w.heap.size) (x := .int .i64 0) (y := .int .i64 0) ⟨by go_simp, by go_simp, by go_simp, by go_simp⟩ hb4 (by first | omega | (simp; omega) | (simp; done))
            obtain ⟨c70, c71, f70, f71⟩ := Blk.below (b := w1.heap.size) (x := .int .i64 v1) (y := .int .i64 v2) ⟨by go_simp, by go_simp, by go_simp, by go_simp⟩ hb4 (by first | omega | (simp; omega) | (simp; done))
            clear hb4 c40 c41 f40 f41 c50 c51 f50 f51
            go_wp2
            refine ret_frac (x := .int .i64 v1) (y := .int .i64 v2) rfl rfl rfl ⟨by go_simp, by go_simp, by go_simp, by go_simp⟩ rfl ⟨by rw [HR.out]; rfl, ?_⟩
            (repeat (first | exact Below.refl _ _ | refine Below.setCell ?_ (by first | omega | (simp; omega) | (simp; done)) _ | refine Below.drew ?_ | refine Law.up ?_ _ | refine Below.alloc ?_ (by first | omega | (simp; omega) | (simp; done)) _ | refine Law.then_ ?_ (Hid.out (by assumption))))
          · have HR : Hid (P = (0, 0, false)) := HP.out.trans (if_neg fun h => ht h.2.2)
            rw [show textR v1 v2 = (txt v1 v2, true) from if_pos hg] at HX
            have hts := neq_lists (a := txt v1 v2) (b := s) ht
            clear hg ht
            clear HP
            go_enter Tryd.func9, Tryd.ntmps9
            go_wp2_with fail
            go_at_call 16
            refine (HC.out _ (by (repeat (first | exact Below.refl _ _ | refine Below.setCell ?_ (by first | omega | (simp; omega) | (simp; done)) _ | refine Below.drew ?_ | refine Law.up ?_ _ | refine Below.alloc ?_ (by first | omega | (simp; omega) | (simp; done)) _ | refine Law.then_ ?_ (Hid.out (by assumption)))))).mono ?_
            rintro e w1 ⟨rfl, hb1⟩
            have B1 : Hid (Below w.heap.size w w1) := Lib.hid (Law.then_ (by (repeat (first | exact Below.refl _ _ | refine Below.setCell ?_ (by first | omega | (simp; omega) | (simp; done)) _ | refine Below.drew ?_ | refine Law.up ?_ _ | refine Below.alloc ?_ (by first | omega | (simp; omega) | (simp; done)) _ | refine Law.then_ ?_ (Hid.out (by assumption))))) hb1)
            have sz1 := hb1.size; (try simp at sz1)
            obtain ⟨c10, c11, f10, f11⟩ := Blk.below (b := w.heap.size) (x := .int .i64 0) (y := .int .i64 0) ⟨by go_simp, by go_simp, by go_simp, by go_simp⟩ hb1 (by first | omega | (simp; omega) | (simp; done))
            have lt1 : w.heap.size < w1.heap.size := by omega
            have ne1 : ¬ w1.heap.size = w.heap.size := by omega
            have ne2 : ¬ w.heap.size = w1.heap.size := by omega
            clear hb1
            go_wp2_with fail
            go_at_call 17
            refine (HA.out _ (by (repeat (first | exact Below.refl _ _ | refine Below.setCell ?_ (by first | omega | (simp; omega) | (simp; done)) _ | refine Below.drew ?_ | refine Law.up ?_ _ | refine Below.alloc ?_ (by first | omega | (simp; omega) | (simp; done)) _ | refine Law.then_ ?_ (Hid.out (by assumption)))))).mono ?_
            rintro e w2 ⟨rfl, hb2⟩
            have B2 : Hid (Below w.heap.size w w2) := Lib.hid (Law.then_ (by (repeat (first | exact Below.refl _ _ | refine Below.setCell ?_ (by first | omega | (simp; omega) | (simp; done)) _ | refine Below.drew ?_ | refine Law.up ?_ _ | refine Below.alloc ?_ (by first | omega | (simp; omega) | (simp; done)) _ | refine Law.then_ ?_ (Hid.out (by assumption))))) hb2)
            have sz2 := hb2.size; (try simp at sz2)
            obtain ⟨c20, c21, f20, f21⟩ := Blk.below (b := w.heap.size) (x := .int .i64 0) (y := .int .i64 0) ⟨by go_simp, by go_simp, by go_simp, by go_simp⟩ hb2 (by first | omega | (simp; omega) | (simp; done))
            obtain ⟨c30, c31, f30, f31⟩ := Blk.below (b := w1.heap.size) (x := .int .i64 0) (y := .int .i64 0) ⟨by go_simp, by go_simp, by go_simp, by go_simp⟩ hb2 (by first | omega | (simp; omega) | (simp; done))
            clear hb2 c10 c11 f10 f11
            go_wp2_with fail
            go_at_call 17
            refine (HD.out _ (by (repeat (first | exact Below.refl _ _ | refine Below.setCell ?_ (by first | omega | (simp; omega) | (simp; done)) _ | refine Below.drew ?_ | refine Law.up ?_ _ | refine Below.alloc ?_ (by first | omega | (simp; omega) | (simp; done)) _ | refine Law.then_ ?_ (Hid.out (by assumption)))))).mono ?_
            rintro e w3 ⟨rfl, hb3⟩
            have B3 : Hid (Below w.heap.size w w3) := Lib.hid (Law.then_ (by (repeat (first | exact Below.refl _ _ | refine Below.setCell ?_ (by first | omega | (simp; omega) | (simp; done)) _ | refine Below.drew ?_ | refine Law.up ?_ _ | refine Below.alloc ?_ (by first | omega | (simp; omega) | (simp; done)) _ | refine Law.then_ ?_ (Hid.out (by assumption))))) hb3)
            have sz3 := hb3.size; (try simp at sz3)
            obtain ⟨c40, c41, f40, f41⟩ := Blk.below (b := w.heap.size) (x := .int .i64 0) (y := .int .i64 0) ⟨by go_simp, by go_simp, by go_simp, by go_simp⟩ hb3 (by first | omega | (simp; omega) | (simp; done))
            obtain ⟨c50, c51, f50, f51⟩ := Blk.below (b := w1.heap.size) (x := .int .i64 v1) (y := .int .i64 0) ⟨by go_simp, by go_simp, by go_simp, by go_simp⟩ hb3 (by first | omega | (simp; omega) | (simp; done))
            clear hb3 c20 c21 f20 f21 c30 c31 f30 f31
            go_wp2_with fail
            go_at_call 7
            refine (HX.out _ (by (repeat (first | exact Below.refl _ _ | refine Below.setCell ?_ (by first | omega | (simp; omega) | (simp; done)) _ | refine Below.drew ?_ | refine Law.up ?_ _ | refine Below.alloc ?_ (by first | omega | (simp; omega) | (simp; done)) _ | refine Law.then_ ?_ (Hid.out (by assumption)))))).mono ?_
            rintro e w4 ⟨rfl, hb4⟩
            have B4 : Hid (Below w.heap.size w w4) := Lib.hid (Law.then_ (by (repeat (first | exact Below.refl _ _ | refine Below.setCell ?_ (by first | omega | (simp; omega) | (simp; done)) _ | refine Below.drew ?_ | refine Law.up ?_ _ | refine Below.alloc ?_ (by first | omega | (simp; omega) | (simp; done)) _ | refine Law.then_ ?_ (Hid.out (by assumption))))) hb4)
            have sz4 := hb4.size; (try simp at sz4)
            obtain ⟨c60, c61, f60, f61⟩ := Blk.below (b := w.heap.size) (x := .int .i64 0) (y := .int .i64 0) ⟨by go_simp, by go_simp, by go_simp, by go_simp⟩ hb4 (by first | omega | (simp; omega) | (simp; done))
            obtain ⟨c70, c71, f70, f71⟩ := Blk.below (b := w1.heap.size) (x := .int .i64 v1) (y := .int .i64 v2) ⟨by go_simp, by go_simp, by go_simp, by go_simp⟩ hb4 (by first | omega | (simp; omega) | (simp; done))
            clear hb4 c40 c41 f40 f41 c50 c51 f50 f51
            go_wp2
            refine ret_frac (x := .int .i64 0) (y := .int .i64 0) rfl rfl rfl ⟨by go_simp, by go_simp, by go_simp, by go_simp⟩ rfl ⟨by rw [HR.out]; rfl, ?_⟩
            (repeat (first | exact Below.refl _ _ | refine Below.setCell ?_ (by first | omega | (simp; omega) | (simp; done)) _ | refine Below.drew ?_ | refine Law.up ?_ _ | refine Below.alloc ?_ (by first | omega | (simp; omega) | (simp; done)) _ | refine Law.then_ ?_ (Hid.out (by assumption))))
        · have HR : Hid (P = (0, 0, false)) := HP.out.trans (if_neg fun h => hg h.2.1)
          rw [show textR v1 v2 = (⟨#[]⟩, false) from if_neg hg] at HX
          clear hg
          clear HP
          go_enter Tryd.func9, Tryd.ntmps9
          go_wp2_with fail
          go_at_call 16
          refine (HC.out _ (by (repeat (first | exact Below.refl _ _ | refine Below.setCell ?_ (by first | omega | (simp; omega) | (simp; done)) _ | refine Below.drew ?_ | refine Law.up ?_ _ | refine Below.alloc ?_ (by first | omega | (simp; omega) | (simp; done)) _ | refine Law.then_ ?_ (Hid.out (by assumption)))))).mono ?_
          rintro e w1 ⟨rfl, hb1⟩
          have B1 : Hid (Below w.heap.size w w1) := Lib.hid (Law.then_ (by (repeat (first | exact Below.refl _ _ | refine Below.setCell ?_ (by first | omega | (simp; omega) | (simp; done)) _ | refine Below.drew ?_ | refine Law.up ?_ _ | refine Below.alloc ?_ (by first | omega | (simp; omega) | (simp; done)) _ | refine Law.then_ ?_ (Hid.out (by assumption))))) hb1)
          have sz1 := hb1.size; (try simp at sz1)
          obtain ⟨c10, c11, f10, f11⟩ := Blk.below (b := w.heap.size) (x := .int .i64 0) (y := .int .i64 0) ⟨by go_simp, by go_simp, by go_simp, by go_simp⟩ hb1 (by first | omega | (simp; omega) | (simp; done))
          have lt1 : w.heap.size < w1.heap.size := by omega
          have ne1 : ¬ w1.heap.size = w.heap.size := by omega
          have ne2 : ¬ w.heap.size = w1.heap.size := by omega
          clear hb1
          go_wp2_with fail
          go_at_call 17
          refine (HA.out _ (by (repeat (first | exact Below.refl _ _ | refine Below.setCell ?_ (by first | omega | (simp; omega) | (simp; done)) _ | refine Below.drew ?_ | refine Law.up ?_ _ | refine Below.alloc ?_ (by first | omega | (simp; omega) | (simp; done)) _ | refine Law.then_ ?_ (Hid.out (by assumption)))))).mono ?_
          rintro e w2 ⟨rfl, hb2⟩
          have B2 : Hid (Below w.heap.size w w2) := Lib.hid (Law.then_ (by (repeat (first | exact Below.refl _ _ | refine Below.setCell ?_ (by first | omega | (simp; omega) | (simp; done)) _ | refine Below.drew ?_ | refine Law.up ?_ _ | refine Below.alloc ?_ (by first | omega | (simp; omega) | (simp; done)) _ | refine Law.then_ ?_ (Hid.out (by assumption))))) hb2)
          have sz2 := hb2.size; (try simp at sz2)
          obtain ⟨c20, c21, f20, f21⟩ := Blk.below (b := w.heap.size) (x := .int .i64 0) (y := .int .i64 0) ⟨by go_simp, by go_simp, by go_simp, by go_simp⟩ hb2 (by first | omega | (simp; omega) | (simp; done))
          obtain ⟨c30, c31, f30, f31⟩ := Blk.below (b := w1.heap.size) (x := .int .i64 0) (y := .int .i64 0) ⟨by go_simp, by go_simp, by go_simp, by go_simp⟩ hb2 (by first | omega | (simp; omega) | (simp; done))
          clear hb2 c10 c11 f10 f11
          go_wp2_with fail
          go_at_call 17
          refine (HD.out _ (by (repeat (first | exact Below.refl _ _ | refine Below.setCell ?_ (by first | omega | (simp; omega) | (simp; done)) _ | refine Below.drew ?_ | refine Law.up ?_ _ | refine Below.alloc ?_ (by first | omega | (simp; omega) | (simp; done)) _ | refine Law.then_ ?_ (Hid.out (by assumption)))))).mono ?_
          rintro e w3 ⟨rfl, hb3⟩
          have B3 : Hid (Below w.heap.size w w3) := Lib.hid (Law.then_ (by (repeat (first | exact Below.refl _ _ | refine Below.setCell ?_ (by first | omega | (simp; omega) | (simp; done)) _ | refine Below.drew ?_ | refine Law.up ?_ _ | refine Below.alloc ?_ (by first | omega | (simp; omega) | (simp; done)) _ | refine Law.then_ ?_ (Hid.out (by assumption))))) hb3)
          have sz3 := hb3.size; (try simp at sz3)
          obtain ⟨c40, c41, f40, f41⟩ := Blk.below (b := w.heap.size) (x := .int .i64 0) (y := .int .i64 0) ⟨by go_simp, by go_simp, by go_simp, by go_simp⟩ hb3 (by first | omega | (simp; omega) | (simp; done))
          obtain ⟨c50, c51, f50, f51⟩ := Blk.below (b := w1.heap.size) (x := .int .i64 v1) (y := .int .i64 0) ⟨by go_simp, by go_simp, by go_simp, by go_simp⟩ hb3 (by first | omega | (simp; omega) | (simp; done))
          clear hb3 c20 c21 f20 f21 c30 c31 f30 f31
          go_wp2_with fail
          go_at_call 7
          refine (HX.out _ (by (repeat (first | exact Below.refl _ _ | refine Below.setCell ?_ (by first | omega | (simp; omega) | (simp; done)) _ | refine Below.drew ?_ | refine Law.up ?_ _ | refine Below.alloc ?_ (by first | omega | (simp; omega) | (simp; done)) _ | refine Law.then_ ?_ (Hid.out (by assumption)))))).mono ?_
          rintro e w4 ⟨rfl, hb4⟩
          have B4 : Hid (Below w.heap.size w w4) := Lib.hid (Law.then_ (by (repeat (first | exact Below.refl _ _ | refine Below.setCell ?_ (by first | omega | (simp; omega) | (simp; done)) _ | refine Below.drew ?_ | refine Law.up ?_ _ | refine Below.alloc ?_ (by first | omega | (simp; omega) | (simp; done)) _ | refine Law.then_ ?_ (Hid.out (by assumption))))) hb4)
          have sz4 := hb4.size; (try simp at sz4)
          obtain ⟨c60, c61, f60, f61⟩ := Blk.below (b := w.heap.size) (x := .int .i64 0) (y := .int .i64 0) ⟨by go_simp, by go_simp, by go_simp, by go_simp⟩ hb4 (by first | omega | (simp; omega) | (simp; done))
          obtain ⟨c70, c71, f70, f71⟩ := Blk.below (b := w1.heap.size) (x := .int .i64 v1) (y := .int .i64 v2) ⟨by go_simp, by go_simp, by go_simp, by go_simp⟩ hb4 (by first | omega | (simp; omega) | (simp; done))
          clear hb4 c40 c41 f40 f41 c50 c51 f50 f51
          go_wp2
          refine ret_frac (x := .int .i64 0) (y := .int .i64 0) rfl rfl rfl ⟨by go_simp, by go_simp, by go_simp, by go_simp⟩ rfl ⟨by rw [HR.out]; rfl, ?_⟩
          (repeat (first | exact Below.refl _ _ | refine Below.setCell ?_ (by first | omega | (simp; omega) | (simp; done)) _ | refine Below.drew ?_ | refine Law.up ?_ _ | refine Below.alloc ?_ (by first | omega | (simp; omega) | (simp; done)) _ | refine Law.then_ ?_ (Hid.out (by assumption))))
  · replace hp := Bool.eq_false_iff.2 hp
    rw [hpn hp] at HD
    rw [hp] at HC
    clear hpd hpn hp
    cases o1
    · have HR : Hid (P = (0, 0, false)) := HP.out.trans (if_neg fun h => Bool.noConfusion h.1.1)
      clear HP
      go_enter Tryd.func9, Tryd.ntmps9
      go_wp2_with fail
      go_at_call 16
      refine (HC.out _ (by (repeat (first | exact Below.refl _ _ | refine Below.setCell ?_ (by first | omega | (simp; omega) | (simp; done)) _ | refine Below.drew ?_ | refine Law.up ?_ _ | refine Below.alloc ?_ (by first | omega | (simp; omega) | (simp; done)) _ | refine Law.then_ ?_ (Hid.out (by assumption)))))).mono ?_
      rintro e w1 ⟨rfl, hb1⟩
      have B1 : Hid (Below w.heap.size w w1) := Lib.hid (Law.then_ (by (repeat (first | exact Below.refl _ _ | refine Below.setCell ?_ (by first | omega | (simp; omega) | (simp; done)) _ | refine Below.drew ?_ | refine Law.up ?_ _ | refine Below.alloc ?_ (by first | omega | (simp; omega) | (simp; done)) _ | refine Law.then_ ?_ (Hid.out (by assumption))))) hb1)
      have sz1 := hb1.size; (try simp at sz1)
      obtain ⟨c10, c11, f10, f11⟩ := Blk.below (b := w.heap.size) (x := .int .i64 0) (y := .int .i64 0) ⟨by go_simp, by go_simp, by go_simp, by go_simp⟩ hb1 (by first | omega | (simp; omega) | (simp; done))
      have lt1 : w.heap.size < w1.heap.size := by omega
      have ne1 : ¬ w1.heap.size = w.heap.size := by omega
      have ne2 : ¬ w.heap.size = w1.heap.size := by omega
      clear hb1
      go_wp2_with fail
      go_at_call 17
      refine (HA.out _ (by (repeat (first | exact Below.refl _ _ | refine Below.setCell ?_ (by first | omega | (simp; omega) | (simp; done)) _ | refine Below.drew ?_ | refine Law.up ?_ _ | refine Below.alloc ?_ (by first | omega | (simp; omega) | (simp; done)) _ | refine Law.then_ ?_ (Hid.out (by assumption)))))).mono ?_
      rintro e w2 ⟨rfl, hb2⟩
      have B2 : Hid (Below w.heap.size w w2) := Lib.hid (Law.then_ (by (repeat (first | exact Below.refl _ _ | refine Below.setCell ?_ (by first | omega | (simp; omega) | (simp; done)) _ | refine Below.drew ?_ | refine Law.up ?_ _ | refine Below.alloc ?_ (by first | omega | (simp; omega) | (simp; done)) _ | refine Law.then_ ?_ (Hid.out (by assumption))))) hb2)
      have sz2 := hb2.size; (try simp at sz2)
      obtain ⟨c20, c21, f20, f21⟩ := Blk.below (b := w.heap.size) (x := .int .i64 0) (y := .int .i64 0) ⟨by go_simp, by go_simp, by go_simp, by go_simp⟩ hb2 (by first | omega | (simp; omega) | (simp; done))
      obtain ⟨c30, c31, f30, f31⟩ := Blk.below (b := w1.heap.size) (x := .int .i64 0) (y := .int .i64 0) ⟨by go_simp, by go_simp, by go_simp, by go_simp⟩ hb2 (by first | omega | (simp; omega) | (simp; done))
      clear hb2 c10 c11 f10 f11
      go_wp2
      refine ret_frac (x := .int .i64 0) (y := .int .i64 0) rfl rfl rfl ⟨by go_simp, by go_simp, by go_simp, by go_simp⟩ rfl ⟨by rw [HR.out]; rfl, ?_⟩
      (repeat (first | exact Below.refl _ _ | refine Below.setCell ?_ (by first | omega | (simp; omega) | (simp; done)) _ | refine Below.drew ?_ | refine Law.up ?_ _ | refine Below.alloc ?_ (by first | omega | (simp; omega) | (simp; done)) _ | refine Law.then_ ?_ (Hid.out (by assumption))))
    · cases o2
      · have HR : Hid (P = (0, 0, false)) := HP.out.trans (if_neg fun h => Bool.noConfusion h.1.2)
        clear HP
        go_enter Tryd.func9, Tryd.ntmps9
        go_wp2_with fail
        go_at_call 16
        refine (HC.out _ (by (repeat (first | exact Below.refl _ _ | refine Below.setCell ?_ (by first | omega | (simp; omega) | (simp; done)) _ | refine Below.drew ?_ | refine Law.up ?_ _ | refine Below.alloc ?_ (by first | omega | (simp; omega) | (simp; done)) _ | refine Law.then_ ?_ (Hid.out (by assumption)))))).mono ?_
        rintro e w1 ⟨rfl, hb1⟩
        have B1 : Hid (Below w.heap.size w w1) := Lib.hid (Law.then_ (by (repeat (first | exact Below.refl _ _ | refine Below.setCell ?_ (by first | omega | (simp; omega) | (simp; done)) _ | refine Below.drew ?_ | refine Law.up ?_ _ | refine Below.alloc ?_ (by first | omega | (simp; omega) | (simp; done)) _ | refine Law.then_ ?_ (Hid.out (by assumption))))) hb1)
        have sz1 := hb1.size; (try simp at sz1)
        obtain ⟨c10, c11, f10, f11⟩ := Blk.below (b := w.heap.size) (x := .int .i64 0) (y := .int .i64 0) ⟨by go_simp, by go_simp, by go_simp, by go_simp⟩ hb1 (by first | omega | (simp; omega) | (simp; done))
        have lt1 : w.heap.size < w1.heap.size := by omega
        have ne1 : ¬ w1.heap.size = w.heap.size := by omega
        have ne2 : ¬ w.heap.size = w1.heap.size := by omega
        clear hb1
        go_wp2_with fail
        go_at_call 17
        refine (HA.out _ (by (repeat (first | exact Below.refl _ _ | refine Below.setCell ?_ (by first | omega | (simp; omega) | (simp; done)) _ | refine Below.drew ?_ | refine Law.up ?_ _ | refine Below.alloc ?_ (by first | omega | (simp; omega) | (simp; done)) _ | refine Law.then_ ?_ (Hid.out (by assumption)))))).mono ?_
        rintro e w2 ⟨rfl, hb2⟩
        have B2 : Hid (Below w.heap.size w w2) := Lib.hid (Law.then_ (by (repeat (first | exact Below.refl _ _ | refine Below.setCell ?_ (by first | omega | (simp; omega) | (simp; done)) _ | refine Below.drew ?_ | refine Law.up ?_ _ | refine Below.alloc ?_ (by first | omega | (simp; omega) | (simp; done)) _ | refine Law.then_ ?_ (Hid.out (by assumption))))) hb2)
        have sz2 := hb2.size; (try simp at sz2)
        obtain ⟨c20, c21, f20, f21⟩ := Blk.below (b := w.heap.size) (x := .int .i64 0) (y := .int .i64 0) ⟨by go_simp, by go_simp, by go_simp, by go_simp⟩ hb2 (by first | omega | (simp; omega) | (simp; done))
        obtain ⟨c30, c31, f30, f31⟩ := Blk.below (b := w1.heap.size) (x := .int .i64 0) (y := .int .i64 0) ⟨by go_simp, by go_simp, by go_simp, by go_simp⟩ hb2 (by first | omega | (simp; omega) | (simp; done))
        clear hb2 c10 c11 f10 f11
        go_wp2_with fail
        go_at_call 17
        refine (HD.out _ (by (repeat (first | exact Below.refl _ _ | refine Below.setCell ?_ (by first | omega | (simp; omega) | (simp; done)) _ | refine Below.drew ?_ | refine Law.up ?_ _ | refine Below.alloc ?_ (by first | omega | (simp; omega) | (simp; done)) _ | refine Law.then_ ?_ (Hid.out (by assumption)))))).mono ?_
        rintro e w3 ⟨rfl, hb3⟩
        have B3 : Hid (Below w.heap.size w w3) := Lib.hid (Law.then_ (by (repeat (first | exact Below.refl _ _ | refine Below.setCell ?_ (by first | omega | (simp; omega) | (simp; done)) _ | refine Below.drew ?_ | refine Law.up ?_ _ | refine Below.alloc ?_ (by first | omega | (simp; omega) | (simp; done)) _ | refine Law.then_ ?_ (Hid.out (by assumption))))) hb3)
        have sz3 := hb3.size; (try simp at sz3)
        obtain ⟨c40, c41, f40, f41⟩ := Blk.below (b := w.heap.size) (x := .int .i64 0) (y := .int .i64 0) ⟨by go_simp, by go_simp, by go_simp, by go_simp⟩ hb3 (by first | omega | (simp; omega) | (simp; done))
        obtain ⟨c50, c51, f50, f51⟩ := Blk.below (b := w1.heap.size) (x := .int .i64 v1) (y := .int .i64 0) ⟨by go_simp, by go_simp, by go_simp, by go_simp⟩ hb3 (by first | omega | (simp; omega) | (simp; done))
        clear hb3 c20 c21 f20 f21 c30 c31 f30 f31
        go_wp2
        refine ret_frac (x := .int .i64 0) (y := .int .i64 0) rfl rfl rfl ⟨by go_simp, by go_simp, by go_simp, by go_simp⟩ rfl ⟨by rw [HR.out]; rfl, ?_⟩
        (repeat (first | exact Below.refl _ _ | refine Below.setCell ?_ (by first | omega | (simp; omega) | (simp; done)) _ | refine Below.drew ?_ | refine Law.up ?_ _ | refine Below.alloc ?_ (by first | omega | (simp; omega) | (simp; done)) _ | refine Law.then_ ?_ (Hid.out (by assumption))))
      · by_cases hg : F.good v1 v2 = true
        · by_cases ht : txt v1 v2 = s
          · have HR : Hid (P = (v1, v2, true)) := HP.out.trans (if_pos ⟨⟨rfl, rfl⟩, hg, ht⟩)
            rw [show textR v1 v2 = (txt v1 v2, true) from if_pos hg] at HX
            have hts : txt v1 v2 = s := ht
            clear hg ht
            clear HP
            go_enter Tryd.func9, Tryd.ntmps9
            go_wp2_with fail
            go_at_call 16
            refine (HC.out _ (by (repeat (first | exact Below.refl _ _ | refine Below.setCell ?_ (by first | omega | (simp; omega) | (simp; done)) _ | refine Below.drew ?_ | refine Law.up ?_ _ | refine Below.alloc ?_ (by first | omega | (simp; omega) | (simp; done)) _ | refine Law.then_ ?_ (Hid.out (by assumption)))))).mono ?_
            rintro e w1 ⟨rfl, hb1⟩
            have B1 : Hid (Below w.heap.size w w1) := Lib.hid (Law.then_ (by (repeat (first | exact Below.refl _ _ | refine Below.setCell ?_ (by first | omega | (simp; omega) | (simp; done)) _ | refine Below.drew ?_ | refine Law.up ?_ _ | refine Below.alloc ?_ (by first | omega | (simp; omega) | (simp; done)) _ | refine Law.then_ ?_ (Hid.out (by assumption))))) hb1)
            have sz1 := hb1.size; (try simp at sz1)
            obtain ⟨c10, c11, f10, f11⟩ := Blk.below (b := w.heap.size) (x := .int .i64 0) (y := .int .i64 0) ⟨by go_simp, by go_simp, by go_simp, by go_simp⟩ hb1 (by first | omega | (simp; omega) | (simp; done))
            have lt1 : w.heap.size < w1.heap.size := by omega
            have ne1 : ¬ w1.heap.size = w.heap.size := by omega
            have ne2 : ¬ w.heap.size = w1.heap.size := by omega
            clear hb1
            go_wp2_with fail
            go_at_call 17
            refine (HA.out _ (by (repeat (first | exact Below.refl _ _ | refine Below.setCell ?_ (by first | omega | (simp; omega) | (simp; done)) _ | refine Below.drew ?_ | refine Law.up ?_ _ | refine Below.alloc ?_ (by first | omega | (simp; omega) | (simp; done)) _ | refine Law.then_ ?_ (Hid.out (by assumption)))))).mono ?_
            rintro e w2 ⟨rfl, hb2⟩
            have B2 : Hid (Below w.heap.size w w2) := Lib.hid (Law.then_ (by (repeat (first | exact Below.refl _ _ | refine Below.setCell ?_ (by first | omega | (simp; omega) | (simp; done)) _ | refine Below.drew ?_ | refine Law.up ?_ _ | refine Below.alloc ?_ (by first | omega | (simp; omega) | (simp; done)) _ | refine Law.then_ ?_ (Hid.out (by assumption))))) hb2)
            have sz2 := hb2.size; (try simp at sz2)
            obtain ⟨c20, c21, f20, f21⟩ := Blk.below (b := w.heap.size) (x := .int .i64 0) (y := .int .i64 0) ⟨by go_simp, by go_simp, by go_simp, by go_simp⟩ hb2 (by first | omega | (simp; omega) | (simp; done))
            obtain ⟨c30, c31, f30, f31⟩ := Blk.below (b := w1.heap.size) (x := .int .i64 0) (y := .int .i64 0) ⟨by go_simp, by go_simp, by go_simp, by go_simp⟩ hb2 (by first | omega | (simp; omega) | (simp; done))
            clear hb2 c10 c11 f10 f11
            go_wp2_with fail
            go_at_call 17
            refine (HD.out _ (by (repeat (first | exact Below.refl _ _ | refine Below.setCell ?_ (by first | omega | (simp; omega) | (simp; done)) _ | refine Below.drew ?_ | refine Law.up ?_ _ | refine Below.alloc ?_ (by first | omega | (simp; omega) | (simp; done)) _ | refine Law.then_ ?_ (Hid.out (by assumption)))))).mono ?_
            rintro e w3 ⟨rfl, hb3⟩
            have B3 : Hid (Below w.heap.size w w3) := Lib.hid (Law.then_ (by (repeat (first | exact Below.refl _ _ | refine Below.setCell ?_ (by first | omega | (simp; omega) | (simp; done)) _ | refine Below.drew ?_ | refine Law.up ?_ _ | refine Below.alloc ?_ (by first | omega | (simp; omega) | (simp; done)) _ | refine Law.then_ ?_ (Hid.out (by assumption))))) hb3)
            have sz3 := hb3.size; (try simp at sz3)
            obtain ⟨c40, c41, f40, f41⟩ := Blk.below (b := w.heap.size) (x := .int .i64 0) (y := .int .i64 0) ⟨by go_simp, by go_simp, by go_simp, by go_simp⟩ hb3 (by first | omega | (simp; omega) | (simp; done))
            obtain ⟨c50, c51, f50, f51⟩ := Blk.below (b := w1.heap.size) (x := .int .i64 v1) (y := .int .i64 0) ⟨by go_simp, by go_simp, by go_simp, by go_simp⟩ hb3 (by first | omega | (simp; omega) | (simp; done))
            clear hb3 c20 c21 f20 f21 c30 c31 f30 f31
            go_wp2_with fail
            go_at_call 7
            refine (HX.out _ (by (repeat (first | exact Below.refl _ _ | refine Below.setCell ?_ (by first | omega | (simp; omega) | (simp; done)) _ | refine Below.drew ?_ | refine Law.up ?_ _ | refine Below.alloc ?_ (by first | omega | (simp; omega) | (simp; done)) _ | refine Law.then_ ?_ (Hid.out (by assumption)))))).mono ?_
            rintro e w4 ⟨rfl, hb4⟩
            have B4 : Hid (Below w.heap.size w w4) := Lib.hid (Law.then_ (by (repeat (first | exact Below.refl _ _ | refine Below.setCell ?_ (by first | omega | (simp; omega) | (simp; done)) _ | refine Below.drew ?_ | refine Law.up ?_ _ | refine Below.alloc ?_ (by first | omega | (simp; omega) | (simp; done)) _ | refine Law.then_ ?_ (Hid.out (by assumption))))) hb4)
            have sz4 := hb4.size; (try simp at sz4)
            obtain ⟨c60, c61, f60, f61⟩ := Blk.below (b := w.heap.size) (x := .int .i64 0) (y := .int .i64 0) ⟨by go_simp, by go_simp, by go_simp, by go_simp⟩ hb4 (by first | omega | (simp; omega) | (simp; done))
            obtain ⟨c70, c71, f70, f71⟩ := Blk.below (b := w1.heap.size) (x := .int .i64 v1) (y := .int .i64 v2) ⟨by go_simp, by go_simp, by go_simp, by go_simp⟩ hb4 (by first | omega | (simp; omega) | (simp; done))
            clear hb4 c40 c41 f40 f41 c50 c51 f50 f51
            go_wp2
            refine ret_frac (x := .int .i64 v1) (y := .int .i64 v2) rfl rfl rfl ⟨by go_simp, by go_simp, by go_simp, by go_simp⟩ rfl ⟨by rw [HR.out]; rfl, ?_⟩
            (repeat (first | exact Below.refl _ _ | refine Below.setCell ?_ (by first | omega | (simp; omega) | (simp; done)) _ | refine Below.drew ?_ | refine Law.up ?_ _ | refine Below.alloc ?_ (by first | omega | (simp; omega) | (simp; done)) _ | refine Law.then_ ?_ (Hid.out (by assumption))))
          · have HR : Hid (P = (0, 0, false)) := HP.out.trans (if_neg fun h => ht h.2.2)
            rw [show textR v1 v2 = (txt v1 v2, true) from if_pos hg] at HX
            have hts := neq_lists (a := txt v1 v2) (b := s) ht
            clear hg ht
            clear HP
            go_enter Tryd.func9, Tryd.ntmps9
            go_wp2_with fail
            go_at_call 16
            refine (HC.out _ (by (repeat (first | exact Below.refl _ _ | refine Below.setCell ?_ (by first | omega | (simp; omega) | (simp; done)) _ | refine Below.drew ?_ | refine Law.up ?_ _ | refine Below.alloc ?_ (by first | omega | (simp; omega) | (simp; done)) _ | refine Law.then_ ?_ (Hid.out (by assumption)))))).mono ?_
            rintro e w1 ⟨rfl, hb1⟩
            have B1 : Hid (Below w.heap.size w w1) := Lib.hid (Law.then_ (by (repeat (first | exact Below.refl _ _ | refine Below.setCell ?_ (by first | omega | (simp; omega) | (simp; done)) _ | refine Below.drew ?_ | refine Law.up ?_ _ | refine Below.alloc ?_ (by first | omega | (simp; omega) | (simp; done)) _ | refine Law.then_ ?_ (Hid.out (by assumption))))) hb1)
            have sz1 := hb1.size; (try simp at sz1)
            obtain ⟨c10, c11, f10, f11⟩ := Blk.below (b := w.heap.size) (x := .int .i64 0) (y := .int .i64 0) ⟨by go_simp, by go_simp, by go_simp, by go_simp⟩ hb1 (by first | omega | (simp; omega) | (simp; done))
            have lt1 : w.heap.size < w1.heap.size := by omega
            have ne1 : ¬ w1.heap.size = w.heap.size := by omega
            have ne2 : ¬ w.heap.size = w1.heap.size := by omega
            clear hb1
            go_wp2_with fail
            go_at_call 17
            refine (HA.out _ (by (repeat (first | exact Below.refl _ _ | refine Below.setCell ?_ (by first | omega | (simp; omega) | (simp; done)) _ | refine Below.drew ?_ | refine Law.up ?_ _ | refine Below.alloc ?_ (by first | omega | (simp; omega) | (simp; done)) _ | refine Law.then_ ?_ (Hid.out (by assumption)))))).mono ?_
            rintro e w2 ⟨rfl, hb2⟩
            have B2 : Hid (Below w.heap.size w w2) := Lib.hid (Law.then_ (by (repeat (first | exact Below.refl _ _ | refine Below.setCell ?_ (by first | omega | (simp; omega) | (simp; done)) _ | refine Below.drew ?_ | refine Law.up ?_ _ | refine Below.alloc ?_ (by first | omega | (simp; omega) | (simp; done)) _ | refine Law.then_ ?_ (Hid.out (by assumption))))) hb2)
            have sz2 := hb2.size; (try simp at sz2)
            obtain ⟨c20, c21, f20, f21⟩ := Blk.below (b := w.heap.size) (x := .int .i64 0) (y := .int .i64 0) ⟨by go_simp, by go_simp, by go_simp, by go_simp⟩ hb2 (by first | omega | (simp; omega) | (simp; done))
            obtain ⟨c30, c31, f30, f31⟩ := Blk.below (b := w1.heap.size) (x := .int .i64 0) (y := .int .i64 0) ⟨by go_simp, by go_simp, by go_simp, by go_simp⟩ hb2 (by first | omega | (simp; omega) | (simp; done))
            clear hb2 c10 c11 f10 f11
            go_wp2_with fail
            go_at_call 17
            refine (HD.out _ (by (repeat (first | exact Below.refl _ _ | refine Below.setCell ?_ (by first | omega | (simp; omega) | (simp; done)) _ | refine Below.drew ?_ | refine Law.up ?_ _ | refine Below.alloc ?_ (by first | omega | (simp; omega) | (simp; done)) _ | refine Law.then_ ?_ (Hid.out (by assumption)))))).mono ?_
            rintro e w3 ⟨rfl, hb3⟩
            have B3 : Hid (Below w.heap.size w w3) := Lib.hid (Law.then_ (by (repeat (first | exact Below.refl _ _ | refine Below.setCell ?_ (by first | omega | (simp; omega) | (simp; done)) _ | refine Below.drew ?_ | refine Law.up ?_ _ | refine Below.alloc ?_ (by first | omega | (simp; omega) | (simp; done)) _ | refine Law.then_ ?_ (Hid.out (by assumption))))) hb3)
            have sz3 := hb3.size; (try simp at sz3)
            obtain ⟨c40, c41, f40, f41⟩ := Blk.below (b := w.heap.size) (x := .int .i64 0) (y := .int .i64 0) ⟨by go_simp, by go_simp, by go_simp, by go_simp⟩ hb3 (by first | omega | (simp; omega) | (simp; done))
            obtain ⟨c50, c51, f50, f51⟩ := Blk.below (b := w1.heap.size) (x := .int .i64 v1) (y := .int .i64 0) ⟨by go_simp, by go_simp, by go_simp, by go_simp⟩ hb3 (by first | omega | (simp; omega) | (simp; done))
            clear hb3 c20 c21 f20 f21 c30 c31 f30 f31
            go_wp2_with fail
            go_at_call 7
            refine (HX.out _ (by (repeat (first | exact Below.refl _ _ | refine Below.setCell ?_ (by first | omega | (simp; omega) | (simp; done)) _ | refine Below.drew ?_ | refine Law.up ?_ _ | refine Below.alloc ?_ (by first | omega | (simp; omega) | (simp; done)) _ | refine Law.then_ ?_ (Hid.out (by assumption)))))).mono ?_
            rintro e w4 ⟨rfl, hb4⟩
            have B4 : Hid (Below w.heap.size w w4) := Lib.hid (Law.then_ (by (repeat (first | exact Below.refl _ _ | refine Below.setCell ?_ (by first | omega | (simp; omega) | (simp; done)) _ | refine Below.drew ?_ | refine Law.up ?_ _ | refine Below.alloc ?_ (by first | omega | (simp; omega) | (simp; done)) _ | refine Law.then_ ?_ (Hid.out (by assumption))))) hb4)
            have sz4 := hb4.size; (try simp at sz4)
            obtain ⟨c60, c61, f60, f61⟩ := Blk.below (b := w.heap.size) (x := .int .i64 0) (y := .int .i64 0) ⟨by go_simp, by go_simp, by go_simp, by go_simp⟩ hb4 (by first | omega | (simp; omega) | (simp; done))
            obtain ⟨c70, c71, f70, f71⟩ := Blk.below (b := w1.heap.size) (x := .int .i64 v1) (y := .int .i64 v2) ⟨by go_simp, by go_simp, by go_simp, by go_simp⟩ hb4 (by first | omega | (simp; omega) | (simp; done))
            clear hb4 c40 c41 f40 f41 c50 c51 f50 f51
            go_wp2
            refine ret_frac (x := .int .i64 0) (y := .int .i64 0) rfl rfl rfl ⟨by go_simp, by go_simp, by go_simp, by go_simp⟩ rfl ⟨by rw [HR.out]; rfl, ?_⟩
            (repeat (first | exact Below.refl _ _ | refine Below.setCell ?_ (by first | omega | (simp; omega) | (simp; done)) _ | refine Below.drew ?_ | refine Law.up ?_ _ | refine Below.alloc ?_ (by first | omega | (simp; omega) | (simp; done)) _ | refine Law.then_ ?_ (Hid.out (by assumption))))
        · have HR : Hid (P = (0, 0, false)) := HP.out.trans (if_neg fun h => hg h.2.1)
          rw [show textR v1 v2 = (⟨#[]⟩, false) from if_neg hg] at HX
          clear hg
          clear HP
          go_enter Tryd.func9, Tryd.ntmps9
          go_wp2_with fail
          go_at_call 16
          refine (HC.out _ (by (repeat (first | exact Below.refl _ _ | refine Below.setCell ?_ (by first | omega | (simp; omega) | (simp; done)) _ | refine Below.drew ?_ | refine Law.up ?_ _ | refine Below.alloc ?_ (by first | omega | (simp; omega) | (simp; done)) _ | refine Law.then_ ?_ (Hid.out (by assumption)))))).mono ?_
          rintro e w1 ⟨rfl, hb1⟩
          have B1 : Hid (Below w.heap.size w w1) := Lib.hid (Law.then_ (by (repeat (first | exact Below.refl _ _ | refine Below.setCell ?_ (by first | omega | (simp; omega) | (simp; done)) _ | refine Below.drew ?_ | refine Law.up ?_ _ | refine Below.alloc ?_ (by first | omega | (simp; omega) | (simp; done)) _ | refine Law.then_ ?_ (Hid.out (by assumption))))) hb1)
          have sz1 := hb1.size; (try simp at sz1)
          obtain ⟨c10, c11, f10, f11⟩ := Blk.below (b := w.heap.size) (x := .int .i64 0) (y := .int .i64 0) ⟨by go_simp, by go_simp, by go_simp, by go_simp⟩ hb1 (by first | omega | (simp; omega) | (simp; done))
          have lt1 : w.heap.size < w1.heap.size := by omega
          have ne1 : ¬ w1.heap.size = w.heap.size := by omega
          have ne2 : ¬ w.heap.size = w1.heap.size := by omega
          clear hb1
          go_wp2_with fail
          go_at_call 17
          refine (HA.out _ (by (repeat (first | exact Below.refl _ _ | refine Below.setCell ?_ (by first | omega | (simp; omega) | (simp; done)) _ | refine Below.drew ?_ | refine Law.up ?_ _ | refine Below.alloc ?_ (by first | omega | (simp; omega) | (simp; done)) _ | refine Law.then_ ?_ (Hid.out (by assumption)))))).mono ?_
          rintro e w2 ⟨rfl, hb2⟩
          have B2 : Hid (Below w.heap.size w w2) := Lib.hid (Law.then_ (by (repeat (first | exact Below.refl _ _ | refine Below.setCell ?_ (by first | omega | (simp; omega) | (simp; done)) _ | refine Below.drew ?_ | refine Law.up ?_ _ | refine Below.alloc ?_ (by first | omega | (simp; omega) | (simp; done)) _ | refine Law.then_ ?_ (Hid.out (by assumption))))) hb2)
          have sz2 := hb2.size; (try simp at sz2)
          obtain ⟨c20, c21, f20, f21⟩ := Blk.below (b := w.heap.size) (x := .int .i64 0) (y := .int .i64 0) ⟨by go_simp, by go_simp, by go_simp, by go_simp⟩ hb2 (by first | omega | (simp; omega) | (simp; done))
          obtain ⟨c30, c31, f30, f31⟩ := Blk.below (b := w1.heap.size) (x := .int .i64 0) (y := .int .i64 0) ⟨by go_simp, by go_simp, by go_simp, by go_simp⟩ hb2 (by first | omega | (simp; omega) | (simp; done))
          clear hb2 c10 c11 f10 f11
          go_wp2_with fail
          go_at_call 17
          refine (HD.out _ (by (repeat (first | exact Below.refl _ _ | refine Below.setCell ?_ (by first | omega | (simp; omega) | (simp; done)) _ | refine Below.drew ?_ | refine Law.up ?_ _ | refine Below.alloc ?_ (by first | omega | (simp; omega) | (simp; done)) _ | refine Law.then_ ?_ (Hid.out (by assumption)))))).mono ?_
          rintro e w3 ⟨rfl, hb3⟩
          have B3 : Hid (Below w.heap.size w w3) := Lib.hid (Law.then_ (by (repeat (first | exact Below.refl _ _ | refine Below.setCell ?_ (by first | omega | (simp; omega) | (simp; done)) _ | refine Below.drew ?_ | refine Law.up ?_ _ | refine Below.alloc ?_ (by first | omega | (simp; omega) | (simp; done)) _ | refine Law.then_ ?_ (Hid.out (by assumption))))) hb3)
          have sz3 := hb3.size; (try simp at sz3)
          obtain ⟨c40, c41, f40, f41⟩ := Blk.below (b := w.heap.size) (x := .int .i64 0) (y := .int .i64 0) ⟨by go_simp, by go_simp, by go_simp, by go_simp⟩ hb3 (by first | omega | (simp; omega) | (simp; done))
          obtain ⟨c50, c51, f50, f51⟩ := Blk.below (b := w1.heap.size) (x := .int .i64 v1) (y := .int .i64 0) ⟨by go_simp, by go_simp, by go_simp, by go_simp⟩ hb3 (by first | omega | (simp; omega) | (simp; done))
          clear hb3 c20 c21 f20 f21 c30 c31 f30 f31
          go_wp2_with fail
          go_at_call 7
          refine (HX.out _ (by (repeat (first | exact Below.refl _ _ | refine Below.setCell ?_ (by first | omega | (simp; omega) | (simp; done)) _ | refine Below.drew ?_ | refine Law.up ?_ _ | refine Below.alloc ?_ (by first | omega | (simp; omega) | (simp; done)) _ | refine Law.then_ ?_ (Hid.out (by assumption)))))).mono ?_
          rintro e w4 ⟨rfl, hb4⟩
          have B4 : Hid (Below w.heap.size w w4) := Lib.hid (Law.then_ (by (repeat (first | exact Below.refl _ _ | refine Below.setCell ?_ (by first | omega | (simp; omega) | (simp; done)) _ | refine Below.drew ?_ | refine Law.up ?_ _ | refine Below.alloc ?_ (by first | omega | (simp; omega) | (simp; done)) _ | refine Law.then_ ?_ (Hid.out (by assumption))))) hb4)
          have sz4 := hb4.size; (try simp at sz4)
          obtain ⟨c60, c61, f60, f61⟩ := Blk.below (b := w.heap.size) (x := .int .i64 0) (y := .int .i64 0) ⟨by go_simp, by go_simp, by go_simp, by go_simp⟩ hb4 (by first | omega | (simp; omega) | (simp; done))
          obtain ⟨c70, c71, f70, f71⟩ := Blk.below (b := w1.heap.size) (x := .int .i64 v1) (y := .int .i64 v2) ⟨by go_simp, by go_simp, by go_simp, by go_simp⟩ hb4 (by first | omega | (simp; omega) | (simp; done))
          clear hb4 c40 c41 f40 f41 c50 c51 f50 f51
          go_wp2
          refine ret_frac (x := .int .i64 0) (y := .int .i64 0) rfl rfl rfl ⟨by go_simp, by go_simp, by go_simp, by go_simp⟩ rfl ⟨by rw [HR.out]; rfl, ?_⟩
          (repeat (first | exact Below.refl _ _ | refine Below.setCell ?_ (by first | omega | (simp; omega) | (simp; done)) _ | refine Below.drew ?_ | refine Law.up ?_ _ | refine Below.alloc ?_ (by first | omega | (simp; omega) | (simp; done)) _ | refine Law.then_ ?_ (Hid.out (by assumption))))
end Go.Proofs.YtppmepajcdldkabDoor
