/-
  The contracts of the program's and of the model's AppendChecksum: both end as 'ap' says.
-/
import Derived.Test.YtppmepajcdldkaaDoorHas
import Derived.Test.YtppmepajcdldkaaDoorCk
import Derived.Test.YtppmepajcdldkaaDoorFmt
import Derived.Test.YtppmepajcdldkaaDoorDec
namespace Go.Proofs.YtppmepajcdldkaaDoor
open Go.RowKit Go.Sort
/-- A text with its checksum. -/
def sealS (s : ByteArray) : ByteArray := s ++ ⟨#[35]⟩ ++ numS (M.ck s.data.toList)
theorem size_app (a b : ByteArray) : (a ++ b).size = a.size + b.size := by simp
theorem sealS_size (s : ByteArray) : (sealS s).size = s.size + 1 + (numS (M.ck s.data.toList)).size := by
  unfold sealS; rw [size_app, size_app]; rfl
theorem ck_size (s : ByteArray) : (numS (M.ck s.data.toList)).size ≤ 20 := numS_size _ (by have := M.ck_bd s.data.toList; omega) (by have := M.ck_bd s.data.toList; omega)
def okAp (s : ByteArray) : Bool := decide (s.size ≤ 4000) && !hasB s.data.toList 35 && decide ((sealS s).size ≤ 4000)
/-- How AppendChecksum ends. -/
def ap (s : ByteArray) : ByteArray × Bool := if okAp s = true then (sealS s, true) else (⟨#[]⟩, false)
theorem ap_yes {s : ByteArray} (h : s.size ≤ 4000) (h1 : hasB s.data.toList 35 = false) (h2 : (sealS s).size ≤ 4000) : ap s = (sealS s, true) := by
  unfold ap okAp; rw [if_pos (by simp [h, h1, h2])]
theorem ap_no {s : ByteArray} (h : ¬ s.size ≤ 4000 ∨ hasB s.data.toList 35 = true ∨ ¬ (sealS s).size ≤ 4000) : ap s = (⟨#[]⟩, false) := by
  unfold ap okAp; rw [if_neg]
  rcases h with h | h | h <;> simp [h]
theorem ret_ap {a b : ByteArray × Bool} (h : a = b) : Ending.returned (.tuple #[.string a.1, .bool a.2]) = .returned (.tuple #[.string b.1, .bool b.2]) := by rw [h]
theorem add1 (s : ByteArray) (hs : s.size ≤ 1048576) (W : World) : (Op.stringOp .add s ({ data := #[35] } : ByteArray)).run Tryd.prog W = .ok (.string (s ++ { data := #[35] })) W :=
  run_string_add_sum _ _ _ (by have e : ({ data := #[35] } : ByteArray).size = 1 := rfl; omega)
theorem add2 (s : ByteArray) (hs : s.size ≤ 1048576) (W : World) : (Op.stringOp .add (s ++ ({ data := #[35] } : ByteArray)) (numS (M.ck s.data.toList))).run Tryd.prog W = .ok (.string (sealS s)) W :=
  run_string_add_sum _ _ _ (by have e : ({ data := #[35] } : ByteArray).size = 1 := rfl; have := ck_size s; rw [size_app]; omega)
set_option maxHeartbeats 800000 in
theorem implAppend_any (s : ByteArray) (w : World) (hs : s.size ≤ 1048576) (ht : Tab w) :
    Calls Tryd.prog 13 #[.string s] w fun e w' => e = .returned (.tuple #[.string (ap s).1, .bool (ap s).2]) ∧ Below w.heap.size w w' := by
  have HT := Lib.hid ht
  clear ht
  by_cases h1 : s.size ≤ 4000
  · by_cases h2 : hasB s.data.toList 35 = true
    · have H2 := Lib.hid h2
      clear h2
      go_enter Tryd.func13, Tryd.ntmps13
      go_wp2_with (first | (go_at_call 27; refine (implChecksum_yes _ _ h1).mono ?_; rintro e w' ⟨rfl, rfl⟩) | (go_at_call 28; refine (contains_yes _ _ _ H2.out).mono ?_; rintro e w' ⟨rfl, rfl⟩))
      go_ret2
      exact ⟨(ret_ap (ap_no (.inr (.inl H2.out)))).symm, Below.refl _ _⟩
    · have H2 := Lib.hid (Bool.eq_false_iff.2 h2)
      clear h2
      have hb := M.ck_bd s.data.toList
      obtain ⟨hb1, hb2⟩ := hb
      have hn := ck_size s
      have a1 := add1 s hs
      have a2 := add2 s hs
      have HS := Lib.hid (sealS_size s)
      by_cases h3 : s.size + 1 + (numS (M.ck s.data.toList)).size ≤ 4000
      · go_enter Tryd.func13, Tryd.ntmps13
        go_wp2_with (first | (go_at_call 27; refine (implChecksum_yes _ _ h1).mono ?_; rintro e w' ⟨rfl, rfl⟩) | (go_at_call 28; refine (contains_no _ _ _ H2.out).mono ?_; rintro e w' ⟨rfl, rfl⟩) | (go_at_call 7; refine (implFormat_yes _ _ HT.out (by omega) (by omega)).mono ?_; rintro e w' ⟨rfl, hbl⟩))
        go_ret2
        exact ⟨(ret_ap (ap_yes h1 H2.out (by rw [HS.out]; exact h3))).symm, hbl⟩
      · go_enter Tryd.func13, Tryd.ntmps13
        go_wp2_with (first | (go_at_call 27; refine (implChecksum_yes _ _ h1).mono ?_; rintro e w' ⟨rfl, rfl⟩) | (go_at_call 28; refine (contains_no _ _ _ H2.out).mono ?_; rintro e w' ⟨rfl, rfl⟩) | (go_at_call 7; refine (implFormat_yes _ _ HT.out (by omega) (by omega)).mono ?_; rintro e w' ⟨rfl, hbl⟩))
        go_ret2
        exact ⟨(ret_ap (ap_no (.inr (.inr (by rw [HS.out]; exact h3))))).symm, hbl⟩
  · go_enter Tryd.func13, Tryd.ntmps13
    go_wp2_with (go_at_call 27; refine (implChecksum_no _ _ h1 (by omega)).mono ?_; rintro e w' ⟨rfl, rfl⟩)
    go_ret2
    exact ⟨(ret_ap (ap_no (.inl h1))).symm, Below.refl _ _⟩
theorem l1Seal_any (s : ByteArray) (w : World) (hs : s.size ≤ 1048576) :
    Calls Tryd.prog 30 #[.string s] w fun e w' => e = .returned (.string (sealS s)) ∧ ∃ k, w' = w.drewN k := by
  have hb := M.ck_bd s.data.toList
  obtain ⟨hb1, hb2⟩ := hb
  have a1 := add1 s hs
  have a2 := add2 s hs
  go_enter Tryd.func30, Tryd.ntmps30
  go_wp2_with (first | (go_at_call 36; refine (l1Sum_any _ _ (by omega)).mono ?_; rintro e w' ⟨rfl, rfl⟩) | (go_at_call 21; refine (l1Num_any _ _ (by omega) (by omega)).mono ?_; rintro e w' ⟨rfl, k, rfl⟩))
  go_ret
  exact ⟨rfl, k, rfl⟩
set_option maxHeartbeats 800000 in
theorem specAppend_any (s : ByteArray) (w : World) (hs : s.size ≤ 1048576) :
    Calls Tryd.prog 14 #[.string s] w fun e w' => e = .returned (.tuple #[.string (ap s).1, .bool (ap s).2]) ∧ ∃ k, w' = w.drewN k := by
  by_cases h1 : s.size ≤ 4000
  · have st := fun w => l1Stands_any s 35 w (by omega)
    have ST := Lib.hid st
    clear st
    by_cases h2 : hasB s.data.toList 35 = true
    · go_enter Tryd.func14, Tryd.ntmps14
      go_wp2_with (go_at_call 29; refine (ST.out _).mono ?_; rintro e w' ⟨rfl, rfl⟩)
      go_ret2
      exact ⟨(ret_ap (ap_no (.inr (.inl h2)))).symm, 0, rfl⟩
    · have h2' := Bool.eq_false_iff.2 h2
      clear h2
      by_cases h3 : (sealS s).size ≤ 4000
      · go_enter Tryd.func14, Tryd.ntmps14
        go_wp2_with (first | (go_at_call 29; refine (ST.out _).mono ?_; rintro e w' ⟨rfl, rfl⟩) | (go_at_call 30; refine (l1Seal_any _ _ hs).mono ?_; rintro e w' ⟨rfl, k, rfl⟩))
        go_ret2
        exact ⟨(ret_ap (ap_yes h1 h2' h3)).symm, _, rfl⟩
      · go_enter Tryd.func14, Tryd.ntmps14
        go_wp2_with (first | (go_at_call 29; refine (ST.out _).mono ?_; rintro e w' ⟨rfl, rfl⟩) | (go_at_call 30; refine (l1Seal_any _ _ hs).mono ?_; rintro e w' ⟨rfl, k, rfl⟩))
        go_ret2
        exact ⟨(ret_ap (ap_no (.inr (.inr h3)))).symm, _, rfl⟩
  · go_enter Tryd.func14, Tryd.ntmps14
    go_wp2
    go_ret2
    exact ⟨(ret_ap (ap_no (.inl h1))).symm, 0, rfl⟩
end Go.Proofs.YtppmepajcdldkaaDoor
