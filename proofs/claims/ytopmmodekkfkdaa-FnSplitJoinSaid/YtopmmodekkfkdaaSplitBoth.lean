/-
  The contracts of the program's and of the model's SplitString: both end as 'sq' says.
-/
import Derived.Test.YtopmmodekkfkdaaSplitImpl
import Derived.Test.YtopmmodekkfkdaaStrs
namespace Go.Proofs.Ytopmmodekkfkdaa
open Go.RowKit
set_option linter.unusedVariables false
/-- How SplitString ends. -/
def sq (s sep : ByteArray) : List ByteArray × Bool := if h : s.size ≤ 4000 ∧ 0 < sep.size ∧ sep.size ≤ 1 then (splitS s (sep[0]'h.2.1), true) else ([], false)
theorem sq_good {s sep : ByteArray} (hs : s.size ≤ 4000) (h0 : 0 < sep.size) (h1 : sep.size ≤ 1) : sq s sep = (splitS s sep[0], true) := by unfold sq; rw [dif_pos ⟨hs, h0, h1⟩]
theorem sq_bad {s sep : ByteArray} (h : ¬ (s.size ≤ 4000 ∧ 0 < sep.size ∧ sep.size ≤ 1)) : sq s sep = ([], false) := by unfold sq; rw [dif_neg h]
theorem sq_len (s sep : ByteArray) : (sq s sep).1.length ≤ 4001 := by
  by_cases h : s.size ≤ 4000 ∧ 0 < sep.size ∧ sep.size ≤ 1
  · rw [sq_good h.1 h.2.1 h.2.2]
    have := split_len s (sep[0]'h.2.1)
    have := h.1
    show (splitS s _).length ≤ 4001
    omega
  · rw [sq_bad h]; exact Nat.zero_le _
/-- What both give: a row of their own. -/
def SplitSays (s sep : ByteArray) (w : World) (e : Ending) (w' : World) : Prop :=
  ∃ v, e = .returned (.tuple #[v, .bool (sq s sep).2]) ∧ w'.ownsRow w.heap.size 9 1 v (sq s sep).1.length (svs (sq s sep).1) ∧ Below w.heap.size w w'
theorem says_bad {s sep : ByteArray} {w : World} (h : sq s sep = ([], false)) {e : Ending} (he : e = .returned (.tuple #[.slice (some ⟨w.heap.size, 0, none⟩) 0 0, .bool false])) : SplitSays s sep w e (w.alloc (.cells #[] 9)) := by
  unfold SplitSays
  rw [h]
  exact ⟨_, he, ownsRow_new _ _, (Below.refl _ _).alloc (Nat.le_refl _) _⟩
theorem implSplit_any (s sep : ByteArray) (w : World) (hs : s.size ≤ 1048576) (hz : sep.size ≤ 1048576) :
    Calls Try.prog 10 #[.string s, .string sep] w (SplitSays s sep w) := by
  by_cases h : s.size ≤ 4000 ∧ 0 < sep.size ∧ sep.size ≤ 1
  · refine (splitGood s sep w h.1 h.2.1 h.2.2).mono fun e w' hh => ?_
    unfold SplitSays
    rw [sq_good h.1 h.2.1 h.2.2]
    exact hh
  · have HB := Lib.hid (sq_bad h)
    by_cases h4 : s.size ≤ 4000
    · have hq : ((sep.size : Int) != 1) = true := by rw [bne_iff_ne]; omega
      have hd : decide (4000 < (s.size : Int)) = false := by rw [decide_eq_false_iff_not]; omega
      clear h
      go_enter Try.func10, Try.ntmps10
      go_wp2
      go_ret2
      exact says_bad HB.out rfl
    · clear h
      go_enter Try.func10, Try.ntmps10
      go_wp2
      go_ret2
      exact says_bad HB.out rfl
theorem specSplit_any (s sep : ByteArray) (w : World) (hs : s.size ≤ 1048576) (hz : sep.size ≤ 1048576) :
    Calls Try.prog 17 #[.string s, .string sep] w (SplitSays s sep w) := by
  by_cases h : s.size ≤ 4000 ∧ 0 < sep.size ∧ sep.size ≤ 1
  · obtain ⟨h1, h2, h3⟩ := h
    have HG := Lib.hid (sq_good h1 h2 h3)
    have hq : ((sep.size : Int) != 1) = false := by rw [bne_eq_false_iff_eq]; omega
    go_enter Try.func17, Try.ntmps17
    go_wp2_with (go_at_call 33; refine (l1Split_any s sep[0] _ hs).mono ?_; rintro e w' ⟨v, rfl, hown, hb⟩)
    go_ret2
    unfold SplitSays
    rw [HG.out]
    exact ⟨v, rfl, hown, hb⟩
  · have HB := Lib.hid (sq_bad h)
    by_cases h1 : (sep.size : Int) = 1
    · have h4 : 4000 < (s.size : Int) := by omega
      clear h
      go_enter Try.func17, Try.ntmps17
      go_wp2
      go_ret2
      exact says_bad HB.out rfl
    · have hq : ((sep.size : Int) != 1) = true := by rw [bne_iff_ne]; omega
      clear h
      go_enter Try.func17, Try.ntmps17
      go_wp2
      go_ret2
      exact says_bad HB.out rfl
end Go.Proofs.Ytopmmodekkfkdaa
