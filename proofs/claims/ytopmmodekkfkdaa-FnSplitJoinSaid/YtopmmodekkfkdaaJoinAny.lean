/-
  JoinStrings at every slice and separator of moderate size.
-/
import Derived.Test.YtopmmodekkfkdaaJoin
namespace Go.Proofs.Ytopmmodekkfkdaa
open Go.RowKit
theorem implJoin_any (A : Option Addr) (c : Nat) (ss : List ByteArray) (sep : ByteArray) (w : World) (hc : ss.length ≤ c) (hn : ss.length ≤ 1048576) (hz : ∀ s ∈ ss, s.size ≤ 1048576) (hr : Law.Row w A (svs ss)) :
    Calls Try.prog 12 #[.slice A ss.length c, .string sep] w fun e w' => e = .returned (.tuple #[.string (jq ss sep).1, .bool (jq ss sep).2]) ∧ Below w.heap.size w w' := by
  by_cases h : ss.length = 0 ∨ sep.size ≠ 1
  · rw [jq_bad h]
    exact (implJoin_bad A c ss sep w h).mono fun e w' ⟨he, hw⟩ => ⟨he, hw ▸ Below.refl _ _⟩
  · have h0 : 0 < sep.size := by omega
    rw [jq_good h h0]
    exact implJoin_good A c ss sep w hc hn (by omega) hz h0 (by omega) hr
theorem specJoin_any (A : Option Addr) (c : Nat) (ss : List ByteArray) (sep : ByteArray) (w : World) (hn : ss.length ≤ 1048576) (hz : ∀ s ∈ ss, s.size ≤ 1048576) (hr : Law.Row w A (svs ss)) :
    Calls Try.prog 13 #[.slice A ss.length c, .string sep] w fun e w' => e = .returned (.tuple #[.string (jq ss sep).1, .bool (jq ss sep).2]) ∧ ∃ m, w' = w.drewN m := by
  by_cases h : ss.length = 0 ∨ sep.size ≠ 1
  · rw [jq_bad h]
    exact (specJoin_bad A c ss sep w h).mono fun e w' ⟨he, hw⟩ => ⟨he, 0, hw.symm⟩
  · have h0 : 0 < sep.size := by omega
    rw [jq_good h h0]
    exact specJoin_good A c ss sep w hn (by omega) hz h0 (by omega) hr
end Go.Proofs.Ytopmmodekkfkdaa
