/-
  The row that a window of a row sees.
-/
import Derived.Test.YtdjafooabpcbmaaBa
namespace Go.Proofs.Ytdjafooabpcbmaa
open Go.RowKit
set_option linter.unusedVariables false
namespace Q
theorem win_len (zs : List Int) (a b : Nat) (h : b ≤ zs.length) : (win zs a b).length = b - a := by simp [win]; omega
theorem win_at (zs : List Int) (a b k : Nat) (h : k < b - a) : (win zs a b)[k]? = zs[a + k]? := by
  unfold win
  rw [List.getElem?_take, if_pos h, List.getElem?_drop]
end Q
theorem row_win {w : World} {b off : Nat} {zs : List Int} (h : Law.Row w (some ⟨b, off, none⟩) (ivs zs)) (lo hi : Nat) (hh : lo < hi) (hz : hi ≤ zs.length) : Law.Row w (some ⟨b, off + lo, none⟩) (ivs (Q.win zs lo hi)) := by
  have h1 := row_drop h lo (zs.length + 1 + lo) (by omega)
  rw [if_neg (by omega)] at h1
  have h2 := row_take h1 (hi - lo)
  simpa [Law.add_plain, Q.win] using h2
end Go.Proofs.Ytdjafooabpcbmaa
