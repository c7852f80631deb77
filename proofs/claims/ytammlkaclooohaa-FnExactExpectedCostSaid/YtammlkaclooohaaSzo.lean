/-
  What a size that fits says.
-/
import Derived.Test.YtammlkaclooohaaSzg
namespace Go.Proofs.Ytammlkaclooohaa
theorem szOk_of {L : List (List Int)} (h : (szN L : Int) ≤ 1048576) : szOk L = true := szOk_iff.2 (by unfold szN at h; omega)
theorem szN_len {L : List (List Int)} (h : (szN L : Int) ≤ 1048576) : L.length ≤ 1048576 := by unfold szN at h; omega
end Go.Proofs.Ytammlkaclooohaa
