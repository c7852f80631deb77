/-
  PlanCaches: both sides' contracts in the law's order.
-/
import Derived.Test.YtklpdfilhgjllaaPlcI
namespace Go.Proofs.Ytklpdfilhgjllaa
open Go.RowKit
set_option linter.unusedVariables false
theorem specCachesR_any (k n : Int) (zs ps : List Int) (A : Option Addr) (c : Nat) (hl : zs.length ≤ 1048576) (B : Option Addr) (d : Nat) (hl' : ps.length ≤ 1048576) (w : World) (hr : Law.Row w A (ivs zs)) (hp : Law.Row w B (ivs ps)) :
    Calls Try.prog 21 #[.int .i64 k, .int .i64 n, .slice A zs.length c, .slice B ps.length d] w (nestSays (Q.cachesQ k n zs ps) w) := specCaches_any k n zs ps A B c d hl hl' w hr hp
theorem impCachesR_any (k n : Int) (zs ps : List Int) (A : Option Addr) (c : Nat) (hl : zs.length ≤ 1048576) (B : Option Addr) (d : Nat) (hl' : ps.length ≤ 1048576) (w : World) (hr : Law.Row w A (ivs zs)) (hp : Law.Row w B (ivs ps)) :
    Calls Try.prog 22 #[.int .i64 k, .int .i64 n, .slice A zs.length c, .slice B ps.length d] w (nestSays (Q.cachesQ k n zs ps) w) := impCaches_any k n zs ps A B c d hl hl' w hr hp
end Go.Proofs.Ytklpdfilhgjllaa
