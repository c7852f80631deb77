/-
  Rows of servers: IsSorted, isServers, isRow, apart; l6Row, l1Most.
-/
import Derived.Test.YtphmjpafebljaaaRw
namespace Go.Proofs.Ytphmjpafebljaaa
open Go.RowKit
set_option linter.unusedVariables false
end Go.Proofs.Ytphmjpafebljaaa
