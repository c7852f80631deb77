/-
  Rows of servers: IsSorted, isServers, isRow, apart; l6Row, l1Most.
-/
import Derived.Test.YtjnniilabheijaaRw
namespace Go.Proofs.Ytjnniilabheijaa
open Go.RowKit
set_option linter.unusedVariables false
end Go.Proofs.Ytjnniilabheijaa
