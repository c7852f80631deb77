/-
  Rows of servers: IsSorted, isServers, isRow, apart; l6Row, l1Most.
-/
import Derived.Test.YthpoeeadhjnljaaRw
namespace Go.Proofs.Ythpoeeadhjnljaa
open Go.RowKit
set_option linter.unusedVariables false
end Go.Proofs.Ythpoeeadhjnljaa
