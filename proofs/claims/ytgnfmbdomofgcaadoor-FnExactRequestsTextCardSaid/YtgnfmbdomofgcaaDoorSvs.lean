/-
  Strings in rows.
-/
import Derived.Test.YtgnfmbdomofgcaaDoorRows
import Derived.Test.YtgnfmbdomofgcaaDoorLaw
import Derived.Lib.Hide
import Derived.LoopTactic
import Derived.OwnWalk
import Derived.Laws.Strings
import Derived.WalkSpells
import Derived.Deep.QuietTactic
import Derived.BigQuiet
namespace Go.Proofs.YtgnfmbdomofgcaaDoor
open Go.RowKit
abbrev svs (ss : List ByteArray) : List Value := ss.map Value.string
theorem svs_at {ss : List ByteArray} {k : Nat} (h : k < ss.length) : (svs ss)[k]? = some (.string ss[k]) := by
  rw [List.getElem?_map, List.getElem?_eq_getElem h]; rfl
theorem infoStrs : (Tryd.prog.info? 9).map (fun i => (i.zero, i.size, i.bytes)) = some (some (.string ⟨#[]⟩), 1, 16) := by kernel_rfl
end Go.Proofs.YtgnfmbdomofgcaaDoor
