/-
  The contract of the model's 'spec.l1Split': a row of the call's own that holds the parts between the bytes.
-/
import Derived.Test.YtppmepajcdldkaaDoorRows
import Derived.Test.YtppmepajcdldkaaDoorLaw
import Derived.Lib.Hide
import Derived.LoopTactic
import Derived.OwnWalk
import Derived.Laws.AppendOwn
import Derived.WalkSpells
import Derived.Lib.IndexBytes
import Derived.Laws.Strings
import Derived.Laws.Rows
namespace Go.Proofs.YtppmepajcdldkaaDoor
open Go.RowKit
/-- The parts that are complete behind k bytes, and where the next one begins. -/
def sp (s : ByteArray) (b : UInt8) : Nat → List ByteArray × Nat
  | 0 => ([], 0)
  | k + 1 => if s.data.toList.getD k 0 = b then ((sp s b k).1 ++ [s.extract (sp s b k).2 k], k + 1) else sp s b k
/-- The parts of a text between the bytes b. -/
def splitS (s : ByteArray) (b : UInt8) : List ByteArray := (sp s b s.size).1 ++ [s.extract (sp s b s.size).2 s.size]
theorem getD_byte {s : ByteArray} {k : Nat} (h : k < s.size) : s.data.toList.getD k 0 = s[k] := by
  rw [List.getD_eq_getElem?_getD, List.getElem?_eq_getElem (by simpa using h)]; rfl
theorem sp_hit {s : ByteArray} {b : UInt8} {k : Nat} {ps : List ByteArray} {f : Nat} (h : k < s.size) (hc : s[k] = b) (e : sp s b k = (ps, f)) : sp s b (k + 1) = (ps ++ [s.extract f k], k + 1) := by
  simp only [sp]; rw [if_pos (by rw [getD_byte h, hc]), e]
theorem sp_miss {s : ByteArray} {b : UInt8} {k : Nat} {ps : List ByteArray} {f : Nat} (h : k < s.size) (hc : s[k] ≠ b) (e : sp s b k = (ps, f)) : sp s b (k + 1) = (ps, f) := by
  simp only [sp]; rw [if_neg (by rw [getD_byte h]; exact hc), e]
theorem byte_eq {s : ByteArray} {k : Nat} {b : UInt8} (h : k < s.size) (hc : s[k] = b) : ((s[k].toNat : Int) == (b.toNat : Int)) = true := by rw [hc]; simp
theorem byte_ne {s : ByteArray} {k : Nat} {b : UInt8} (h : k < s.size) (hc : s[k] ≠ b) : ((s[k].toNat : Int) == (b.toNat : Int)) = false := by
  rw [beq_eq_false_iff_ne]
  intro e
  apply hc
  apply UInt8.toNat_inj.1
  omega
theorem infoStr : (Tryd.prog.info? 9).map (fun i => (i.zero, i.size, i.bytes)) = some (some (.string ⟨#[]⟩), 1, 16) := by kernel_rfl
theorem ownsRow_new (w : World) (e : TypeId) : (w.alloc (.cells #[] e)).ownsRow w.heap.size e 1 (.slice (some ⟨w.heap.size, 0, none⟩) 0 0) 0 [] :=
  ⟨rfl, .inr ⟨w.heap.size, 0, #[], rfl, Nat.le_refl _, heap_alloc_new w _, Nat.le_refl _, Nat.zero_le _, rfl, rfl⟩⟩
theorem parts_snoc (ps : List ByteArray) (x : ByteArray) : (ps ++ [x]).map Value.string = ps.map Value.string ++ [.string x] := by simp
end Go.Proofs.YtppmepajcdldkaaDoor
