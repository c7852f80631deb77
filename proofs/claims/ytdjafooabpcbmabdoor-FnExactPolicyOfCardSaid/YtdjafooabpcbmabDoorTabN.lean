/-
  The project's table of the policies' names, as its initialiser lays it.
-/
import Derived.Test.YtdjafooabpcbmabDoorRows
import Derived.Test.YtdjafooabpcbmabDoorLaw
import Derived.Test.YtdjafooabpcbmabDoorLawV
import Derived.Deep.DeepHandedRow
import Derived.Deep.DeepWitnessRowRef
import Derived.Lib.LaidTab
import Derived.Stop.LaidErr
import Derived.Stop.Joined
import Derived.LaidSub
namespace Go.Proofs.YtdjafooabpcbmabDoor
open Go.ChangeShapes Go.WideShapes Go.ChangeAt Go.RowKit
theorem gNam : Tryd.prog.globalNamed "loop.example/g01087/impl.policyNames" = some 0 := by kernel_rfl
theorem gNamType : (Tryd.prog.globals[0]?).map (·.type) = some 31 := by kernel_rfl
theorem cellsNam : Tryd.prog.cellsOf 31 = 8 := by kernel_rfl
theorem cellsStr : Tryd.prog.cellsOf 9 = 1 := by kernel_rfl
def strData {H : Type} (zs : List ByteArray) : DataW H := .agg (zs.map fun z => .lit (.string z.data.toList))
theorem cells_of_strs {H : Type} {enc : TypeId × Value → H} {P : Program} {w : World} {base : Nat} {sp : Nat → Bool} {held : Bool} {fuel : Nat} {t e : TypeId} {n : Nat} {cs : List Value} {zs : List ByteArray} {p : List MemPlace}
    (ht : P.underlying t = some (.array n e)) (he : P.underlying e = some .string) (hce : P.cellsOf e = 1) (hct : P.cellsOf t = n)
    (h : DataW.trod enc P w base sp held fuel t cs = some (strData zs, p)) : cs = zs.map fun z => Value.string z := by
  cases fuel with
  | zero => simp [DataW.trod] at h
  | succ fuel =>
    simp only [DataW.trod, ht, hce, hct, Nat.mul_one] at h
    split at h
    · rename_i hl
      obtain ⟨xs, hm, hx⟩ := Option.map_eq_some_iff.1 h
      have hxs : xs.map (·.1) = zs.map fun z => (DataW.lit (.string z.data.toList) : DataW H) := by
        have := congrArg Prod.fst hx
        simpa [strData] using this
      have hxl : xs.length = n := by simpa using Lib.mapM_length hm
      have hzl : zs.length = n := by
        have := congrArg List.length hxs
        simp at this
        omega
      apply List.ext_getElem?
      intro i
      by_cases hi : i < n
      · obtain ⟨b, hb, hf⟩ := Lib.mapM_at hm i i (by simp [hi])
        obtain ⟨z, hc, rfl, _⟩ := DataW.trod_string he hf
        have h1 : cs[i]? = some (.string z) := by
          have := congrArg (·[0]?) hc
          simpa [List.getElem?_take, List.getElem?_drop] using this
        have h2 : (xs.map (·.1))[i]? = some (DataW.lit (.string z.data.toList) : DataW H) := by simp [hb]
        rw [hxs] at h2
        simp only [List.getElem?_map, Option.map_eq_some_iff, DataW.lit.injEq, Lit.string.injEq] at h2
        obtain ⟨z', hz', e'⟩ := h2
        have e2 : z' = z := ByteArray.ext (Array.toList_inj.1 e')
        subst e2
        simp [h1, hz']
      · rw [List.getElem?_eq_none (by omega), List.getElem?_eq_none (by simp; omega)]
    · cases h
/-- The seven names, and none for 0. -/
def nms : List ByteArray := [⟨#[]⟩, ⟨#[108, 114, 117]⟩, ⟨#[102, 105, 102, 111]⟩, ⟨#[108, 105, 102, 111]⟩, ⟨#[102, 108, 117, 115, 104]⟩, ⟨#[108, 102, 117]⟩, ⟨#[99, 108, 111, 99, 107]⟩, ⟨#[109, 114, 117]⟩]
/-- The table of names stands. -/
def Names (w : World) : Prop := w.var? Tryd.prog "loop.example/g01087/impl.policyNames" = some (nms.map Value.string).toArray
theorem Names.cell {w : World} (h : Names w) (i : Nat) : w.cell? ⟨0, i, none⟩ = (nms.map Value.string)[i]? := by
  have := World.var?_cell gNam h i
  simpa using this
theorem Names.stays {w w' : World} (h : Names w) (hb : Below w.heap.size w w') : Names w' := by
  have hg : 0 < w.heap.size := by
    rcases Nat.lt_or_ge 0 w.heap.size with h' | h'
    · exact h'
    · unfold Names World.var? at h
      simp [gNam, Array.getElem?_eq_none h'] at h
  unfold Names World.var? at h ⊢
  simp only [gNam, Option.bind_some] at h ⊢
  rw [hb.block _ hg]
  exact h
abbrev laid1 : List (String × DataW Unit) := [("loop.example/g01087/impl.policyNames", Rows.laid_loop_example_g01087_impl_policyNames)]
theorem names_of_laid {W : World} (h : laidMetH Tryd.prog laid1 W) : Names W := by
  rw [MakeChecks.laidMetH_plain _ _ _ (by kernel_rfl)] at h
  obtain ⟨ps, ⟨g', t', cs, fuel, p, q, hg', ht', hvar, hd, _, _⟩, _⟩ := h
  obtain rfl := Option.some.inj (gNam.symm.trans hg')
  obtain rfl := Option.some.inj (gNamType.symm.trans ht')
  unfold Names
  rw [hvar]
  have hd' : DataW.trod _ Tryd.prog W _ _ _ fuel 31 cs.toList = some (strData nms, p) := hd
  have := cells_of_strs Tryd.underlying31 Tryd.underlying9 cellsStr cellsNam hd'
  rw [← this]
noncomputable def put (h : Array Obj) (g : Nat) (cs : Array Value) : Array Obj := h.modify g fun
  | .cells _ t frozen => .cells cs t frozen
  | o => o
/-- The settled world with the table laid. -/
noncomputable def laidWorld (os : Os) : World :=
  let w0 := World.holding Tryd.prog os ⟨#[], #[], []⟩
  { w0 with heap := put w0.heap 0 (nms.map Value.string).toArray }
theorem laid1_met (os : Os) (args : Array Value) : laidMet Tryd.prog laid1 ((laidWorld os).forCall (fun _ _ => 0) ⟨#[], args, []⟩).memory :=
  laidMet_of_run' 8 (by kernel_rfl) (by kernel_rfl)
end Go.Proofs.YtdjafooabpcbmabDoor
