/-
  Plans by a choice at each fault with a full cache: the mathematics.
-/
import Derived.Test.YtklpdfilhgjllaaLst
import Derived.Test.YtklpdfilhgjllaaPln
import Derived.Test.YtklpdfilhgjllaaPart
namespace Go.Proofs.Ytklpdfilhgjllaa
open Go.RowKit
set_option linter.unusedVariables false
namespace Q
/-- What leaves at place i, for the set ahead of it and the page of the place. -/
def lvOf (k : Int) (ch : Nat → Nat → Int) (i S p : Nat) : Int := if S.testBit p = false ∧ (popB S : Int) = k then ch i S else -1
def pst (k : Int) (zs : List Int) (ch : Nat → Nat → Int) : Nat → Nat
  | 0 => 0
  | i + 1 => exB (pst k zs ch i) (lvOf k ch i (pst k zs ch i) (zs.getD i 0).toNat) (zs.getD i 0).toNat
def lvAt (k : Int) (zs : List Int) (ch : Nat → Nat → Int) (i : Nat) : Int := lvOf k ch i (pst k zs ch i) (zs.getD i 0).toNat
def planC (k : Int) (zs : List Int) (ch : Nat → Nat → Int) : List Int := (List.range zs.length).map (lvAt k zs ch)
/-- The choice is a page, where it is asked for. -/
def ChOk (k : Int) (zs : List Int) (ch : Nat → Nat → Int) : Prop := ∀ (i S p : Nat), zs[i]? = some (p : Int) → S < 256 → S.testBit p = false → (popB S : Int) = k → 0 ≤ ch i S ∧ ch i S < 8
theorem lv_bd {k : Int} {zs : List Int} {ch : Nat → Nat → Int} (h : ChOk k zs ch) {i S p : Nat} (hi : zs[i]? = some (p : Int)) (hS : S < 256) : -1 ≤ lvOf k ch i S p ∧ lvOf k ch i S p < 8 := by
  unfold lvOf
  split
  · rename_i hh
    have := h i S p hi hS hh.1 hh.2
    omega
  · omega
theorem pst_lt {k : Int} {zs : List Int} {ch : Nat → Nat → Int} (h : ChOk k zs ch) (hz : ∀ k, k < zs.length → ∃ x : Nat, zs[k]? = some (x : Int) ∧ x < 8) : ∀ i, i ≤ zs.length → pst k zs ch i < 256
  | 0, _ => by simp [pst]
  | i + 1, hi => by
    have ih := pst_lt h hz i (by omega)
    obtain ⟨x, hx, hx8⟩ := hz i (by omega)
    rw [pst, List.getD_eq_getElem?_getD, hx]
    exact ex_lt ih (by simpa using hx8) (lv_bd h (p := x) hx ih).2
theorem pst_succ {k : Int} {zs : List Int} {ch : Nat → Nat → Int} {i p : Nat} (h : zs[i]? = some (p : Int)) : pst k zs ch (i + 1) = exB (pst k zs ch i) (lvOf k ch i (pst k zs ch i) p) p := by
  rw [pst, List.getD_eq_getElem?_getD, h]; rfl
theorem lvAt_at {k : Int} {zs : List Int} {ch : Nat → Nat → Int} {i p : Nat} (h : zs[i]? = some (p : Int)) : lvAt k zs ch i = lvOf k ch i (pst k zs ch i) p := by
  rw [lvAt, List.getD_eq_getElem?_getD, h]; rfl
theorem planC_len (k : Int) (zs : List Int) (ch : Nat → Nat → Int) : (planC k zs ch).length = zs.length := by simp [planC]
end Q
end Go.Proofs.Ytklpdfilhgjllaa
