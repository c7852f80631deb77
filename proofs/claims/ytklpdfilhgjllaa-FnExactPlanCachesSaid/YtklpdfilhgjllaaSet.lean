/-
  Sets of pages as numbers below 256: their lists, how a page leaves and comes. Nothing of the program stands here.
-/
import Derived.Test.YtklpdfilhgjllaaPut
namespace Go.Proofs.Ytklpdfilhgjllaa
namespace Q
/-- The pages of a set, rising. -/
def pl (S : Nat) : List Int := ((List.range 8).filter fun p => S.testBit p).map fun (p : Nat) => (p : Int)
def popB (S : Nat) : Nat := (List.range 8).countP fun p => S.testBit p
/-- The set without a page. -/
def outB (S L : Nat) : Nat := if S.testBit L then S - 2 ^ L else S
def putB (S p : Nat) : Nat := if S.testBit p then S else S + 2 ^ p
/-- The set after a page has left (none for -1) and a page has come. -/
def exB (S : Nat) (l : Int) (p : Nat) : Nat := putB (if 0 ≤ l then outB S l.toNat else S) p
set_option maxRecDepth 100000 in
theorem put_fin : ∀ S : Fin 256, ∀ p : Fin 8, putB S.val p.val < 256 ∧ put ((p.val : Nat) : Int) (pl S.val) = pl (putB S.val p.val) := by decide +kernel
set_option maxRecDepth 100000 in
theorem out_fin : ∀ S : Fin 256, ∀ p : Fin 8, outB S.val p.val < 256 ∧ (pl S.val).filter (fun z => !decide (z = ((p.val : Nat) : Int))) = pl (outB S.val p.val) := by decide +kernel
set_option maxRecDepth 100000 in
theorem mem_fin : ∀ S : Fin 256, ∀ p : Fin 8, decide (((p.val : Nat) : Int) ∈ pl S.val) = S.val.testBit p.val := by decide +kernel
set_option maxRecDepth 100000 in
theorem len_fin : ∀ S : Fin 256, (pl S.val).length = popB S.val ∧ popB S.val ≤ 8 := by decide +kernel
set_option maxRecDepth 100000 in
theorem bit_fin : ∀ S : Fin 256, ∀ L : Fin 8, ∀ p : Fin 8, S.val.testBit p.val = false → (outB S.val L.val).testBit p.val = false := by decide +kernel
theorem out_bit {S p L : Nat} (hS : S < 256) (hp : p < 8) (hL : L < 8) (h : S.testBit p = false) : (outB S L).testBit p = false := bit_fin ⟨S, hS⟩ ⟨L, hL⟩ ⟨p, hp⟩ h
theorem put_lt {S p : Nat} (hS : S < 256) (hp : p < 8) : putB S p < 256 := (put_fin ⟨S, hS⟩ ⟨p, hp⟩).1
theorem out_lt {S p : Nat} (hS : S < 256) (hp : p < 8) : outB S p < 256 := (out_fin ⟨S, hS⟩ ⟨p, hp⟩).1
theorem put_pl {S p : Nat} (hS : S < 256) (hp : p < 8) : put (p : Int) (pl S) = pl (putB S p) := (put_fin ⟨S, hS⟩ ⟨p, hp⟩).2
theorem out_pl {S p : Nat} (hS : S < 256) (hp : p < 8) : (pl S).filter (fun z => !decide (z = (p : Int))) = pl (outB S p) := (out_fin ⟨S, hS⟩ ⟨p, hp⟩).2
theorem mem_pl {S p : Nat} (hS : S < 256) (hp : p < 8) : decide ((p : Int) ∈ pl S) = S.testBit p := mem_fin ⟨S, hS⟩ ⟨p, hp⟩
theorem len_pl {S : Nat} (hS : S < 256) : (pl S).length = popB S ∧ popB S ≤ 8 := len_fin ⟨S, hS⟩
theorem ex_lt {S p : Nat} {l : Int} (hS : S < 256) (hp : p < 8) (hl : l < 8) : exB S l p < 256 := by
  unfold exB
  split
  · exact put_lt (out_lt hS (by omega)) hp
  · exact put_lt hS hp
end Q
end Go.Proofs.Ytklpdfilhgjllaa
