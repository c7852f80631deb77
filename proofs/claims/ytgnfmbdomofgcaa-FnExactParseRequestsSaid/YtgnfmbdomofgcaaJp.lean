/-
  Texts joined by a separator: the first k of them. The text of a list of small numbers. Nothing of the program stands here but the model's numerals.
-/
import Derived.Test.YtgnfmbdomofgcaaNum
import Derived.Lib.Join
namespace Go.Proofs.Ytgnfmbdomofgcaa
open Go.RowKit
/-- The first k strings, joined. -/
def jp (ss : List ByteArray) (sep : ByteArray) : Nat → ByteArray
  | 0 => ⟨#[]⟩
  | k + 1 => (if 0 < k then jp ss sep k ++ sep else jp ss sep k) ++ ss.getD k ⟨#[]⟩
theorem jp_at {ss : List ByteArray} {sep : ByteArray} {k : Nat} {x : ByteArray} (h : ss[k]? = some x) : jp ss sep (k + 1) = (if 0 < k then jp ss sep k ++ sep else jp ss sep k) ++ x := by
  simp only [jp]; rw [List.getD_eq_getElem?_getD, h]; rfl
theorem jp_list (ss : List ByteArray) (sep : ByteArray) : ∀ k, k ≤ ss.length → (jp ss sep k).data.toList = Lib.join ((ss.take k).map (·.data.toList)) sep.data.toList
  | 0, _ => rfl
  | k + 1, hk => by
    have ih := jp_list ss sep k (by omega)
    have app : ∀ a b : ByteArray, (a ++ b).data.toList = a.data.toList ++ b.data.toList := fun a b => by simp
    have hk' : k < ss.length := by omega
    rw [jp_at (List.getElem?_eq_getElem hk'), List.take_succ_eq_append_getElem hk', List.map_append, List.map_cons, List.map_nil]
    by_cases h0 : 0 < k
    · rw [if_pos h0, app, app, ih]
      obtain ⟨x, r, hx⟩ : ∃ x r, (ss.take k).map (·.data.toList) = x :: r := by
        cases hh : (ss.take k).map (·.data.toList) with
        | nil =>
          have := congrArg List.length hh
          rw [List.length_map, List.length_take, List.length_nil] at this
          omega
        | cons x r => exact ⟨x, r, rfl⟩
      rw [hx, List.cons_append, Lib.join_cons, Lib.join_cons]
      simp [Lib.joinTail, List.append_assoc]
    · obtain rfl : k = 0 := by omega
      rw [if_neg h0, app, ih]
      simp [Lib.join_nil, Lib.join_one]
theorem jp_all (ss : List ByteArray) (sep : ByteArray) : (⟨(Lib.join (ss.map (·.data.toList)) sep.data.toList).toArray⟩ : ByteArray) = jp ss sep ss.length := by
  have := jp_list ss sep ss.length (Nat.le_refl _)
  rw [List.take_length] at this
  rw [← this]
def spc : ByteArray := ⟨#[32]⟩
def numsS (zs : List Int) : List ByteArray := zs.map numS
theorem numsS_at {zs : List Int} {k : Nat} {x : Int} (h : zs[k]? = some x) : (numsS zs)[k]? = some (numS x) := by unfold numsS; rw [List.getElem?_map, h]; rfl
/-- The text of a list. -/
def txtS (zs : List Int) : ByteArray := if zs.length = 0 then ⟨#[110, 111, 110, 101]⟩ else jp (numsS zs) spc zs.length
theorem numS_one {x : Nat} (h : x < 10) : (numS (x : Int)).size = 1 := by rw [numS_small x h]; rfl
theorem jp_le {zs : List Int} (hx : ∀ k, k < zs.length → ∃ x : Nat, zs[k]? = some (x : Int) ∧ x < 8) : ∀ k, k ≤ zs.length → (jp (numsS zs) spc k).size ≤ k + k
  | 0, _ => Nat.le_refl _
  | k + 1, hk => by
    have ih := jp_le hx k (by omega)
    obtain ⟨x, h1, h2⟩ := hx k (by omega)
    rw [jp_at (numsS_at h1), ByteArray.size_append, numS_one (by omega)]
    have e : spc.size = 1 := rfl
    split
    · rw [ByteArray.size_append]; omega
    · omega
end Go.Proofs.Ytgnfmbdomofgcaa
