/-
  The contract of the model's reading 'spec.l1Read': it ends as 'rd' says; the world is as it was but for draws.
-/
import Derived.Test.YtgnfmbdomofgcaaDec
import Derived.Test.YtgnfmbdomofgcaaInYN
import Derived.Lib.IndexBytes
import Derived.LoopTactic
namespace Go.Proofs.Ytgnfmbdomofgcaa
open Go.RowKit
theorem dval_take (t : ByteArray) (k : Nat) (h : k < t.size) : dval (t.data.toList.take (k + 1)) = 10 * dval (t.data.toList.take k) + ((t[k].toNat : Int) - 48) := by
  rw [List.take_succ_eq_append_getElem (by simpa using h), dval_snoc]; rfl
theorem fold_bd : ∀ (l : List UInt8) (a b : Int), (∀ c ∈ l, isDig c) → 0 ≤ a → a + 1 ≤ b →
    0 ≤ l.foldl (fun (a : Int) c => 10 * a + ((c.toNat : Int) - 48)) a ∧ l.foldl (fun (a : Int) c => 10 * a + ((c.toNat : Int) - 48)) a + 1 ≤ b * 10 ^ l.length
  | [], a, b, _, ha, hb => by simp; omega
  | c :: r, a, b, hd, ha, hb => by
    have hc := hd c (by simp)
    unfold isDig at hc
    have := fold_bd r (10 * a + ((c.toNat : Int) - 48)) (b * 10) (fun c hc => hd c (by simp [hc])) (by omega) (by omega)
    rw [List.foldl_cons, List.length_cons, Int.pow_succ, Int.mul_comm (10 ^ r.length), ← Int.mul_assoc]
    exact this
theorem dval_bd (l : List UInt8) (h : ∀ c ∈ l, isDig c) (h6 : l.length ≤ 6) : 0 ≤ dval l ∧ dval l ≤ 999999 := by
  have := fold_bd l 0 1 h (by omega) (by omega)
  unfold dval
  refine ⟨this.1, ?_⟩
  have h2 := this.2
  have h3 : (10 : Int) ^ l.length ≤ 10 ^ 6 := by exact_mod_cast Nat.pow_le_pow_right (by decide) h6
  omega
/-- What the walk knows of the rest of the text behind the sign. -/
structure Rest (s t : ByteArray) (neg : Bool) : Prop where
  num : ∀ n, IsNum s n → t.data.toList = Lib.decDigits n.natAbs ∧ (neg = true ↔ n < 0)
theorem Rest.len {s t : ByteArray} {neg : Bool} (h : Rest s t neg) {n : Int} (hn : IsNum s n) : 1 ≤ t.size ∧ t.size ≤ 6 := by
  have e := (h.num n hn).1
  have hl : t.data.toList.length = t.size := Array.length_toList
  rw [e] at hl
  have := dec_len n.natAbs (by have := hn.1; have := hn.2.1; omega)
  omega
theorem Rest.dig {s t : ByteArray} {neg : Bool} (h : Rest s t neg) {n : Int} (hn : IsNum s n) (k : Nat) (hk : k < t.size) : isDig t[k] := by
  have e := (h.num n hn).1
  exact dec_dig n.natAbs _ (by rw [← e]; exact Array.getElem_mem_toList hk)
theorem Rest.val {s t : ByteArray} {neg : Bool} (h : Rest s t neg) {n : Int} (hn : IsNum s n) : (if neg then -dval t.data.toList else dval t.data.toList) = n := by
  obtain ⟨e, e'⟩ := h.num n hn
  rw [e, dec_val]
  by_cases hneg : neg = true
  · rw [if_pos hneg]; have := e'.1 hneg; omega
  · rw [if_neg hneg]
    have : ¬ n < 0 := fun hh => hneg (e'.2 hh)
    omega
theorem Rest.pos {s : ByteArray} (h : ∀ r, s.data.toList ≠ 45 :: r) : Rest s s false :=
  ⟨fun n hn => by
    have := isNum_pos hn h
    exact ⟨this.2, ⟨fun h => (by cases h), fun h => (by omega)⟩⟩⟩
theorem Rest.neg {s : ByteArray} {r : List UInt8} (h : s.data.toList = 45 :: r) : Rest s (s.extract 1 s.size) true :=
  ⟨fun n hn => by
    have := isNum_neg hn h
    refine ⟨?_, ⟨fun _ => this.1, fun _ => rfl⟩⟩
    rw [Lib.extract_to_end, h, List.drop_succ_cons, List.drop_zero]
    exact this.2⟩
theorem Rest.short {s : ByteArray} (h : s.size ≤ 1) : Rest s s false := by
  refine ⟨fun n hn => ?_⟩
  have hl : s.data.toList.length = s.size := Array.length_toList
  rcases isNum_list hn with ⟨h1, h2⟩ | ⟨h1, h2⟩
  · rw [h2, List.length_cons] at hl
    have := dec_len n.natAbs (by have := hn.1; omega)
    omega
  · exact ⟨h2, ⟨fun h => (by cases h), fun h => (by omega)⟩⟩
theorem first_byte {s : ByteArray} (h : 0 < s.size) : ∃ r, s.data.toList = s[0] :: r := by
  have hl : s.data.toList.length = s.size := Array.length_toList
  match e : s.data.toList with
  | [] => rw [e] at hl; simp at hl; omega
  | c :: r =>
    refine ⟨r, ?_⟩
    have : s.data.toList[0]? = some c := by rw [e]; rfl
    have h2 : s.data.toList[0]? = some s[0] := by
      rw [List.getElem?_eq_getElem (by omega)]; rfl
    rw [h2] at this
    injection this with this
    rw [this]
end Go.Proofs.Ytgnfmbdomofgcaa
