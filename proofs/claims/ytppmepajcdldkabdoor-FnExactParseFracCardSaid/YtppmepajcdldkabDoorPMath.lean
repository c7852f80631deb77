/-
  Reading a fraction's text: the plain mathematics: both ways to cut and to read a text find just the fraction whose text it is.
-/
import Derived.Test.YtppmepajcdldkabDoorPImpl
import Derived.Test.YtppmepajcdldkabDoorLNum
import Derived.Lib.IndexMore
import Derived.Lib.IndexLaws
import Derived.Lib.IndexBytes
import Derived.Lib.SmallJoins
namespace Go.Proofs.YtppmepajcdldkabDoor
open Go.RowKit
set_option linter.unusedVariables false
theorem ba_ext {a b : ByteArray} (h : a.data.toList = b.data.toList) : a = b := by
  apply ByteArray.ext
  exact Array.toList_inj.1 h
theorem num_bytes (n : Int) : ∀ c ∈ (numS n).data.toList, c ≠ 47 := by
  intro c hc e
  subst e
  rw [numS_list] at hc
  unfold Lib.itoa at hc
  have key : ∀ u : Nat, (47 : UInt8) ∉ Lib.decDigits u := fun u h => by
    have := dec_dig u 47 h
    unfold isDig at this
    exact absurd this.1 (by decide)
  split at hc
  · rcases List.mem_cons.1 hc with h | h
    · exact absurd h (by decide)
    · exact key _ h
  · exact key _ hc
theorem txt_list {n d : Int} (h : ¬ d = 1) : (txt n d).data.toList = (numS n).data.toList ++ 47 :: (numS d).data.toList := by
  rw [txt_two h, Go.Joins.data_append, Go.Joins.data_append]
  simp
/-- Where the first '/' stands. -/
theorem index_two (x y : List UInt8) (h : ∀ c ∈ x, c ≠ 47) : Lib.indexByte (x ++ 47 :: y) 47 = x.length := by
  have at_ : (x ++ 47 :: y)[x.length]? = some 47 := by simp
  rcases Int.lt_or_le (Lib.indexByte (x ++ 47 :: y) 47) 0 with h' | h'
  · exfalso
    have h1 : Lib.indexByte (x ++ 47 :: y) 47 = -1 := by have := Lib.indexByte_ge (x ++ 47 :: y) 47; omega
    exact Lib.indexByte_none h1 _ at_
  · obtain ⟨o, ho⟩ : ∃ o : Nat, Lib.indexByte (x ++ 47 :: y) 47 = o := ⟨(Lib.indexByte (x ++ 47 :: y) 47).toNat, by omega⟩
    obtain ⟨h1, h2⟩ := Lib.indexByte_some ho
    rw [ho]
    rcases Nat.lt_trichotomy o x.length with h3 | h3 | h3
    · exfalso
      rw [List.getElem?_append_left h3, List.getElem?_eq_getElem h3] at h1
      exact h _ (List.getElem_mem h3) (Option.some.inj h1)
    · rw [h3]
    · exact absurd at_ (h2 _ h3)
theorem cut_two (x y : List UInt8) (h : ∀ c ∈ x, c ≠ 47) : Lib.cut (x ++ 47 :: y) [47] = (x, y, true) := by
  unfold Lib.cut
  rw [Lib.index_one, index_two x y h, if_pos (by omega)]
  simp
theorem cut_none (l : List UInt8) (h : ∀ c ∈ l, c ≠ 47) : Lib.cut l [47] = (l, [], false) := by
  unfold Lib.cut
  rw [Lib.index_one, if_neg]
  intro h'
  obtain ⟨o, ho⟩ : ∃ o : Nat, Lib.indexByte l 47 = o := ⟨(Lib.indexByte l 47).toNat, by omega⟩
  obtain ⟨h1, _⟩ := Lib.indexByte_some ho
  obtain ⟨hl, e⟩ := List.getElem?_eq_some_iff.1 h1
  exact h _ (List.getElem_mem hl) e
theorem num_one : ({ data := #[49] } : ByteArray) = numS 1 := by
  rw [show (1 : Int) = ((1 : Nat) : Int) from rfl, numS_small 1 (by decide)]
  rfl
theorem nrd_num {n : Int} (h1 : -999999999 ≤ n) (h2 : n ≤ 999999999) : nrd (numS n) = (n, true) := nrd_yes (atoi_num9 ⟨h1, h2, rfl⟩) rfl
theorem parts_of {n d : Int} {s : ByteArray} (h : txt n d = s) : partA s = numS n ∧ partD s = numS d := by
  subst h
  by_cases hd : d = 1
  · subst hd
    rw [txt_one]
    have hc := cut_none _ (num_bytes n)
    unfold partA partD parted
    rw [hc]
    exact ⟨ba_ext (by simp), num_one⟩
  · have hc := cut_two _ (numS d).data.toList (num_bytes n)
    unfold partA partD parted partB
    rw [txt_list hd, hc]
    exact ⟨ba_ext (by simp), ba_ext (by simp)⟩
theorem pfi_yes {s : ByteArray} {n d : Int} (hg : F.good n d = true) (ht : txt n d = s) : pfi s = (n, d, true) := by
  have g := F.good_iff.1 hg
  obtain ⟨a, b⟩ := parts_of ht
  rw [pfi_eq, a, b, nrd_num (by omega) (by omega), nrd_num (by omega) (by omega)]
  exact if_pos ⟨⟨rfl, rfl⟩, hg, ht⟩
theorem pfi_no {s : ByteArray} (h : ¬ ∃ n d, F.good n d = true ∧ txt n d = s) : pfi s = (0, 0, false) := by
  rw [pfi_eq]
  exact if_neg fun hc => h ⟨_, _, hc.2.1, hc.2.2⟩
/-- Where the model's reading of a number begins. -/
noncomputable def fromOf (s : ByteArray) : Nat := open Classical in if ∃ h : 0 < s.size, (s[0].toNat : Int) = 45 then 1 else 0
noncomputable def ln (s : ByteArray) : Int × Bool := lnF s (fromOf s)
theorem l2Number_any (s : ByteArray) (w : World) (hs : s.size ≤ 1048576) : Calls Tryd.prog 15 #[.string s] w fun e w' => e = .returned (.tuple #[.int .i64 (ln s).1, .bool (ln s).2]) ∧ w' = w := by
  unfold ln fromOf
  split
  · rename_i h
    exact lnWalk s 1 w hs (.inr ⟨rfl, h⟩)
  · rename_i h
    exact lnWalk s 0 w hs (.inl ⟨rfl, fun hp e => h ⟨hp, e⟩⟩)
theorem ln_in (s : ByteArray) : -999999999 ≤ (ln s).1 ∧ (ln s).1 ≤ 999999999 := by
  unfold ln lnF
  split
  · rename_i h
    obtain ⟨a, b⟩ := dvF_in s (f := fromOf s) (k := s.size) (m := 9) (by omega) (Nat.le_refl _) h.2 (by omega)
    split <;> (dsimp only; omega)
  · exact ⟨by decide, by decide⟩
end Go.Proofs.YtppmepajcdldkabDoor
