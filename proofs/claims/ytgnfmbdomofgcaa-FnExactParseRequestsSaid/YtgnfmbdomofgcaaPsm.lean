/-
  The words of a text, read one by one: what they tell of its sequence.
-/
import Derived.Test.YtgnfmbdomofgcaaPq
import Derived.Test.YtgnfmbdomofgcaaDec
namespace Go.Proofs.Ytgnfmbdomofgcaa
open Go.RowKit
set_option linter.unusedVariables false
namespace Q
theorem sp_zero (s : ByteArray) (b : UInt8) : sp s b 0 = ([], 0) := rfl
theorem sp_small (s : ByteArray) (b : UInt8) : ∀ k, k ≤ s.size → (sp s b k).1.length ≤ k ∧ ∀ x ∈ (sp s b k).1, x.size ≤ s.size
  | 0, _ => ⟨Nat.le_refl _, fun x hx => by simp [sp] at hx⟩
  | k + 1, hk => by
    obtain ⟨h1, h2⟩ := sp_small s b k (by omega)
    obtain ⟨⟨ps, f⟩, e⟩ : ∃ p, sp s b k = p := ⟨_, rfl⟩
    rw [e] at h1 h2
    by_cases hc : s[k]'(by omega) = b
    · rw [sp_hit (by omega) hc e]
      refine ⟨by simp at h1 ⊢; omega, fun x hx => ?_⟩
      rcases List.mem_append.1 hx with hx | hx
      · exact h2 x hx
      · rw [List.mem_singleton.1 hx, ByteArray.size_extract]; omega
    · rw [sp_miss (by omega) hc e]
      exact ⟨by simp at h1 ⊢; omega, h2⟩
theorem split_small (s : ByteArray) (b : UInt8) : (splitS s b).length ≤ s.size + 1 ∧ ∀ x ∈ splitS s b, x.size ≤ s.size := by
  obtain ⟨h1, h2⟩ := sp_small s b s.size (Nat.le_refl _)
  unfold splitS
  refine ⟨by simp; omega, fun x hx => ?_⟩
  rcases List.mem_append.1 hx with hx | hx
  · exact h2 x hx
  · rw [List.mem_singleton.1 hx, ByteArray.size_extract]; omega
theorem one_byte {s : ByteArray} {i : Nat} (h : i < s.size) : s.extract i (i + 1) = ⟨#[s[i]]⟩ := by
  apply ByteArray.ext
  apply Array.ext
  · show (s.extract i (i + 1)).size = 1
    rw [ByteArray.size_extract]; omega
  · intro j h1 h2
    have hj : j = 0 := by simpa using h2
    subst hj
    show (s.extract i (i + 1))[0]'h1 = s[i]
    rw [ByteArray.getElem_extract]
    simp
theorem txt_word {zs : List Int} {s : ByteArray} {k i : Nat} (ht : Txt zs s k) (hi : i < k) (h : i + i < s.size) : ∃ x : Nat, zs[i]? = some (x : Int) ∧ x < 8 ∧ s.extract (i + i) (i + i + 1) = numS (x : Int) := by
  obtain ⟨x, a, b, c⟩ := ht.dig i h hi
  refine ⟨x, a, b, ?_⟩
  rw [one_byte h, c, numS_small x (by omega)]
  rfl
theorem take_app {α : Type} {l : List α} {k : Nat} {x : α} (h : l[k]? = some x) : l.take (k + 1) = l.take k ++ [x] := by
  obtain ⟨hl, rfl⟩ := List.getElem?_eq_some_iff.1 h
  exact List.take_succ_eq_append_getElem hl
theorem txt_sp {zs : List Int} {s : ByteArray} {m : Nat} (ht : Txt zs s m) : ∀ k, k < m → sp s 32 (k + k + 1) = ((numsS zs).take k, k + k)
  | 0, hk => by
    have hs := ht.size
    obtain ⟨x, a, b, c⟩ := ht.dig 0 (by omega) hk
    have := sp_miss (b := 32) (k := 0) (by omega : 0 < s.size) (by rw [c]; intro e; have := congrArg UInt8.toNat e; rw [UInt8.toNat_ofNat'] at this; revert this; show (48 + x) % 2 ^ 8 ≠ 32; omega) (sp_zero s 32)
    simpa using this
  | k + 1, hk => by
    have hs := ht.size
    have ih := txt_sp ht k (by omega)
    have h1 := sp_hit (b := 32) (k := k + k + 1) (by omega) (ht.gap k (by omega)) ih
    obtain ⟨x, a, b, c⟩ := txt_word ht (show k < m by omega) (by omega)
    rw [c, ← take_app (numsS_at a)] at h1
    obtain ⟨y, a', b', c'⟩ := ht.dig (k + 1) (by omega) hk
    have h2 := sp_miss (b := 32) (k := k + k + 1 + 1) (by omega) (by
      have e0 : s[k + k + 1 + 1]'(by omega) = UInt8.ofNat (48 + y) := by
        have : k + k + 1 + 1 = k + 1 + (k + 1) := by omega
        simp only [this]
        exact c'
      rw [e0]; intro e; have := congrArg UInt8.toNat e; rw [UInt8.toNat_ofNat'] at this; revert this; show (48 + y) % 2 ^ 8 ≠ 32; omega) h1
    rw [show k + 1 + (k + 1) + 1 = k + k + 1 + 1 + 1 by omega, h2]
    simp
    omega
theorem txt_split {zs : List Int} {s : ByteArray} (h0 : 0 < zs.length) (ht : Txt zs s zs.length) : splitS s 32 = numsS zs := by
  have hs := ht.size
  obtain ⟨j, hj⟩ : ∃ j, zs.length = j + 1 := ⟨zs.length - 1, by omega⟩
  have h1 := txt_sp ht j (by omega)
  have e : s.size = j + j + 1 := by omega
  obtain ⟨x, a, b, c⟩ := txt_word ht (show j < zs.length by omega) (by omega)
  unfold splitS
  rw [e, h1]
  show (numsS zs).take j ++ [s.extract (j + j) (j + j + 1)] = _
  rw [c, ← take_app (numsS_at a), List.take_of_length_le (by simp [numsS]; omega)]
/-- What a good text's words are. -/
theorem par_words {n : Int} {zs : List Int} {s : ByteArray} (h4 : s ≠ ⟨#[110, 111, 110, 101]⟩) (hg : good n zs = true) (e : txtS zs = s) : splitS s 32 = numsS zs := by
  rcases Nat.eq_zero_or_pos zs.length with h0 | h0
  · exact absurd (by rw [← e]; exact if_pos h0) h4
  · have ht := txt_of (good_small hg) h0
    rw [e] at ht
    exact txt_split h0 ht
theorem rd_item {n : Int} {zs : List Int} (hg : good n zs = true) {i : Nat} {x : ByteArray} (h : (numsS zs)[i]? = some x) : ∃ z, zs[i]? = some z ∧ rd x = (z, true) ∧ okItem n z = true := by
  have hi : i < zs.length := by have := (List.getElem?_eq_some_iff.1 h).1; simpa [numsS] using this
  obtain ⟨y, a, b⟩ := good_small hg i hi
  rw [numsS_at a] at h
  injection h with h
  refine ⟨y, a, ?_, ?_⟩
  · rw [← h]
    exact rd_yes ⟨by omega, by omega, rfl⟩
  · have := (good_iff.1 hg).2.2 y (List.mem_of_getElem? a)
    simpa [okItem] using this
/-- The words so far are numbers of items: o. -/
def Rd (n : Int) (ws : List ByteArray) (k : Nat) (o : List Int) : Prop := o.length = k ∧ ∀ i x, i < k → ws[i]? = some x → ∃ z, o[i]? = some z ∧ rd x = (z, true) ∧ okItem n z = true
theorem Rd.next {n : Int} {ws : List ByteArray} {k : Nat} {o : List Int} (h : Rd n ws k o) {x : ByteArray} (hx : ws[k]? = some x) {z : Int} (hz : rd x = (z, true)) (ho : okItem n z = true) : Rd n ws (k + 1) (o ++ [z]) := by
  refine ⟨by simp [h.1], fun i y hi hy => ?_⟩
  by_cases hik : i < k
  · obtain ⟨u, a, b, c⟩ := h.2 i y hik hy
    exact ⟨u, by rw [List.getElem?_append_left (by have := h.1; omega)]; exact a, b, c⟩
  · obtain rfl : i = k := by omega
    rw [hx] at hy
    injection hy with hy
    subst hy
    refine ⟨z, ?_, hz, ho⟩
    rw [List.getElem?_append_right (by have := h.1; omega), h.1, Nat.sub_self]
    rfl
theorem rd_stop {n : Int} {s : ByteArray} (h4 : s ≠ ⟨#[110, 111, 110, 101]⟩) {k : Nat} {x : ByteArray} (hx : (splitS s 32)[k]? = some x) (hb : ¬ ((rd x).2 = true ∧ okItem n (rd x).1 = true)) : parQ n s = ([], false) := parQ_no fun zs hg e => by
  rw [par_words h4 hg e] at hx
  obtain ⟨z, _, a, b⟩ := rd_item hg hx
  exact hb ⟨by rw [a], by rw [a]; exact b⟩
theorem rd_long {n : Int} {s : ByteArray} (h4 : s ≠ ⟨#[110, 111, 110, 101]⟩) (hl : 60 < (splitS s 32).length) : parQ n s = ([], false) := parQ_no fun zs hg e => by
  rw [par_words h4 hg e] at hl
  have := (good_iff.1 hg).2.1
  simp [numsS] at hl
  omega
theorem rd_end {n : Int} {s : ByteArray} {o : List Int} (h4 : s ≠ ⟨#[110, 111, 110, 101]⟩) (hn : okN n = true) (h : Rd n (splitS s 32) (splitS s 32).length o) (hl : o.length ≤ 60) : parQ n s = if txtS o = s then (o, true) else ([], false) := by
  have hg : good n o = true := by
    have ho : okList n o = true := List.all_eq_true.2 fun z hz => by
      obtain ⟨i, hi⟩ := List.getElem?_of_mem hz
      have hil : i < o.length := (List.getElem?_eq_some_iff.1 hi).1
      obtain ⟨u, a, _, c⟩ := h.2 i _ (by have := h.1; omega) (List.getElem?_eq_getElem (by have := h.1; omega))
      rw [hi] at a
      injection a with a
      rw [a]; exact c
    simp [good, hn, ho, hl]
  split
  · rename_i e
    rw [← e]
    exact parQ_yes hg
  · rename_i hne
    refine parQ_no fun zs hz e => hne ?_
    have hw := par_words h4 hz e
    rw [hw] at h
    have hzo : o = zs := by
      apply List.ext_getElem?
      intro i
      have hln : (numsS zs).length = zs.length := by simp [numsS]
      by_cases hi : i < zs.length
      · obtain ⟨u, a, b, _⟩ := h.2 i _ (by omega) (List.getElem?_eq_getElem (by omega))
        obtain ⟨z, a', b', _⟩ := rd_item hz (i := i) (List.getElem?_eq_getElem (by omega))
        rw [b'] at b
        injection b with b _
        rw [a, a', b]
      · have := h.1
        rw [List.getElem?_eq_none (by omega), List.getElem?_eq_none (by omega)]
    rw [hzo]
    exact e
theorem rd_small {n : Int} {ws : List ByteArray} {k : Nat} {o : List Int} (hn : okN n = true) (h : Rd n ws k o) (hk : k ≤ ws.length) : ∀ i, i < o.length → ∃ x : Nat, o[i]? = some (x : Int) ∧ x < 8 := fun i hi => by
  have := h.1
  obtain ⟨u, a, _, c⟩ := h.2 i _ (by omega) (List.getElem?_eq_getElem (by omega))
  have hb := okN_iff.1 hn
  have hc : 0 ≤ u ∧ u ≤ n - 1 := by simpa [okItem] using c
  obtain ⟨x, rfl⟩ := Int.eq_ofNat_of_zero_le hc.1
  exact ⟨x, a, by omega⟩
end Q
end Go.Proofs.Ytgnfmbdomofgcaa
