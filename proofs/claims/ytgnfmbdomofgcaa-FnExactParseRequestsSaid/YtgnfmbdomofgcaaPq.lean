/-
  Which sequence a text tells: the bytes of a text of a list of small numbers, and back.
-/
import Derived.Test.YtgnfmbdomofgcaaJp
import Derived.Test.YtgnfmbdomofgcaaOwn
import Derived.Test.YtgnfmbdomofgcaaSplit
namespace Go.Proofs.Ytgnfmbdomofgcaa
open Go.RowKit
set_option linter.unusedVariables false
namespace Q
/-- The bytes of a text: digits at the even places, spaces at the odd ones. -/
structure Txt (zs : List Int) (s : ByteArray) (k : Nat) : Prop where
  size : s.size + 1 = k + k
  dig : ∀ i (h : i + i < s.size), i < k → ∃ x : Nat, zs[i]? = some (x : Int) ∧ x < 8 ∧ s[i + i] = UInt8.ofNat (48 + x)
  gap : ∀ i (h : i + i + 1 < s.size), s[i + i + 1] = 32
theorem app_left {a b : ByteArray} {i : Nat} (h : i < (a ++ b).size) (h' : i < a.size) : (a ++ b)[i] = a[i] := by
  rw [ByteArray.getElem_append_left h']
theorem app_right {a b : ByteArray} {i : Nat} (h : i < (a ++ b).size) (h' : a.size ≤ i) : (a ++ b)[i] = b[i - a.size]'(by rw [ByteArray.size_append] at h; omega) := by
  rw [ByteArray.getElem_append_right h']
theorem jp_txt {zs : List Int} (hx : ∀ k, k < zs.length → ∃ x : Nat, zs[k]? = some (x : Int) ∧ x < 8) : ∀ k, 0 < k → k ≤ zs.length → Txt zs (jp (numsS zs) spc k) k
  | 1, _, hk => by
    obtain ⟨x, h1, h2⟩ := hx 0 hk
    have e : jp (numsS zs) spc 1 = numS (x : Int) := by
      rw [jp_at (numsS_at h1), if_neg (by omega)]
      apply ByteArray.ext
      simp [jp]
    rw [e, numS_small x (by omega)]
    refine ⟨rfl, fun i h hi => ⟨x, by obtain rfl : i = 0 := by omega
                                      exact h1, h2, ?_⟩, fun i h => ?_⟩
    · obtain rfl : i = 0 := by omega
      rfl
    · have : (digS x).size = 1 := rfl
      omega
  | k + 2, _, hk => by
    have ih := jp_txt hx (k + 1) (by omega) (by omega)
    obtain ⟨x, h1, h2⟩ := hx (k + 1) (by omega)
    have e : jp (numsS zs) spc (k + 2) = jp (numsS zs) spc (k + 1) ++ spc ++ digS x := by
      rw [jp_at (numsS_at h1), if_pos (by omega), numS_small x (by omega)]
    rw [e]
    generalize jp (numsS zs) spc (k + 1) = t at ih
    have hs := ih.size
    have e1 : spc.size = 1 := rfl
    have e2 : (digS x).size = 1 := rfl
    have hts : (t ++ spc).size = t.size + 1 := by rw [ByteArray.size_append]; rfl
    have hall : (t ++ spc ++ digS x).size = t.size + 2 := by rw [ByteArray.size_append, hts]; rfl
    refine ⟨by omega, fun i h hi => ?_, fun i h => ?_⟩
    · by_cases hik : i < k + 1
      · obtain ⟨y, a, b, c⟩ := ih.dig i (by omega) hik
        refine ⟨y, a, b, ?_⟩
        rw [app_left h (by omega), app_left (by omega) (by omega)]
        exact c
      · obtain rfl : i = k + 1 := by omega
        refine ⟨x, h1, h2, ?_⟩
        rw [app_right h (by omega)]
        have : k + 1 + (k + 1) - (t ++ spc).size = 0 := by omega
        simp only [this]
        rfl
    · by_cases hik : i + i + 1 < t.size
      · rw [app_left h (by omega), app_left (by omega) hik]
        exact ih.gap i hik
      · have hi : i + i + 1 = t.size := by omega
        rw [app_left h (by omega), app_right (by omega) (by omega)]
        have : i + i + 1 - t.size = 0 := by omega
        simp only [this]
        rfl
theorem txt_of {zs : List Int} (hx : ∀ k, k < zs.length → ∃ x : Nat, zs[k]? = some (x : Int) ∧ x < 8) (h0 : 0 < zs.length) : Txt zs (txtS zs) zs.length := by
  unfold txtS
  rw [if_neg (by omega)]
  exact jp_txt hx zs.length h0 (Nat.le_refl _)
theorem none_size : (⟨#[110, 111, 110, 101]⟩ : ByteArray).size = 4 := rfl
/-- Bytes tell the text. -/
theorem Txt.same {zs zs' : List Int} {s s' : ByteArray} {k : Nat} (h : Txt zs s k) (h' : Txt zs' s' k) (he : ∀ i, i < k → zs[i]? = zs'[i]?) : s = s' := by
  have h1 := h.size
  have h2 := h'.size
  have hsz : s.size = s'.size := by omega
  apply ByteArray.ext
  apply Array.ext
  · exact hsz
  · intro i hi hi'
    show s[i]'hi = s'[i]'hi'
    obtain ⟨j, hj | hj⟩ : ∃ j, i = 2 * j ∨ i = 2 * j + 1 := ⟨i / 2, by omega⟩
    · obtain rfl : i = j + j := by omega
      have hjk : j < k := by have : j + j < s.size := hi; omega
      obtain ⟨x, a, _, c⟩ := h.dig j hi hjk
      obtain ⟨y, a', _, c'⟩ := h'.dig j hi' hjk
      have := he j hjk
      rw [a, a'] at this
      injection this with this
      have e : x = y := by omega
      rw [c, c', e]
    · obtain rfl : i = j + j + 1 := by omega
      rw [h.gap j hi, h'.gap j hi']
theorem Txt.items {zs zs' : List Int} {s : ByteArray} {k k' : Nat} (h : Txt zs s k) (h' : Txt zs' s k') (hl : zs.length = k) (hl' : zs'.length = k') : zs = zs' := by
  have h1 := h.size
  have h2 := h'.size
  have hk : k = k' := by omega
  subst hk
  apply List.ext_getElem?
  intro i
  by_cases hi : i < k
  · obtain ⟨x, a, b, c⟩ := h.dig i (by omega) hi
    obtain ⟨y, a', b', c'⟩ := h'.dig i (by omega) hi
    rw [a, a']
    have e : UInt8.ofNat (48 + x) = UInt8.ofNat (48 + y) := c.symm.trans c'
    have e2 := congrArg UInt8.toNat e
    rw [UInt8.toNat_ofNat', UInt8.toNat_ofNat'] at e2
    have : x = y := by omega
    rw [this]
  · rw [List.getElem?_eq_none (by omega), List.getElem?_eq_none (by omega)]
theorem good_small {n : Int} {zs : List Int} (h : good n zs = true) : ∀ k, k < zs.length → ∃ x : Nat, zs[k]? = some (x : Int) ∧ x < 8 := fun k hk => by
  obtain ⟨N, _, _, h2, _, hx⟩ := good_nat h
  obtain ⟨x, a, b⟩ := hx k hk
  exact ⟨x, a, by omega⟩
theorem txt_inj {n : Int} {zs zs' : List Int} (h : good n zs = true) (h' : good n zs' = true) (e : txtS zs = txtS zs') : zs = zs' := by
  rcases Nat.eq_zero_or_pos zs.length with h0 | h0 <;> rcases Nat.eq_zero_or_pos zs'.length with h0' | h0'
  · rw [List.eq_nil_of_length_eq_zero h0, List.eq_nil_of_length_eq_zero h0']
  · have h1 := (txt_of (good_small h') h0').size
    rw [← e, show txtS zs = ⟨#[110, 111, 110, 101]⟩ from if_pos h0, none_size] at h1
    omega
  · have h1 := (txt_of (good_small h) h0).size
    rw [e, show txtS zs' = ⟨#[110, 111, 110, 101]⟩ from if_pos h0', none_size] at h1
    omega
  · have h1 := txt_of (good_small h) h0
    rw [e] at h1
    exact h1.items (txt_of (good_small h') h0') rfl rfl
open Classical in
/-- What a text tells. -/
noncomputable def parQ (n : Int) (s : ByteArray) : List Int × Bool := if h : ∃ zs, good n zs = true ∧ txtS zs = s then (Classical.choose h, true) else ([], false)
theorem parQ_yes {n : Int} {zs : List Int} (h : good n zs = true) : parQ n (txtS zs) = (zs, true) := by
  have hex : ∃ ys, good n ys = true ∧ txtS ys = txtS zs := ⟨zs, h, rfl⟩
  unfold parQ
  rw [dif_pos hex]
  have := Classical.choose_spec hex
  rw [txt_inj this.1 h this.2]
theorem parQ_no {n : Int} {s : ByteArray} (h : ∀ zs, good n zs = true → txtS zs ≠ s) : parQ n s = ([], false) := by
  unfold parQ
  rw [dif_neg]
  rintro ⟨zs, a, b⟩
  exact h zs a b
theorem parQ_len (n : Int) (s : ByteArray) : (parQ n s).1.length ≤ 1048576 := by
  unfold parQ
  split
  · rename_i h
    have := (good_iff.1 (Classical.choose_spec h).1).2.1
    show (Classical.choose h).length ≤ _
    omega
  · simp
/-- A text of a size that none has. -/
theorem parQ_size {n : Int} {s : ByteArray} (h4 : s ≠ ⟨#[110, 111, 110, 101]⟩) (h : s.size % 2 = 0 ∨ 120 ≤ s.size) : parQ n s = ([], false) := parQ_no fun zs hg e => by
  rcases Nat.eq_zero_or_pos zs.length with h0 | h0
  · exact h4 (by rw [← e]; exact if_pos h0)
  · have h1 := (txt_of (good_small hg) h0).size
    have h2 := (good_iff.1 hg).2.1
    rw [e] at h1
    omega
/-- A byte at an even place that is no digit of an item, or at an odd place no space. -/
theorem parQ_even {n : Int} {s : ByteArray} {i : Nat} (h4 : s ≠ ⟨#[110, 111, 110, 101]⟩) (h : i + i < s.size) (hb : ¬ (48 ≤ s[i + i].toNat ∧ s[i + i].toNat ≤ 55)) : parQ n s = ([], false) := parQ_no fun zs hg e => by
  rcases Nat.eq_zero_or_pos zs.length with h0 | h0
  · exact h4 (by rw [← e]; exact if_pos h0)
  · have ht := txt_of (good_small hg) h0
    rw [e] at ht
    have h1 := ht.size
    obtain ⟨x, _, b, c⟩ := ht.dig i h (by omega)
    apply hb
    rw [c, UInt8.toNat_ofNat']
    omega
theorem parQ_odd {n : Int} {s : ByteArray} {i : Nat} (h4 : s ≠ ⟨#[110, 111, 110, 101]⟩) (h : i + i + 1 < s.size) (hb : s[i + i + 1] ≠ 32) : parQ n s = ([], false) := parQ_no fun zs hg e => by
  rcases Nat.eq_zero_or_pos zs.length with h0 | h0
  · exact h4 (by rw [← e]; exact if_pos h0)
  · have ht := txt_of (good_small hg) h0
    rw [e] at ht
    exact hb (ht.gap i h)
end Q
end Go.Proofs.Ytgnfmbdomofgcaa
