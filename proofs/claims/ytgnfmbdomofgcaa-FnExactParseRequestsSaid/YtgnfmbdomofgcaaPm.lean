/-
  What the code knows of a text while it reads its runes.
-/
import Derived.Test.YtgnfmbdomofgcaaPq
import Derived.Laws.RangeAny
namespace Go.Proofs.Ytgnfmbdomofgcaa
open Go.RowKit
set_option linter.unusedVariables false
namespace Q
/-- All bytes so far are as a text has them, and their numbers are o. -/
structure OkM (s : ByteArray) (pos : Nat) (o : List Int) : Prop where
  le : pos ≤ s.size
  len : o.length + o.length = pos + pos % 2
  dig : ∀ i (h : i + i < s.size), i + i < pos → o[i]? = some ((s[i + i].toNat : Int) - 48)
  gap : ∀ i (h : i + i + 1 < s.size), i + i + 1 < pos → s[i + i + 1] = 32
/-- No text has bytes like these, and a number tells it. -/
def BadM (n : Int) (s : ByteArray) (o : List Int) : Prop := parQ n s = ([], false) ∧ ∃ z ∈ o, 8 ≤ z
def Mode (n : Int) (s : ByteArray) (pos : Nat) (o : List Int) : Prop := OkM s pos o ∨ BadM n s o
/-- What is known of a rune. -/
structure Rn (s : ByteArray) (pos r d : Nat) : Prop where
  lt : pos < s.size
  d1 : 1 ≤ d
  r1 : r ≤ 2147483647
  lo : (s[pos]'lt).toNat < 128 → r = (s[pos]'lt).toNat ∧ d = 1
  hi : 128 ≤ (s[pos]'lt).toNat → 128 ≤ r
theorem rn_of (s : ByteArray) (pos : Nat) (h : pos < s.size) : Rn s pos (Utf8.decode s pos).1 (Utf8.decode s pos).2 := by
  refine ⟨h, ?_, decode_le s pos, fun hl => ?_, fun hh => (decode_high s pos h hh).1⟩
  · rcases Nat.lt_or_ge (s[pos]'h).toNat 128 with hl | hh
    · rw [decode_ascii s pos h hl]; exact Nat.le_refl _
    · exact (decode_high s pos h hh).2
  · rw [decode_ascii s pos h hl]; exact ⟨rfl, rfl⟩
variable {n : Int} {s : ByteArray} {pos r d : Nat} {o : List Int}
theorem mode_start : Mode n s 0 [] := .inl ⟨Nat.zero_le _, rfl, fun i h hi => by omega, fun i h hi => by omega⟩
theorem mode_even (h4 : s ≠ ⟨#[110, 111, 110, 101]⟩) (h : Mode n s pos o) (hp : pos % 2 = 0) (hr : Rn s pos r d) : Mode n s (pos + d) (o ++ [(r : Int) - 48]) := by
  rcases h with h | ⟨h1, z, h2, h3⟩
  · have hlt := hr.lt
    rcases Nat.lt_or_ge (s[pos]'hlt).toNat 128 with hl | hh
    · obtain ⟨e1, e2⟩ := hr.lo hl
      have hln := h.len
      subst e2
      refine .inl ⟨by omega, by simp; omega, fun i hi hip => ?_, fun i hi hip => h.gap i hi (by omega)⟩
      by_cases hii : i + i < pos
      · rw [List.getElem?_append_left (by omega)]; exact h.dig i hi hii
      · have hio : i = o.length := by omega
        have hpe : i + i = pos := by omega
        rw [List.getElem?_append_right (by omega), show i - o.length = 0 by omega, e1]
        subst hpe
        rfl
    · refine .inr ⟨?_, (r : Int) - 48, by simp, by have := hr.hi hh; omega⟩
      obtain ⟨i, rfl⟩ : ∃ i, pos = i + i := ⟨pos / 2, by omega⟩
      exact parQ_even h4 hlt (by omega)
  · exact .inr ⟨h1, z, by simp [h2], h3⟩
theorem mode_space (h : Mode n s pos o) (hp : pos % 2 = 1) (hr : Rn s pos r d) (he : r = 32) : Mode n s (pos + d) o := by
  rcases h with h | h
  · have hlt := hr.lt
    rcases Nat.lt_or_ge (s[pos]'hlt).toNat 128 with hl | hh
    · obtain ⟨e1, e2⟩ := hr.lo hl
      have hln := h.len
      subst e2
      refine .inl ⟨by omega, by omega, fun i hi hip => h.dig i hi (by omega), fun i hi hip => ?_⟩
      by_cases hii : i + i + 1 < pos
      · exact h.gap i hi hii
      · have hpe : i + i + 1 = pos := by omega
        subst hpe
        apply UInt8.toNat_inj.1
        show _ = 32
        omega
    · have := hr.hi hh
      omega
  · exact .inr h
theorem mode_other (h4 : s ≠ ⟨#[110, 111, 110, 101]⟩) (h : Mode n s pos o) (hp : pos % 2 = 1) (hr : Rn s pos r d) (he : r ≠ 32) : parQ n s = ([], false) := by
  rcases h with h | h
  · have hlt := hr.lt
    obtain ⟨i, rfl⟩ : ∃ i, pos = i + i + 1 := ⟨pos / 2, by omega⟩
    refine parQ_odd h4 hlt fun e => ?_
    have e2 : (s[i + i + 1]'hlt).toNat = 32 := by rw [e]; rfl
    have := (hr.lo (by omega)).1
    omega
  · exact h.1
theorem mode_end (h : Mode n s pos o) (hp : ¬ pos < s.size) (h2 : s.size % 2 = 1) (h3 : s.size < 120) : parQ n s = ifGood n o o := by
  rcases h with h | ⟨h1, z, hz, h8⟩
  · have hps : pos = s.size := by have := h.le; omega
    subst hps
    have hln := h.len
    cases hg : good n o
    · rw [ifGood_no hg]
      refine parQ_no fun zs hzg e => ?_
      have hz0 : 0 < zs.length := by
        rcases Nat.eq_zero_or_pos zs.length with h0 | h0
        · have : s = ⟨#[110, 111, 110, 101]⟩ := by rw [← e]; exact if_pos h0
          rw [this, none_size] at h2
          omega
        · exact h0
      have ht := txt_of (good_small hzg) hz0
      rw [e] at ht
      have hsz := ht.size
      have hzo : zs = o := by
        apply List.ext_getElem?
        intro i
        by_cases hi : i < zs.length
        · obtain ⟨x, a, b, c⟩ := ht.dig i (by omega) hi
          rw [a, h.dig i (by omega) (by omega), c, UInt8.toNat_ofNat']
          congr 1
          omega
        · rw [List.getElem?_eq_none (by omega), List.getElem?_eq_none (by omega)]
      rw [hzo, hg] at hzg
      cases hzg
    · rw [ifGood_yes hg]
      have ho0 : 0 < o.length := by omega
      have hto := txt_of (good_small hg) ho0
      have hts : Txt o s o.length := by
        refine ⟨by omega, fun i hi hio => ?_, fun i hi => h.gap i hi hi⟩
        obtain ⟨x, a, b⟩ := good_small hg i hio
        refine ⟨x, a, b, ?_⟩
        have hd := h.dig i hi hi
        rw [a] at hd
        injection hd with hd
        apply UInt8.toNat_inj.1
        rw [UInt8.toNat_ofNat']
        omega
      have e : s = txtS o := hts.same hto (fun _ _ => rfl)
      rw [e]
      exact parQ_yes hg
  · rw [h1]
    cases hg : good n o
    · rw [ifGood_no hg]
    · have := (good_iff.1 hg).2.2 z hz
      have := (good_iff.1 hg).1
      omega
end Q
end Go.Proofs.Ytgnfmbdomofgcaa
