/-
  A cache by value: its lists in the heap, what a call says that gives one, blocks of five cells.
-/
import Derived.Test.YtdjafooabpcbmabBlkA
import Derived.Test.YtdjafooabpcbmabMarkI
namespace Go.Proofs.Ytdjafooabpcbmab
open Go.RowKit
set_option linter.unusedVariables false
/-- A cache by value whose lists lie in the heap. -/
def CaIn (W : World) (A : Option Addr) (d : Nat) (B : Option Addr) (e : Nat) (c : Ca) : Prop :=
  (c.ps.length ≤ d ∧ d ≤ maxLen ∧ Law.Row W A (ivs c.ps)) ∧ (c.ms.length ≤ e ∧ e ≤ maxLen ∧ Law.Row W B (ivs c.ms))
def caV (c : Ca) (A : Option Addr) (d : Nat) (B : Option Addr) (e : Nat) : Value := .agg #[.int .i64 c.p, .int .i64 c.s, .slice A c.ps.length d, .slice B c.ms.length e, .int .i64 c.h]
theorem CaIn.stays {W W' : World} {A B : Option Addr} {d e : Nat} {c : Ca} (h : CaIn W A d B e c) (hb : Below W.heap.size W W') : CaIn W' A d B e c := ⟨⟨h.1.1, h.1.2.1, h.1.2.2.stays hb⟩, ⟨h.2.1, h.2.2.1, h.2.2.2.stays hb⟩⟩
/-- A row is the old one with the same numbers, or it lies in new memory. -/
def Fr (W : World) (A : Option Addr) (zs : List Int) (A' : Option Addr) (zs' : List Int) : Prop := (A' = A ∧ zs' = zs) ∨ ∀ a, A' = some a → W.heap.size ≤ a.block
theorem fresh_of {Y W : World} {base n d : Nat} {A A' : Option Addr} {zs zs' : List Int} {xs : List Value} (h : Y.ownsRow base 3 1 (.slice A' n d) n xs) (hb : W.heap.size ≤ base) : Fr W A zs A' zs' := .inr fun a ha => Nat.le_trans hb (In.of h a ha).1
theorem Fr.mono {W X : World} {A A' : Option Addr} {zs zs' : List Int} (h : Fr X A zs A' zs') (hs : W.heap.size ≤ X.heap.size) : Fr W A zs A' zs' := by
  rcases h with h | h
  · exact .inl h
  · exact .inr fun a ha => Nat.le_trans hs (h a ha)
theorem Fr.trans {W X : World} {A A' A2 : Option Addr} {zs zs' zs2 : List Int} (h : Fr W A zs A' zs') (k : Fr X A' zs' A2 zs2) (hs : W.heap.size ≤ X.heap.size) : Fr W A zs A2 zs2 := by
  rcases k with ⟨rfl, rfl⟩ | k
  · exact h
  · exact .inr fun a ha => Nat.le_trans hs (k a ha)
/-- A store into a block between stays out of the row. -/
theorem row_off {W X w : World} {A0 A : Option Addr} {zs0 zs : List Int} (h : Law.Row w A (ivs zs)) (hf : Fr X A0 zs0 A zs) (h0 : Law.Row W A0 (ivs zs0)) {b : Nat} (h1 : W.heap.size ≤ b) (h2 : b < X.heap.size) (p : Addr) (hp : p.block = b) (u : Value) : Law.Row (w.setCell p u) A (ivs zs) := fun hx => by
  obtain ⟨k, off, rfl, hk, hc⟩ := h hx
  have hne : k ≠ b := by
    rcases hf with ⟨e, ez⟩ | hfr
    · subst ez
      obtain ⟨k', off', e', hk', _⟩ := h0 hx
      rw [e'] at e
      injection e with e
      injection e with e1 _ _
      omega
    · have := hfr _ rfl
      simp only [] at this
      omega
  refine ⟨k, off, rfl, by simpa using hk, fun j u' hu => ?_⟩
  exact (World.cell?_of_block (a := ⟨k, off + j, none⟩) (Below.heap_setCell _ _ _ _ (by rw [hp]; exact hne))).trans (hc j u' hu)
/-- What a call says that gives a cache by value. -/
def caSays (c c' : Ca) (A B : Option Addr) (W : World) (r : Ending) (W' : World) : Prop := ∃ A' d B' e, r = .returned (caV c' A' d B' e) ∧ CaIn W' A' d B' e c' ∧ Below W.heap.size W W' ∧ Fr W A c.ps A' c'.ps ∧ Fr W B c.ms B' c'.ms
theorem blk5_of {w : World} {b : Nat} {v0 v1 v2 v3 v4 : Value} {t : TypeId} (h : w.heap[b]? = some (.cells #[v0, v1, v2, v3, v4] t)) : Blk5 w b v0 v1 v2 v3 v4 := by
  constructor <;> simp [World.cell?, World.frozen?, h]
theorem al3 (W : World) (o0 o1 o2 : Obj) : (((W.alloc o0).alloc o1).alloc o2).heap[W.heap.size]? = some o0 ∧ (((W.alloc o0).alloc o1).alloc o2).heap[W.heap.size + 1]? = some o1 ∧ (((W.alloc o0).alloc o1).alloc o2).heap[W.heap.size + 1 + 1]? = some o2 ∧ (((W.alloc o0).alloc o1).alloc o2).heap.size = W.heap.size + 1 + 1 + 1 ∧ Below W.heap.size W (((W.alloc o0).alloc o1).alloc o2) := by
  have a1 : Below (W.alloc o0).heap.size (W.alloc o0) ((W.alloc o0).alloc o1) := (Below.refl _ _).alloc (Nat.le_refl _) _
  have a2 : Below ((W.alloc o0).alloc o1).heap.size ((W.alloc o0).alloc o1) (((W.alloc o0).alloc o1).alloc o2) := (Below.refl _ _).alloc (Nat.le_refl _) _
  have s1 : (W.alloc o0).heap.size = W.heap.size + 1 := by simp
  have s2 : ((W.alloc o0).alloc o1).heap.size = W.heap.size + 1 + 1 := by simp
  refine ⟨?_, ?_, ?_, by simp, (((Below.refl W.heap.size W).alloc (Nat.le_refl _) _).alloc (by simp) _).alloc (by first | omega | (simp; omega)) _⟩
  · rw [a2.block _ (by omega), a1.block _ (by omega)]
    exact heap_alloc_new W o0
  · rw [a2.block _ (by omega), ← s1]
    exact heap_alloc_new _ o1
  · rw [← s2]
    exact heap_alloc_new _ o2
theorem Blk5.set0 {w : World} {b : Nat} {v0 v1 v2 v3 v4 : Value} (h : Blk5 w b v0 v1 v2 v3 v4) (u : Value) : Blk5 (w.setCell ⟨b, 0, none⟩ u) b u v1 v2 v3 v4 :=
  ⟨by rw [World.cell?_setCell_same (h := h.c0)], by rw [World.cell?_setCell_other (h := off_ne (by decide))]; exact h.c1, by rw [World.cell?_setCell_other (h := off_ne (by decide))]; exact h.c2, by rw [World.cell?_setCell_other (h := off_ne (by decide))]; exact h.c3, by rw [World.cell?_setCell_other (h := off_ne (by decide))]; exact h.c4,
    by simp [h.f0], by simp [h.f1], by simp [h.f2], by simp [h.f3], by simp [h.f4]⟩
theorem Blk5.set1 {w : World} {b : Nat} {v0 v1 v2 v3 v4 : Value} (h : Blk5 w b v0 v1 v2 v3 v4) (u : Value) : Blk5 (w.setCell ⟨b, 1, none⟩ u) b v0 u v2 v3 v4 :=
  ⟨by rw [World.cell?_setCell_other (h := off_ne (by decide))]; exact h.c0, by rw [World.cell?_setCell_same (h := h.c1)], by rw [World.cell?_setCell_other (h := off_ne (by decide))]; exact h.c2, by rw [World.cell?_setCell_other (h := off_ne (by decide))]; exact h.c3, by rw [World.cell?_setCell_other (h := off_ne (by decide))]; exact h.c4,
    by simp [h.f0], by simp [h.f1], by simp [h.f2], by simp [h.f3], by simp [h.f4]⟩
/-- A cell of another block is set. -/
theorem Blk5.other {w : World} {b : Nat} {v0 v1 v2 v3 v4 : Value} (h : Blk5 w b v0 v1 v2 v3 v4) (p : Addr) (hp : p.block ≠ b) (u : Value) : Blk5 (w.setCell p u) b v0 v1 v2 v3 v4 :=
  h.kept (Below.heap_setCell _ _ _ _ hp.symm)
/-- All five cells are set. -/
def World.set5 (w : World) (b : Nat) (u0 u1 u2 u3 u4 : Value) : World := ((((w.setCell ⟨b, 0, none⟩ u0).setCell ⟨b, 1, none⟩ u1).setCell ⟨b, 2, none⟩ u2).setCell ⟨b, 3, none⟩ u3).setCell ⟨b, 4, none⟩ u4
theorem Blk5.all {w : World} {b : Nat} {v0 v1 v2 v3 v4 : Value} (h : Blk5 w b v0 v1 v2 v3 v4) (u0 u1 u2 u3 u4 : Value) : Blk5 (World.set5 w b u0 u1 u2 u3 u4) b u0 u1 u2 u3 u4 := ((((h.set0 u0).set1 u1).set2 u2).set3 u3).set4 u4
theorem below5 {n : Nat} {W w : World} (h : Below n W w) {b : Nat} (hb : n ≤ b) (u0 u1 u2 u3 u4 : Value) : Below n W (World.set5 w b u0 u1 u2 u3 u4) :=
  ((((h.setCell (p := ⟨b, 0, none⟩) hb u0).setCell (p := ⟨b, 1, none⟩) hb u1).setCell (p := ⟨b, 2, none⟩) hb u2).setCell (p := ⟨b, 3, none⟩) hb u3).setCell (p := ⟨b, 4, none⟩) hb u4
theorem own_lo {w : World} {base n : Nat} {e : TypeId} {v : Value} {xs : List Value} (h : w.ownsRow base e 1 v n xs) (p : Addr) (hp : p.block < base) (u : Value) : (w.setCell p u).ownsRow base e 1 v n xs :=
  h.kept (setBy w p u) (.inr fun e => by have := (h.lt _ e).1; omega)
theorem own5 {w : World} {base n : Nat} {e : TypeId} {v : Value} {xs : List Value} (h : w.ownsRow base e 1 v n xs) {b : Nat} (hb : b < base) (u0 u1 u2 u3 u4 : Value) : (World.set5 w b u0 u1 u2 u3 u4).ownsRow base e 1 v n xs :=
  own_lo (own_lo (own_lo (own_lo (own_lo h ⟨b, 0, none⟩ hb u0) ⟨b, 1, none⟩ hb u1) ⟨b, 2, none⟩ hb u2) ⟨b, 3, none⟩ hb u3) ⟨b, 4, none⟩ hb u4
end Go.Proofs.Ytdjafooabpcbmab
