/-
  Rows of a call's own whose elements take two cells, while other rows are written; their marks.
-/
import Derived.Test.YtklpdfilhgjllaaMarkA
namespace Go.Proofs.Ytklpdfilhgjllaa
open Go.RowKit
set_option linter.unusedVariables false
theorem own2_len {w : World} {base : Nat} {e : TypeId} {v : Value} {n : Nat} {xs : List Value} (h : w.ownsRow base e 2 v n xs) : ∃ A c, v = .slice A n c ∧ n ≤ c ∧ c ≤ maxLen ∧ xs.length = n * 2 := by
  rcases h.2 with ⟨rfl, rfl⟩ | ⟨g, cap, cur, rfl, _, _, h1, h2, _, _⟩
  · exact ⟨none, 0, rfl, Nat.le_refl _, Nat.zero_le _, h.1⟩
  · exact ⟨_, cap, rfl, h1, h2, h.1⟩
theorem In.of2 {w : World} {base : Nat} {e : TypeId} {A : Option Addr} {n c : Nat} {xs : List Value} (h : w.ownsRow base e 2 (.slice A n c) n xs) : In base w.heap.size A := fun a ha => by
  rcases h.2 with ⟨hv, _⟩ | ⟨g, cap, cur, hv, hb, hg, _⟩
  · injection hv with h1; rw [h1] at ha; cases ha
  · injection hv with h1
    rw [h1] at ha
    cases ha
    exact ⟨hb, (Array.getElem?_eq_some_iff.1 hg).1⟩
theorem own_far2 {w w' : World} {A B : Option Addr} {n c n' c' lo hi lo' hi' base : Nat} {e : TypeId} {xs : List Value} (h : w.ownsRow base e 2 (.slice A n' c') n' xs) (hg : w.grownBy w' (Value.slice B n c).ownBlock) (hA : In lo hi A) (hB : In lo' hi' B) (hd : hi ≤ lo' ∨ hi' ≤ lo) :
    w'.ownsRow base e 2 (.slice A n' c') n' xs := h.kept hg (by
  cases A with
  | none => exact .inl rfl
  | some a =>
    refine .inr fun e => ?_
    cases B with
    | none => simp [Value.ownBlock] at e
    | some q =>
      have h1 := hA a rfl
      have h2 := hB q rfl
      simp [Value.ownBlock] at e
      omega)
theorem Row.own2 {w : World} {base : Nat} {e : TypeId} {A : Option Addr} {n c : Nat} {xs : List Value} (h : w.ownsRow base e 2 (.slice A n c) n xs) : Law.Row w A xs := fun hx => by
  rcases h.2 with ⟨_, h0⟩ | ⟨g, cap, cur, hv, _, hg, _, _, _, _⟩
  · have := h.1
    rw [h0] at this
    exact absurd (List.eq_nil_of_length_eq_zero (by simpa using this)) hx
  · injection hv with hA
    subst hA
    exact ⟨g, 0, rfl, (Array.getElem?_eq_some_iff.1 hg).1, fun j u hu => by
      have := h.cells (g := g) rfl j u hu
      rwa [Law.add_plain] at this⟩
theorem heldA2_one (n c : Nat) (A : Option Addr) (w : World) (hn : n ≤ 1048576) (hr : Law.Row w A (ivs (mki 1 (n * 2)))) :
    Calls Try.prog 40 #[.slice A n c, .int .i64 1] w fun e w' => e = .returned (.int .i64 ((1 + n * 2 : Nat) : Int)) ∧ Below w.heap.size w w' :=
  (heldA2_any 1 n c A w (by omega) hn (by omega) hr).mono fun _ _ ⟨h1, m, h2⟩ => ⟨h1, by rw [h2]; exact Law.draws _ _ _⟩
theorem markA2_one (base n c : Nat) (A : Option Addr) (xs : List Value) (w : World) (hn : n ≤ 1048576) (ho : w.ownsRow base 76 2 (.slice A n c) n xs) :
    Calls Try.prog 39 #[.slice A n c, .int .i64 1] w fun e w' => e = .returned (.int .i64 ((1 + n * 2 : Nat) : Int)) ∧ w'.ownsRow base 76 2 (.slice A n c) n (ivs (mki 1 (n * 2))) ∧ w.grownBy w' (Value.slice A n c).ownBlock :=
  markA2_by base 1 n A c xs w (by omega) hn (by omega) ho
end Go.Proofs.Ytklpdfilhgjllaa
