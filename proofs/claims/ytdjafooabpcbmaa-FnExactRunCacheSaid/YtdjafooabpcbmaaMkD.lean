/-
  What marks leave of caches elsewhere.
-/
import Derived.Test.YtdjafooabpcbmaaMkC
namespace Go.Proofs.Ytdjafooabpcbmaa
open Go.RowKit
set_option linter.unusedVariables false
theorem obl_addr {A : Option Addr} {n d g : Nat} (hg : (Value.slice A n d).ownBlock = some g) : ∃ a, A = some a ∧ a.block = g := by
  cases A with
  | none => simp [Value.ownBlock] at hg
  | some a =>
    obtain ⟨b, o, sp⟩ := a
    refine ⟨_, rfl, ?_⟩
    cases sp <;> simp [Value.ownBlock] at hg <;> exact hg
theorem Span.own {lo hi l2 h2 base n d : Nat} {W W' : World} {A : Option Addr} {xs : List Value} (h : Span lo hi W W') (ho : W.ownsRow base 3 1 (.slice A n d) n xs) (hA : In l2 h2 A) (hd : h2 ≤ lo ∨ hi ≤ l2) : W'.ownsRow base 3 1 (.slice A n d) n xs := by
  have hl := ho.lt
  obtain ⟨h1, h3⟩ := ho
  refine ⟨h1, ?_⟩
  rcases h3 with hv | ⟨g, cap, cur, hv, hb, hg, hr⟩
  · exact .inl hv
  · have hg2 : (Value.slice A n d).ownBlock = some g := by rw [hv]; rfl
    obtain ⟨a, ha, hag⟩ := obl_addr hg2
    have := hA a ha
    exact .inr ⟨g, cap, cur, hv, hb, (h.block g (hl g hg2).2 (by omega)).trans hg, hr⟩
theorem CaIn.span {lo hi d e : Nat} {W0 W W' : World} {A B : Option Addr} {c : Ca} (h0 : CaIn W0 A d B e c) (h : CaIn W A d B e c) (hs : Span lo hi W W') (hle : W0.heap.size ≤ lo) : CaIn W' A d B e c := by
  have key : ∀ {X : Option Addr} {xs : List Value}, Law.Row W0 X xs → Law.Row W X xs → Law.Row W' X xs := fun {X xs} r0 r hx => by
    obtain ⟨b, off, e1, hb, _⟩ := r0 hx
    obtain ⟨b', off', e2, hb', hc⟩ := r hx
    rw [e1] at e2
    injection e2 with e2
    injection e2 with e3 e4 _
    subst e3 e4
    exact ⟨b, off, e1, Nat.lt_of_lt_of_le hb' hs.size, fun j u hu => (World.cell?_of_block (a := ⟨b, off + j, none⟩) (hs.block b hb' (.inl (by omega)))).trans (hc j u hu)⟩
  exact ⟨⟨h.1.1, h.1.2.1, key h0.1.2.2 h.1.2.2⟩, h.2.1, h.2.2.1, key h0.2.2.2 h.2.2.2⟩
end Go.Proofs.Ytdjafooabpcbmaa
