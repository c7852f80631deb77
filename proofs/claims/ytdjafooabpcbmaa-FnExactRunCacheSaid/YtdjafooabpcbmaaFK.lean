/-
  A cache in a block of the call's own beside blocks that are to be kept: what a request leaves.
-/
import Derived.Test.YtdjafooabpcbmaaRqd
import Derived.Test.YtdjafooabpcbmaaCm
namespace Go.Proofs.Ytdjafooabpcbmaa
open Go.RowKit
set_option linter.unusedVariables false
structure FK (b : Nat) (K : Nat → Prop) (wr : World) (c : Ca) : Prop where
  ex : ∃ Z vp vm, CB wr b b { c with z := Z } vp vm ∧ ∀ k, K k → k < wr.heap.size ∧ k ≠ b ∧ vp.ownBlock ≠ some k ∧ vm.ownBlock ≠ some k
namespace FK
variable {b : Nat} {K : Nat → Prop} {wr w1 : World} {c : Ca}
theorem hi (h : FK b K wr c) : b < wr.heap.size := by obtain ⟨Z, vp, vm, hc, _⟩ := h.ex; exact hc.hi
theorem request (h : FK b K wr c) {n x : Int} (hok : Q.okC n c) :
    Calls Try.prog 69 #[.pointer (some ⟨b, 0, none⟩), .int .i64 x] wr fun e w' => e = .returned (.bool (decide (x ∉ c.ps))) ∧ FK b K w' (Q.stepC c x) ∧ (∀ k, K k → w'.heap[k]? = wr.heap[k]?) ∧ Below b wr w' := by
  obtain ⟨Z, vp, vm, hc, hd⟩ := h.ex
  have hz : ∃ Z' : Nat → Option Obj, (∀ k, K k → Z' k = wr.heap[k]?) ∧ ∀ k, ¬ K k → Z' k = none := by
    refine ⟨fun k => @ite _ (K k) (Classical.propDecidable _) (wr.heap[k]?) none, fun k hk => if_pos hk, fun k hk => if_neg hk⟩
  obtain ⟨Z', hz1, hz2⟩ := hz
  have hc' : CB wr b b { c with z := Z' } vp vm := ⟨hc.blk, hc.lo, hc.hi, hc.op, hc.om, hc.np, hc.nm, hc.ne, fun k o e => by
    have e' : Z' k = some o := e
    by_cases hk : K k
    · rw [hz1 k hk] at e'
      exact ⟨e', (hd k hk).2⟩
    · rw [hz2 k hk] at e'
      cases e'⟩
  refine (request_any (n := n) (x := x) hc' (Nat.le_of_lt hc.hi) hok).mono ?_
  rintro e w' ⟨he, ⟨vp', vm', h'⟩, hb⟩
  rw [Q.stepC_z] at h'
  have hk : ∀ k, K k → w'.heap[k]? = wr.heap[k]? ∧ k ≠ b ∧ vp'.ownBlock ≠ some k ∧ vm'.ownBlock ≠ some k := fun k hk => by
    obtain ⟨o, ho⟩ : ∃ o, wr.heap[k]? = some o := ⟨_, Array.getElem?_eq_getElem (hd k hk).1⟩
    have h1 := h'.out k o (show Z' k = some o by rw [hz1 k hk, ho])
    exact ⟨h1.1.trans ho.symm, h1.2⟩
  exact ⟨he, ⟨_, vp', vm', h', fun k q => ⟨by
    obtain ⟨o, ho⟩ : ∃ o, wr.heap[k]? = some o := ⟨_, Array.getElem?_eq_getElem (hd k q).1⟩
    exact heap_lt ((hk k q).1.trans ho), (hk k q).2⟩⟩, fun k q => (hk k q).1, hb⟩
end FK
end Go.Proofs.Ytdjafooabpcbmaa
