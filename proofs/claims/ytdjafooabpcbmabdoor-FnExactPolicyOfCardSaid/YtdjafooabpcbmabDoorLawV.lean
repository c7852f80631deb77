/-
  How a row that lists variables is closed: as XLaw's closing; the variables read as before too.
-/
import Derived.Test.YtdjafooabpcbmabDoorLaw
import Derived.OpenVars
namespace Go.Proofs.YtdjafooabpcbmabDoor.Law
open Go.RowKit Go.ChangeShapes Go.WideShapes
section
variable {H : Type} {enc : TypeId × Value → H} {P : Program}
/-- A LAW'S END with variables: it returned true, its arguments and the variables read as before, nothing old has turned. -/
theorem closeV {f : Func} {s : ChangeSpec} {W W' : World} {args : Array Value} {ds gs : List (DataW H)} {before : List MemPlace} {B : TypeId}
    (hW : DataW.Whole enc P f.params.toList s.vars false W args.toList ds gs before) (hv : varsRowed P s.vars = true) (hs : s.fn H (ds ++ gs) = { results := [.lit (.bool true)], args := ds, vars := gs })
    (hl : laidOutB P = true) (hr : (f.params.toList.all fun t => P.readableRec t && decide (t < P.types.size)) = true) (hB : P.underlying B = some .bool) (hres : f.resultTypes = #[B])
    (hb : Below W.heap.size W W') : s.post enc P f false true false false W args (.bool true) W' := by
  have hW' := hW
  have hlt : ∀ p ∈ before, p.block < W.heap.size := fun p hp => hW.lt p hp
  obtain ⟨p, q, hA, hV, rfl, hz, hn⟩ := hW
  refine ⟨ds, gs, _, [], p, q, hW', ?_, ?_, ?_, World.keptBut_mono (fun x hx => ⟨hx, by rcases List.mem_append.1 hx with h | h; exact .inr (.inl h); exact .inr (.inr h)⟩) (hb.frame (· ∈ p ++ q)), fun h => by cases h⟩
  · rw [hs, hres]
    exact trodAll_mk1 (shut_bool hB _)
  · rw [hs]
    exact args_stay hl hb hr hA (fun x hx => hlt x (List.mem_append_left _ hx))
  · rw [hs]
    exact Below.trodVars hl hb hv hV
theorem one_var {n : String} {W : World} {sp : Nat → Bool} {gs : List (DataW H)} {q : List MemPlace} (h : DataW.TrodVars enc P W sp [n] gs q) : ∃ g, gs = [g] := by
  match gs, h with
  | [], h => exact h.elim
  | [g], _ => exact ⟨g, rfl⟩
  | _ :: _ :: _, h => obtain ⟨_, _, _, _, _, _, _, _, _, _, h', _⟩ := h; exact h'.elim
end
end Go.Proofs.YtdjafooabpcbmabDoor.Law
