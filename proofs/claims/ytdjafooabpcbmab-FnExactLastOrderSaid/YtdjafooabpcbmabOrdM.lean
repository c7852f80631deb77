/-
  Plain mathematics: the different numbers of a list by their last places, the latest first.
-/
import Derived.Test.YtdjafooabpcbmabSeq
namespace Go.Proofs.Ytdjafooabpcbmab
namespace Q
def stepO (acc : List Int) (x : Int) : List Int := if x ∈ acc then acc else acc ++ [x]
/-- The order of what stands from j on. -/
def ordD (zs : List Int) (j : Nat) : List Int := (zs.drop j).reverse.foldl stepO []
theorem ordD_all (zs : List Int) : ordD zs zs.length = [] := by unfold ordD; rw [List.drop_length]; rfl
theorem ordD_step {zs : List Int} {j : Nat} {x : Int} (h : zs[j]? = some x) : ordD zs j = stepO (ordD zs (j + 1)) x := by
  unfold ordD
  have hl := (List.getElem?_eq_some_iff.1 h).1
  rw [List.drop_eq_getElem_cons hl, List.reverse_cons, List.foldl_append, (List.getElem?_eq_some_iff.1 h).2]
  rfl
theorem stepO_len (l : List Int) (x : Int) : (stepO l x).length ≤ l.length + 1 := by unfold stepO; split <;> simp
theorem fold_len : ∀ (l acc : List Int), (l.foldl stepO acc).length ≤ acc.length + l.length
  | [], acc => by simp
  | x :: r, acc => by
    have := fold_len r (stepO acc x)
    have := stepO_len acc x
    simp only [List.foldl_cons, List.length_cons]
    omega
theorem ordD_len (zs : List Int) (j : Nat) : (ordD zs j).length ≤ zs.length := by
  have := fold_len (zs.drop j).reverse []
  simp only [List.length_reverse, List.length_drop, List.length_nil] at this
  unfold ordD
  omega
def ordQ (n : Int) (zs : List Int) : List Int × Bool := if good n zs = true then (ordD zs 0, true) else ([], false)
theorem fold_stepO (pre : List Int) (x : Int) : (pre ++ [x]).foldl stepO [] = stepO (pre.foldl stepO []) x := by rw [List.foldl_append]; rfl
end Q
end Go.Proofs.Ytdjafooabpcbmab
