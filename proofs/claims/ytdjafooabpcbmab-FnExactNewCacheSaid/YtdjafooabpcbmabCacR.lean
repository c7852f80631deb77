/-
  Runs of a cache over a sequence: the cache after k requests, the places of the faults. Nothing of the program stands here.
-/
import Derived.Test.YtdjafooabpcbmabCacM2
import Derived.Test.YtdjafooabpcbmabSeq
namespace Go.Proofs.Ytdjafooabpcbmab
namespace Q
def runK (c : Ca) (zs : List Int) (k : Nat) : Ca := (zs.take k).foldl stepC c
theorem runK_zero (c : Ca) (zs : List Int) : runK c zs 0 = c := rfl
theorem runK_succ (c : Ca) {zs : List Int} {k : Nat} {x : Int} (hx : zs[k]? = some x) : runK c zs (k + 1) = stepC (runK c zs k) x := by
  unfold runK
  rw [List.take_add_one, hx, List.foldl_append]
  rfl
def runAll (c : Ca) (zs : List Int) : Ca := runK c zs zs.length
def fltK (c : Ca) (zs : List Int) : Nat → List Int
  | 0 => []
  | k + 1 => if zs.getD k 0 ∈ (runK c zs k).ps then fltK c zs k else fltK c zs k ++ [(k : Int)]
theorem fltK_hit (c : Ca) {zs : List Int} {k : Nat} {x : Int} (hx : zs[k]? = some x) (h : x ∈ (runK c zs k).ps) : fltK c zs (k + 1) = fltK c zs k := by
  have e : zs.getD k 0 = x := by rw [List.getD_eq_getElem?_getD, hx]; rfl
  rw [fltK, e, if_pos h]
theorem fltK_no (c : Ca) {zs : List Int} {k : Nat} {x : Int} (hx : zs[k]? = some x) (h : x ∉ (runK c zs k).ps) : fltK c zs (k + 1) = fltK c zs k ++ [(k : Int)] := by
  have e : zs.getD k 0 = x := by rw [List.getD_eq_getElem?_getD, hx]; rfl
  rw [fltK, e, if_neg h]
theorem fltK_len (c : Ca) (zs : List Int) : ∀ k, (fltK c zs k).length ≤ k
  | 0 => Nat.le_refl _
  | k + 1 => by
    have := fltK_len c zs k
    rw [fltK]
    split
    · omega
    · simp; omega
def flt (c : Ca) (zs : List Int) : List Int := fltK c zs zs.length
theorem run_ok {n : Int} {c : Ca} {zs : List Int} (h : okC n c) (hz : ∀ z ∈ zs, 0 ≤ z ∧ z ≤ n - 1) : ∀ k, okC n (runK c zs k)
  | 0 => h
  | k + 1 => by
    have ih := run_ok h hz k
    cases hx : zs[k]? with
    | none =>
      have e : runK c zs (k + 1) = runK c zs k := by
        unfold runK
        rw [List.take_add_one, hx]
        simp
      rw [e]; exact ih
    | some x =>
      rw [runK_succ c hx]
      exact step_ok ih (hz x (List.mem_of_getElem? hx))
/-- The empty cache of a policy and a size. -/
def newC (p s : Int) : Ca := { p := p, s := s, ps := [], ms := [], h := 0 }
theorem new_ok {n p s : Int} (hn : 1 ≤ n ∧ n ≤ 8) (hp : 1 ≤ p ∧ p ≤ 7) (hs : 1 ≤ s ∧ s ≤ 6) : okC n (newC p s) := by
  refine ⟨hn, hp, hs, by simp [newC]; omega, by simp [newC], by simp [newC], ?_, ?_⟩
  · simp [newC]
  · rw [if_neg (by simp [newC]; omega)]; rfl
def sizes (p s : Int) : Bool := decide ((1 ≤ p ∧ p ≤ 7) ∧ 1 ≤ s ∧ s ≤ 6)
/-- What FaultPlaces answers. -/
def fpl (n p s : Int) (zs : List Int) : List Int × Bool := if good n zs && sizes p s then (flt (newC p s) zs, true) else ([], false)
theorem fpl_yes {n p s : Int} {zs : List Int} (h : good n zs = true) (h' : sizes p s = true) : fpl n p s zs = (flt (newC p s) zs, true) := by simp [fpl, h, h']
theorem fpl_no {n p s : Int} {zs : List Int} (h : good n zs = false ∨ sizes p s = false) : fpl n p s zs = ([], false) := by rcases h with h | h <;> simp [fpl, h]
/-- What is kept plays no part. -/
theorem stepC_z (c : Ca) (Z : Nat → Option Obj) (x : Int) : stepC { c with z := Z } x = { stepC c x with z := Z } := by
  unfold stepC
  simp only []
  split
  · unfold hitC; simp only []; split; rfl; split; rfl; split <;> rfl
  · unfold faultC; simp only []; split
    · split <;> rfl
    · split
      · rfl
      · unfold roomC; simp only []; split; rfl; split; rfl; split <;> rfl
end Q
end Go.Proofs.Ytdjafooabpcbmab
