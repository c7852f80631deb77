/-
  Double coverage, the mathematics: where a request lies in a row, the row behind it, how far servers move.
-/
import Derived.Test.YtndjpkeenbbgiaaRd
namespace Go.Proofs.Ytndjpkeenbbgiaa
set_option linter.unusedVariables false
namespace Q
theorem row_cases {l : List Int} (h : rowQ l = true) : (∃ a, l = [a] ∧ 0 ≤ a ∧ a ≤ 99) ∨ (∃ a b, l = [a, b] ∧ 0 ≤ a ∧ a ≤ b ∧ b ≤ 99) ∨ ∃ a b c, l = [a, b, c] ∧ 0 ≤ a ∧ a ≤ b ∧ b ≤ c ∧ c ≤ 99 := by
  obtain ⟨h1, h3, hw, hs⟩ := servers_iff.1 h
  have hs' := asc_iff.1 hs
  match l, h1, h3 with
  | [a], _, _ =>
    simp [within, okW] at hw
    exact .inl ⟨a, rfl, by omega, by omega⟩
  | [a, b], _, _ =>
    simp [within, okW] at hw
    have := hs' 0 (by simp)
    simp at this
    exact .inr (.inl ⟨a, b, rfl, by omega, by omega, by omega⟩)
  | [a, b, c], _, _ =>
    simp [within, okW] at hw
    have h0 := hs' 0 (by simp)
    have h1 := hs' 1 (by simp)
    simp at h0 h1
    exact .inr (.inr ⟨a, b, c, rfl, by omega, by omega, by omega, by omega⟩)
theorem row1 {a : Int} (h0 : 0 ≤ a) (h1 : a ≤ 99) : rowQ [a] = true := by
  simp [rowQ, servers, within, okW, asc, h0, h1]
theorem row2 {a b : Int} (h0 : 0 ≤ a) (h1 : a ≤ b) (h2 : b ≤ 99) : rowQ [a, b] = true := by
  refine servers_iff.2 ⟨by simp, by simp, ?_, asc_iff.2 ?_⟩
  · simp [within, okW]; omega
  · intro i hi
    simp at hi
    obtain rfl : i = 0 := by omega
    simpa using h1
theorem row3 {a b c : Int} (h0 : 0 ≤ a) (h1 : a ≤ b) (h2 : b ≤ c) (h3 : c ≤ 99) : rowQ [a, b, c] = true := by
  refine servers_iff.2 ⟨by simp, by simp, ?_, asc_iff.2 ?_⟩
  · simp [within, okW]; omega
  · intro i hi
    simp at hi
    rcases (show i = 0 ∨ i = 1 by omega) with rfl | rfl
    · simpa using h1
    · simpa using h2
/-- How many places are less. -/
def lo (l : List Int) (r : Int) : Nat := l.countP (fun x => decide (x < r))
def byQ (x y r : Int) : Int := if r - x ≤ y - r then r - x else y - r
def covX (l : List Int) (r : Int) : List Int × Int :=
  if r ∈ l then (l, 0)
  else if lo l r = 0 then (l.set 0 r, l.getD 0 0 - r)
  else if lo l r = l.length then (l.set (l.length - 1) r, r - l.getD (l.length - 1) 0)
  else ((l.set (lo l r - 1) (l.getD (lo l r - 1) 0 + byQ (l.getD (lo l r - 1) 0) (l.getD (lo l r) 0) r)).set (lo l r) (l.getD (lo l r) 0 - byQ (l.getD (lo l r - 1) 0) (l.getD (lo l r) 0) r), 2 * byQ (l.getD (lo l r - 1) 0) (l.getD (lo l r) 0) r)
theorem covX_in {l : List Int} {r : Int} (h : r ∈ l) : covX l r = (l, 0) := if_pos h
theorem lo1 (a r : Int) : lo [a] r = if a < r then 1 else 0 := by
  simp [lo, List.countP_cons]
theorem lo2 (a b r : Int) : lo [a, b] r = (if b < r then 1 else 0) + if a < r then 1 else 0 := by
  simp [lo, List.countP_cons]
theorem lo3 (a b c r : Int) : lo [a, b, c] r = ((if c < r then 1 else 0) + if b < r then 1 else 0) + if a < r then 1 else 0 := by
  simp [lo, List.countP_cons]
/-- The row behind it is a row, whose distance is what the servers moved. -/
def Fits (l : List Int) (r : Int) : Prop := rowQ (covX l r).1 = true ∧ (covX l r).1.length = l.length ∧ dist l (covX l r).1 l.length = (covX l r).2
theorem cov_pos {l : List Int} {r : Int} (h : rowQ l = true) (h0 : 0 ≤ r) (h1 : r ≤ 99) : Fits l r ∧
    (r ∈ l ∨
    (¬ r ∈ l ∧ lo l r = 0 ∧ ∃ x, l[0]? = some x ∧ r < x ∧ covX l r = (l.set 0 r, x - r)) ∨
    (¬ r ∈ l ∧ ∃ (k : Nat) (x y : Int), l.length = k + 1 ∧ lo l r = k + 1 ∧ l[k]? = some x ∧ x < r ∧ l[0]? = some y ∧ y < r ∧ covX l r = (l.set k r, r - x)) ∨
    (¬ r ∈ l ∧ ∃ (k : Nat) (x y z t : Int), k + 1 < l.length ∧ lo l r = k + 1 ∧ l[k]? = some x ∧ x < r ∧ l[k + 1]? = some y ∧ r < y ∧ l[0]? = some z ∧ z < r ∧ l[l.length - 1]? = some t ∧ r < t ∧ (∀ j, j < k → ∃ u, l[j + 1]? = some u ∧ u < r) ∧ covX l r = ((l.set k (x + byQ x y r)).set (k + 1) (y - byQ x y r), 2 * byQ x y r))) := by
  rcases row_cases h with ⟨a, rfl, ha, hb⟩ | ⟨a, b, rfl, ha, hb, hc⟩ | ⟨a, b, c, rfl, ha, hb, hc, hd⟩
  · rcases Int.lt_trichotomy r a with g | g | g
    · have hk : lo [a] r = 0 := by rw [lo1, if_neg (by omega)]
      have hm : ¬ r ∈ [a] := by simp; omega
      have e : covX [a] r = ([r], a - r) := by simp [covX, hk, show ¬ r = a by omega]
      exact ⟨⟨by rw [e]; exact row1 h0 h1, by rw [e]; rfl, by rw [e]; simp [dist, ap]; omega⟩, .inr (.inl ⟨hm, hk, a, rfl, g, e⟩)⟩
    · subst g
      have e : covX [r] r = ([r], 0) := covX_in (by simp)
      exact ⟨⟨by rw [e]; exact h, by rw [e], by rw [e]; simp [dist, ap]⟩, .inl (by simp)⟩
    · have hk : lo [a] r = 1 := by rw [lo1, if_pos (by omega)]
      have hm : ¬ r ∈ [a] := by simp; omega
      have e : covX [a] r = ([r], r - a) := by simp [covX, hk, show ¬ r = a by omega]
      exact ⟨⟨by rw [e]; exact row1 h0 h1, by rw [e]; rfl, by rw [e]; simp [dist, ap]; omega⟩, .inr (.inr (.inl ⟨hm, 0, a, a, rfl, hk, rfl, g, rfl, g, e⟩))⟩
  · by_cases gm : r ∈ [a, b]
    · have e : covX [a, b] r = ([a, b], 0) := covX_in gm
      exact ⟨⟨by rw [e]; exact h, by rw [e], by rw [e]; simp [dist, ap]⟩, .inl gm⟩
    · have gm' : ¬ r = a ∧ ¬ r = b := by simpa using gm
      by_cases g1 : r < a
      · have hk : lo [a, b] r = 0 := by rw [lo2, if_neg (by omega), if_neg (by omega)]
        have e : covX [a, b] r = ([r, b], a - r) := by simp [covX, hk, gm']
        exact ⟨⟨by rw [e]; exact row2 h0 (by omega) hc, by rw [e]; rfl, by rw [e]; simp [dist, ap]; omega⟩, .inr (.inl ⟨gm, hk, a, rfl, g1, e⟩)⟩
      · by_cases g2 : r < b
        · have hk : lo [a, b] r = 1 := by rw [lo2, if_neg (by omega), if_pos (by omega)]
          have e : covX [a, b] r = ([a + byQ a b r, b - byQ a b r], 2 * byQ a b r) := by simp [covX, hk, gm']
          have hby : 0 ≤ byQ a b r ∧ byQ a b r ≤ r - a ∧ byQ a b r ≤ b - r := by unfold byQ; split <;> omega
          exact ⟨⟨by rw [e]; exact row2 (by omega) (by omega) (by omega), by rw [e]; rfl, by rw [e]; generalize byQ a b r = q at hby; simp only [dist, ap, List.length_cons, List.length_nil, List.getD_cons_zero, List.getD_cons_succ]; (repeat' split) <;> omega⟩,
            .inr (.inr (.inr ⟨gm, 0, a, b, a, b, by simp, hk, rfl, by omega, rfl, g2, rfl, by omega, rfl, g2, fun j hj => by omega, e⟩))⟩
        · have hk : lo [a, b] r = 2 := by rw [lo2, if_pos (by omega), if_pos (by omega)]
          have e : covX [a, b] r = ([a, r], r - b) := by simp [covX, hk, gm']
          exact ⟨⟨by rw [e]; exact row2 ha (by omega) h1, by rw [e]; rfl, by rw [e]; simp [dist, ap]; omega⟩, .inr (.inr (.inl ⟨gm, 1, b, a, rfl, hk, rfl, by omega, rfl, by omega, e⟩))⟩
  · by_cases gm : r ∈ [a, b, c]
    · have e : covX [a, b, c] r = ([a, b, c], 0) := covX_in gm
      exact ⟨⟨by rw [e]; exact h, by rw [e], by rw [e]; simp [dist, ap]⟩, .inl gm⟩
    · have gm' : ¬ r = a ∧ ¬ r = b ∧ ¬ r = c := by simpa using gm
      by_cases g1 : r < a
      · have hk : lo [a, b, c] r = 0 := by rw [lo3, if_neg (by omega), if_neg (by omega), if_neg (by omega)]
        have e : covX [a, b, c] r = ([r, b, c], a - r) := by simp [covX, hk, gm']
        exact ⟨⟨by rw [e]; exact row3 h0 (by omega) hc hd, by rw [e]; rfl, by rw [e]; simp [dist, ap]; omega⟩, .inr (.inl ⟨gm, hk, a, rfl, g1, e⟩)⟩
      · by_cases g2 : r < b
        · have hk : lo [a, b, c] r = 1 := by rw [lo3, if_neg (by omega), if_neg (by omega), if_pos (by omega)]
          have e : covX [a, b, c] r = ([a + byQ a b r, b - byQ a b r, c], 2 * byQ a b r) := by simp [covX, hk, gm']
          have hby : 0 ≤ byQ a b r ∧ byQ a b r ≤ r - a ∧ byQ a b r ≤ b - r := by unfold byQ; split <;> omega
          exact ⟨⟨by rw [e]; exact row3 (by omega) (by omega) (by omega) hd, by rw [e]; rfl, by rw [e]; generalize byQ a b r = q at hby; simp only [dist, ap, List.length_cons, List.length_nil, List.getD_cons_zero, List.getD_cons_succ]; (repeat' split) <;> omega⟩,
            .inr (.inr (.inr ⟨gm, 0, a, b, a, c, by simp, hk, rfl, by omega, rfl, g2, rfl, by omega, rfl, by omega, fun j hj => by omega, e⟩))⟩
        · by_cases g3 : r < c
          · have hk : lo [a, b, c] r = 2 := by rw [lo3, if_neg (by omega), if_pos (by omega), if_pos (by omega)]
            have e : covX [a, b, c] r = ([a, b + byQ b c r, c - byQ b c r], 2 * byQ b c r) := by simp [covX, hk, gm']
            have hby : 0 ≤ byQ b c r ∧ byQ b c r ≤ r - b ∧ byQ b c r ≤ c - r := by unfold byQ; split <;> omega
            exact ⟨⟨by rw [e]; exact row3 ha (by omega) (by omega) (by omega), by rw [e]; rfl, by rw [e]; generalize byQ b c r = q at hby; simp only [dist, ap, List.length_cons, List.length_nil, List.getD_cons_zero, List.getD_cons_succ]; (repeat' split) <;> omega⟩,
              .inr (.inr (.inr ⟨gm, 1, b, c, a, c, by simp, hk, rfl, by omega, rfl, g3, rfl, by omega, rfl, by omega, fun j hj => by
                obtain rfl : j = 0 := by omega
                exact ⟨b, rfl, by omega⟩, e⟩))⟩
          · have hk : lo [a, b, c] r = 3 := by rw [lo3, if_pos (by omega), if_pos (by omega), if_pos (by omega)]
            have e : covX [a, b, c] r = ([a, b, r], r - c) := by simp [covX, hk, gm']
            exact ⟨⟨by rw [e]; exact row3 ha hb (by omega) h1, by rw [e]; rfl, by rw [e]; simp [dist, ap]; omega⟩, .inr (.inr (.inl ⟨gm, 2, c, a, rfl, hk, rfl, by omega, rfl, by omega, e⟩))⟩
end Q
end Go.Proofs.Ytndjpkeenbbgiaa
