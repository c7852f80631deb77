/-
  Best schedules of a finite problem: the mathematics. What is ahead, from the end on, and the least value of a work function from the start on are one number.
-/
import Derived.Test.YthpoeeadhjnljaaWw8
import Derived.Test.YthpoeeadhjnljaaDet
namespace Go.Proofs.Ythpoeeadhjnljaa
open Go.RowKit
set_option linter.unusedVariables false
namespace Q
theorem amK_le {f : Nat → Int} {ok : Nat → Bool} : ∀ k s, s < k → ok s = true → 0 ≤ (amK f ok k).1 ∧ (amK f ok k).2 ≤ f s
  | 0, s, h, _ => by omega
  | k + 1, s, h, ho => by
    have hp := amK_some (f := f) (ok := ok) (k + 1) ⟨s, h, ho⟩
    refine ⟨hp, ?_⟩
    unfold amK at hp ⊢
    split
    · rename_i hc
      simp only [Bool.and_eq_true, Bool.or_eq_true, decide_eq_true_eq] at hc
      by_cases e : s = k
      · subst e; exact Int.le_refl _
      · obtain ⟨h1, h2⟩ := amK_le (f := f) (ok := ok) k s (by omega) ho
        show f k ≤ f s
        rcases hc.2 with h3 | h3 <;> omega
    · rename_i hc
      by_cases e : s = k
      · subst e
        simp only [Bool.and_eq_true, Bool.or_eq_true, decide_eq_true_eq] at hc
        have h1 : ¬ ((amK f ok s).1 < 0 ∨ f s < (amK f ok s).2) := fun h => hc ⟨ho, h⟩
        omega
      · exact (amK_le (f := f) (ok := ok) k s (by omega) ho).2
theorem tri_of {L : List (List Int)} (h : (det L).length = 0) {x y z : Nat} (hx : x < L.length) (hy : y < L.length) (hz : z < L.length) : dst L x z ≤ dst L x y + dst L y z := by
  have h0 : det L = [] := List.length_eq_zero_iff.1 h
  have hn : ∀ x y z, x < L.length → y < L.length → z < L.length → NoB L x y z → ¬ bad L x y z := fun x y z hx hy hz hb hbad => by
    have := det_of (.inr ⟨x, y, z, hx, hy, hz, rfl, hbad, hb⟩ : IsDet L [(x : Int), (y : Int), (z : Int)])
    rw [h0] at this
    cases this
  have hzl : ∀ x y, x < L.length → y < L.length → NoB L x y 0 → ∀ z, z ≤ L.length → NoB L x y z := fun x y hx hy hb z => by
    induction z with
    | zero => exact fun _ => hb
    | succ z ih => exact fun hz => (ih (by omega)).z (hn x y z hx hy (by omega) (ih (by omega)))
  have hyl : ∀ x, x < L.length → NoB L x 0 0 → ∀ y, y ≤ L.length → NoB L x y 0 := fun x hx hb y => by
    induction y with
    | zero => exact fun _ => hb
    | succ y ih => exact fun hy => (hzl x y hx (by omega) (ih (by omega)) L.length (Nat.le_refl _)).y
  have hxl : ∀ x, x ≤ L.length → NoB L x 0 0 := fun x => by
    induction x with
    | zero => exact fun _ => NoB.zero L
    | succ x ih => exact fun hx => (hyl x (by omega) (ih (by omega)) L.length (Nat.le_refl _)).x
  have := hxl L.length (Nat.le_refl _) x y z hx hy hz (.inl hx)
  unfold bad at this
  omega
theorem Pr.tri {L S : List (List Int)} (h : Pr L S) {x y z : Nat} (hx : x < L.length) (hy : y < L.length) (hz : z < L.length) : Q.dst L x z ≤ Q.dst L x y + Q.dst L y z := by
  have := h.met
  simp only [metQ, Bool.and_eq_true, decide_eq_true_eq] at this
  exact tri_of this.2 hx hy hz
/-- The least costs, from each state on, of the requests of a list. -/
def ahd (L S : List (List Int)) : List Int → List Int
  | [] => List.replicate L.length 0
  | r :: rest => nextQ L S (ahd L S rest) r.toNat
/-- The work function behind the requests of a list. -/
def wkF (L S : List (List Int)) (v : List Int) : List Int → List Int
  | [] => v
  | r :: rest => wkF L S (nextQ L S v r.toNat) rest
theorem wkF_snoc (L S : List (List Int)) (x : Int) : ∀ (l v : List Int), wkF L S v (l ++ [x]) = nextQ L S (wkF L S v l) x.toNat
  | [], v => rfl
  | r :: l, v => wkF_snoc L S x l _
theorem workK_wkF (L S : List (List Int)) (s0 : Nat) (reqs : List Int) : ∀ k, k ≤ reqs.length → workK L S s0 reqs k = wkF L S (L.getD s0 []) (reqs.take k)
  | 0, _ => by rw [List.take_zero]; rfl
  | k + 1, h => by
    have hk : k < reqs.length := h
    rw [workK, workK_wkF L S s0 reqs k (by omega), List.take_succ_eq_append_getElem hk, wkF_snoc, List.getD_eq_getElem?_getD (l := reqs), List.getElem?_eq_getElem hk, Option.getD_some]
theorem ahd_len (L S : List (List Int)) : ∀ l, (ahd L S l).length = L.length
  | [] => by simp [ahd]
  | r :: rest => nextQ_len _ _ _ _
/-- Requests of a problem. -/
def Rqs (m : Nat) (l : List Int) : Prop := ∀ r ∈ l, ∃ x : Nat, r = (x : Int) ∧ x < m
theorem ahd_vals {L S : List (List Int)} (h : Pr L S) : ∀ l, Rqs S.length l → Vals L.length (119 * (l.length : Int)) (ahd L S l)
  | [], _ => fun s hs => ⟨0, by simp [ahd, hs], by omega, by simp⟩
  | r :: rest, hr => by
    obtain ⟨x, rfl, hx⟩ := hr r (List.mem_cons_self ..)
    have ih := ahd_vals h rest fun r' h' => hr r' (List.mem_cons_of_mem _ h')
    have := nextQ_vals (r := x) h hx ih
    show Vals _ _ (nextQ L S (ahd L S rest) x)
    exact this.wide (by simp only [List.length_cons]; omega)
/-- The least of n numbers. -/
def Mn (n : Nat) (f : Nat → Int) (x : Int) : Prop := (∃ t, t < n ∧ f t = x) ∧ ∀ t, t < n → x ≤ f t
def Lip (L : List (List Int)) (v : List Int) : Prop := ∀ s t, s < L.length → t < L.length → v.getD t 0 ≤ v.getD s 0 + dst L s t
theorem next_getD {L S : List (List Int)} {v : List Int} {r t : Nat} (ht : t < L.length) : (nextQ L S v r).getD t 0 = (amK (bstF L S r v t) (okS S r) L.length).2 := by
  rw [List.getD_eq_getElem?_getD, nextQ_at ht]; rfl
theorem next_at {L S : List (List Int)} (h : Pr L S) {v : List Int} {r t : Nat} (hr : r < S.length) (ht : t < L.length) : ∃ s, s < L.length ∧ okS S r s = true ∧ (nextQ L S v r).getD t 0 = dst L t s + dst S r s + v.getD s 0 := by
  obtain ⟨s, h1, h2, _, h4⟩ := amK_at (f := bstF L S r v t) (ok := okS S r) L.length (amK_some _ (okS_some h hr))
  exact ⟨s, h1, h2, by rw [next_getD ht, h4]; rfl⟩
theorem next_le {L S : List (List Int)} {v : List Int} {r t s : Nat} (ht : t < L.length) (hs : s < L.length) (ho : okS S r s = true) : (nextQ L S v r).getD t 0 ≤ dst L t s + dst S r s + v.getD s 0 := by
  rw [next_getD ht]
  exact (amK_le (f := bstF L S r v t) (ok := okS S r) L.length s hs ho).2
theorem next_lip {L S : List (List Int)} (h : Pr L S) {v : List Int} {r : Nat} (hr : r < S.length) : Lip L (nextQ L S v r) := fun s t hs ht => by
  obtain ⟨u, hu, ho, e⟩ := next_at (v := v) h hr hs
  have h1 := next_le (v := v) (r := r) ht hu ho
  have h2 := h.tri ht hs hu
  have h3 := (h.dst ht hs).2.2
  omega
theorem ahd_lip {L S : List (List Int)} (h : Pr L S) : ∀ l, Rqs S.length l → Lip L (ahd L S l)
  | [], _ => fun s t hs ht => by
    have := (h.dst hs ht).1
    simp [ahd, List.getD_eq_getElem?_getD, hs, ht]
    omega
  | r :: rest, hr => by
    obtain ⟨x, rfl, hx⟩ := hr r (List.mem_cons_self ..)
    exact next_lip h hx
theorem mn_main {L S : List (List Int)} (h : Pr L S) : ∀ (l v : List Int), Rqs S.length l → Lip L v → ∀ x, Mn L.length (fun t => v.getD t 0 + (ahd L S l).getD t 0) x → Mn L.length (fun t => (wkF L S v l).getD t 0) x
  | [], v, _, _, x, hm => by
    have e : ∀ t, t < L.length → v.getD t 0 + (ahd L S []).getD t 0 = (wkF L S v []).getD t 0 := fun t ht => by
      simp [ahd, wkF, List.getD_eq_getElem?_getD, ht]
    obtain ⟨⟨t, ht, h1⟩, h2⟩ := hm
    exact ⟨⟨t, ht, (e t ht).symm.trans h1⟩, fun t' ht' => by
      have q : x ≤ v.getD t' 0 + (ahd L S []).getD t' 0 := h2 t' ht'
      rw [e t' ht'] at q
      exact q⟩
  | r :: rest, v, hr, hv, x, hm => by
    obtain ⟨q, rfl, hq⟩ := hr r (List.mem_cons_self ..)
    have hrs : Rqs S.length rest := fun r' h' => hr r' (List.mem_cons_of_mem _ h')
    have hB := ahd_lip h rest hrs
    refine mn_main h rest (nextQ L S v q) hrs (next_lip h hq) x ?_
    obtain ⟨⟨t, ht, h1⟩, h2⟩ := hm
    have h1 : v.getD t 0 + (nextQ L S (ahd L S rest) q).getD t 0 = x := h1
    have h2 : ∀ t, t < L.length → x ≤ v.getD t 0 + (nextQ L S (ahd L S rest) q).getD t 0 := h2
    have low : ∀ t, t < L.length → x ≤ (nextQ L S v q).getD t 0 + (ahd L S rest).getD t 0 := fun t ht => by
      obtain ⟨s, hs, ho, e⟩ := next_at (v := v) h hq ht
      have a1 := h2 s hs
      have a2 := next_le (v := ahd L S rest) (r := q) hs hs ho
      have a3 := h.self hs
      have a4 := hB t s ht hs
      omega
    obtain ⟨u, hu, ho, e⟩ := next_at (v := ahd L S rest) h hq ht
    have b1 := next_le (v := v) (r := q) hu hu ho
    have b2 := h.self hu
    have b3 := hv t u ht hu
    have b4 := low u hu
    exact ⟨⟨u, hu, by show (nextQ L S v q).getD u 0 + (ahd L S rest).getD u 0 = x; omega⟩, low⟩
/-- The least value of the work function from a state on is what is ahead of the state. -/
theorem least_ahd {L S : List (List Int)} (h : Pr L S) {s : Nat} (hs : s < L.length) {reqs : List Int} (hr : Rqs S.length reqs) :
    leastK (workK L S s reqs reqs.length) (workK L S s reqs reqs.length).length = (ahd L S reqs).getD s 0 := by
  have hv : ∀ t, (L.getD s []).getD t 0 = dst L s t := fun t => rfl
  have hlip : Lip L (L.getD s []) := fun a b ha hb => by
    rw [hv, hv]
    exact h.tri hs ha hb
  have hB := ahd_lip h reqs hr
  have hm := mn_main h reqs (L.getD s []) hr hlip ((ahd L S reqs).getD s 0) ⟨⟨s, hs, by
      show (L.getD s []).getD s 0 + (ahd L S reqs).getD s 0 = (ahd L S reqs).getD s 0
      rw [hv, h.self hs]
      omega⟩, fun t ht => by
      show _ ≤ (L.getD s []).getD t 0 + (ahd L S reqs).getD t 0
      rw [hv]
      have a := hB t s ht hs
      have b := (h.dst hs ht).2.2
      omega⟩
  have hrq : ∀ k, k < reqs.length → ∃ x : Nat, reqs[k]? = some (x : Int) ∧ x < S.length := fun k hk => by
    obtain ⟨x, e, hx⟩ := hr reqs[k] (List.getElem_mem hk)
    exact ⟨x, by rw [List.getElem?_eq_getElem hk, e], hx⟩
  have hlen := (workK_vals h hs hrq reqs.length (Nat.le_refl _)).1
  have hw : workK L S s reqs reqs.length = wkF L S (L.getD s []) reqs := by
    rw [workK_wkF L S s reqs reqs.length (Nat.le_refl _), List.take_length]
  rw [← hw] at hm
  generalize workK L S s reqs reqs.length = W at hm hlen
  obtain ⟨⟨t, ht, h1⟩, h2⟩ := hm
  have h1 : W.getD t 0 = (ahd L S reqs).getD s 0 := h1
  have c1 := (leastK_le (l := W) W.length).2 t (by omega)
  obtain ⟨j, hj, e⟩ := List.mem_iff_getElem.1 (leastK_mem (l := W) (by have := h.n1; omega) W.length (Nat.le_refl _))
  have c2 : (ahd L S reqs).getD s 0 ≤ W.getD j 0 := h2 j (by omega)
  rw [List.getD_eq_getElem?_getD (l := W), List.getElem?_eq_getElem hj, Option.getD_some, e] at c2
  omega
/-- The states of the first best schedule. -/
def bsK (L S : List (List Int)) (s0 : Nat) (reqs : List Int) : Nat → Nat
  | 0 => s0
  | k + 1 => (amK (bstF L S (reqs.getD k 0).toNat (ahd L S (reqs.drop (k + 1))) (bsK L S s0 reqs k)) (okS S (reqs.getD k 0).toNat) L.length).1.toNat
theorem bsK_succ {L S : List (List Int)} {s0 k x : Nat} {reqs : List Int} (h : reqs[k]? = some (x : Int)) : bsK L S s0 reqs (k + 1) = (amK (bstF L S x (ahd L S (reqs.drop (k + 1))) (bsK L S s0 reqs k)) (okS S x) L.length).1.toNat := by
  rw [bsK, List.getD_eq_getElem?_getD, h]; rfl
theorem bsK_in {L S : List (List Int)} (h : Pr L S) {s0 : Nat} (h0 : s0 < L.length) {reqs : List Int} (hr : ∀ k, k < reqs.length → ∃ x : Nat, reqs[k]? = some (x : Int) ∧ x < S.length) : ∀ k, k ≤ reqs.length → bsK L S s0 reqs k < L.length
  | 0, _ => h0
  | k + 1, hk => by
    obtain ⟨x, hx, hxm⟩ := hr k (by omega)
    rw [bsK_succ hx]
    obtain ⟨s, h1, _, h3, _⟩ := amK_at (f := bstF L S x (ahd L S (reqs.drop (k + 1))) (bsK L S s0 reqs k)) (ok := okS S x) L.length (amK_some _ (okS_some h hxm))
    rw [h3]
    simpa using h1
theorem Rqs.of {m : Nat} {reqs : List Int} (hr : ∀ k, k < reqs.length → ∃ x : Nat, reqs[k]? = some (x : Int) ∧ x < m) : Rqs m reqs := fun r h => by
  obtain ⟨k, hk, e⟩ := List.mem_iff_getElem.1 h
  obtain ⟨x, h1, h2⟩ := hr k hk
  rw [List.getElem?_eq_getElem hk, e] at h1
  exact ⟨x, by simpa using h1, h2⟩
theorem Rqs.drop {m k : Nat} {reqs : List Int} (h : Rqs m reqs) : Rqs m (reqs.drop k) := fun r hr => h r (List.mem_of_mem_drop hr)
end Q
end Go.Proofs.Ythpoeeadhjnljaa
