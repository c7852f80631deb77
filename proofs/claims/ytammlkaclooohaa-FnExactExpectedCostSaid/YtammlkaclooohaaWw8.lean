/-
  Work functions of sequences: workOf, l8Work; the least of them.
-/
import Derived.Test.YtammlkaclooohaaWn8
import Derived.Test.YtammlkaclooohaaApp
import Derived.Test.YtammlkaclooohaaShelf
namespace Go.Proofs.Ytammlkaclooohaa
open Go.RowKit
set_option linter.unusedVariables false
theorem clone8 {w : World} {A : Option Addr} {c : Nat} {zs : List Int} (hr : Law.Row w A (ivs zs)) (hn : zs.length ≤ 1048576) :
    Calls Try.prog 146 #[.slice A zs.length c] w (rowSays1 zs w) := by
  by_cases h0 : zs = []
  · subst h0
    cases A with
    | none => exact (Try.slices_Clone_int_nil 0 c w).mono fun e w' ⟨he, hw⟩ => ⟨_, he, by rw [hw]; exact World.ownsRow_nil _ _ _ _, by rw [hw]; exact Below.refl _ _⟩
    | some a => exact (Try.slices_Clone_int_zero a c w).mono fun e w' ⟨v', he, ho, _, hb⟩ => ⟨v', he, ho, hb⟩
  · obtain ⟨b, off, rfl, _, hc⟩ := hr (by simpa [ivs] using h0)
    have h := Try.slices_Clone_int b off zs.length c zs w (Nat.le_refl _) (by omega) (fun j hj => hc j _ (by rw [ivs, List.getElem?_map, List.getElem?_eq_getElem hj, List.getD_eq_getElem?_getD, List.getElem?_eq_getElem hj]; rfl))
    rw [List.take_length] at h
    exact h.mono fun e w' ⟨v', he, ho, _, hb⟩ => ⟨v', he, ho, hb⟩
theorem min_row {w : World} {A : Option Addr} {c : Nat} {zs : List Int} (hr : Law.Row w A (ivs zs)) (h1 : 1 ≤ zs.length) (hn : zs.length ≤ 1048576) :
    Calls Try.prog 103 #[.slice A zs.length c] w fun e w' => e = .returned (.int .i64 (Lib.minOf zs)) ∧ w' = w := by
  obtain ⟨b, off, rfl, _, hc⟩ := hr (by intro e; have : zs.length = 0 := by have := congrArg List.length e; simpa [ivs] using this
                                        omega)
  have h := Try.slices_Min_int b off zs.length c zs w (by omega) (Nat.le_refl _) (by omega) (fun j hj => hc j _ (by rw [ivs, List.getElem?_map, List.getElem?_eq_getElem hj, List.getD_eq_getElem?_getD, List.getElem?_eq_getElem hj]; rfl))
  rw [List.take_length] at h
  exact h
namespace Q
/-- The least of the first k numbers. -/
def leastK (l : List Int) : Nat → Int
  | 0 => l.getD 0 0
  | k + 1 => min (leastK l k) (l.getD k 0)
theorem leastK_le {l : List Int} : ∀ k, leastK l k ≤ l.getD 0 0 ∧ ∀ j, j < k → leastK l k ≤ l.getD j 0
  | 0 => ⟨Int.le_refl _, fun j h => by omega⟩
  | k + 1 => by
    obtain ⟨h1, h2⟩ := leastK_le (l := l) k
    refine ⟨by show min _ _ ≤ _; omega, fun j hj => ?_⟩
    show min _ _ ≤ _
    by_cases e : j = k
    · subst e; omega
    · have := h2 j (by omega); omega
theorem leastK_mem {l : List Int} (hl : 1 ≤ l.length) : ∀ k, k ≤ l.length → leastK l k ∈ l
  | 0, _ => by
    show l.getD 0 0 ∈ l
    rw [List.getD_eq_getElem?_getD, List.getElem?_eq_getElem (by omega)]
    exact List.getElem_mem _
  | k + 1, hk => by
    have ih := leastK_mem hl k (by omega)
    show min _ _ ∈ l
    have h2 : l.getD k 0 ∈ l := by
      rw [List.getD_eq_getElem?_getD, List.getElem?_eq_getElem (by omega)]
      exact List.getElem_mem _
    by_cases e : leastK l k ≤ l.getD k 0
    · rw [Int.min_eq_left e]; exact ih
    · rw [Int.min_eq_right (by omega)]; exact h2
theorem minfold_le : ∀ (l : List Int) (a : Int), l.foldl min a ≤ a ∧ ∀ z ∈ l, l.foldl min a ≤ z
  | [], a => ⟨Int.le_refl _, fun z h => by simp at h⟩
  | y :: l, a => by
    obtain ⟨h1, h2⟩ := minfold_le l (min a y)
    refine ⟨?_, fun z hz => ?_⟩
    · show l.foldl min (min a y) ≤ a
      omega
    · show l.foldl min (min a y) ≤ z
      rcases List.mem_cons.1 hz with e | hz
      · omega
      · exact h2 z hz
theorem minfold_mem : ∀ (l : List Int) (a : Int), l.foldl min a = a ∨ l.foldl min a ∈ l
  | [], a => .inl rfl
  | y :: l, a => by
    show l.foldl min (min a y) = a ∨ l.foldl min (min a y) ∈ y :: l
    rcases minfold_mem l (min a y) with h | h
    · rw [h]
      by_cases e : a ≤ y
      · exact .inl (by omega)
      · exact .inr (by rw [show min a y = y by omega]; exact List.mem_cons_self ..)
    · exact .inr (List.mem_cons_of_mem _ h)
theorem min_mem {l : List Int} (h : l ≠ []) : Lib.minOf l ∈ l ∧ ∀ z ∈ l, Lib.minOf l ≤ z := by
  cases l with
  | nil => exact absurd rfl h
  | cons y l =>
    refine ⟨?_, fun z hz => ?_⟩
    · rcases minfold_mem (y :: l) y with e | e
      · show (y :: l).foldl min y ∈ y :: l
        rw [e]
        exact List.mem_cons_self ..
      · exact e
    · exact (minfold_le (y :: l) y).2 z hz
theorem minOf_least {l : List Int} (hl : 1 ≤ l.length) : Lib.minOf l = leastK l l.length := by
  have hne : l ≠ [] := by intro e; rw [e] at hl; simp at hl
  obtain ⟨h1, h2⟩ := min_mem hne
  have h3 := leastK_mem hl l.length (Nat.le_refl _)
  have h4 := h2 _ h3
  obtain ⟨j, hj, e⟩ := List.mem_iff_getElem.1 h1
  have h5 := (leastK_le (l := l) l.length).2 j hj
  rw [List.getD_eq_getElem?_getD, List.getElem?_eq_getElem hj, Option.getD_some, e] at h5
  omega
end Q
section
variable (A : Option Addr) (c : Nat) (xs : List Value) (L : List (List Int)) (B : Option Addr) (d : Nat) (ys : List Value) (S : List (List Int)) (w : World) (s0 : Nat) (reqs : List Int) (R : Option Addr) (e : Nat)
set_option maxRecDepth 100000 in
set_option maxHeartbeats 1600000 in
theorem workOf_any (hpr : Q.Pr L S) (h0 : s0 < L.length) (h60 : reqs.length ≤ 60) (hrq : ∀ k, k < reqs.length → ∃ x : Nat, reqs[k]? = some (x : Int) ∧ x < S.length) (hL : NRow w A xs L) (hS : NRow w B ys S) (hR : Law.Row w R (ivs reqs)) :
    Calls Try.prog 104 #[pv A L.length c B S.length d, .int .i64 (s0 : Int), .slice R reqs.length e] w (rowSays1 (Q.workK L S s0 reqs reqs.length) w) := by
  have HP := Lib.hid (PIn.start (c := c) (d := d) hL hS 35)
  have HR := Lib.hid fun (W : World) (h : Below w.heap.size w W) => hR.stays h
  have HV := Lib.hid fun k (hk : k ≤ reqs.length) => Q.workK_vals hpr h0 hrq k hk
  have HSc := Lib.hid fun k x h => Q.workK_succ (L := L) (S := S) (s0 := s0) (reqs := reqs) (k := k) (x := x) h
  have HN := Lib.hid fun (W : World) (v : List Int) (V : Option Addr) (f : Nat) (M : Int) (r : Nat) (hM : M ≤ 1000000) (hr : r < S.length) (hvl : v.length = L.length) (hv : Q.Vals L.length M v) (h1 : NRow W A xs L) (h2 : NRow W B ys S) (h3 : Law.Row W V (ivs v)) => workAfter_any A c xs L B d ys S W v V f hpr hM r hr hvl hv h1 h2 h3
  have HRq := Lib.hid hrq
  obtain ⟨l0, hl0, hll0⟩ : ∃ l, L[s0]? = some l ∧ l.length = L.length := ⟨_, List.getElem?_eq_getElem h0, hpr.sq _ (List.getElem_mem h0)⟩
  have HZ : Hid (Q.workK L S s0 reqs 0 = l0) := by show L.getD s0 [] = l0; rw [List.getD_eq_getElem?_getD, hl0]; rfl
  obtain ⟨bA, oA, X0, dX0, rfl, hbA, hcA, hrX⟩ := hL.row_at hl0
  have hn4 := hpr.n4
  have hsI : (s0 : Int) < (L.length : Int) := by omega
  have HCl : Hid (∀ (W : World), Below w.heap.size w W → Calls Try.prog 146 #[.slice X0 L.length dX0] W (rowSays1 l0 W)) := fun W h => by
    have q := clone8 (c := dX0) (hrX.stays h) (by omega)
    rw [hll0] at q
    exact q
  have hcA2 : (w.alloc (.cells #[.slice (some ⟨bA, oA, none⟩) L.length c, .slice B S.length d] 35)).cell? ⟨bA, oA + s0, none⟩ = some (.slice X0 L.length dX0) := by rw [World.cell?_alloc_past _ _ _ hbA, ← hll0]; exact hcA
  generalize Q.workK L S s0 reqs = K at HV HSc HZ ⊢
  clear hpr hL hS hR hrq hl0 hrX hcA hll0
  go_enter Try.func104, Try.ntmps104
  go_wp2_with fail
  go_at_call 146
  generalize w.alloc (.cells #[.slice (some ⟨bA, oA, none⟩) L.length c, .slice B S.length d] 35) = wa at HP hcA2 ⊢
  clear hcA2
  refine (HCl.out wa HP.out.bl).mono ?_
  rintro e1 w1 ⟨v1, rfl, ho1, hb1⟩
  have HO1 : Hid (w1.ownsRow wa.heap.size 3 1 v1 (K 0).length (ivs (K 0))) := by show World.ownsRow _ _ _ _ _ _ _; rw [HZ.out]; exact ho1
  have HB1 := Lib.hid hb1
  clear ho1 hb1
  go_wp2_with fail
  go_loopw [7, 18] (fun o i wr => ∃ k : Nat, k ≤ reqs.length ∧ i = .int .i64 (k : Int) ∧ Hid (wr.ownsRow wa.heap.size 3 1 o (K k).length (ivs (K k))) ∧ Hid (Below wa.heap.size wa wr)) (fun _ i _ => reqs.length - (intOf i).toNat)
  case atStart => exact ⟨0, Nat.zero_le _, rfl, HO1.out, HB1.out⟩
  case round =>
    obtain ⟨k, hk, rfl, ho, hb⟩ := hrel
    have HPr := Lib.hid (HP.out.on hb.out)
    obtain ⟨p0, p1, _, _, _⟩ := HPr.out.bk
    by_cases hlt : k < reqs.length
    · have hltI : (k : Int) < (reqs.length : Int) := by omega
      obtain ⟨x, hx, hxm⟩ := HRq.out k hlt
      obtain ⟨bR, oR, eR, hbR, hcR⟩ := (HR.out wr HPr.out.bl).at_ (ivs_some hx)
      subst eR
      obtain ⟨V, f, eV, _, _, _⟩ := Law.own_len ho.out
      subst eV
      obtain ⟨k1, k2⟩ := HV.out k hk
      have HCk := Lib.hid (HN.out wr (K k) V f (119 * (k : Int) + 119) x (by omega) hxm k1 k2 HPr.out.mv HPr.out.sv (Law.Row.own ho.out))
      rw [← HSc.out k x hx] at HCk
      have HB0 := Lib.hid hb.out
      clear hx ho hb k2 k1
      go_wp2_with fail
      go_at_call 161
      refine HCk.out.mono ?_
      rintro e2 w2 ⟨v2, rfl, ho2, hb2⟩
      have HO2 := Lib.hid (own_down ho2 HB0.out.size)
      have HB2 := Lib.hid (Law.then_ HB0.out hb2)
      clear ho2 hb2 p0 p1
      go_wp2
      go_roundw
      case rel => exact ⟨k + 1, by omega, by go_num, HO2.out, HB2.out⟩
      case measure => simp [intOf]; omega
    · have hke : k = reqs.length := by omega
      have hltI : ¬ (k : Int) < (reqs.length : Int) := by omega
      have HB := Lib.hid HPr.out.bl
      have HO := Lib.hid (own_down ho.out HP.out.bl.size)
      subst hke
      go_wp2
      go_ret
      exact ⟨_, rfl, HO.out, HB.out⟩
end
end Go.Proofs.Ytammlkaclooohaa
