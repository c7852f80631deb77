/-
  The nearest state in which a request can be served: nearestServe, l8Greedy; the algorithms' function literals. Tables by a function of a state and a request; the function literals of the greedy and of the lazy algorithm.
-/
import Derived.Test.YthpoeeadhjnljaaWb8
import Derived.Deep.RegionHeld3
import Derived.Test.YthpoeeadhjnljaaNil
/- The nearest state in which a request can be served: nearestServe, l8Greedy; the algorithms' function literals. -/
namespace Go.Proofs.Ythpoeeadhjnljaa
open Go.RowKit
set_option linter.unusedVariables false
namespace Q
def noth : List Int := [0, 0, 0, 0]
def grS (L S : List (List Int)) (t r : Nat) : Int := (amK (bstF L S r noth t) (okS S r) L.length).1
def lzS (L S : List (List Int)) (t r : Nat) : Int := if dst S r t = -1 then grS L S t r else (t : Int)
theorem noth_vals {n : Nat} (hn : n ≤ 4) : Vals n 0 noth := fun s hs => by
  match s, (show s < 4 by omega) with
  | 0, _ => exact ⟨0, rfl, by omega, by omega⟩
  | 1, _ => exact ⟨0, rfl, by omega, by omega⟩
  | 2, _ => exact ⟨0, rfl, by omega, by omega⟩
  | 3, _ => exact ⟨0, rfl, by omega, by omega⟩
theorem grS_in {L S : List (List Int)} (h : Pr L S) {t r : Nat} (hr : r < S.length) : 0 ≤ grS L S t r ∧ grS L S t r < L.length := by
  have h1 := amK_some (f := bstF L S r noth t) (ok := okS S r) L.length (okS_some h hr)
  obtain ⟨s, h2, _, h3, _⟩ := amK_at (f := bstF L S r noth t) (ok := okS S r) L.length h1
  unfold grS
  rw [h3]
  omega
end Q
theorem noth_row (W : World) (t : TypeId) : Law.Row (W.alloc (.cells #[.int .i64 0, .int .i64 0, .int .i64 0, .int .i64 0] t)) (some ⟨W.heap.size, 0, none⟩) (ivs Q.noth) := fun _ => by
  refine ⟨W.heap.size, 0, rfl, by simp, fun j u hu => ?_⟩
  have hj : j < 4 := by
    have := (List.getElem?_eq_some_iff.1 hu).1
    simpa [ivs, Q.noth] using this
  match j, hj with
  | 0, _ => simp [ivs, Q.noth] at hu; subst hu; simp
  | 1, _ => simp [ivs, Q.noth] at hu; subst hu; simp
  | 2, _ => simp [ivs, Q.noth] at hu; subst hu; simp
  | 3, _ => simp [ivs, Q.noth] at hu; subst hu; simp
section
variable (A : Option Addr) (c : Nat) (xs : List Value) (L : List (List Int)) (B : Option Addr) (d : Nat) (ys : List Value) (S : List (List Int)) (w : World)
set_option maxRecDepth 100000 in
set_option maxHeartbeats 1600000 in
theorem nearestServe_any (hpr : Q.Pr L S) (t r : Nat) (ht : t < L.length) (hr : r < S.length) (hL : NRow w A xs L) (hS : NRow w B ys S) :
    Calls Try.prog 83 #[pv A L.length c B S.length d, .int .i64 (t : Int), .int .i64 (r : Int)] w fun e w' => e = .returned (.int .i64 (Q.grS L S t r)) ∧ Below w.heap.size w w' := by
  have HP := Lib.hid ((PIn.start (c := c) (d := d) hL hS 29).on ((Below.refl _ _).alloc (Nat.le_refl _) (.cells #[.int .i64 0, .int .i64 0, .int .i64 0, .int .i64 0] 96)))
  have HRz := Lib.hid (noth_row (w.alloc (.cells #[.slice A L.length c, .slice B S.length d] 29)) 96)
  have hsa0 : (w.alloc (.cells #[.slice A L.length c, .slice B S.length d] 29)).heap.size = w.heap.size + 1 := by simp
  rw [hsa0] at HRz
  clear hsa0
  have HB := Lib.hid fun (W : World) (h1 : NRow W A xs L) (h2 : NRow W B ys S) (h3 : Law.Row W (some ⟨w.heap.size + 1, 0, none⟩) (ivs Q.noth)) => bestServe_any A c xs L B d ys S W Q.noth (some ⟨w.heap.size + 1, 0, none⟩) 4 hpr (by decide) t r ht hr (Q.noth_vals hpr.n4) h1 h2 h3
  have HV : Hid (Q.grS L S t r = (Q.amK (Q.bstF L S r Q.noth t) (Q.okS S r) L.length).1) := rfl
  generalize Q.amK (Q.bstF L S r Q.noth t) (Q.okS S r) L.length = P at HB HV
  generalize Q.grS L S t r = V at HV ⊢
  obtain ⟨bb, ll⟩ := P
  obtain ⟨p0, p1, _, _, _⟩ := HP.out.bk
  have hp0 := Law.cell_in p0
  clear hL hS hpr
  have HM : Hid (∀ w' : World, Below ((w.alloc (.cells #[.slice A L.length c, .slice B S.length d] 29)).alloc (.cells #[.int .i64 0, .int .i64 0, .int .i64 0, .int .i64 0] 96)).heap.size ((w.alloc (.cells #[.slice A L.length c, .slice B S.length d] 29)).alloc (.cells #[.int .i64 0, .int .i64 0, .int .i64 0, .int .i64 0] 96)) w' → w'.cell? ⟨w.heap.size, 0, none⟩ = some (.slice A L.length c) ∧ w'.cell? ⟨w.heap.size, 1, none⟩ = some (.slice B S.length d) ∧ Below ((w.alloc (.cells #[.slice A L.length c, .slice B S.length d] 29)).alloc (.cells #[.int .i64 0, .int .i64 0, .int .i64 0, .int .i64 0] 96)).heap.size ((w.alloc (.cells #[.slice A L.length c, .slice B S.length d] 29)).alloc (.cells #[.int .i64 0, .int .i64 0, .int .i64 0, .int .i64 0] 96)) w') := Lib.hid fun w' h => ⟨(h.cell (p := ⟨w.heap.size, 0, none⟩) hp0).trans p0, (h.cell (p := ⟨w.heap.size, 1, none⟩) hp0).trans p1, h⟩
  clear hp0
  go_enter Try.func83, Try.ntmps83
  go_wp2_with fail
  generalize (w.alloc (.cells #[.slice A L.length c, .slice B S.length d] 29)).alloc (.cells #[.int .i64 0, .int .i64 0, .int .i64 0, .int .i64 0] 96) = wb at HP HRz HM p0 p1 ⊢
  have hs0 := HM.out wb.drew (Below.refl _ _).drew
  go_wp2
  first
    | go_region_held3 (fun w' => w'.cell? ⟨w.heap.size, 0, none⟩ = some (.slice A L.length c) ∧ w'.cell? ⟨w.heap.size, 1, none⟩ = some (.slice B S.length d) ∧ Below wb.heap.size wb w') ((first | exact hs0 | assumption | exact HM.out _ (Law.then_ (by assumption : _ ∧ _ ∧ Below wb.heap.size wb _).2.2 (by assumption)))) (first
      | (go_at_call 105; have hS9 := (by assumption : _ ∧ _ ∧ Below wb.heap.size wb _).2.2; refine (HB.out _ (HP.out.mv.stays hS9) (HP.out.sv.stays hS9) (HRz.out.stays hS9)).mono ?_; rintro e w10 ⟨rfl, hb10⟩; clear hS9))
    | fail
  all_goals
    have hbl := (by assumption : _ ∧ _ ∧ Below wb.heap.size wb w10).2.2
    have HBf := Lib.hid (HP.out.on hbl).bl
    clear hbl hs0 HM p0 p1
    go_wp2
    go_ret
    exact ⟨by rw [HV.out]; rfl, HBf.out⟩
end
end Go.Proofs.Ythpoeeadhjnljaa

/- Tables by a function of a state and a request; the function literals of the greedy and of the lazy algorithm. -/
namespace Go.Proofs.Ythpoeeadhjnljaa
open Go.RowKit
set_option linter.unusedVariables false
theorem NOwn.setBlk8 {w : World} {base : Nat} {xs : List Value} {L : List (List Int)} (h : NOwn w base xs L) (p : Addr) (hp : ∀ x ∈ xs, x.ownBlock ≠ some p.block) (u : Value) : NOwn (w.setCell p u) base xs L :=
  ⟨h.len, fun j x l h1 h2 => (h.own j x l h1 h2).kept (setBy w p u) (.inr (hp x (List.mem_of_getElem? h1))), h.apart⟩
theorem NOwn.nothere8 {w : World} {base : Nat} {xs : List Value} {L : List (List Int)} (h : NOwn w base xs L) : ∀ x ∈ xs, x.ownBlock ≠ some w.heap.size := by
  intro x hx e
  obtain ⟨j, hj, rfl⟩ := List.mem_iff_getElem.1 hx
  obtain ⟨l, hl⟩ := h.some_ (List.getElem?_eq_getElem hj)
  have := ((h.own j _ l (List.getElem?_eq_getElem hj) hl).lt _ e).2
  omega
namespace Q
def mdRow (g : Nat → Nat → Int) (m x : Nat) : List Int := (List.range m).map (g x)
def mdK (g : Nat → Nat → Int) (m : Nat) : Nat → List (List Int)
  | 0 => []
  | x + 1 => mdK g m x ++ [mdRow g m x]
theorem mdRow_len (g : Nat → Nat → Int) (m x : Nat) : (mdRow g m x).length = m := by simp [mdRow]
theorem mdK_len (g : Nat → Nat → Int) (m : Nat) : ∀ x, (mdK g m x).length = x
  | 0 => rfl
  | x + 1 => by rw [mdK, List.length_append, mdK_len g m x]; rfl
end Q
section
variable (b0 : Nat) (A : Option Addr) (c : Nat) (xs : List Value) (L : List (List Int)) (B : Option Addr) (d : Nat) (ys : List Value) (S : List (List Int)) (w : World)
set_option maxHeartbeats 400000 in
theorem litG_any (hpr : Q.Pr L S) (t r : Nat) (ht : t < L.length) (hr : r < S.length) (h2 : Bk2 w b0 (.slice A L.length c) (.slice B S.length d)) (hL : NRow w A xs L) (hS : NRow w B ys S) :
    Calls Try.prog 82 #[.int .i64 (t : Int), .int .i64 (r : Int), .pointer (some ⟨b0, 0, none⟩)] w fun e w' => e = .returned (.int .i64 (Q.grS L S t r)) ∧ Below w.heap.size w w' := by
  have HN := Lib.hid (nearestServe_any A c xs L B d ys S w hpr t r ht hr hL hS)
  obtain ⟨p0, p1, _, _, _⟩ := h2
  generalize Q.grS L S t r = V at HN ⊢
  clear hL hS hpr
  go_enter Try.func82, Try.ntmps82
  go_wp2_with fail
  go_at_call 83
  refine HN.out.mono ?_
  rintro e w1 ⟨rfl, hb⟩
  have HB := Lib.hid hb
  clear hb p0 p1
  go_wp2
  go_ret
  exact ⟨rfl, HB.out⟩
set_option maxHeartbeats 800000 in
theorem litL_any (hpr : Q.Pr L S) (t r : Nat) (ht : t < L.length) (hr : r < S.length) (h2 : Bk2 w b0 (.slice A L.length c) (.slice B S.length d)) (hL : NRow w A xs L) (hS : NRow w B ys S) :
    Calls Try.prog 84 #[.int .i64 (t : Int), .int .i64 (r : Int), .pointer (some ⟨b0, 0, none⟩)] w fun e w' => e = .returned (.int .i64 (Q.lzS L S t r)) ∧ Below w.heap.size w w' := by
  obtain ⟨bB, oB, rfl⟩ := hS.some_ hpr.m1
  have HN := Lib.hid (nearestServe_any A c xs L (some ⟨bB, oB, none⟩) d ys S w hpr t r ht hr hL hS)
  obtain ⟨p0, p1, _, _, _⟩ := h2
  obtain ⟨b2, o2, d2, hc2, hv2⟩ := hS.tab hpr.rows hpr.n1 r hr
  have hv3 := hv2 t ht
  clear hv2
  have htI : (t : Int) < (L.length : Int) := by omega
  have hrI : (r : Int) < (S.length : Int) := by omega
  have HV : Hid (Q.lzS L S t r = if Q.dst S r t = -1 then Q.grS L S t r else (t : Int)) := rfl
  generalize Q.lzS L S t r = X at HV ⊢
  generalize Q.dst S r t = E at hv3 HV
  generalize Q.grS L S t r = V at HN HV
  clear hL hS hpr
  by_cases hE : E = -1
  · subst hE
    have HX : Hid (X = V) := by show _ = _; rw [HV.out]; simp
    clear HV
    go_enter Try.func84, Try.ntmps84
    go_wp2_with fail
    go_at_call 83
    refine HN.out.mono ?_
    rintro e w1 ⟨rfl, hb⟩
    have HB := Lib.hid hb
    clear hb p0 p1 hc2 hv3
    go_wp2
    go_ret
    exact ⟨by rw [HX.out]; rfl, HB.out⟩
  · have HX : Hid (X = (t : Int)) := by show _ = _; rw [HV.out, if_neg hE]
    have hEb : (E != -1) = true := by simpa using hE
    clear HV HN
    go_enter Try.func84, Try.ntmps84
    go_wp2
    go_ret
    exact ⟨by rw [HX.out]; rfl, Below.refl _ _⟩
end
end Go.Proofs.Ythpoeeadhjnljaa
