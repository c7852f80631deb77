/-
  RowDistance: both.
-/
import Derived.Test.YtndjpkeenbbgiaaRw3
namespace Go.Proofs.Ytndjpkeenbbgiaa
open Go.RowKit
set_option linter.unusedVariables false
namespace Q
theorem servers_iff {m : Int} {l : List Int} : servers m l = true ↔ 1 ≤ l.length ∧ l.length ≤ 3 ∧ within 0 m l = true ∧ asc l = true := by simp [servers, and_assoc]
theorem within_at {lo hi : Int} {l : List Int} (h : within lo hi l = true) {k : Nat} (hk : k < l.length) : ∃ x, l[k]? = some x ∧ lo ≤ x ∧ x ≤ hi := by
  have h1 := List.all_eq_true.1 h _ (List.getElem_mem hk)
  simp [okW] at h1
  exact ⟨l[k], List.getElem?_eq_getElem hk, h1.1, h1.2⟩
theorem ap_bd {a b : Int} (h1 : 0 ≤ a) (h2 : a ≤ 99) (h3 : 0 ≤ b) (h4 : b ≤ 99) : 0 ≤ ap a b ∧ ap a b ≤ 99 := by
  unfold ap; split <;> omega
def dist (a b : List Int) : Nat → Int
  | 0 => 0
  | k + 1 => dist a b k + ap (a.getD k 0) (b.getD k 0)
theorem dist_next {a b : List Int} {k : Nat} {x y : Int} (hx : a[k]? = some x) (hy : b[k]? = some y) : dist a b (k + 1) = dist a b k + ap x y := by
  rw [dist, List.getD_eq_getElem?_getD, List.getD_eq_getElem?_getD, hx, hy]
  rfl
theorem dist_bd {a b : List Int} (ha : within 0 99 a = true) (hb : within 0 99 b = true) (hl : a.length = b.length) : ∀ k, k ≤ a.length → 0 ≤ dist a b k ∧ dist a b k ≤ 99 * (k : Int)
  | 0, _ => by simp [dist]
  | k + 1, h => by
    have ih := dist_bd ha hb hl k (by omega)
    obtain ⟨x, hx, _, _⟩ := within_at ha (k := k) (by omega)
    obtain ⟨y, hy, _, _⟩ := within_at hb (k := k) (by omega)
    rw [dist_next hx hy]
    have := ap_bd (a := x) (b := y) (by omega) (by omega) (by omega) (by omega)
    omega
def rdQ (a b : List Int) : Int × Bool := if (rowQ a && rowQ b) && decide (a.length = b.length) then (dist a b a.length, true) else (0, false)
theorem rdQ_yes {a b : List Int} (h1 : rowQ a = true) (h2 : rowQ b = true) (h : a.length = b.length) : rdQ a b = (dist a b a.length, true) := if_pos (by simp [h1, h2, h])
theorem rdQ_no1 {a b : List Int} (h1 : rowQ a = false) : rdQ a b = (0, false) := if_neg (by simp [h1])
theorem rdQ_no2 {a b : List Int} (h1 : rowQ b = false) : rdQ a b = (0, false) := if_neg (by simp [h1])
theorem rdQ_no3 {a b : List Int} (h : ¬ a.length = b.length) : rdQ a b = (0, false) := if_neg (by simp [h])
end Q
set_option maxHeartbeats 800000 in
theorem l6Apart_any (A B : Option Addr) (c d : Nat) (xs ys : List Int) (w : World) (ha : Q.rowQ xs = true) (hb : Q.rowQ ys = true) (hl : xs.length = ys.length) (hr : Law.Row w A (ivs xs)) (hs : Law.Row w B (ivs ys)) :
    Calls Try.prog 56 #[.slice A xs.length c, .slice B ys.length d] w fun e w' => e = .returned (.int .i64 (Q.dist xs ys xs.length)) ∧ Below w.heap.size w w' := by
  obtain ⟨_, h3, hwa, _⟩ := Q.servers_iff.1 ha
  obtain ⟨_, _, hwb, _⟩ := Q.servers_iff.1 hb
  have HX : Hid (∀ k, k < xs.length → ∃ x, xs[k]? = some x ∧ 0 ≤ x ∧ x ≤ 99) := fun k h => Q.within_at hwa h
  have HY : Hid (∀ k, k < xs.length → ∃ x, ys[k]? = some x ∧ 0 ≤ x ∧ x ≤ 99) := fun k h => Q.within_at hwb (by omega)
  have HBD := Lib.hid (Q.dist_bd hwa hwb hl)
  have HR := Lib.hid hr
  have HS := Lib.hid hs
  rw [← hl]
  clear hr hs ha hb hwa hwb
  have HL := Lib.hid hl
  clear hl
  go_enter Try.func56, Try.ntmps56
  go_wp2
  go_loopw [5, 6] (fun q i wr => ∃ k : Nat, k ≤ xs.length ∧ i = .int .i64 (k : Int) ∧ q = .int .i64 (Q.dist xs ys k) ∧ Hid (Below w.heap.size w wr)) (fun _ i _ => xs.length - (intOf i).toNat)
  case atStart => exact ⟨0, by omega, rfl, rfl, Below.refl _ _⟩
  case round =>
    obtain ⟨k, hk, rfl, rfl, hb⟩ := hrel
    have hbd := HBD.out k hk
    by_cases hlt : k < xs.length
    · have hltI : (k : Int) < (xs.length : Int) := by omega
      obtain ⟨x, hx, hx0, hx1⟩ := HX.out k hlt
      obtain ⟨y, hy, hy0, hy1⟩ := HY.out k hlt
      obtain ⟨b, off, rfl, hbl, hc⟩ := (HR.out.stays hb.out).at_ (ivs_some hx)
      obtain ⟨b', off', rfl, hbl', hc'⟩ := (HS.out.stays hb.out).at_ (ivs_some hy)
      have HT := Lib.hid (Q.dist_next hx hy)
      have HI := Lib.hid fun W => most_ap x y W
      have hap := Q.ap_bd hx0 hx1 hy0 hy1
      generalize Q.ap x y = p at HI HT hap
      generalize Q.dist xs ys k = D at HT hbd ⊢
      clear hx hy
      go_wp2_with fail
      go_quiet ((go_at_call 82; exact Calls.quiet_of_same (HI.out _)))
      go_wp2
      go_roundw
      case rel => exact ⟨k + 1, by omega, by go_num, by rw [HT.out], Law.up hb.out _⟩
      case measure => simp [intOf]; omega
    · have hke : k = xs.length := by omega
      have hltI : ¬ (k : Int) < (xs.length : Int) := by omega
      have HE := Lib.hid hke
      clear hke
      go_wp2
      go_ret
      exact ⟨by rw [← HE.out]; rfl, hb.out⟩
set_option maxHeartbeats 800000 in
theorem specRd_any (xs ys : List Int) (A B : Option Addr) (c d : Nat) (hl : xs.length ≤ 1048576) (hl' : ys.length ≤ 1048576) (w : World) (hr : Law.Row w A (ivs xs)) (hs : Law.Row w B (ivs ys)) :
    Calls Try.prog 21 #[.slice A xs.length c, .slice B ys.length d] w fun e w' => e = .returned (.tuple #[.int .i64 (Q.rdQ xs ys).1, .bool (Q.rdQ xs ys).2]) ∧ Below w.heap.size w w' := by
  have H1 := Lib.hid (l6Row_any A c xs w hl hr)
  cases h1 : Q.rowQ xs
  · rw [Q.rdQ_no1 h1]
    rw [h1] at H1
    clear hr hs h1
    go_enter Try.func21, Try.ntmps21
    go_wp2_with fail
    go_at_call 55
    refine H1.out.mono ?_
    rintro e w1 ⟨rfl, hb1⟩
    have HB := Lib.hid hb1
    clear hb1
    go_wp2
    go_ret2
    exact ⟨rfl, HB.out⟩
  · rw [h1] at H1
    have H2 := Lib.hid fun (W : World) (h : Below w.heap.size w W) => l6Row_any B d ys W hl' (hs.stays h)
    cases h2 : Q.rowQ ys
    · rw [Q.rdQ_no2 h2]
      rw [h2] at H2
      clear hr hs h1 h2
      go_enter Try.func21, Try.ntmps21
      go_wp2_with fail
      go_at_call 55
      refine H1.out.mono ?_
      rintro e w1 ⟨rfl, hb1⟩
      have HB := Lib.hid hb1
      clear hb1
      go_wp2_with fail
      go_at_call 55
      refine (H2.out _ HB.out).mono ?_
      rintro e w2 ⟨rfl, hb2⟩
      have HB2 := Lib.hid (Law.then_ HB.out hb2)
      clear hb2
      go_wp2
      go_ret2
      exact ⟨rfl, HB2.out⟩
    · rw [h2] at H2
      by_cases h : xs.length = ys.length
      · rw [Q.rdQ_yes h1 h2 h]
        have H3 := Lib.hid fun (W : World) (hW : Below w.heap.size w W) => l6Apart_any A B c d xs ys W h1 h2 h (hr.stays hW) (hs.stays hW)
        clear hr hs h1 h2
        generalize Q.dist xs ys xs.length = V at H3 ⊢
        generalize xs.length = n1 at H1 H2 H3 h hl ⊢
        generalize ys.length = n2 at H2 H3 h hl' ⊢
        subst h
        go_enter Try.func21, Try.ntmps21
        go_wp2_with fail
        go_at_call 55
        refine H1.out.mono ?_
        rintro e w1 ⟨rfl, hb1⟩
        have HB := Lib.hid hb1
        clear hb1
        go_wp2_with fail
        go_at_call 55
        refine (H2.out _ HB.out).mono ?_
        rintro e w2 ⟨rfl, hb2⟩
        have HB2 := Lib.hid (Law.then_ HB.out hb2)
        clear hb2
        go_wp2_with fail
        go_at_call 56
        refine (H3.out _ HB2.out).mono ?_
        rintro e w3 ⟨rfl, hb3⟩
        have HB3 := Lib.hid (Law.then_ HB2.out hb3)
        clear hb3
        go_wp2
        go_ret2
        exact ⟨rfl, HB3.out⟩
      · rw [Q.rdQ_no3 h]
        have hI : ¬ (xs.length : Int) = (ys.length : Int) := by omega
        clear hr hs h1 h2
        go_enter Try.func21, Try.ntmps21
        go_wp2_with fail
        go_at_call 55
        refine H1.out.mono ?_
        rintro e w1 ⟨rfl, hb1⟩
        have HB := Lib.hid hb1
        clear hb1
        go_wp2_with fail
        go_at_call 55
        refine (H2.out _ HB.out).mono ?_
        rintro e w2 ⟨rfl, hb2⟩
        have HB2 := Lib.hid (Law.then_ HB.out hb2)
        clear hb2
        go_wp2
        go_ret2
        exact ⟨rfl, HB2.out⟩
end Go.Proofs.Ytndjpkeenbbgiaa
