/-
  RowDistance: the code's.
-/
import Derived.Test.YtndjpkeenbbgiaaRd
namespace Go.Proofs.Ytndjpkeenbbgiaa
open Go.RowKit
set_option linter.unusedVariables false
set_option maxHeartbeats 800000 in
theorem impRd_good (A B : Option Addr) (c d : Nat) (xs ys : List Int) (w : World) (ha : Q.rowQ xs = true) (hb : Q.rowQ ys = true) (hl : xs.length = ys.length) (hr : Law.Row w A (ivs xs)) (hs : Law.Row w B (ivs ys)) :
    Calls Try.prog 22 #[.slice A xs.length c, .slice B ys.length d] w fun e w' => e = .returned (.tuple #[.int .i64 (Q.dist xs ys xs.length), .bool true]) ∧ Below w.heap.size w w' := by
  obtain ⟨_, h3, hwa, _⟩ := Q.servers_iff.1 ha
  obtain ⟨_, _, hwb, _⟩ := Q.servers_iff.1 hb
  have HX : Hid (∀ k, k < xs.length → ∃ x, xs[k]? = some x ∧ 0 ≤ x ∧ x ≤ 99) := fun k h => Q.within_at hwa h
  have HY : Hid (∀ k, k < xs.length → ∃ x, ys[k]? = some x ∧ 0 ≤ x ∧ x ≤ 99) := fun k h => Q.within_at hwb (by omega)
  have HBD := Lib.hid (Q.dist_bd hwa hwb hl)
  have H1 := Lib.hid (isRow_any A c xs w (by omega) hr)
  have H2 := Lib.hid fun (W : World) (h : Below w.heap.size w W) => isRow_any B d ys W (by omega) (hs.stays h)
  rw [ha] at H1
  rw [hb] at H2
  have HR := Lib.hid hr
  have HS := Lib.hid hs
  rw [← hl] at H2 ⊢
  clear hr hs ha hb hwa hwb hl
  go_enter Try.func22, Try.ntmps22
  go_wp2_with fail
  go_at_call 57
  refine H1.out.mono ?_
  rintro e w1 ⟨rfl, hb1⟩
  have HB := Lib.hid hb1
  clear hb1
  go_wp2_with fail
  go_at_call 57
  refine (H2.out _ HB.out).mono ?_
  rintro e w2 ⟨rfl, hb2⟩
  have HB2 := Lib.hid (Law.then_ HB.out hb2)
  clear hb2
  go_wp2_with fail
  go_loopw [6, 25] (fun q i wr => ∃ k : Nat, k ≤ xs.length ∧ i = .int .i64 (k : Int) ∧ q = .int .i64 (Q.dist xs ys k) ∧ Hid (Below w.heap.size w wr)) (fun _ i _ => xs.length - (intOf i).toNat)
  case atStart => exact ⟨0, by omega, rfl, rfl, HB2.out⟩
  case round =>
    obtain ⟨k, hk, rfl, rfl, hb⟩ := hrel
    have hbd := HBD.out k hk
    by_cases hlt : k < xs.length
    · have hltI : (k : Int) < (xs.length : Int) := by omega
      obtain ⟨x, hx, hx0, hx1⟩ := HX.out k hlt
      obtain ⟨y, hy, hy0, hy1⟩ := HY.out k hlt
      obtain ⟨b, off, rfl, hbl, hc⟩ := (HR.out.stays hb.out).at_ (ivs_some hx)
      obtain ⟨b', off', rfl, hbl', hc'⟩ := (HS.out.stays hb.out).at_ (ivs_some hy)
      have HT := Lib.hid (Q.dist_next hx hy)
      have HI := Lib.hid fun W => apart_any x y W hx0 hx1 hy0 hy1
      have hap := Q.ap_bd hx0 hx1 hy0 hy1
      generalize Q.ap x y = p at HI HT hap
      generalize Q.dist xs ys k = D at HT hbd ⊢
      clear hx hy
      go_wp2_with fail
      go_quiet ((go_at_call 58; exact Calls.quiet_of_same (HI.out _)))
      go_wp2
      go_roundw
      case rel => exact ⟨k + 1, by omega, by go_num, by rw [HT.out], Law.up hb.out _⟩
      case measure => simp [intOf]; omega
    · have hke : k = xs.length := by omega
      have hltI : ¬ (k : Int) < (xs.length : Int) := by omega
      have HE := Lib.hid hke
      clear hke
      go_wp2
      go_ret2
      exact ⟨by rw [← HE.out]; rfl, hb.out⟩
set_option maxHeartbeats 800000 in
theorem impRd_any (xs ys : List Int) (A B : Option Addr) (c d : Nat) (hl : xs.length ≤ 1048576) (hl' : ys.length ≤ 1048576) (w : World) (hr : Law.Row w A (ivs xs)) (hs : Law.Row w B (ivs ys)) :
    Calls Try.prog 22 #[.slice A xs.length c, .slice B ys.length d] w fun e w' => e = .returned (.tuple #[.int .i64 (Q.rdQ xs ys).1, .bool (Q.rdQ xs ys).2]) ∧ Below w.heap.size w w' := by
  have H1 := Lib.hid (isRow_any A c xs w hl hr)
  cases h1 : Q.rowQ xs
  · rw [Q.rdQ_no1 h1]
    rw [h1] at H1
    clear hr hs h1
    go_enter Try.func22, Try.ntmps22
    go_wp2_with fail
    go_at_call 57
    refine H1.out.mono ?_
    rintro e w1 ⟨rfl, hb1⟩
    have HB := Lib.hid hb1
    clear hb1
    go_wp2
    go_ret2
    exact ⟨rfl, HB.out⟩
  · rw [h1] at H1
    have H2 := Lib.hid fun (W : World) (h : Below w.heap.size w W) => isRow_any B d ys W hl' (hs.stays h)
    cases h2 : Q.rowQ ys
    · rw [Q.rdQ_no2 h2]
      rw [h2] at H2
      clear hr hs h1 h2
      go_enter Try.func22, Try.ntmps22
      go_wp2_with fail
      go_at_call 57
      refine H1.out.mono ?_
      rintro e w1 ⟨rfl, hb1⟩
      have HB := Lib.hid hb1
      clear hb1
      go_wp2_with fail
      go_at_call 57
      refine (H2.out _ HB.out).mono ?_
      rintro e w2 ⟨rfl, hb2⟩
      have HB2 := Lib.hid (Law.then_ HB.out hb2)
      clear hb2
      go_wp2
      go_ret2
      exact ⟨rfl, HB2.out⟩
    · rw [h2] at H2
      by_cases h : xs.length = ys.length
      · rw [Q.rdQ_yes h1 h2 h]
        exact impRd_good A B c d xs ys w h1 h2 h hr hs
      · rw [Q.rdQ_no3 h]
        have hI : ¬ (xs.length : Int) = (ys.length : Int) := by omega
        clear hr hs h1 h2
        go_enter Try.func22, Try.ntmps22
        go_wp2_with fail
        go_at_call 57
        refine H1.out.mono ?_
        rintro e w1 ⟨rfl, hb1⟩
        have HB := Lib.hid hb1
        clear hb1
        go_wp2_with fail
        go_at_call 57
        refine (H2.out _ HB.out).mono ?_
        rintro e w2 ⟨rfl, hb2⟩
        have HB2 := Lib.hid (Law.then_ HB.out hb2)
        clear hb2
        go_wp2
        go_ret2
        exact ⟨rfl, HB2.out⟩
end Go.Proofs.Ytndjpkeenbbgiaa
