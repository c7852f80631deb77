/-
  CoverPotential: the model's.
-/
import Derived.Test.YtndjpkeenbbgiaaCp
namespace Go.Proofs.Ytndjpkeenbbgiaa
open Go.RowKit
set_option linter.unusedVariables false
set_option maxHeartbeats 800000 in
theorem specCp_any (xs ys : List Int) (A B : Option Addr) (c d : Nat) (hl : xs.length ≤ 1048576) (hl' : ys.length ≤ 1048576) (w : World) (hn : xs.length ≤ c) (hr : Law.Row w A (ivs xs)) (hs : Law.Row w B (ivs ys)) :
    Calls Try.prog 30 #[.slice A xs.length c, .slice B ys.length d] w fun e w' => e = .returned (.tuple #[.int .i64 (Q.cpQ xs ys).1, .bool (Q.cpQ xs ys).2]) ∧ Below w.heap.size w w' := by
  have H1 := Lib.hid (l6Row_any A c xs w hl hr)
  cases h1 : Q.rowQ xs
  · rw [Q.cpQ_no1 h1]
    rw [h1] at H1
    clear hr hs h1
    go_enter Try.func30, Try.ntmps30
    go_wp2_with fail
    go_at_call 55
    refine H1.out.mono ?_
    rintro e w1 ⟨rfl, hb1⟩
    have HB := Lib.hid hb1
    clear hb1
    go_wp2
    go_ret2
    exact ⟨rfl, HB.out⟩
  · rw [h1] at H1
    have H2 := Lib.hid fun (W : World) (h : Below w.heap.size w W) => l6Row_any B d ys W hl' (hs.stays h)
    cases h2 : Q.rowQ ys
    · rw [Q.cpQ_no2 h2]
      rw [h2] at H2
      clear hr hs h1 h2
      go_enter Try.func30, Try.ntmps30
      go_wp2_with fail
      go_at_call 55
      refine H1.out.mono ?_
      rintro e w1 ⟨rfl, hb1⟩
      have HB := Lib.hid hb1
      clear hb1
      go_wp2_with fail
      go_at_call 55
      refine (H2.out _ HB.out).mono ?_
      rintro e w2 ⟨rfl, hb2⟩
      have HB2 := Lib.hid (Law.then_ HB.out hb2)
      clear hb2
      go_wp2
      go_ret2
      exact ⟨rfl, HB2.out⟩
    · rw [h2] at H2
      by_cases h : xs.length = ys.length
      · rw [Q.cpQ_yes h1 h2 h]
        have H3 := Lib.hid fun (W : World) (hW : Below w.heap.size w W) => l6Apart_any A B c d xs ys W h1 h2 h (hr.stays hW) (hs.stays hW)
        obtain ⟨g1, g3, hwa, _⟩ := Q.servers_iff.1 h1
        have H4 := Lib.hid fun (W : World) (hW : Below w.heap.size w W) => l6Spread_any A c xs W hwa g3 (hr.stays hW)
        have hbs := Q.spr_bd hwa g3 xs.length (Nat.le_refl _)
        obtain ⟨hp1, hp2⟩ := Q.pot_split h1 h2 h
        have HP : Hid (Q.pot xs ys = (xs.length : Int) * Q.dist xs ys xs.length + Q.spr xs xs.length) := rfl
        generalize Q.pot xs ys = V at HP ⊢
        clear hr hs h1 h2 hwa
        generalize Q.dist xs ys xs.length = D at H3 HP hp1 hp2
        generalize Q.spr xs xs.length = S at H4 HP hbs
        generalize xs.length = n1 at *
        generalize ys.length = n2 at *
        subst h
        obtain ⟨P, hP⟩ : ∃ P, (n1 : Int) * D = P := ⟨_, rfl⟩
        rw [hP] at hp1 hp2 HP
        go_enter Try.func30, Try.ntmps30
        go_wp2_with fail
        go_at_call 55
        refine H1.out.mono ?_
        rintro e w1 ⟨rfl, hb1⟩
        have HB := Lib.hid hb1
        clear hb1
        go_wp2_with fail
        go_at_call 55
        refine (H2.out _ HB.out).mono ?_
        rintro e w2 ⟨rfl, hb2⟩
        have HB2 := Lib.hid (Law.then_ HB.out hb2)
        clear hb2
        go_wp2_with fail
        go_at_call 56
        refine (H3.out _ HB2.out).mono ?_
        rintro e w3 ⟨rfl, hb3⟩
        have HB3 := Lib.hid (Law.then_ HB2.out hb3)
        clear hb3
        go_wp2_with fail
        go_at_call 66
        refine (H4.out _ HB3.out).mono ?_
        rintro e w4 ⟨rfl, hb4⟩
        have HB4 := Lib.hid (Law.then_ HB3.out hb4)
        clear hb4
        go_wp2
        go_ret2
        exact ⟨by rw [HP.out]; rfl, HB4.out⟩
      · rw [Q.cpQ_no3 h]
        have hI : ¬ (xs.length : Int) = (ys.length : Int) := by omega
        clear hr hs h1 h2
        go_enter Try.func30, Try.ntmps30
        go_wp2_with fail
        go_at_call 55
        refine H1.out.mono ?_
        rintro e w1 ⟨rfl, hb1⟩
        have HB := Lib.hid hb1
        clear hb1
        go_wp2_with fail
        go_at_call 55
        refine (H2.out _ HB.out).mono ?_
        rintro e w2 ⟨rfl, hb2⟩
        have HB2 := Lib.hid (Law.then_ HB.out hb2)
        clear hb2
        go_wp2
        go_ret2
        exact ⟨rfl, HB2.out⟩
end Go.Proofs.Ytndjpkeenbbgiaa
