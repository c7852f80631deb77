/-
  isServers, isRow, l6Row.
-/
import Derived.Test.YtndjpkeenbbgiaaRw2
namespace Go.Proofs.Ytndjpkeenbbgiaa
open Go.RowKit
set_option linter.unusedVariables false
set_option maxHeartbeats 400000 in
theorem isServers_any (A : Option Addr) (c : Nat) (zs : List Int) (most : Int) (w : World) (hn : zs.length ≤ 1048576) (hr : Law.Row w A (ivs zs)) :
    Calls Try.prog 92 #[.slice A zs.length c, .int .i64 most] w fun e w' => e = .returned (.bool (Q.servers most zs)) ∧ Below w.heap.size w w' := by
  by_cases h1 : 1 ≤ zs.length
  · by_cases h2 : zs.length ≤ 3
    · have h1I : (1 : Int) ≤ (zs.length : Int) := by omega
      have h2I : (zs.length : Int) ≤ 3 := by omega
      have HN : Hid (Q.servers most zs = (Q.within 0 most zs && Q.asc zs)) := by show _ = _; simp [Q.servers, h1, h2]
      have HW := Lib.hid (isWithin_any A c zs 0 most w hn hr)
      have HS := Lib.hid (isSorted_any A c zs w h1 hn hr)
      generalize Q.servers most zs = V at HN ⊢
      generalize Q.asc zs = b at HS HN
      clear hr
      cases hw : Q.within 0 most zs
      · rw [hw] at HW HN
        clear hw HS
        go_enter Try.func92, Try.ntmps92
        go_wp2_with fail
        go_at_call 70
        refine (HW.out).mono ?_
        rintro e w' ⟨rfl, hw'⟩
        obtain rfl := hw'.symm
        clear hw'
        go_wp2
        go_ret
        exact ⟨by rw [HN.out]; rfl, Below.refl _ _⟩
      · rw [hw] at HW HN
        clear hw
        go_enter Try.func92, Try.ntmps92
        go_wp2_with fail
        go_at_call 70
        refine (HW.out).mono ?_
        rintro e w' ⟨rfl, hw'⟩
        obtain rfl := hw'.symm
        clear hw'
        go_wp2_with fail
        go_at_call 104
        refine HS.out.mono ?_
        rintro e w1 ⟨rfl, hb1⟩
        have HB := Lib.hid hb1
        clear hb1
        go_wp2
        go_ret
        exact ⟨by rw [HN.out]; rfl, HB.out⟩
    · have h1I : (1 : Int) ≤ (zs.length : Int) := by omega
      have h2I : ¬ (zs.length : Int) ≤ 3 := by omega
      have HN : Hid (Q.servers most zs = false) := by show _ = _; simp [Q.servers, h2]
      clear hr
      go_enter Try.func92, Try.ntmps92
      go_wp2
      go_ret
      exact ⟨by rw [HN.out]; rfl, Below.refl _ _⟩
  · have h1I : ¬ (1 : Int) ≤ (zs.length : Int) := by omega
    have HN : Hid (Q.servers most zs = false) := by show _ = _; simp [Q.servers, h1]
    clear hr
    go_enter Try.func92, Try.ntmps92
    go_wp2
    go_ret
    exact ⟨by rw [HN.out]; rfl, Below.refl _ _⟩
theorem isRow_any (A : Option Addr) (c : Nat) (zs : List Int) (w : World) (hn : zs.length ≤ 1048576) (hr : Law.Row w A (ivs zs)) :
    Calls Try.prog 57 #[.slice A zs.length c] w fun e w' => e = .returned (.bool (Q.rowQ zs)) ∧ Below w.heap.size w w' := by
  have HS : Hid (Calls Try.prog 92 #[.slice A zs.length c, .int .i64 99] w fun e w' => e = .returned (.bool (Q.rowQ zs)) ∧ Below w.heap.size w w') := isServers_any A c zs 99 w hn hr
  generalize Q.rowQ zs = V at HS ⊢
  clear hr
  go_enter Try.func57, Try.ntmps57
  go_wp2_with fail
  go_at_call 92
  refine HS.out.mono ?_
  rintro e w1 ⟨rfl, hb1⟩
  have HB := Lib.hid hb1
  clear hb1
  go_wp2
  go_ret
  exact ⟨rfl, HB.out⟩
set_option maxHeartbeats 400000 in
theorem l6Row_any (A : Option Addr) (c : Nat) (zs : List Int) (w : World) (hn : zs.length ≤ 1048576) (hr : Law.Row w A (ivs zs)) :
    Calls Try.prog 55 #[.slice A zs.length c] w fun e w' => e = .returned (.bool (Q.rowQ zs)) ∧ Below w.heap.size w w' := by
  have HL := Lib.hid (l1In_any zs.length 1 3 w)
  have hdec : (decide ((1 : Int) ≤ (zs.length : Int)) && decide ((zs.length : Int) ≤ 3)) = (decide (1 ≤ zs.length) && decide (zs.length ≤ 3)) := by
    congr 1 <;> (rw [decide_eq_decide]; omega)
  rw [hdec] at HL
  have HW := Lib.hid (l6Places_any A c zs w hn hr)
  have HS := Lib.hid (l6Asc_any A c zs w hn hr)
  have HN : Hid (Q.rowQ zs = ((decide (1 ≤ zs.length) && decide (zs.length ≤ 3)) && (Q.within 0 99 zs && Q.asc zs))) := rfl
  clear hr hdec
  generalize Q.rowQ zs = V at HN ⊢
  generalize Q.asc zs = b at HS HN
  generalize Q.within 0 99 zs = u at HW HN
  generalize (decide (1 ≤ zs.length) && decide (zs.length ≤ 3)) = t at HL HN
  cases t
  · clear HW HS
    go_enter Try.func55, Try.ntmps55
    go_wp2_with fail
    go_at_call 59
    refine (HL.out).mono ?_
    rintro e w' ⟨rfl, hw'⟩
    obtain rfl := hw'.symm
    clear hw'
    go_wp2
    go_ret
    exact ⟨by rw [HN.out]; rfl, Below.refl _ _⟩
  · cases u
    · clear HS
      go_enter Try.func55, Try.ntmps55
      go_wp2_with fail
      go_at_call 59
      refine (HL.out).mono ?_
      rintro e w' ⟨rfl, hw'⟩
      obtain rfl := hw'.symm
      clear hw'
      go_wp2_with fail
      go_at_call 63
      refine (HW.out).mono ?_
      rintro e w' ⟨rfl, hw'⟩
      obtain rfl := hw'.symm
      clear hw'
      go_wp2
      go_ret
      exact ⟨by rw [HN.out]; rfl, Below.refl _ _⟩
    · go_enter Try.func55, Try.ntmps55
      go_wp2_with fail
      go_at_call 59
      refine (HL.out).mono ?_
      rintro e w' ⟨rfl, hw'⟩
      obtain rfl := hw'.symm
      clear hw'
      go_wp2_with fail
      go_at_call 63
      refine (HW.out).mono ?_
      rintro e w' ⟨rfl, hw'⟩
      obtain rfl := hw'.symm
      clear hw'
      go_wp2_with fail
      go_at_call 91
      refine HS.out.mono ?_
      rintro e w1 ⟨rfl, hb1⟩
      have HB := Lib.hid hb1
      clear hb1
      go_wp2
      go_ret
      exact ⟨by rw [HN.out]; rfl, HB.out⟩
end Go.Proofs.Ytndjpkeenbbgiaa
