/-
  isServers, isRow, l6Row.
-/
import Derived.Test.YtphfjhnmnehfkaaRw2
namespace Go.Proofs.Ytphfjhnmnehfkaa
open Go.RowKit
set_option linter.unusedVariables false
namespace Q
theorem servers_iff {m : Int} {l : List Int} : servers m l = true ↔ 1 ≤ l.length ∧ l.length ≤ 3 ∧ within 0 m l = true ∧ asc l = true := by simp [servers, and_assoc]
theorem within_at {lo hi : Int} {l : List Int} (h : within lo hi l = true) {k : Nat} (hk : k < l.length) : ∃ x, l[k]? = some x ∧ lo ≤ x ∧ x ≤ hi := by
  have h1 := List.all_eq_true.1 h _ (List.getElem_mem hk)
  simp [okW] at h1
  exact ⟨l[k], List.getElem?_eq_getElem hk, h1.1, h1.2⟩
end Q
set_option maxHeartbeats 400000 in
theorem isServers_any (A : Option Addr) (c : Nat) (zs : List Int) (most : Int) (w : World) (hn : zs.length ≤ 1048576) (hr : Law.Row w A (ivs zs)) :
    Calls Try.prog 132 #[.slice A zs.length c, .int .i64 most] w fun e w' => e = .returned (.bool (Q.servers most zs)) ∧ Below w.heap.size w w' := by
  by_cases h1 : 1 ≤ zs.length
  · by_cases h2 : zs.length ≤ 3
    · have h1I : (1 : Int) ≤ (zs.length : Int) := by omega
      have h2I : (zs.length : Int) ≤ 3 := by omega
      have HN : Hid (Q.servers most zs = (Q.within 0 most zs && Q.asc zs)) := by show _ = _; simp [Q.servers, h1, h2]
      have HW := Lib.hid (isWithin_any A c zs 0 most w hn hr)
      have HS := Lib.hid (isSorted_any A c zs w h1 hn hr)
      generalize Q.servers most zs = V at HN ⊢
      generalize Q.asc zs = b at HS HN
      clear hr
      cases hw : Q.within 0 most zs
      · rw [hw] at HW HN
        clear hw HS
        go_enter Try.func132, Try.ntmps132
        go_wp2_with fail
        go_at_call 81
        refine (HW.out).mono ?_
        rintro e w' ⟨rfl, hw'⟩
        obtain rfl := hw'.symm
        clear hw'
        go_wp2
        go_ret
        exact ⟨by rw [HN.out]; rfl, Below.refl _ _⟩
      · rw [hw] at HW HN
        clear hw
        go_enter Try.func132, Try.ntmps132
        go_wp2_with fail
        go_at_call 81
        refine (HW.out).mono ?_
        rintro e w' ⟨rfl, hw'⟩
        obtain rfl := hw'.symm
        clear hw'
        go_wp2_with fail
        go_at_call 149
        refine HS.out.mono ?_
        rintro e w1 ⟨rfl, hb1⟩
        have HB := Lib.hid hb1
        clear hb1
        go_wp2
        go_ret
        exact ⟨by rw [HN.out]; rfl, HB.out⟩
    · have h1I : (1 : Int) ≤ (zs.length : Int) := by omega
      have h2I : ¬ (zs.length : Int) ≤ 3 := by omega
      have HN : Hid (Q.servers most zs = false) := by show _ = _; simp [Q.servers, h2]
      clear hr
      go_enter Try.func132, Try.ntmps132
      go_wp2
      go_ret
      exact ⟨by rw [HN.out]; rfl, Below.refl _ _⟩
  · have h1I : ¬ (1 : Int) ≤ (zs.length : Int) := by omega
    have HN : Hid (Q.servers most zs = false) := by show _ = _; simp [Q.servers, h1]
    clear hr
    go_enter Try.func132, Try.ntmps132
    go_wp2
    go_ret
    exact ⟨by rw [HN.out]; rfl, Below.refl _ _⟩
theorem isConfig_any (M : Option Addr) (m c0 : Nat) (A : Option Addr) (c : Nat) (zs : List Int) (w : World) (h1 : 1 ≤ m) (h6 : m ≤ 6) (hn : zs.length ≤ 1048576) (hr : Law.Row w A (ivs zs)) :
    Calls Try.prog 118 #[.agg #[.slice M m c0], .slice A zs.length c] w fun e w' => e = .returned (.bool (Q.servers ((m : Int) - 1) zs)) ∧ Below w.heap.size w w' := by
  have b0 : Below w.heap.size w (w.alloc (.cells #[.slice M m c0] 29)) := (Below.refl _ _).alloc (Nat.le_refl _) _
  have HS := Lib.hid (isServers_any A c zs ((m : Int) - 1) _ hn (hr.stays b0))
  have hw : IntKind.i64.wrap ((m : Int) - 1) = (m : Int) - 1 := IntWalk.i64_in _ (by omega)
  have HB0 := Lib.hid b0
  generalize Q.servers ((m : Int) - 1) zs = V at HS ⊢
  clear hr b0
  go_enter Try.func118, Try.ntmps118
  go_wp2_with fail
  go_at_call 132
  refine HS.out.mono ?_
  rintro e w1 ⟨rfl, hb1⟩
  have HB := Lib.hid (Law.then_ HB0.out hb1)
  clear hb1
  go_wp2
  go_ret
  exact ⟨rfl, HB.out⟩
set_option maxHeartbeats 400000 in
theorem l6Config_any (m : Nat) (A : Option Addr) (c : Nat) (zs : List Int) (w : World) (h1 : 1 ≤ m) (h6 : m ≤ 6) (hn : zs.length ≤ 1048576) (hr : Law.Row w A (ivs zs)) :
    Calls Try.prog 58 #[.int .i64 m, .slice A zs.length c] w fun e w' => e = .returned (.bool (Q.servers ((m : Int) - 1) zs)) ∧ Below w.heap.size w w' := by
  have HL := Lib.hid (l1In_any zs.length 1 3 w)
  have hdec : (decide ((1 : Int) ≤ (zs.length : Int)) && decide ((zs.length : Int) ≤ 3)) = (decide (1 ≤ zs.length) && decide (zs.length ≤ 3)) := by
    congr 1 <;> (rw [decide_eq_decide]; omega)
  rw [hdec] at HL
  have HW := Lib.hid (l6List_any m A c zs w (by omega) (by omega) hn hr)
  have HS := Lib.hid (l6Asc_any A c zs w hn hr)
  have HN : Hid (Q.servers ((m : Int) - 1) zs = ((decide (1 ≤ zs.length) && decide (zs.length ≤ 3)) && (Q.within 0 ((m : Int) - 1) zs && Q.asc zs))) := rfl
  clear hr hdec
  generalize Q.servers ((m : Int) - 1) zs = V at HN ⊢
  generalize Q.asc zs = b at HS HN
  generalize Q.within 0 ((m : Int) - 1) zs = u at HW HN
  generalize (decide (1 ≤ zs.length) && decide (zs.length ≤ 3)) = t at HL HN
  cases t
  · clear HW HS
    go_enter Try.func58, Try.ntmps58
    go_wp2_with fail
    go_at_call 100
    refine (HL.out).mono ?_
    rintro e w' ⟨rfl, hw'⟩
    obtain rfl := hw'.symm
    clear hw'
    go_wp2
    go_ret
    exact ⟨by rw [HN.out]; rfl, Below.refl _ _⟩
  · cases u
    · clear HS
      go_enter Try.func58, Try.ntmps58
      go_wp2_with fail
      go_at_call 100
      refine (HL.out).mono ?_
      rintro e w' ⟨rfl, hw'⟩
      obtain rfl := hw'.symm
      clear hw'
      go_wp2_with fail
      go_at_call 108
      refine (HW.out).mono ?_
      rintro e w' ⟨rfl, hw'⟩
      obtain rfl := hw'.symm
      clear hw'
      go_wp2
      go_ret
      exact ⟨by rw [HN.out]; rfl, Below.refl _ _⟩
    · go_enter Try.func58, Try.ntmps58
      go_wp2_with fail
      go_at_call 100
      refine (HL.out).mono ?_
      rintro e w' ⟨rfl, hw'⟩
      obtain rfl := hw'.symm
      clear hw'
      go_wp2_with fail
      go_at_call 108
      refine (HW.out).mono ?_
      rintro e w' ⟨rfl, hw'⟩
      obtain rfl := hw'.symm
      clear hw'
      go_wp2_with fail
      go_at_call 109
      refine HS.out.mono ?_
      rintro e w1 ⟨rfl, hb1⟩
      have HB := Lib.hid hb1
      clear hb1
      go_wp2
      go_ret
      exact ⟨by rw [HN.out]; rfl, HB.out⟩
end Go.Proofs.Ytphfjhnmnehfkaa
