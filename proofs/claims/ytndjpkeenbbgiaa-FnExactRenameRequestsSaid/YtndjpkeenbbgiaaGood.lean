/-
  Sequences of requests: the model's l3Good and IsRequests, its test of a length.
-/
import Derived.Test.YtndjpkeenbbgiaaSeq
import Derived.Laws.AppendOwn
namespace Go.Proofs.Ytndjpkeenbbgiaa
open Go.RowKit
set_option linter.unusedVariables false
theorem l3Good_any (n : Int) (A : Option Addr) (c : Nat) (zs : List Int) (w : World) (hn : zs.length ≤ 1048576) (hr : Law.Row w A (ivs zs)) :
    Calls Try.prog 51 #[.int .i64 n, .slice A zs.length c] w fun e w' => e = .returned (.bool (Q.good n zs)) ∧ w' = w := by
  have HI := Lib.hid fun W => l3Items_any n W
  cases h1 : Q.okN n
  · have HN : Hid (Q.good n zs = false) := by show Q.good n zs = false; simp [Q.good, h1]
    rw [h1] at HI
    clear h1 hr
    go_enter Try.func51, Try.ntmps51
    go_wp2_with (go_at_call 85; refine (HI.out _).mono ?_; rintro e w' ⟨rfl, hw'⟩; subst hw')
    go_ret
    exact ⟨by rw [HN.out]; rfl, rfl⟩
  · have hN := Q.okN_iff.1 h1
    by_cases h2 : zs.length ≤ 60
    · have HL := Lib.hid (l3List_any n A c zs w hN.1 hN.2 hn hr)
      have HN : Hid (Q.good n zs = Q.okList n zs) := by show Q.good n zs = Q.okList n zs; simp [Q.good, h1, h2]
      have h2I : (zs.length : Int) ≤ 60 := by omega
      rw [h1] at HI
      clear h1 hr hN
      generalize Q.okList n zs = b at HL HN
      go_enter Try.func51, Try.ntmps51
      go_wp2_with fail
      go_at_call 85
      refine (HI.out _).mono ?_
      rintro e w' ⟨rfl, hw'⟩
      subst hw'
      go_wp2_with fail
      go_at_call 86
      refine HL.out.mono ?_
      rintro e w'' ⟨rfl, hw'⟩
      subst hw'
      go_wp2
      go_ret
      exact ⟨by rw [HN.out]; rfl, rfl⟩
    · have HN : Hid (Q.good n zs = false) := by show Q.good n zs = false; simp [Q.good, h1, h2]
      have h2I : ¬ (zs.length : Int) ≤ 60 := by omega
      rw [h1] at HI
      clear h1 hr hN
      go_enter Try.func51, Try.ntmps51
      go_wp2_with (go_at_call 85; refine (HI.out _).mono ?_; rintro e w' ⟨rfl, hw'⟩; subst hw')
      go_ret
      exact ⟨by rw [HN.out]; rfl, rfl⟩
end Go.Proofs.Ytndjpkeenbbgiaa
