/-
  IsConfig: both sides.
-/
import Derived.Test.YtndjpkeenbbgiabMtS
namespace Go.Proofs.Ytndjpkeenbbgiab
open Go.RowKit
set_option linter.unusedVariables false
namespace Q
theorem met_sqr {L : List (List Int)} (h : metQ L = true) : tabQ false L = true ∧ (1 ≤ L.length ∧ L.length ≤ 6) ∧ (∀ l ∈ L, l.length = L.length) := by
  simp only [metQ, Bool.and_eq_true] at h
  have h2 := sqr_iff.1 (tab_iff.1 h.1).1
  exact ⟨h.1, h2.1, h2.2⟩
noncomputable def icfQ (L : List (List Int)) (a : List Int) : Bool × Bool := if metQ L then (servers ((L.length : Int) - 1) a, true) else (false, false)
theorem icf_yes {L : List (List Int)} {a : List Int} (h : metQ L = true) : icfQ L a = (servers ((L.length : Int) - 1) a, true) := if_pos h
theorem icf_no {L : List (List Int)} {a : List Int} (h : metQ L = false) : icfQ L a = (false, false) := if_neg (by simp [h])
end Q
set_option maxHeartbeats 400000 in
theorem specIcf_any (A : Option Addr) (c : Nat) (xs : List Value) (L : List (List Int)) (a : List Int) (B : Option Addr) (d : Nat) (hl : a.length ≤ 1048576) (w : World) (hr : NRow w A xs L) (hs : Law.Row w B (ivs a)) :
    Calls Try.prog 27 #[mv A L.length c, .slice B a.length d] w fun e w' => e = .returned (.tuple #[.bool (Q.icfQ L a).1, .bool (Q.icfQ L a).2]) ∧ Below w.heap.size w w' := by
  have HM := Lib.hid (MetIn.start (c := c) hr 29)
  have HG := Lib.hid (l6Good_any A c xs L _ HM.out.rows)
  cases hg : Q.metQ L
  · rw [Q.icf_no hg]
    rw [hg] at HG
    clear hr hs hg
    go_enter Try.func27, Try.ntmps27
    go_wp2_with fail
    generalize w.alloc (.cells #[.slice A L.length c] 29) = wa at HM HG ⊢
    go_at_call 53
    refine HG.out.mono ?_
    rintro e w1 ⟨rfl, hb⟩
    have HB := Lib.hid (HM.out.on hb).bl
    clear hb
    go_wp2
    go_ret2
    exact ⟨rfl, HB.out⟩
  · rw [Q.icf_yes hg]
    obtain ⟨_, ⟨h1, h6⟩, _⟩ := Q.met_sqr hg
    have HC := Lib.hid fun (W : World) (h : Below w.heap.size w W) => l6Config_any L.length B d a W h1 h6 hl (hs.stays h)
    rw [hg] at HG
    clear hr hs hg
    generalize Q.servers ((L.length : Int) - 1) a = V at HC ⊢
    go_enter Try.func27, Try.ntmps27
    go_wp2_with fail
    generalize w.alloc (.cells #[.slice A L.length c] 29) = wa at HM HG ⊢
    go_at_call 53
    refine HG.out.mono ?_
    rintro e w1 ⟨rfl, hb⟩
    have HM1 := Lib.hid (HM.out.on hb)
    clear hb
    obtain ⟨hk0, hk1, hk2⟩ := HM1.out.bk
    go_wp2_with fail
    go_at_call 59
    refine (HC.out w1 HM1.out.bl).mono ?_
    rintro e w2 ⟨rfl, hb⟩
    have HB := Lib.hid (Law.then_ HM1.out.bl hb)
    clear hb
    go_wp2
    go_ret2
    exact ⟨rfl, HB.out⟩
set_option maxHeartbeats 400000 in
theorem impIcf_any (A : Option Addr) (c : Nat) (xs : List Value) (L : List (List Int)) (a : List Int) (B : Option Addr) (d : Nat) (hl : a.length ≤ 1048576) (w : World) (hll : ∀ l ∈ L, l.length ≤ 1048576) (hr : NRow w A xs L) (hs : Law.Row w B (ivs a)) :
    Calls Try.prog 28 #[mv A L.length c, .slice B a.length d] w fun e w' => e = .returned (.tuple #[.bool (Q.icfQ L a).1, .bool (Q.icfQ L a).2]) ∧ Below w.heap.size w w' := by
  have HM := Lib.hid (MetIn.start (c := c) hr 29)
  have HG := Lib.hid (impMet_any A c xs L _ hll HM.out.rows)
  cases hg : Q.metQ L
  · rw [Q.icf_no hg]
    rw [hg] at HG
    clear hr hs hg
    go_enter Try.func28, Try.ntmps28
    go_wp2_with fail
    generalize w.alloc (.cells #[.slice A L.length c] 29) = wa at HM HG ⊢
    go_at_call 55
    refine HG.out.mono ?_
    rintro e w1 ⟨rfl, hb⟩
    have HB := Lib.hid (HM.out.on hb).bl
    clear hb
    go_wp2
    go_ret2
    exact ⟨rfl, HB.out⟩
  · rw [Q.icf_yes hg]
    obtain ⟨_, ⟨h1, h6⟩, _⟩ := Q.met_sqr hg
    have HC := Lib.hid fun (W : World) (h : Below w.heap.size w W) => isConfig_any A L.length c B d a W h1 h6 hl (hs.stays h)
    rw [hg] at HG
    clear hr hs hg
    generalize Q.servers ((L.length : Int) - 1) a = V at HC ⊢
    go_enter Try.func28, Try.ntmps28
    go_wp2_with fail
    generalize w.alloc (.cells #[.slice A L.length c] 29) = wa at HM HG ⊢
    go_at_call 55
    refine HG.out.mono ?_
    rintro e w1 ⟨rfl, hb⟩
    have HM1 := Lib.hid (HM.out.on hb)
    clear hb
    obtain ⟨hk0, hk1, hk2⟩ := HM1.out.bk
    go_wp2_with fail
    go_at_call 60
    refine (HC.out w1 HM1.out.bl).mono ?_
    rintro e w2 ⟨rfl, hb⟩
    have HB := Lib.hid (Law.then_ HM1.out.bl hb)
    clear hb
    go_wp2
    go_ret2
    exact ⟨rfl, HB.out⟩
end Go.Proofs.Ytndjpkeenbbgiab
