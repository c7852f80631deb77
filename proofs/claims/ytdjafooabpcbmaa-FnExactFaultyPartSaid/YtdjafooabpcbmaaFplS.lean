/-
  The model's l4New and FaultPlaces.
-/
import Derived.Test.YtdjafooabpcbmaaMsb
import Derived.Test.YtdjafooabpcbmaaQs
namespace Go.Proofs.Ytdjafooabpcbmaa
open Go.RowKit
set_option linter.unusedVariables false
/-- What a call says that gives an empty cache. -/
def newSays (p s : Int) (W : World) (r : Ending) (W' : World) : Prop := ∃ A d B e, r = .returned (caV (Q.newC p s) A d B e) ∧ CaIn W' A d B e (Q.newC p s) ∧ Below W.heap.size W W'
theorem in_new (W : World) (A : Option Addr) (d : Nat) (B : Option Addr) (e : Nat) (p s : Int) (hd : d ≤ maxLen) (he : e ≤ maxLen) : CaIn W A d B e (Q.newC p s) :=
  ⟨⟨Nat.zero_le _, hd, fun h => absurd rfl h⟩, ⟨Nat.zero_le _, he, fun h => absurd rfl h⟩⟩
theorem l4New_any (p s : Int) (W : World) : Calls Try.prog 74 #[.int .i64 p, .int .i64 s] W (newSays p s W) := by
  go_enter Try.func74, Try.ntmps74
  go_wp2
  have h3 := al3 W (.cells #[.int .i64 p, .int .i64 s, .slice (some ⟨W.heap.size + 1, 0, none⟩) 0 0, .slice (some ⟨W.heap.size + 1 + 1, 0, none⟩) 0 0, .int .i64 0] 26) (.cells #[] 3) (.cells #[] 3)
  exact ret_ca1 rfl rfl rfl (blk5_of h3.1) ⟨some ⟨W.heap.size + 1, 0, none⟩, 0, some ⟨W.heap.size + 1 + 1, 0, none⟩, 0, rfl, in_new _ _ _ _ _ _ _ (Nat.zero_le _) (Nat.zero_le _), h3.2.2.2.2⟩
theorem Q.asked_iff {n p s : Int} {zs : List Int} : ((Q.okP p && Q.okS s) && Q.good n zs) = (Q.good n zs && Q.sizes p s) := by
  rw [show Q.sizes p s = (Q.okP p && Q.okS s) by
    rw [Bool.eq_iff_iff, Bool.and_eq_true, Q.okP_iff, Q.okS_iff]
    simp [Q.sizes]]
  exact Bool.and_comm _ _
theorem specFpl_any (n p s : Int) (zs : List Int) (R : Option Addr) (q : Nat) (hl : zs.length ≤ 1048576) (w : World) (hr : Law.Row w R (ivs zs)) :
    Calls Try.prog 30 #[.int .i64 n, .int .i64 p, .int .i64 s, .slice R zs.length q] w (rowSays (Q.fpl n p s zs) w) := by
  have HQ := Lib.hid (l4Asked_any n p s R q zs w hl hr)
  rw [Q.asked_iff] at HQ
  cases hg : (Q.good n zs && Q.sizes p s)
  · rw [show Q.fpl n p s zs = ([], false) from if_neg (by simp [hg])]
    rw [hg] at HQ
    clear hr hg
    go_enter Try.func30, Try.ntmps30
    go_wp2_with fail
    go_at_call 73
    refine (HQ.out).mono ?_
    rintro e w' ⟨rfl, hw'⟩
    obtain rfl := hw'.symm
    clear hw'
    go_wp2
    go_ret2
    exact ⟨_, rfl, ownsRow_nil _ _, (Below.refl _ _).alloc (Nat.le_refl _) _⟩
  · rw [show Q.fpl n p s zs = (Q.flt (Q.newC p s) zs, true) from if_pos hg]
    rw [hg] at HQ
    have hg2 := (Bool.and_eq_true _ _).mp hg
    have hgi := Q.good_iff.1 hg2.1
    have hsi : (1 ≤ p ∧ p ≤ 7) ∧ 1 ≤ s ∧ s ≤ 6 := by simpa [Q.sizes] using hg2.2
    have HN := Lib.hid (l4New_any p s w)
    have HPl := Lib.hid fun X A d B e (hX : CaIn X A d B e (Q.newC p s)) (hb : Below w.heap.size w X) => l4Places_any (q := q) hX (Q.new_ok hgi.1 hsi.1 hsi.2) zs hgi.2.2 hgi.2.1 (hr.stays hb)
    generalize Q.flt (Q.newC p s) zs = X at HPl ⊢
    clear hr hg hg2 hgi hsi
    go_enter Try.func30, Try.ntmps30
    go_wp2_with fail
    go_at_call 73
    refine (HQ.out).mono ?_
    rintro e w' ⟨rfl, hw'⟩
    obtain rfl := hw'.symm
    clear hw'
    go_wp2_with fail
    go_at_call 74
    refine HN.out.mono ?_
    rintro e w1 ⟨A, d, B, e', rfl, hI, hb⟩
    have HB := Lib.hid hb
    have HP1 := Lib.hid (HPl.out w1 A d B e' hI hb)
    clear hI hb
    unfold caV at HP1 ⊢
    go_wp2_with fail
    go_at_call 65
    refine HP1.out.mono ?_
    rintro e w2 ⟨v, rfl, ho, hb2⟩
    have HO := Lib.hid (own_down ho HB.out.size)
    have HB2 := Lib.hid (Law.then_ HB.out hb2)
    clear ho hb2
    go_wp2
    go_ret2
    exact ⟨_, rfl, HO.out, HB2.out⟩
end Go.Proofs.Ytdjafooabpcbmaa
