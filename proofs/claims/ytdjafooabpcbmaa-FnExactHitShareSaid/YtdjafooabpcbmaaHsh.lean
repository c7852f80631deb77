/-
  HitShare: the model's and the code's.
-/
import Derived.Test.YtdjafooabpcbmaaHmake
import Derived.Test.YtdjafooabpcbmaaBys
namespace Go.Proofs.Ytdjafooabpcbmaa
open Go.RowKit
set_option linter.unusedVariables false
namespace F
def mkIn (n d : Int) : Int × Int × Bool := if ((-1000000000000000 ≤ n ∧ n ≤ 1000000000000000) ∧ (1 ≤ d ∧ d ≤ 1000000000000000)) then mk n d else (0, 0, false)
end F
theorem implMake_any (n d : Int) (w : World) : Calls Try.prog 83 #[.int .i64 n, .int .i64 d] w fun e w' => e = .returned (res (F.mkIn n d)) ∧ Below w.heap.size w w' := by
  by_cases h : ¬ n < -1000000000000000 ∧ ¬ 1000000000000000 < n ∧ ¬ d < 1 ∧ ¬ 1000000000000000 < d
  · obtain ⟨h1, h2, h3, h4⟩ := h
    rw [show F.mkIn n d = F.mk n d from if_pos ⟨⟨by omega, by omega⟩, by omega, by omega⟩]
    have HC := Lib.hid fun W => reduced_any n d W (by omega) (by omega) (by omega) (by omega)
    generalize F.mk n d = X at HC ⊢
    obtain ⟨N, D, ok⟩ := X
    replace HC : Hid (∀ W, Calls Try.prog 124 #[.int .i64 n, .int .i64 d] W fun e w' => e = .returned (.tuple #[.agg #[.int .i64 N, .int .i64 D], .bool ok]) ∧ Below W.heap.size W w') := HC
    go_enter Try.func83, Try.ntmps83
    go_wp2_with fail
    go_at_call 124
    refine (HC.out _).mono ?_
    rintro e w1 ⟨rfl, hb1⟩
    have B1 : Hid (Below w.heap.size w w1) := Lib.hid (Law.then_ (by (repeat (first | exact Below.refl _ _ | refine Below.setCell ?_ (by first | omega | (simp; omega) | (simp; done)) _ | refine Below.drew ?_ | refine Law.up ?_ _ | refine Below.alloc ?_ (by first | omega | (simp; omega) | (simp; done)) _ | refine Law.then_ ?_ (Hid.out (by assumption))))) hb1)
    have sz1 := hb1.size; (try simp at sz1)
    obtain ⟨c10, c11, f10, f11⟩ := Blk.below (b := w.heap.size) (x := .int .i64 0) (y := .int .i64 0) ⟨by go_simp, by go_simp, by go_simp, by go_simp⟩ hb1 (by first | omega | (simp; omega) | (simp; done))
    clear hb1
    go_wp2
    refine ret_frac rfl rfl rfl (Blk.set2 ⟨c10, c11, f10, f11⟩ _ _) rfl ⟨rfl, ?_⟩
    (repeat (first | exact Below.refl _ _ | refine Below.setCell ?_ (by first | omega | (simp; omega) | (simp; done)) _ | refine Below.drew ?_ | refine Law.up ?_ _ | refine Below.alloc ?_ (by first | omega | (simp; omega) | (simp; done)) _ | refine Law.then_ ?_ (Hid.out (by assumption))))
  · rw [show F.mkIn n d = (0, 0, false) from if_neg fun hc => h ⟨by omega, by omega, by omega, by omega⟩]
    have H := Lib.hid h
    clear h
    by_cases h1 : n < -1000000000000000
    · go_enter Try.func83, Try.ntmps83
      go_wp2
      refine ret_frac rfl rfl rfl (b := w.heap.size) (x := .int .i64 0) (y := .int .i64 0) ⟨by go_simp, by go_simp, by go_simp, by go_simp⟩ rfl ⟨rfl, ?_⟩
      (repeat (first | exact Below.refl _ _ | refine Below.setCell ?_ (by first | omega | (simp; omega) | (simp; done)) _ | refine Below.drew ?_ | refine Law.up ?_ _ | refine Below.alloc ?_ (by first | omega | (simp; omega) | (simp; done)) _ | refine Law.then_ ?_ (Hid.out (by assumption))))
    · by_cases h2 : 1000000000000000 < n
      · go_enter Try.func83, Try.ntmps83
        go_wp2
        refine ret_frac rfl rfl rfl (b := w.heap.size) (x := .int .i64 0) (y := .int .i64 0) ⟨by go_simp, by go_simp, by go_simp, by go_simp⟩ rfl ⟨rfl, ?_⟩
        (repeat (first | exact Below.refl _ _ | refine Below.setCell ?_ (by first | omega | (simp; omega) | (simp; done)) _ | refine Below.drew ?_ | refine Law.up ?_ _ | refine Below.alloc ?_ (by first | omega | (simp; omega) | (simp; done)) _ | refine Law.then_ ?_ (Hid.out (by assumption))))
      · by_cases h3 : d < 1
        · go_enter Try.func83, Try.ntmps83
          go_wp2
          refine ret_frac rfl rfl rfl (b := w.heap.size) (x := .int .i64 0) (y := .int .i64 0) ⟨by go_simp, by go_simp, by go_simp, by go_simp⟩ rfl ⟨rfl, ?_⟩
          (repeat (first | exact Below.refl _ _ | refine Below.setCell ?_ (by first | omega | (simp; omega) | (simp; done)) _ | refine Below.drew ?_ | refine Law.up ?_ _ | refine Below.alloc ?_ (by first | omega | (simp; omega) | (simp; done)) _ | refine Law.then_ ?_ (Hid.out (by assumption))))
        · have h4 : 1000000000000000 < d := by have := H.out; omega
          go_enter Try.func83, Try.ntmps83
          go_wp2
          refine ret_frac rfl rfl rfl (b := w.heap.size) (x := .int .i64 0) (y := .int .i64 0) ⟨by go_simp, by go_simp, by go_simp, by go_simp⟩ rfl ⟨rfl, ?_⟩
          (repeat (first | exact Below.refl _ _ | refine Below.setCell ?_ (by first | omega | (simp; omega) | (simp; done)) _ | refine Below.drew ?_ | refine Law.up ?_ _ | refine Below.alloc ?_ (by first | omega | (simp; omega) | (simp; done)) _ | refine Law.then_ ?_ (Hid.out (by assumption))))
theorem eqFrac_yes (n d : Int) (w : World) : Calls Try.prog 41 #[fr n d, fr n d] w fun e w' => e = .returned (.bool true) ∧ Below w.heap.size w w' := by
  go_enter Try.func41, Try.ntmps41
  go_wp2
  go_ret
  refine ⟨rfl, ?_⟩
  (repeat (first | exact Below.refl _ _ | refine Below.setCell ?_ (by first | omega | (simp; omega) | (simp; done)) _ | refine Below.drew ?_ | refine Law.up ?_ _ | refine Below.alloc ?_ (by first | omega | (simp; omega) | (simp; done)) _ | refine Law.then_ ?_ (Hid.out (by assumption))))
noncomputable def hshQ (n p s : Int) (zs : List Int) : Int × Int × Bool := if (Q.good n zs && Q.sizes p s) = true ∧ zs.length ≠ 0 then F.mk ((zs.length : Int) - ((Q.flt (Q.newC p s) zs).length : Nat)) (zs.length : Int) else (0, 0, false)
theorem flt_le (c : Ca) (zs : List Int) : (Q.flt c zs).length ≤ zs.length := Q.fltK_len c zs _
set_option maxHeartbeats 800000 in
theorem impHsh_any (n p s : Int) (zs : List Int) (R : Option Addr) (q : Nat) (hl : zs.length ≤ 1048576) (w : World) (hr : Law.Row w R (ivs zs)) :
    Calls Try.prog 40 #[.int .i64 n, .int .i64 p, .int .i64 s, .slice R zs.length q] w fun e w' => e = .returned (res (hshQ n p s zs)) ∧ Below w.heap.size w w' := by
  have hF := fun X (hb : Below w.heap.size w X) => impFpl_any n p s zs R q hl X (hr.stays hb)
  cases hg : (Q.good n zs && Q.sizes p s)
  · rw [show hshQ n p s zs = (0, 0, false) from if_neg (by simp [hg])]
    rw [show Q.fpl n p s zs = ([], false) from if_neg (by simp [hg])] at hF
    have HF := Lib.hid hF
    clear hr hF hg
    go_enter Try.func40, Try.ntmps40
    go_wp2_with fail
    go_at_call 31
    refine (HF.out _ ((Below.refl _ _).alloc (Nat.le_refl _) _)).mono ?_
    rintro e w1 ⟨v1, rfl, ho, hb1⟩
    have B1 : Hid (Below w.heap.size w w1) := Lib.hid (((Below.refl w.heap.size w).alloc (Nat.le_refl _) _).trans (hb1.mono (by simp)))
    obtain ⟨c10, c11, f10, f11⟩ := Blk.below (b := w.heap.size) (x := .int .i64 0) (y := .int .i64 0) ⟨by go_simp, by go_simp, by go_simp, by go_simp⟩ hb1 (by first | omega | (simp; omega) | (simp; done))
    have hs1 := hb1.size
    simp at hs1
    clear ho hb1
    go_wp2
    refine ret_frac rfl rfl rfl (Blk.set2 ⟨c10, c11, f10, f11⟩ _ _) rfl ⟨rfl, ?_⟩
    (repeat (first | exact Below.refl _ _ | refine Below.setCell ?_ (by first | omega | (simp; omega) | (simp; done)) _ | refine Below.drew ?_ | refine Law.up ?_ _ | refine Below.alloc ?_ (by first | omega | (simp; omega) | (simp; done)) _ | refine Law.then_ ?_ (Hid.out (by assumption))))
  · have hgi := Q.good_iff.1 ((Bool.and_eq_true _ _).mp hg).1
    rw [show Q.fpl n p s zs = (Q.flt (Q.newC p s) zs, true) from if_pos hg] at hF
    have hfl := flt_le (Q.newC p s) zs
    have HX : Hid (F.mkIn ((zs.length : Int) - ((Q.flt (Q.newC p s) zs).length : Nat)) (zs.length : Int) = hshQ n p s zs) := by
      show _ = _
      unfold hshQ
      by_cases h0 : zs.length = 0
      · rw [if_neg (fun h => h.2 h0)]
        exact if_neg (by omega)
      · rw [if_pos ⟨hg, h0⟩]
        exact if_pos (by omega)
    generalize Q.flt (Q.newC p s) zs = fl at hF hfl HX
    have HF := Lib.hid hF
    have HM := Lib.hid fun X => implMake_any ((zs.length : Int) - (fl.length : Nat)) (zs.length : Int) X
    rw [HX.out] at HM
    have hzI : (zs.length : Int) ≤ 60 := by omega
    have hfI : (fl.length : Int) ≤ (zs.length : Int) := by omega
    have hw1 : IntKind.i64.wrap ((zs.length : Int) - (fl.length : Int)) = (zs.length : Int) - (fl.length : Int) := by rw [IntKind.wrap_i64]; omega
    generalize hshQ n p s zs = Y at HM ⊢
    obtain ⟨N, D, ok⟩ := Y
    replace HM : Hid (∀ X, Calls Try.prog 83 #[.int .i64 ((zs.length : Int) - (fl.length : Int)), .int .i64 (zs.length : Int)] X fun e w' => e = .returned (.tuple #[.agg #[.int .i64 N, .int .i64 D], .bool ok]) ∧ Below X.heap.size X w') := HM
    clear hr hF hg hgi HX
    go_enter Try.func40, Try.ntmps40
    go_wp2_with fail
    go_at_call 31
    refine (HF.out _ ((Below.refl _ _).alloc (Nat.le_refl _) _)).mono ?_
    rintro e w1 ⟨v1, rfl, ho, hb1⟩
    simp only [] at ho
    obtain ⟨A1, n1, rfl, _, _, _⟩ := Law.own_len ho
    have B1 : Hid (Below w.heap.size w w1) := Lib.hid (((Below.refl w.heap.size w).alloc (Nat.le_refl _) _).trans (hb1.mono (by simp)))
    obtain ⟨c10, c11, f10, f11⟩ := Blk.below (b := w.heap.size) (x := .int .i64 0) (y := .int .i64 0) ⟨by go_simp, by go_simp, by go_simp, by go_simp⟩ hb1 (by first | omega | (simp; omega) | (simp; done))
    have hs1 := hb1.size
    simp at hs1
    clear ho hb1
    go_wp2_with fail
    go_at_call 83
    refine (HM.out _).mono ?_
    rintro e w2 ⟨rfl, hb2⟩
    have B2 : Hid (Below w.heap.size w w2) := Lib.hid (Law.then_ (by (repeat (first | exact Below.refl _ _ | refine Below.setCell ?_ (by first | omega | (simp; omega) | (simp; done)) _ | refine Below.drew ?_ | refine Law.up ?_ _ | refine Below.alloc ?_ (by first | omega | (simp; omega) | (simp; done)) _ | refine Law.then_ ?_ (Hid.out (by assumption))))) hb2)
    have sz2 := hb2.size; (try simp at sz2)
    obtain ⟨c20, c21, f20, f21⟩ := Blk.below (b := w.heap.size) (x := .int .i64 0) (y := .int .i64 0) ⟨by go_simp, by go_simp, by go_simp, by go_simp⟩ hb2 (by first | omega | (simp; omega) | (simp; done))
    clear hb2
    go_wp2
    refine ret_frac rfl rfl rfl (Blk.set2 ⟨c20, c21, f20, f21⟩ _ _) rfl ⟨rfl, ?_⟩
    (repeat (first | exact Below.refl _ _ | refine Below.setCell ?_ (by first | omega | (simp; omega) | (simp; done)) _ | refine Below.drew ?_ | refine Law.up ?_ _ | refine Below.alloc ?_ (by first | omega | (simp; omega) | (simp; done)) _ | refine Law.then_ ?_ (Hid.out (by assumption))))
set_option maxHeartbeats 800000 in
theorem specHsh_any (n p s : Int) (zs : List Int) (R : Option Addr) (q : Nat) (hl : zs.length ≤ 1048576) (w : World) (hr : Law.Row w R (ivs zs)) :
    Calls Try.prog 39 #[.int .i64 n, .int .i64 p, .int .i64 s, .slice R zs.length q] w fun e w' => e = .returned (res (hshQ n p s zs)) ∧ Below w.heap.size w w' := by
  have hQ := fun X (hb : Below w.heap.size w X) => l4Asked_any n p s R q zs X hl (hr.stays hb)
  rw [Q.asked_iff] at hQ
  cases hg : (Q.good n zs && Q.sizes p s)
  · rw [show hshQ n p s zs = (0, 0, false) from if_neg (by simp [hg])]
    rw [hg] at hQ
    have HQ := Lib.hid hQ
    clear hr hQ hg
    go_enter Try.func39, Try.ntmps39
    go_wp2_with fail
    go_at_call 73
    refine (HQ.out _ ((Below.refl _ _).alloc (Nat.le_refl _) _)).mono ?_
    rintro e w' ⟨rfl, hw'⟩
    obtain rfl := hw'.symm
    clear hw'
    go_wp2
    refine ret_frac rfl rfl rfl (b := w.heap.size) (x := .int .i64 0) (y := .int .i64 0) ⟨by go_simp, by go_simp, by go_simp, by go_simp⟩ rfl ⟨rfl, ?_⟩
    (repeat (first | exact Below.refl _ _ | refine Below.setCell ?_ (by first | omega | (simp; omega) | (simp; done)) _ | refine Below.drew ?_ | refine Law.up ?_ _ | refine Below.alloc ?_ (by first | omega | (simp; omega) | (simp; done)) _ | refine Law.then_ ?_ (Hid.out (by assumption))))
  · rw [hg] at hQ
    have HQ := Lib.hid hQ
    by_cases h0 : zs.length = 0
    · rw [show hshQ n p s zs = (0, 0, false) from if_neg (fun h => h.2 h0)]
      have h0b : ((zs.length : Int) == 0) = true := by simp [h0]
      clear hr hQ hg h0
      go_enter Try.func39, Try.ntmps39
      go_wp2_with fail
      go_at_call 73
      refine (HQ.out _ ((Below.refl _ _).alloc (Nat.le_refl _) _)).mono ?_
      rintro e w' ⟨rfl, hw'⟩
      obtain rfl := hw'.symm
      clear hw'
      go_wp2
      refine ret_frac rfl rfl rfl (b := w.heap.size) (x := .int .i64 0) (y := .int .i64 0) ⟨by go_simp, by go_simp, by go_simp, by go_simp⟩ rfl ⟨rfl, ?_⟩
      (repeat (first | exact Below.refl _ _ | refine Below.setCell ?_ (by first | omega | (simp; omega) | (simp; done)) _ | refine Below.drew ?_ | refine Law.up ?_ _ | refine Below.alloc ?_ (by first | omega | (simp; omega) | (simp; done)) _ | refine Law.then_ ?_ (Hid.out (by assumption))))
    · have hg2 := (Bool.and_eq_true _ _).mp hg
      have hgi := Q.good_iff.1 hg2.1
      have hfl := flt_le (Q.newC p s) zs
      have HF := Lib.hid fun X (hb : Below w.heap.size w X) => l4Faults_any (q := q) hg2.1 hg2.2 (hr.stays hb)
      have HX : Hid (F.mk ((zs.length : Int) - ((Q.flt (Q.newC p s) zs).length : Nat)) (zs.length : Int) = hshQ n p s zs) := by
        show _ = _
        unfold hshQ
        rw [if_pos ⟨hg, h0⟩]
      generalize Q.flt (Q.newC p s) zs = fl at HF hfl HX
      have HM := Lib.hid fun X => l2Make_any ((zs.length : Int) - (fl.length : Nat)) (zs.length : Int) X (by omega) (by omega) (by omega) (by omega)
      rw [HX.out] at HM
      have hzI : (zs.length : Int) ≤ 60 := by omega
      have hfI : (fl.length : Int) ≤ (zs.length : Int) := by omega
      have hw1 : IntKind.i64.wrap ((zs.length : Int) - (fl.length : Int)) = (zs.length : Int) - (fl.length : Int) := by rw [IntKind.wrap_i64]; omega
      have h0b : ((zs.length : Int) == 0) = false := by
        have : ¬ (zs.length : Int) = 0 := by omega
        simpa using this
      generalize hshQ n p s zs = Y at HM ⊢
      obtain ⟨N, D, ok⟩ := Y
      replace HM : Hid (∀ X, Calls Try.prog 81 #[.int .i64 ((zs.length : Int) - (fl.length : Int)), .int .i64 (zs.length : Int)] X fun e w' => e = .returned (.tuple #[.agg #[.int .i64 N, .int .i64 D], .bool ok]) ∧ Below X.heap.size X w') := HM
      clear hr hQ hg hgi HX h0 hg2
      go_enter Try.func39, Try.ntmps39
      go_wp2_with fail
      go_at_call 73
      refine (HQ.out _ ((Below.refl _ _).alloc (Nat.le_refl _) _)).mono ?_
      rintro e w' ⟨rfl, hw'⟩
      obtain rfl := hw'.symm
      clear hw'
      go_wp2_with fail
      go_at_call 82
      refine (HF.out _ ((Below.refl _ _).alloc (Nat.le_refl _) _)).mono ?_
      rintro e w1 ⟨rfl, hb1⟩
      have B1 : Hid (Below w.heap.size w w1) := Lib.hid (Law.then_ (by (repeat (first | exact Below.refl _ _ | refine Below.setCell ?_ (by first | omega | (simp; omega) | (simp; done)) _ | refine Below.drew ?_ | refine Law.up ?_ _ | refine Below.alloc ?_ (by first | omega | (simp; omega) | (simp; done)) _ | refine Law.then_ ?_ (Hid.out (by assumption))))) hb1)
      have sz1 := hb1.size; (try simp at sz1)
      obtain ⟨c10, c11, f10, f11⟩ := Blk.below (b := w.heap.size) (x := .int .i64 0) (y := .int .i64 0) ⟨by go_simp, by go_simp, by go_simp, by go_simp⟩ hb1 (by first | omega | (simp; omega) | (simp; done))
      clear hb1
      go_wp2_with fail
      go_at_call 81
      refine (HM.out _).mono ?_
      rintro e w2 ⟨rfl, hb2⟩
      have B2 : Hid (Below w.heap.size w w2) := Lib.hid (Law.then_ (by (repeat (first | exact Below.refl _ _ | refine Below.setCell ?_ (by first | omega | (simp; omega) | (simp; done)) _ | refine Below.drew ?_ | refine Law.up ?_ _ | refine Below.alloc ?_ (by first | omega | (simp; omega) | (simp; done)) _ | refine Law.then_ ?_ (Hid.out (by assumption))))) hb2)
      have sz2 := hb2.size; (try simp at sz2)
      obtain ⟨c20, c21, f20, f21⟩ := Blk.below (b := w.heap.size) (x := .int .i64 0) (y := .int .i64 0) ⟨by go_simp, by go_simp, by go_simp, by go_simp⟩ hb2 (by first | omega | (simp; omega) | (simp; done))
      clear hb2
      go_wp2
      refine ret_frac rfl rfl rfl (Blk.set2 ⟨c20, c21, f20, f21⟩ _ _) rfl ⟨rfl, ?_⟩
      (repeat (first | exact Below.refl _ _ | refine Below.setCell ?_ (by first | omega | (simp; omega) | (simp; done)) _ | refine Below.drew ?_ | refine Law.up ?_ _ | refine Below.alloc ?_ (by first | omega | (simp; omega) | (simp; done)) _ | refine Law.then_ ?_ (Hid.out (by assumption))))
end Go.Proofs.Ytdjafooabpcbmaa
