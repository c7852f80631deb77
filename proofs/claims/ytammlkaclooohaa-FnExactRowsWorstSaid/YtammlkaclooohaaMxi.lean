/-
  Matrices of the code: isMatrix, isShared, columnSums.
-/
import Derived.Test.YtammlkaclooohaaImx
import Derived.Test.YtammlkaclooohaaScs
namespace Go.Proofs.Ytammlkaclooohaa
open Go.RowKit
set_option linter.unusedVariables false
/-- What the literal of isMatrix captures. -/
structure MxE (W : World) (bm : Nat) (A : Option Addr) (c : Nat) (xs : List Value) (M : List (List Int)) : Prop where
  c0 : W.cell? ⟨bm, 0, none⟩ = some (.slice A M.length c)
  lt : bm < W.heap.size
  mv : NRow W A xs M
theorem MxE.on {W W' : World} {bm : Nat} {A : Option Addr} {c : Nat} {xs : List Value} {M : List (List Int)} (h : MxE W bm A c xs M) (hb : Below W.heap.size W W') : MxE W' bm A c xs M :=
  ⟨(hb.cell (p := ⟨bm, 0, none⟩) h.lt).trans h.c0, Nat.lt_of_lt_of_le h.lt hb.size, h.mv.stays hb⟩
section
variable (A : Option Addr) (c : Nat) (xs : List Value) (M : List (List Int)) (w : World)
set_option maxHeartbeats 800000 in
theorem mlit_any (bm : Nat) (l : List Int) (X : Option Addr) (dX : Nat) (h1 : 1 ≤ M.length) (hl : l.length ≤ 1048576) (h : MxE w bm A c xs M) (hX : Law.Row w X (ivs l)) :
    Calls Try.prog 167 #[.slice X l.length dX, .pointer (some ⟨bm, 0, none⟩)] w fun e w' => e = .returned (.bool (Q.mrQ (M.getD 0 []).length l)) ∧ Below w.heap.size w w' := by
  have HI := Lib.hid (isWithin_any X dX l 0 40 w hl hX)
  obtain ⟨l0, hl0⟩ : ∃ l0, M[0]? = some l0 := ⟨_, List.getElem?_eq_getElem (by omega)⟩
  obtain ⟨b, off, X0, d0, rfl, hbb, hc, _⟩ := h.mv.row_at hl0
  have p0 := h.c0
  have hM : M.getD 0 [] = l0 := by rw [List.getD_eq_getElem?_getD, hl0]; rfl
  rw [hM]
  rw [Nat.add_zero] at hc
  have HV : Hid (Q.mrQ l0.length l = (decide (l.length = l0.length) && decide (1 ≤ l.length) && decide (l.length ≤ 3) && Q.within 0 40 l)) := rfl
  generalize Q.mrQ l0.length l = V at HV ⊢
  generalize Q.within 0 40 l = v at HI HV
  clear h hX hl0 hM hbb
  generalize l.length = n at *
  generalize l0.length = m at *
  have h1I : (0 : Int) < (M.length : Int) := by omega
  by_cases e1 : n = m
  · subst e1
    by_cases e2 : 1 ≤ n
    · have e2I : (1 : Int) ≤ (n : Int) := by omega
      by_cases e3 : n ≤ 3
      · have e3I : (n : Int) ≤ 3 := by omega
        rw [decide_eq_true rfl, decide_eq_true e2, decide_eq_true e3] at HV
        clear e2 e3
        go_enter Try.func167, Try.ntmps167
        go_wp2_with (go_at_call 152; refine (HI.out).mono ?_; rintro e w' ⟨rfl, hw'⟩; subst hw')
        cases v
        all_goals
          go_wp2
          go_ret
          exact ⟨by rw [HV.out]; rfl, Below.refl _ _⟩
      · have e3I : ¬ (n : Int) ≤ 3 := by omega
        rw [decide_eq_false e3] at HV
        clear e3 HI
        go_enter Try.func167, Try.ntmps167
        go_wp2
        go_ret
        exact ⟨by rw [HV.out]; simp, Below.refl _ _⟩
    · have e2I : ¬ (1 : Int) ≤ (n : Int) := by omega
      rw [decide_eq_false e2] at HV
      clear e2 HI
      go_enter Try.func167, Try.ntmps167
      go_wp2
      go_ret
      exact ⟨by rw [HV.out]; simp, Below.refl _ _⟩
  · have e1b : ((n : Int) == (m : Int)) = false := by simp; omega
    have e1I : ¬ (n : Int) = (m : Int) := by omega
    rw [decide_eq_false e1] at HV
    clear e1 HI
    go_enter Try.func167, Try.ntmps167
    go_wp2
    go_ret
    exact ⟨by rw [HV.out]; simp, Below.refl _ _⟩
set_option maxHeartbeats 800000 in
theorem isMatrix_any (hl : ∀ l ∈ M, l.length ≤ 1048576) (hn : M.length ≤ 1048576) (hM : NRow w A xs M) :
    Calls Try.prog 121 #[.slice A M.length c] w fun e w' => e = .returned (.bool (Q.mxQ M)) ∧ Below w.heap.size w w' := by
  have hb0 : Below w.heap.size w (w.alloc (.cells #[.slice A M.length c] 22)) := (Below.refl _ _).alloc (Nat.le_refl _) _
  have HE : Hid (MxE (w.alloc (.cells #[.slice A M.length c] 22)) w.heap.size A c xs M) := ⟨by simp, by simp, hM.stays hb0⟩
  have HC := Lib.hid (IslImx.isList_any (.pointer (some ⟨w.heap.size, 0, none⟩)) (fun W => MxE W w.heap.size A c xs M) (Q.mrQ (M.getD 0 []).length) A c xs M _ (Lib.hid fun W W' h hb => h.on hb) 3 (Lib.hid fun h1 l X dX W hm he hX => mlit_any A c xs M W w.heap.size l X dX h1 (hl l hm) he hX) hn HE.out HE.out.mv)
  have HV : Hid (Q.mxQ M = (decide (1 ≤ M.length) && decide ((M.length : Int) ≤ 3) && M.all (Q.mrQ (M.getD 0 []).length))) := rfl
  rw [← HV.out] at HC
  generalize Q.mxQ M = V at HC ⊢
  have p0 := HE.out.c0
  have HB := Lib.hid hb0
  clear hM hl hb0 HV HE
  go_enter Try.func121, Try.ntmps121
  go_wp2_with fail
  go_at_call 166
  refine HC.out.mono ?_
  rintro e w1 ⟨rfl, hb⟩
  have HB1 := Lib.hid (Law.then_ HB.out hb)
  clear hb p0 HC
  go_wp2
  go_ret
  exact ⟨rfl, HB1.out⟩
end
section
variable (A : Option Addr) (c : Nat) (l : List Int) (w : World)
set_option maxHeartbeats 800000 in
theorem isShared_any (cnt : Nat) (hn : l.length ≤ 1048576) (hr : Law.Row w A (ivs l)) :
    Calls Try.prog 115 #[.slice A l.length c, .int .i64 (cnt : Int)] w fun e w' => e = .returned (.bool (Q.shQ cnt l)) ∧ w' = w := by
  have HI := Lib.hid (isWeights_any A c l w cnt 0 hn hr)
  cases h : Q.wtQ cnt 0 l
  · rw [h] at HI
    have HV := Lib.hid (Q.sh_no h)
    generalize Q.shQ cnt l = V at HV ⊢
    clear h hr
    go_enter Try.func115, Try.ntmps115
    go_wp2_with (go_at_call 143; refine (HI.out).mono ?_; rintro e w' ⟨rfl, hw'⟩; subst hw')
    go_ret
    exact ⟨by rw [HV.out]; rfl, rfl⟩
  · rw [h] at HI
    have HT := Lib.hid (total_any A c l w 0 (Int.le_refl _) (Q.wt_iff.1 h).2 hn hr)
    have HV := Lib.hid (Q.sh_yes h)
    generalize Q.shQ cnt l = V at HV ⊢
    generalize Q.sumK l l.length = s at HT HV
    clear h hr
    go_enter Try.func115, Try.ntmps115
    go_wp2_with (first | (go_at_call 143; refine (HI.out).mono ?_; rintro e w' ⟨rfl, hw'⟩; subst hw') | (go_at_call 81; refine (HT.out).mono ?_; rintro e w' ⟨rfl, hw'⟩; subst hw'))
    go_ret
    exact ⟨by rw [HV.out]; rfl, rfl⟩
end
end Go.Proofs.Ytammlkaclooohaa
