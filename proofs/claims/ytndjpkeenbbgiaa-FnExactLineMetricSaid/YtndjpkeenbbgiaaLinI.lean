/-
  LineMetric: the mathematics; the code's.
-/
import Derived.Test.YtndjpkeenbbgiaaFil
import Derived.Test.YtndjpkeenbbgiaaMofL
import Derived.Test.YtndjpkeenbbgiaaRd
namespace Go.Proofs.Ytndjpkeenbbgiaa
open Go.RowKit
set_option linter.unusedVariables false
namespace Q
def linG (l : List Int) (x y : Nat) : Int := ap (l.getD x 0) (l.getD y 0)
/-- No place ahead of the place k is there a second time. -/
def dis (l : List Int) (k : Nat) : Prop := ∀ i, i < k → ∀ j, j < i → l.getD j 0 ≠ l.getD i 0
open Classical in
noncomputable def linQ (l : List Int) : List (List Int) × Bool := if (1 ≤ l.length ∧ l.length ≤ 6) ∧ within 0 99 l = true ∧ dis l l.length then (tabK (linG l) l.length l.length, true) else ([], false)
theorem withinL_of {lo hi : Int} {l : List Int} (h : ∀ k, k < l.length → ∃ x, l[k]? = some x ∧ lo ≤ x ∧ x ≤ hi) : within lo hi l = true := by
  refine List.all_eq_true.2 fun x hx => ?_
  obtain ⟨k, hk, rfl⟩ := List.mem_iff_getElem.1 hx
  obtain ⟨y, hy, h1, h2⟩ := h k hk
  rw [List.getElem?_eq_getElem hk] at hy
  injection hy with hy
  subst hy
  simp [okW, h1, h2]
theorem getD_of {l : List Int} {k : Nat} {x : Int} (h : l[k]? = some x) : l.getD k 0 = x := by rw [List.getD_eq_getElem?_getD, h]; rfl
theorem linQ_mof {l : List Int} (h : within 0 99 l = true) : linQ l = mofQ (linG l) l.length := by
  have hbd : ∀ x, x < l.length → 0 ≤ l.getD x 0 ∧ l.getD x 0 ≤ 99 := fun x hx => by
    obtain ⟨a, ha, h0, h1⟩ := within_at h hx
    rw [getD_of ha]
    exact ⟨h0, h1⟩
  unfold linQ mofQ
  by_cases hn : 1 ≤ l.length ∧ l.length ≤ 6
  · have hc : (1 : Int) ≤ (l.length : Int) ∧ (l.length : Int) ≤ 6 := by omega
    by_cases hd : dis l l.length
    · have hm : metQ (tabK (linG l) l.length l.length) = true := by
        refine tab_met hn.1 hn.2 (fun x y hx hy hxy => ?_) (fun x y z hx hy hz _ _ _ => ?_)
        · have hne : l.getD x 0 ≠ l.getD y 0 := by
            rcases Nat.lt_or_gt_of_ne hxy with e | e
            · exact hd y hy x e
            · exact (hd x hx y e).symm
          have := hbd x hx
          have := hbd y hy
          unfold linG ap
          split <;> split <;> omega
        · unfold linG ap
          split <;> split <;> split <;> omega
      exact (if_pos ⟨hn, h, hd⟩).trans (if_pos ⟨hc, hm⟩).symm
    · have hm : ¬ metQ (tabK (linG l) l.length l.length) = true := fun hm => hd fun i hi j hj he => by
        have ht : tabQ false (tabK (linG l) l.length l.length) = true := by
          unfold metQ at hm
          exact (Bool.and_eq_true _ _ ▸ hm).1
        have hk := tabK_len (linG l) l.length l.length
        have ho := (tab_iff.1 ht).2 j (by omega) i (by omega)
        have hji : ¬ j = i := by omega
        unfold okD at ho
        rw [tab_dst (by omega) hi, if_neg hji] at ho
        rw [if_neg hji] at ho
        have hz : linG l j i = 0 := by
          unfold linG ap
          rw [he]
          split <;> omega
        rw [hz] at ho
        simp at ho
      exact (if_neg (fun e => hd e.2.2)).trans (if_neg (fun e => hm e.2)).symm
  · exact (if_neg (fun e => hn e.1)).trans (if_neg (fun e => hn (by have := e.1; omega))).symm
end Q
set_option maxHeartbeats 800000 in
theorem linLit_any (bx : Nat) (A : Option Addr) (n c : Nat) (l : List Int) (x y : Nat) (a b : Int) (W : World) (hln : l.length = n) (hx : x < n) (hy : y < n) (ha : l[x]? = some a) (hb : l[y]? = some b) (a1 : 0 ≤ a) (a2 : a ≤ 99) (b1 : 0 ≤ b) (b2 : b ≤ 99) (h : W.cell? ⟨bx, 0, none⟩ = some (.slice A n c)) (hr : Law.Row W A (ivs l)) :
    Calls Try.prog 72 #[.int .i64 x, .int .i64 y, .pointer (some ⟨bx, 0, none⟩)] W fun e w' => e = .returned (.int .i64 (Q.ap a b)) ∧ ∃ m, w' = W.drewN m := by
  obtain ⟨k, off, e1, hk, hcx⟩ := hr.at_ (ivs_some ha)
  obtain ⟨k', off', e2, hk', hcy⟩ := hr.at_ (ivs_some hb)
  subst e1
  injection e2 with e2
  injection e2 with e3 e4
  subst e3 e4
  have hxI : (x : Int) < (n : Int) := by omega
  have hyI : (y : Int) < (n : Int) := by omega
  have HI := Lib.hid fun W => apart_any a b W a1 a2 b1 b2
  generalize Q.ap a b = p at HI ⊢
  clear hr ha hb
  go_enter Try.func72, Try.ntmps72
  go_wp2_with fail
  go_quiet ((go_at_call 58; exact Calls.quiet_of_same (HI.out _)))
  go_wp2
  go_ret
  exact ⟨rfl, _, rfl⟩
set_option maxHeartbeats 800000 in
theorem impLin_any (l : List Int) (A : Option Addr) (c : Nat) (w : World) (hl : l.length ≤ 1048576) (hr : Law.Row w A (ivs l)) :
    Calls Try.prog 35 #[.slice A l.length c] w (mrSays (Q.linQ l) w) := by
  have hc : ((w.alloc (.cells #[.slice A l.length c] 22)).alloc (.cells #[.slice none 0 0] 43)).cell? ⟨w.heap.size, 0, none⟩ = some (.slice A l.length c) := by
    have h0 : (w.alloc (.cells #[.slice A l.length c] 22)).cell? ⟨w.heap.size, 0, none⟩ = some (.slice A l.length c) := new_cell _ _ _
    exact (((Below.refl (w.alloc (.cells #[.slice A l.length c] 22)).heap.size _).alloc (Nat.le_refl _) _).cell (p := ⟨w.heap.size, 0, none⟩) (by show w.heap.size < _; simp)).trans h0
  have HM0 : Hid (MBox ((w.alloc (.cells #[.slice A l.length c] 22)).alloc (.cells #[.slice none 0 0] 43)) (w.heap.size + 1) (.slice none 0 0)) := by
    have h := MBox.new (w.alloc (.cells #[.slice A l.length c] 22)) (.slice none 0 0)
    rwa [show (w.alloc (.cells #[.slice A l.length c] 22)).heap.size = w.heap.size + 1 by simp] at h
  have HB0 : Hid (Below w.heap.size w ((w.alloc (.cells #[.slice A l.length c] 22)).alloc (.cells #[.slice none 0 0] 43))) := ((Below.refl _ _).alloc (Nat.le_refl _) _).alloc (by simp) _
  have HS0 : Hid (w.heap.size + 2 ≤ ((w.alloc (.cells #[.slice A l.length c] 22)).alloc (.cells #[.slice none 0 0] 43)).heap.size) := by show _ ≤ _; simp
  have HR0 := Lib.hid (hr.stays HB0.out)
  have HI := Lib.hid fun (W : World) (h : Law.Row W A (ivs l)) => isWithin_any A c l 0 99 W hl h
  cases hwi : Q.within 0 99 l
  · rw [show Q.linQ l = ([], false) from if_neg (fun e => by rw [hwi] at e; exact absurd e.2.1 (by decide))]
    rw [hwi] at HI
    have HI0 := Lib.hid (HI.out _ HR0.out)
    clear hr hwi HR0 HS0
    go_enter Try.func35, Try.ntmps35
    go_wp2_with fail
    go_at_call 70
    refine (HI0.out).mono ?_
    rintro e w' ⟨rfl, hw'⟩
    obtain rfl := hw'.symm
    clear hw'
    go_wp2
    refine ret_met (b := w.heap.size + 1) (x := .slice none 0 0) (f := .bool false) rfl rfl rfl HM0.out.cell rfl ⟨_, [], rfl, own_none _ _ _, NOwn.nil _ _, HB0.out⟩
  · rw [Q.linQ_mof hwi]
    rw [hwi] at HI
    have HI0 := Lib.hid (HI.out _ HR0.out)
    have HT := Lib.hid (metricL_any w.heap.size (Q.linG l) l.length ((w.alloc (.cells #[.slice A l.length c] 22)).alloc (.cells #[.slice none 0 0] 43)) (fun x y W hx hy _ hW => by
      obtain ⟨a, ha, a1, a2⟩ := Q.within_at hwi (k := x) (by omega)
      obtain ⟨b, hb, b1, b2⟩ := Q.within_at hwi (k := y) (by omega)
      rw [show Q.linG l x y = Q.ap a b by unfold Q.linG; rw [Q.getD_of ha, Q.getD_of hb]]
      exact linLit_any w.heap.size A l.length c l x y a b W rfl (by omega) (by omega) ha hb a1 a2 b1 b2 ((hW.cell (p := ⟨w.heap.size, 0, none⟩) (by show w.heap.size < _; simp; omega)).trans hc) (HR0.out.stays hW)))
    clear hr hwi HR0
    go_enter Try.func35, Try.ntmps35
    generalize Q.mofQ (Q.linG l) l.length = X at HT ⊢
    go_wp2_with fail
    go_at_call 70
    refine (HI0.out).mono ?_
    rintro e w' ⟨rfl, hw'⟩
    obtain rfl := hw'.symm
    clear hw'
    go_wp2_with fail
    generalize (w.alloc (.cells #[.slice A l.length c] 22)).alloc (.cells #[.slice none 0 0] 43) = wa at HM0 HB0 HS0 HT hc HI0 ⊢
    go_wp2_with fail
    go_at_call 71
    refine HT.out.mono ?_
    rintro e w1 ⟨v, ys, rfl, ho, hno, hb⟩
    obtain ⟨A1, c1, rfl, _, _, _⟩ := Law.own_len ho
    have HM1 := Lib.hid (HM0.out.on hb)
    have HB1 := Lib.hid (Law.then_ HB0.out hb)
    have hk0 := HM1.out.cell
    have hkf := HM1.out.frozen
    have hkl := HM1.out.lt
    have hs := HS0.out
    have E2 := Lib.hid (HM1.out.set (.slice A1 X.1.length c1)).cell
    have HB' := Lib.hid (HB1.out.setCell (p := ⟨w.heap.size + 1, 0, none⟩) (by show w.heap.size ≤ w.heap.size + 1; omega) (.slice A1 X.1.length c1))
    have HO' := Lib.hid (own_box ho HM1.out rows_nm (.slice A1 X.1.length c1))
    have HN' := Lib.hid (hno.store ⟨w.heap.size + 1, 0, none⟩ (by show w.heap.size + 1 < _; omega) (.slice A1 X.1.length c1))
    clear ho hno hb
    go_wp2
    refine ret_met (b := w.heap.size + 1) (x := .slice A1 X.1.length c1) (f := .bool X.2) rfl rfl rfl E2.out rfl ⟨_, ys, rfl, own_down HO'.out (by omega), HN'.out.down (by omega), HB'.out⟩
end Go.Proofs.Ytndjpkeenbbgiaa
