/-
  StarMetric, the model's and the code's.
-/
import Derived.Test.YtndjpkeenbbgiaaFil
import Derived.Test.YtndjpkeenbbgiaaMofS
import Derived.Test.YtndjpkeenbbgiaaRd
namespace Go.Proofs.Ytndjpkeenbbgiaa
open Go.RowKit
set_option linter.unusedVariables false
namespace Q
def staG (l : List Int) (x y : Nat) : Int := l.getD x 0 + l.getD y 0
noncomputable def staQ (l : List Int) : List (List Int) × Bool := if (1 ≤ l.length ∧ l.length ≤ 6) ∧ within 1 49 l = true then (tabK (staG l) l.length l.length, true) else ([], false)
theorem withinS_of {lo hi : Int} {l : List Int} (h : ∀ k, k < l.length → ∃ x, l[k]? = some x ∧ lo ≤ x ∧ x ≤ hi) : within lo hi l = true := by
  refine List.all_eq_true.2 fun x hx => ?_
  obtain ⟨k, hk, rfl⟩ := List.mem_iff_getElem.1 hx
  obtain ⟨y, hy, h1, h2⟩ := h k hk
  rw [List.getElem?_eq_getElem hk] at hy
  injection hy with hy
  subst hy
  simp [okW, h1, h2]
theorem getD_of {l : List Int} {k : Nat} {x : Int} (h : l[k]? = some x) : l.getD k 0 = x := by rw [List.getD_eq_getElem?_getD, h]; rfl
theorem staQ_mof {l : List Int} (h : within 1 49 l = true) : staQ l = mofQ (staG l) l.length := by
  unfold staQ mofQ
  by_cases hn : 1 ≤ l.length ∧ l.length ≤ 6
  · have hm : metQ (tabK (staG l) l.length l.length) = true := by
      refine tab_met hn.1 hn.2 (fun x y hx hy _ => ?_) (fun x y z hx hy hz _ _ _ => ?_)
      · obtain ⟨a, ha, _, _⟩ := within_at h hx
        obtain ⟨b, hb, _, _⟩ := within_at h hy
        unfold staG
        rw [getD_of ha, getD_of hb]
        omega
      · obtain ⟨b, hb, _, _⟩ := within_at h hy
        unfold staG
        rw [getD_of hb]
        omega
    have hc : (1 : Int) ≤ (l.length : Int) ∧ (l.length : Int) ≤ 6 := by omega
    exact (if_pos ⟨hn, h⟩).trans (if_pos ⟨hc, hm⟩).symm
  · rw [if_neg (fun e => hn e.1), if_neg (fun e => hn (by have := e.1; omega))]
end Q
set_option maxHeartbeats 800000 in
theorem staLit_any (bx : Nat) (A : Option Addr) (n c : Nat) (l : List Int) (x y : Nat) (a b : Int) (W : World) (hln : l.length = n) (hx : x < n) (hy : y < n) (ha : l[x]? = some a) (hb : l[y]? = some b) (a1 : 1 ≤ a) (a2 : a ≤ 49) (b1 : 1 ≤ b) (b2 : b ≤ 49) (h : W.cell? ⟨bx, 0, none⟩ = some (.slice A n c)) (hr : Law.Row W A (ivs l)) :
    Calls Try.prog 74 #[.int .i64 x, .int .i64 y, .pointer (some ⟨bx, 0, none⟩)] W fun e w' => e = .returned (.int .i64 (a + b)) ∧ ∃ m, w' = W.drewN m := by
  obtain ⟨k, off, e1, hk, hcx⟩ := hr.at_ (ivs_some ha)
  obtain ⟨k', off', e2, hk', hcy⟩ := hr.at_ (ivs_some hb)
  subst e1
  injection e2 with e2
  injection e2 with e3 e4
  subst e3 e4
  have hxI : (x : Int) < (n : Int) := by omega
  have hyI : (y : Int) < (n : Int) := by omega
  have hw : IntKind.i64.wrap (a + b) = a + b := IntWalk.i64_in _ (by omega)
  clear hr ha hb
  go_enter Try.func74, Try.ntmps74
  go_wp2_with fail
  go_quiet (fail)
  go_wp2
  go_ret
  exact ⟨rfl, _, rfl⟩
set_option maxHeartbeats 800000 in
theorem impSta_any (l : List Int) (A : Option Addr) (c : Nat) (w : World) (hl : l.length ≤ 1048576) (hr : Law.Row w A (ivs l)) :
    Calls Try.prog 40 #[.slice A l.length c] w (mrSays (Q.staQ l) w) := by
  have hc : ((w.alloc (.cells #[.slice A l.length c] 22)).alloc (.cells #[.slice none 0 0] 43)).cell? ⟨w.heap.size, 0, none⟩ = some (.slice A l.length c) := by
    have h0 : (w.alloc (.cells #[.slice A l.length c] 22)).cell? ⟨w.heap.size, 0, none⟩ = some (.slice A l.length c) := new_cell _ _ _
    exact (((Below.refl (w.alloc (.cells #[.slice A l.length c] 22)).heap.size _).alloc (Nat.le_refl _) _).cell (p := ⟨w.heap.size, 0, none⟩) (by show w.heap.size < _; simp)).trans h0
  have HM0 : Hid (MBox ((w.alloc (.cells #[.slice A l.length c] 22)).alloc (.cells #[.slice none 0 0] 43)) (w.heap.size + 1) (.slice none 0 0)) := by
    have h := MBox.new (w.alloc (.cells #[.slice A l.length c] 22)) (.slice none 0 0)
    rwa [show (w.alloc (.cells #[.slice A l.length c] 22)).heap.size = w.heap.size + 1 by simp] at h
  have HB0 : Hid (Below w.heap.size w ((w.alloc (.cells #[.slice A l.length c] 22)).alloc (.cells #[.slice none 0 0] 43))) := ((Below.refl _ _).alloc (Nat.le_refl _) _).alloc (by simp) _
  have HS0 : Hid (w.heap.size + 2 ≤ ((w.alloc (.cells #[.slice A l.length c] 22)).alloc (.cells #[.slice none 0 0] 43)).heap.size) := by show _ ≤ _; simp
  have HR0 := Lib.hid (hr.stays HB0.out)
  have HI := Lib.hid fun (W : World) (h : Law.Row W A (ivs l)) => isWithin_any A c l 1 49 W hl h
  cases hwi : Q.within 1 49 l
  · rw [show Q.staQ l = ([], false) from if_neg (fun e => by rw [hwi] at e; exact absurd e.2 (by decide))]
    rw [hwi] at HI
    have HI0 := Lib.hid (HI.out _ HR0.out)
    clear hr hwi HR0 HS0
    go_enter Try.func40, Try.ntmps40
    go_wp2_with fail
    go_at_call 70
    refine (HI0.out).mono ?_
    rintro e w' ⟨rfl, hw'⟩
    obtain rfl := hw'.symm
    clear hw'
    go_wp2
    refine ret_met (b := w.heap.size + 1) (x := .slice none 0 0) (f := .bool false) rfl rfl rfl HM0.out.cell rfl ⟨_, [], rfl, own_none _ _ _, NOwn.nil _ _, HB0.out⟩
  · rw [Q.staQ_mof hwi]
    rw [hwi] at HI
    have HI0 := Lib.hid (HI.out _ HR0.out)
    have HT := Lib.hid (metricS_any w.heap.size (Q.staG l) l.length ((w.alloc (.cells #[.slice A l.length c] 22)).alloc (.cells #[.slice none 0 0] 43)) (fun x y W hx hy _ hW => by
      obtain ⟨a, ha, a1, a2⟩ := Q.within_at hwi (k := x) (by omega)
      obtain ⟨b, hb, b1, b2⟩ := Q.within_at hwi (k := y) (by omega)
      rw [show Q.staG l x y = a + b by unfold Q.staG; rw [Q.getD_of ha, Q.getD_of hb]]
      exact staLit_any w.heap.size A l.length c l x y a b W rfl (by omega) (by omega) ha hb a1 a2 b1 b2 ((hW.cell (p := ⟨w.heap.size, 0, none⟩) (by show w.heap.size < _; simp; omega)).trans hc) (HR0.out.stays hW)))
    clear hr hwi HR0
    go_enter Try.func40, Try.ntmps40
    generalize Q.mofQ (Q.staG l) l.length = X at HT ⊢
    go_wp2_with fail
    go_at_call 70
    refine (HI0.out).mono ?_
    rintro e w' ⟨rfl, hw'⟩
    obtain rfl := hw'.symm
    clear hw'
    go_wp2_with fail
    generalize (w.alloc (.cells #[.slice A l.length c] 22)).alloc (.cells #[.slice none 0 0] 43) = wa at HM0 HB0 HS0 HT hc HI0 ⊢
    go_wp2_with fail
    go_at_call 71
    refine HT.out.mono ?_
    rintro e w1 ⟨v, ys, rfl, ho, hno, hb⟩
    obtain ⟨A1, c1, rfl, _, _, _⟩ := Law.own_len ho
    have HM1 := Lib.hid (HM0.out.on hb)
    have HB1 := Lib.hid (Law.then_ HB0.out hb)
    have hk0 := HM1.out.cell
    have hkf := HM1.out.frozen
    have hkl := HM1.out.lt
    have hs := HS0.out
    have E2 := Lib.hid (HM1.out.set (.slice A1 X.1.length c1)).cell
    have HB' := Lib.hid (HB1.out.setCell (p := ⟨w.heap.size + 1, 0, none⟩) (by show w.heap.size ≤ w.heap.size + 1; omega) (.slice A1 X.1.length c1))
    have HO' := Lib.hid (own_box ho HM1.out rows_nm (.slice A1 X.1.length c1))
    have HN' := Lib.hid (hno.store ⟨w.heap.size + 1, 0, none⟩ (by show w.heap.size + 1 < _; omega) (.slice A1 X.1.length c1))
    clear ho hno hb
    go_wp2
    refine ret_met (b := w.heap.size + 1) (x := .slice A1 X.1.length c1) (f := .bool X.2) rfl rfl rfl E2.out rfl ⟨_, ys, rfl, own_down HO'.out (by omega), HN'.out.down (by omega), HB'.out⟩
end Go.Proofs.Ytndjpkeenbbgiaa
