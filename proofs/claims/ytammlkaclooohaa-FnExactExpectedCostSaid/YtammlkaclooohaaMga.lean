/-
  Weights: their sum and their bounds, of the model and of the code. Matrices and sums of products: the mathematics.
-/
import Derived.Test.YtammlkaclooohaaRw3
import Derived.Test.YtammlkaclooohaaMgn
import Derived.Test.YtammlkaclooohaaWm8
/- Weights: their sum and their bounds, of the model and of the code. -/
namespace Go.Proofs.Ytammlkaclooohaa
open Go.RowKit
set_option linter.unusedVariables false
namespace Q
/-- The sum of the first k numbers. -/
def sumK (l : List Int) : Nat → Int
  | 0 => 0
  | k + 1 => sumK l k + l.getD k 0
theorem sumK_succ {l : List Int} {k : Nat} {z : Int} (h : l[k]? = some z) : sumK l (k + 1) = sumK l k + z := by
  show sumK l k + l.getD k 0 = _
  rw [List.getD_eq_getElem?_getD, h]
  rfl
theorem sumK_bd {lo hi : Int} {l : List Int} (h : within lo hi l = true) : ∀ k, k ≤ l.length → lo * (k : Int) ≤ sumK l k ∧ sumK l k ≤ hi * (k : Int)
  | 0, _ => by simp [sumK]
  | k + 1, hk => by
    obtain ⟨i1, i2⟩ := sumK_bd h k (by omega)
    obtain ⟨z, hz, z1, z2⟩ := within_at h (show k < l.length by omega)
    rw [sumK_succ hz, show ((k + 1 : Nat) : Int) = (k : Int) + 1 by omega, Int.mul_add, Int.mul_add]
    omega
theorem sum_bd {lo : Int} {l : List Int} (h : within lo 9 l = true) (h0 : 0 ≤ lo) {k : Nat} (hk : k ≤ l.length) : 0 ≤ sumK l k ∧ sumK l k ≤ 9 * (k : Int) := by
  obtain ⟨i1, i2⟩ := sumK_bd h k hk
  have := Int.mul_nonneg h0 (Int.natCast_nonneg k)
  omega
/-- A number of weights of at least lo. -/
def wtQ (cnt : Nat) (lo : Int) (l : List Int) : Bool := decide (l.length = cnt) && within lo 9 l
theorem wt_no {cnt : Nat} {lo : Int} {l : List Int} (h : ¬ l.length = cnt) : wtQ cnt lo l = false := by simp [wtQ, h]
theorem wt_len {cnt : Nat} {lo : Int} {l : List Int} (h : l.length = cnt) : wtQ cnt lo l = within lo 9 l := by simp [wtQ, h]
theorem wt_iff {cnt : Nat} {lo : Int} {l : List Int} : wtQ cnt lo l = true ↔ l.length = cnt ∧ within lo 9 l = true := by simp [wtQ]
/-- A number of weights of at least 0, not all of which are 0. -/
def shQ (cnt : Nat) (l : List Int) : Bool := wtQ cnt 0 l && decide (0 < sumK l l.length)
theorem sh_iff {cnt : Nat} {l : List Int} : shQ cnt l = true ↔ l.length = cnt ∧ within 0 9 l = true ∧ 0 < sumK l l.length := by
  rw [shQ, Bool.and_eq_true, wt_iff, decide_eq_true_iff, and_assoc]
theorem sh_no {cnt : Nat} {l : List Int} (h : wtQ cnt 0 l = false) : shQ cnt l = false := by rw [shQ, h]; rfl
theorem sh_yes {cnt : Nat} {l : List Int} (h : wtQ cnt 0 l = true) : shQ cnt l = decide (0 < sumK l l.length) := by rw [shQ, h]; rfl
end Q
section
variable (A : Option Addr) (c : Nat) (l : List Int) (w : World)
set_option maxHeartbeats 400000 in
theorem total_any (lo : Int) (h0 : 0 ≤ lo) (hw : Q.within lo 9 l = true) (hn : l.length ≤ 1048576) (hr : Law.Row w A (ivs l)) :
    Calls Try.prog 81 #[.slice A l.length c] w fun e w' => e = .returned (.int .i64 (Q.sumK l l.length)) ∧ w' = w := by
  have HR := Lib.hid hr
  have HB := Lib.hid fun k (hk : k ≤ l.length) => Q.sum_bd hw h0 hk
  have HS := Lib.hid fun k z (h : l[k]? = some z) => Q.sumK_succ h
  have HA := Lib.hid fun k (hk : k < l.length) => Q.within_at hw hk
  have HZ : Hid (Q.sumK l 0 = 0) := rfl
  clear hr hw
  generalize Q.sumK l = K at *
  go_enter Try.func81, Try.ntmps81
  go_wp2
  go_loop [3, 8] (fun s i => ∃ k : Nat, k ≤ l.length ∧ i = .int .i64 (k : Int) ∧ s = .int .i64 (K k)) (fun _ i => l.length - (intOf i).toNat)
  case atStart => exact ⟨0, Nat.zero_le _, rfl, by rw [HZ.out]⟩
  case round =>
    obtain ⟨k, hk, rfl, rfl⟩ := hrel
    by_cases hlt : k < l.length
    · have hltI : (k : Int) < (l.length : Int) := by omega
      obtain ⟨z, hz, z1, z2⟩ := HA.out k hlt
      obtain ⟨b, off, rfl, hbl, hc⟩ := HR.out.at_ (ivs_some hz)
      obtain ⟨k1, k2⟩ := HB.out k hk
      have HN := Lib.hid (HS.out k z hz)
      have hwr : IntKind.i64.wrap (K k + z) = K k + z := IntWalk.i64_in _ (by omega)
      clear hz hbl
      go_wp2
      go_round
      case rel => exact ⟨k + 1, by omega, by go_num, by rw [HN.out]⟩
      case measure => simp [intOf]; omega
    · have hke : k = l.length := by omega
      have hltI : ¬ (k : Int) < (l.length : Int) := by omega
      subst hke
      go_wp2
      go_ret
      exact ⟨rfl, rfl⟩
set_option maxHeartbeats 400000 in
theorem l11Sum_any (lo : Int) (h0 : 0 ≤ lo) (hw : Q.within lo 9 l = true) (hn : l.length ≤ 1048576) (hr : Law.Row w A (ivs l)) :
    Calls Try.prog 78 #[.slice A l.length c] w fun e w' => e = .returned (.int .i64 (Q.sumK l l.length)) ∧ w' = w := by
  have HR := Lib.hid hr
  have HB := Lib.hid fun k (hk : k ≤ l.length) => Q.sum_bd hw h0 hk
  have HS := Lib.hid fun k z (h : l[k]? = some z) => Q.sumK_succ h
  have HA := Lib.hid fun k (hk : k < l.length) => Q.within_at hw hk
  have HZ : Hid (Q.sumK l 0 = 0) := rfl
  clear hr hw
  generalize Q.sumK l = K at *
  go_enter Try.func78, Try.ntmps78
  go_wp2
  go_loop [3, 4] (fun s i => ∃ k : Nat, k ≤ l.length ∧ i = .int .i64 (k : Int) ∧ s = .int .i64 (K k)) (fun _ i => l.length - (intOf i).toNat)
  case atStart => exact ⟨0, Nat.zero_le _, rfl, by rw [HZ.out]⟩
  case round =>
    obtain ⟨k, hk, rfl, rfl⟩ := hrel
    by_cases hlt : k < l.length
    · have hltI : (k : Int) < (l.length : Int) := by omega
      obtain ⟨z, hz, z1, z2⟩ := HA.out k hlt
      obtain ⟨b, off, rfl, hbl, hc⟩ := HR.out.at_ (ivs_some hz)
      obtain ⟨k1, k2⟩ := HB.out k hk
      have HN := Lib.hid (HS.out k z hz)
      have hwr : IntKind.i64.wrap (K k + z) = K k + z := IntWalk.i64_in _ (by omega)
      clear hz hbl
      go_wp2
      go_round
      case rel => exact ⟨k + 1, by omega, by go_num, by rw [HN.out]⟩
      case measure => simp [intOf]; omega
    · have hke : k = l.length := by omega
      have hltI : ¬ (k : Int) < (l.length : Int) := by omega
      subst hke
      go_wp2
      go_ret
      exact ⟨rfl, rfl⟩
set_option maxHeartbeats 400000 in
theorem l11Weights_any (lo : Int) (hn : l.length ≤ 1048576) (hr : Law.Row w A (ivs l)) :
    Calls Try.prog 113 #[.slice A l.length c, .int .i64 lo] w fun e w' => e = .returned (.bool (Q.within lo 9 l)) ∧ w' = w := by
  have HR := Lib.hid hr
  clear hr
  go_enter Try.func113, Try.ntmps113
  go_wp2
  go_loop [5] (fun i => ∃ k : Nat, k ≤ l.length ∧ i = .int .i64 (k : Int) ∧ Hid (∀ z ∈ l.take k, Q.okW lo 9 z = true)) (fun i => l.length - (intOf i).toNat)
  case atStart => exact ⟨0, Nat.zero_le _, rfl, fun z hz => by simp at hz⟩
  case round =>
    obtain ⟨k, hk, rfl, hall⟩ := hrel
    by_cases hlt : k < l.length
    · obtain ⟨b, off, rfl, hbl, hc⟩ := HR.out.at_ (ivs_at hlt)
      have hltI : (k : Int) < (l.length : Int) := by omega
      have hm : l[k] ∈ l := List.getElem_mem hlt
      have HN0 : Hid (Q.okW lo 9 l[k] = false → Q.within lo 9 l = false) := Q.within_not hm
      have HN1 : Hid (Q.okW lo 9 l[k] = true → ∀ z ∈ l.take (k + 1), Q.okW lo 9 z = true) := Q.within_next hlt hall.out
      have HI : Hid (∀ W, Calls Try.prog 83 #[.int .i64 l[k], .int .i64 lo, .int .i64 9] W fun e w' => e = .returned (.bool (Q.okW lo 9 l[k])) ∧ w' = W) := fun W => l1In_any l[k] lo 9 W
      clear hm
      obtain ⟨Z, hZ⟩ : ∃ Z, Z = l[k] := ⟨_, rfl⟩
      rw [← hZ] at HN0 HN1 HI hc
      clear hZ
      cases hz : Q.okW lo 9 Z
      · have HN := Lib.hid (HN0.out hz)
        rw [hz] at HI
        clear HN0 HN1 hz hall
        go_wp2_with (go_at_call 83; refine (HI.out _).mono ?_; rintro e w' ⟨rfl, hw'⟩; subst hw')
        go_ret
        exact ⟨by rw [HN.out]; rfl, rfl⟩
      · have HN := Lib.hid (HN1.out hz)
        rw [hz] at HI
        clear HN0 HN1 hz hall
        go_wp2_with (go_at_call 83; refine (HI.out _).mono ?_; rintro e w' ⟨rfl, hw'⟩; subst hw')
        go_round
        case rel => exact ⟨k + 1, by omega, by go_num, HN.out⟩
        case measure => simp [intOf]; omega
    · have hke : k = l.length := by omega
      have hltI : ¬ (k : Int) < (l.length : Int) := by omega
      have HN : Hid (Q.within lo 9 l = true) := Q.within_all (by rw [← hke]; exact hall.out)
      clear hke hall
      go_wp2
      go_ret
      exact ⟨by rw [HN.out]; rfl, rfl⟩
set_option maxHeartbeats 400000 in
theorem isWeights_any (cnt : Nat) (lo : Int) (hn : l.length ≤ 1048576) (hr : Law.Row w A (ivs l)) :
    Calls Try.prog 143 #[.slice A l.length c, .int .i64 (cnt : Int), .int .i64 lo] w fun e w' => e = .returned (.bool (Q.wtQ cnt lo l)) ∧ w' = w := by
  have HI := Lib.hid fun lo => isWithin_any A c l lo 9 w hn hr
  by_cases h : l.length = cnt
  · subst h
    have HV := Lib.hid (Q.wt_len (l := l) (lo := lo) rfl)
    have HI2 := Lib.hid (HI.out lo)
    generalize Q.wtQ l.length lo l = V at HV ⊢
    generalize Q.within lo 9 l = v at HI2 HV
    clear hr HI
    generalize l.length = n at *
    go_enter Try.func143, Try.ntmps143
    go_wp2_with (go_at_call 152; refine (HI2.out).mono ?_; rintro e w' ⟨rfl, hw'⟩; subst hw')
    cases v
    all_goals
      go_wp2
      go_ret
      exact ⟨by rw [HV.out]; rfl, rfl⟩
  · have heq : ((l.length : Int) == (cnt : Int)) = false := by simp; omega
    have hne2 : ¬ (l.length : Int) = (cnt : Int) := by omega
    have HV := Lib.hid (Q.wt_no (lo := lo) h)
    generalize Q.wtQ cnt lo l = V at HV ⊢
    clear h hr HI
    generalize l.length = n at *
    go_enter Try.func143, Try.ntmps143
    go_wp2
    go_ret
    exact ⟨by rw [HV.out]; rfl, rfl⟩
end
end Go.Proofs.Ytammlkaclooohaa

/- Matrices and sums of products: the mathematics. -/
namespace Go.Proofs.Ytammlkaclooohaa
open Go.RowKit
set_option linter.unusedVariables false
namespace Q
/-- The sum of the first k products of weights and numbers. -/
def sfK (ws : List Int) (g : Nat → Int) : Nat → Int
  | 0 => 0
  | k + 1 => sfK ws g k + ws.getD k 0 * g k
theorem sfK_succ {ws : List Int} {g : Nat → Int} {k : Nat} {z : Int} (h : ws[k]? = some z) : sfK ws g (k + 1) = sfK ws g k + z * g k := by
  show sfK ws g k + ws.getD k 0 * g k = _
  rw [List.getD_eq_getElem?_getD, h]
  rfl
theorem prod_bd {z x H : Int} (h0 : 0 ≤ z) (h9 : z ≤ 9) (x0 : 0 ≤ x) (x9 : x ≤ H) : 0 ≤ z * x ∧ z * x ≤ 9 * H := by
  have a := Int.mul_nonneg h0 x0
  have b := Int.mul_le_mul h9 x9 x0 (by omega)
  omega
theorem sfK_bd {ws : List Int} {g : Nat → Int} {H : Int} (hw : within 0 9 ws = true) : ∀ k, k ≤ ws.length → (∀ j, j < k → 0 ≤ g j ∧ g j ≤ H) → 0 ≤ sfK ws g k ∧ sfK ws g k ≤ 9 * H * (k : Int)
  | 0, _, _ => by simp [sfK]
  | k + 1, hk, hg => by
    obtain ⟨i1, i2⟩ := sfK_bd hw k (by omega) fun j hj => hg j (by omega)
    obtain ⟨z, hz, z1, z2⟩ := within_at hw (show k < ws.length by omega)
    obtain ⟨g1, g2⟩ := hg k (by omega)
    have hp := prod_bd z1 z2 g1 g2
    rw [sfK_succ hz, show ((k + 1 : Nat) : Int) = (k : Int) + 1 by omega, Int.mul_add]
    omega
/-- A row of a matrix with rows of length m. -/
def mrQ (m : Nat) (l : List Int) : Bool := decide (l.length = m) && decide (1 ≤ l.length) && decide (l.length ≤ 3) && within 0 40 l
def mxQ (M : List (List Int)) : Bool := decide (1 ≤ M.length) && decide ((M.length : Int) ≤ 3) && M.all (mrQ (M.getD 0 []).length)
structure Mx (M : List (List Int)) (m : Nat) : Prop where
  n1 : 1 ≤ M.length
  n3 : M.length ≤ 3
  m1 : 1 ≤ m
  m3 : m ≤ 3
  row : ∀ l ∈ M, l.length = m ∧ within 0 40 l = true
theorem mr_iff {m : Nat} {l : List Int} : mrQ m l = true ↔ l.length = m ∧ 1 ≤ l.length ∧ l.length ≤ 3 ∧ within 0 40 l = true := by simp [mrQ, and_assoc]
theorem mx_iff {M : List (List Int)} : mxQ M = true ↔ Mx M (M.getD 0 []).length := by
  rw [mxQ, Bool.and_eq_true, Bool.and_eq_true, decide_eq_true_iff, decide_eq_true_iff, List.all_eq_true]
  constructor
  · rintro ⟨⟨h1, h2⟩, h3⟩
    have h0 := mr_iff.1 (h3 (M.getD 0 []) (by rw [List.getD_eq_getElem?_getD, List.getElem?_eq_getElem (by omega)]; exact List.getElem_mem _))
    exact ⟨h1, by omega, h0.2.1, h0.2.2.1, fun l hl => ⟨(mr_iff.1 (h3 l hl)).1, (mr_iff.1 (h3 l hl)).2.2.2⟩⟩
  · rintro ⟨h1, h2, h3, h4, h5⟩
    exact ⟨⟨h1, by omega⟩, fun l hl => mr_iff.2 ⟨(h5 l hl).1, by rw [(h5 l hl).1]; exact h3, by rw [(h5 l hl).1]; exact h4, (h5 l hl).2⟩⟩
theorem Mx.dst {M : List (List Int)} {m : Nat} (h : Mx M m) {i j : Nat} (hi : i < M.length) (hj : j < m) : 0 ≤ Q.dst M i j ∧ Q.dst M i j ≤ 40 := by
  obtain ⟨h1, h2⟩ := h.row _ (List.getElem_mem hi)
  obtain ⟨z, hz, z1, z2⟩ := within_at h2 (k := j) (by omega)
  have e : Q.dst M i j = z := by
    unfold Q.dst
    rw [List.getD_eq_getElem?_getD (l := M), List.getElem?_eq_getElem hi]
    simp only [Option.getD_some]
    rw [List.getD_eq_getElem?_getD, hz]
    rfl
  omega
/-- The sum of the products for a column. -/
def colF (M : List (List Int)) (ws : List Int) (j : Nat) : Int := sfK ws (fun i => dst M i j) M.length
def colS (M : List (List Int)) (ws : List Int) (m : Nat) : List Int := (List.range m).map (colF M ws)
theorem colS_len (M : List (List Int)) (ws : List Int) (m : Nat) : (colS M ws m).length = m := by simp [colS]
theorem colF_bd {M : List (List Int)} {m : Nat} (h : Mx M m) {ws : List Int} (hw : within 0 9 ws = true) (hl : ws.length = M.length) {j : Nat} (hj : j < m) {k : Nat} (hk : k ≤ M.length) : 0 ≤ sfK ws (fun i => dst M i j) k ∧ sfK ws (fun i => dst M i j) k ≤ 1080 := by
  obtain ⟨h1, h2⟩ := sfK_bd (g := fun i => dst M i j) (H := 40) hw k (by omega) fun i hi => h.dst (by omega) hj
  have := h.n3
  omega
theorem colS_vals {M : List (List Int)} {m : Nat} (h : Mx M m) {ws : List Int} (hw : within 0 9 ws = true) (hl : ws.length = M.length) : ∀ z ∈ colS M ws m, 0 ≤ z ∧ z ≤ 1080 := fun z hz => by
  obtain ⟨j, hj, rfl⟩ := List.mem_map.1 hz
  exact colF_bd h hw hl (List.mem_range.1 hj) (Nat.le_refl _)
end Q
end Go.Proofs.Ytammlkaclooohaa
