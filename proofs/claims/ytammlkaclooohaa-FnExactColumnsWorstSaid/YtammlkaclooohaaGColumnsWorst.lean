/-
  The walk of FnExactColumnsWorst: ColumnsWorst answers as the model does, whatever it is given, and writes into no argument.
  Conditions: none.
-/
import Derived.Test.YtammlkaclooohaaRows
import Derived.Test.YtammlkaclooohaaLawN
import Derived.Test.YtammlkaclooohaaPlw
import Derived.Test.YtammlkaclooohaaMarkI
import Derived.Test.YtammlkaclooohaaSzo
import Derived.Test.YtammlkaclooohaaMge
import Derived.Test.YtammlkaclooohaaEqf
import Derived.Deep.DeepHandedRow
namespace Go.Proofs.Ytammlkaclooohaa
open Go.RowKit Go.ChangeShapes Go.WideShapes
set_option linter.unusedVariables false
namespace LColumnsWorst
set_option maxRecDepth 20000 in
set_option maxHeartbeats 6400000 in
theorem walk_core  (matrix : List (List Int)) (weights : List Int) (Amatrix : Option Addr) (cmatrix : Nat) (ysmatrix : List Value) (Aweights : Option Addr) (cweights : Nat) (X : Int × Int × Bool) (w : World) (w0 : World) (HBs : Hid (Below w.heap.size w w0)) (hz : (szN matrix : Int) ≤ 1048576) (hmmatrix : ∀ l ∈ matrix, l.length ≤ maxLen) (HRmatrix : Hid (NRow w Amatrix ysmatrix matrix)) (hnweights : weights.length ≤ 1048576) (HRweights : Hid (Law.Row w Aweights (ivs weights)))
    (HG : Hid (∀ (Bmatrix : Option Addr) (dmatrix : Nat) (ysmatrix : List Value) (Bweights : Option Addr) (dweights : Nat) (W : World), NRow W Bmatrix ysmatrix matrix → Law.Row W Bweights (ivs weights) → Calls Try.prog 57 #[.slice Bmatrix matrix.length dmatrix, .slice Bweights weights.length dweights] W fun r W' => r = .returned (.tuple #[.agg #[.int .i64 X.1, .int .i64 X.2.1], .bool X.2.2]) ∧ Below W.heap.size W W'))
    (HH : Hid (∀ (Bmatrix : Option Addr) (dmatrix : Nat) (ysmatrix : List Value) (Bweights : Option Addr) (dweights : Nat) (W : World), NRow W Bmatrix ysmatrix matrix → Law.Row W Bweights (ivs weights) → Calls Try.prog 58 #[.slice Bmatrix matrix.length dmatrix, .slice Bweights weights.length dweights] W fun r W' => r = .returned (.tuple #[.agg #[.int .i64 X.1, .int .i64 X.2.1], .bool X.2.2]) ∧ Below W.heap.size W W')) :
    Calls Try.prog 13 #[.slice Amatrix matrix.length cmatrix, .slice Aweights weights.length cweights] w0 fun e w' => e = .returned (.bool true) ∧ Below w.heap.size w w' := by
  obtain ⟨y, y2, z⟩ := X
  simp only [] at HG HH
  have hIweights : (weights.length : Int) ≤ 1048576 := by omega
  have hsmatrix : szOk matrix = true := szOk_of (by omega)
  have htmatrix := (sz_rows hsmatrix).2.2
  have HTmatrix := Lib.hid fun (W : World) (h : NRow W Amatrix ysmatrix matrix) => toSS_any Amatrix cmatrix ysmatrix matrix W hsmatrix h
  have HEmatrix := Lib.hid fun (W : World) A B c d xs ys (h1 : NRow W A xs matrix) (h2 : NRow W B ys matrix) => eqSS_same A B c d xs ys matrix W (sz_rows hsmatrix).1 (sz_rows hsmatrix).2.1 h1 h2
  have HZmatrix := Lib.hid fun (W : World) (h : NRow W Amatrix ysmatrix matrix) => szSS_g Amatrix cmatrix ysmatrix matrix (1048576) W (by omega) (by omega) (Nat.le_trans (sz_rows hsmatrix).1 (by unfold maxLen; omega)) hmmatrix h
  have hzmatrix : szS (1048576) matrix = 1048576 - (szN matrix : Int) := if_pos (by omega)
  rw [hzmatrix] at HZmatrix
  clear hzmatrix
  have h0zmatrix : 0 ≤ (szN matrix : Int) := by omega
  generalize (szN matrix : Int) = zmatrix at *
  go_enter Try.func13, Try.ntmps13
  have hs9matrix : ¬ (1048576 : Int) - zmatrix < 0 := by omega
  go_wp2_with fail
  go_at_call 42
  refine (HZmatrix.out w0 (HRmatrix.out.stays (HBs.out))).mono ?_
  rintro r w9 ⟨rfl, e9⟩
  obtain rfl := e9.symm
  clear e9
  go_wp2_with fail
  go_at_call 44
  refine (HTmatrix.out w0 (HRmatrix.out.stays (HBs.out))).mono ?_
  rintro r w1 ⟨v1, ys1, rfl, ho, hn, hb⟩
  obtain ⟨A1, c1, rfl, _, _, _⟩ := Law.own_len ho
  have Famatrix := Lib.hid ho
  have Fnamatrix := Lib.hid hn
  clear ho hn
  have HB0 := Lib.hid hb
  clear hb
  go_wp2_with fail
  go_at_call 20
  refine (toInt_any Aweights cweights weights w1 hnweights (HRweights.out.stays (Law.then_ (HBs.out) HB0.out))).mono ?_
  rintro r w2 ⟨v2, rfl, ho, hb⟩
  obtain ⟨A2, c2, rfl, hc2, _, _⟩ := Law.own_len ho
  have Faweights := Lib.hid ho
  clear ho
  have HB1 := Lib.hid hb
  clear hb
  go_wp2_with fail
  go_at_call 57
  refine (HG.out  A1 c1 ys1 A2 c2 w2  ((NRow.of Famatrix.out Fnamatrix.out).stays (HB1.out)) (Law.Row.own Faweights.out)).mono ?_
  rintro r w3 ⟨rfl, hb⟩
  have HB2 := Lib.hid hb
  clear hb
  have b9 : Below w3.heap.size w3 (w3.alloc (.cells #[.int .i64 y, .int .i64 y2] 32)) := (Below.refl _ _).alloc (Nat.le_refl _) _
  have KW : Hid (Blk (w3.alloc (.cells #[.int .i64 y, .int .i64 y2] 32)) w3.heap.size (.int .i64 y) (.int .i64 y2)) := Lib.hid ⟨by simp, by simp, by simp, by simp⟩
  have hsW : w3.heap.size < (w3.alloc (.cells #[.int .i64 y, .int .i64 y2] 32)).heap.size := by simp
  go_wp2_with fail
  generalize w3.alloc (.cells #[.int .i64 y, .int .i64 y2] 32) = w4 at b9 KW hsW ⊢
  have HB3 := Lib.hid b9
  clear b9
  go_wp2_with fail
  go_at_call 44
  refine (HTmatrix.out w4 (HRmatrix.out.stays (Law.then_ (Law.then_ (Law.then_ (Law.then_ (HBs.out) HB0.out) HB1.out) HB2.out) HB3.out))).mono ?_
  rintro r w5 ⟨v5, ys5, rfl, ho, hn, hb⟩
  obtain ⟨A5, c5, rfl, _, _, _⟩ := Law.own_len ho
  have Fxmatrix := Lib.hid ho
  have Fnxmatrix := Lib.hid hn
  clear ho hn
  have HB4 := Lib.hid hb
  clear hb
  go_wp2_with fail
  go_at_call 20
  refine (toInt_any Aweights cweights weights w5 hnweights (HRweights.out.stays (Law.then_ (Law.then_ (Law.then_ (Law.then_ (Law.then_ (HBs.out) HB0.out) HB1.out) HB2.out) HB3.out) HB4.out))).mono ?_
  rintro r w6 ⟨v6, rfl, ho, hb⟩
  obtain ⟨A6, c6, rfl, hc6, _, _⟩ := Law.own_len ho
  have Fxweights := Lib.hid ho
  clear ho
  have HB5 := Lib.hid hb
  clear hb
  go_wp2_with fail
  go_at_call 58
  refine (HH.out  A5 c5 ys5 A6 c6 w6  ((NRow.of Fxmatrix.out Fnxmatrix.out).stays (HB5.out)) (Law.Row.own Fxweights.out)).mono ?_
  rintro r w7 ⟨rfl, hb⟩
  have HB6 := Lib.hid hb
  clear hb
  have b9 : Below w7.heap.size w7 (w7.alloc (.cells #[.int .i64 y, .int .i64 y2] 32)) := (Below.refl _ _).alloc (Nat.le_refl _) _
  have KG : Hid (Blk (w7.alloc (.cells #[.int .i64 y, .int .i64 y2] 32)) w7.heap.size (.int .i64 y) (.int .i64 y2)) := Lib.hid ⟨by simp, by simp, by simp, by simp⟩
  have hsG : w7.heap.size < (w7.alloc (.cells #[.int .i64 y, .int .i64 y2] 32)).heap.size := by simp
  have kk := (KW.out.below (Law.then_ (Law.then_ (HB4.out) HB5.out) HB6.out) hsW).below b9 (Nat.lt_of_lt_of_le hsW ((Nat.le_trans (Nat.le_trans HB4.out.size HB5.out.size) HB6.out.size)))
  have k0 := kk.c0
  have k1 := kk.c1
  clear kk
  have g0 := KG.out.c0
  have g1 := KG.out.c1
  go_wp2_with fail
  generalize w7.alloc (.cells #[.int .i64 y, .int .i64 y2] 32) = w8 at b9 KG hsG k0 k1 g0 g1 ⊢
  have HB7 := Lib.hid b9
  clear b9
  go_wp2_with fail
  go_at_call 22
  refine (eqFrac_yes y y2 w8).mono ?_
  rintro r w9 ⟨rfl, hb⟩
  clear g0 g1 k0 k1
  have HB8 := Lib.hid hb
  clear hb
  cases z
  all_goals
    go_wp2_with fail
    go_at_call 44
    refine (HTmatrix.out w9 (HRmatrix.out.stays (Law.then_ (Law.then_ (Law.then_ (Law.then_ (Law.then_ (Law.then_ (Law.then_ (Law.then_ (Law.then_ (HBs.out) HB0.out) HB1.out) HB2.out) HB3.out) HB4.out) HB5.out) HB6.out) HB7.out) HB8.out))).mono ?_
    rintro r w10 ⟨v10, ys10, rfl, ho, hn, hb⟩
    obtain ⟨A10, c10, rfl, _, _, _⟩ := Law.own_len ho
    have Fymatrix := Lib.hid ho
    have Fnymatrix := Lib.hid hn
    clear ho hn
    have HB9 := Lib.hid hb
    clear hb
    go_wp2_with fail
    go_at_call 46
    refine (HEmatrix.out w10 A5 A10 c5 c10 ys5 ys10 ((NRow.of Fxmatrix.out Fnxmatrix.out).stays (Law.then_ (Law.then_ (Law.then_ (Law.then_ (HB5.out) HB6.out) HB7.out) HB8.out) HB9.out)) (NRow.of Fymatrix.out Fnymatrix.out)).mono ?_
    rintro r we1 ⟨rfl, m1, rfl⟩
    have hb : Below w10.heap.size w10 (w10.drewN m1) := Law.up (Below.refl _ _) _
    generalize World.drewN w10 m1 = w11 at hb ⊢
    have HB10 := Lib.hid hb
    clear hb
    go_wp2_with fail
    go_at_call 20
    refine (toInt_any Aweights cweights weights w11 hnweights (HRweights.out.stays (Law.then_ (Law.then_ (Law.then_ (Law.then_ (Law.then_ (Law.then_ (Law.then_ (Law.then_ (Law.then_ (Law.then_ (Law.then_ (HBs.out) HB0.out) HB1.out) HB2.out) HB3.out) HB4.out) HB5.out) HB6.out) HB7.out) HB8.out) HB9.out) HB10.out))).mono ?_
    rintro r w12 ⟨v12, rfl, ho, hb⟩
    obtain ⟨A12, c12, rfl, hc12, _, _⟩ := Law.own_len ho
    have Fyweights := Lib.hid ho
    clear ho
    have HB11 := Lib.hid hb
    clear hb
    go_wp2_with fail
    go_at_call 25
    refine (eqInt_same A6 A12 c6 c12 weights w12 (by omega) ((Law.Row.own Fxweights.out).stays (Law.then_ (Law.then_ (Law.then_ (Law.then_ (Law.then_ (HB6.out) HB7.out) HB8.out) HB9.out) HB10.out) HB11.out)) (Law.Row.own Fyweights.out)).mono ?_
    rintro r we2 ⟨rfl, m2, rfl⟩
    have hb : Below w12.heap.size w12 (w12.drewN m2) := Law.up (Below.refl _ _) _
    generalize World.drewN w12 m2 = w13 at hb ⊢
    have HB12 := Lib.hid hb
    clear hb
    go_wp2
    go_ret
    exact ⟨rfl, Law.then_ (Law.then_ (Law.then_ (Law.then_ (Law.then_ (Law.then_ (Law.then_ (Law.then_ (Law.then_ (Law.then_ (Law.then_ (Law.then_ (Law.then_ (HBs.out) HB0.out) HB1.out) HB2.out) HB3.out) HB4.out) HB5.out) HB6.out) HB7.out) HB8.out) HB9.out) HB10.out) HB11.out) HB12.out⟩
set_option maxHeartbeats 1600000 in
theorem walk_big_0  (matrix : List (List Int)) (weights : List Int) (Amatrix : Option Addr) (cmatrix : Nat) (ysmatrix : List Value) (Aweights : Option Addr) (cweights : Nat) (w : World) (hzz : ¬ (szN matrix : Int) ≤ 1048576) (hMmatrix : matrix.length ≤ maxLen) (hmmatrix : ∀ l ∈ matrix, l.length ≤ maxLen) (HRmatrix : Hid (NRow w Amatrix ysmatrix matrix)) (hnweights : weights.length ≤ 1048576) :
    Calls Try.prog 13 #[.slice Amatrix matrix.length cmatrix, .slice Aweights weights.length cweights] w fun e w' => e = .returned (.bool true) ∧ Below w.heap.size w w' := by
  have hIweights : (weights.length : Int) ≤ 1048576 := by omega
  have HZmatrix := Lib.hid fun (W : World) (h : NRow W Amatrix ysmatrix matrix) => szSS_g Amatrix cmatrix ysmatrix matrix (1048576) W (by omega) (by omega) hMmatrix hmmatrix h
  have hzmatrix : szS (1048576) matrix = -1 := if_neg (by omega)
  rw [hzmatrix] at HZmatrix
  clear hzmatrix
  generalize (szN matrix : Int) = zmatrix at *
  go_enter Try.func13, Try.ntmps13
  go_wp2_with fail
  go_at_call 42
  refine (HZmatrix.out w HRmatrix.out).mono ?_
  rintro r w9 ⟨rfl, e9⟩
  obtain rfl := e9.symm
  clear e9
  go_wp2
  go_ret
  exact ⟨rfl, Below.refl _ _⟩
theorem walk (Amatrix : Option Addr) (nmatrix cmatrix : Nat) (ysmatrix : List Value) (matrix : List (List Int)) (Aweights : Option Addr) (nweights cweights : Nat) (weights : List Int) (w : World) (hmatrix : matrix.length = nmatrix ∧ nmatrix ≤ cmatrix ∧ cmatrix ≤ maxLen ∧ (∀ l ∈ matrix, l.length ≤ maxLen) ∧ NRow w Amatrix ysmatrix matrix) (hweights : weights.length = nweights ∧ nweights ≤ cweights ∧ cweights ≤ maxLen ∧ (∀ z ∈ weights, (Lit.int .i64 z).wf = true) ∧ Law.Row w Aweights (weights.map (Value.int .i64))) (hL : laidMetH Try.prog Rows.fnExactColumnsWorstRow.laid w) (hsh : w.ShapedOpen Try.prog) :
    Calls Try.prog 13 #[.slice Amatrix nmatrix cmatrix, .slice Aweights nweights cweights] w fun e w' => e = .returned (.bool true) ∧ Below w.heap.size w w' := by
  obtain ⟨rfl, hAmatrix, hBmatrix, hwmatrix, hrmatrix⟩ := hmatrix
  obtain ⟨rfl, hAweights, hBweights, hwweights, hrweights⟩ := hweights
  clear hL hsh
  by_cases hlweights : weights.length ≤ 1048576
  · skip
    by_cases hz0 : (szN matrix : Int) ≤ 1048576
    · skip
      have hqmatrix : matrix.length ≤ 1048576 ∧ ∀ l ∈ matrix, l.length ≤ 1048576 := ⟨szN_len (by omega), fun l hl => szN_row (by omega) hl⟩
      exact walk_core  matrix weights Amatrix cmatrix ysmatrix Aweights cweights (cwQ matrix weights) w w (Lib.hid (Below.refl _ _)) hz0 hwmatrix hrmatrix hlweights hrweights (fun Bmatrix dmatrix ysmatrix Bweights dweights W qmatrix qweights => specCw_any Bmatrix dmatrix ysmatrix matrix Bweights dweights weights W hqmatrix.2 hqmatrix.1 hlweights qmatrix qweights) (fun Bmatrix dmatrix ysmatrix Bweights dweights W qmatrix qweights => impCw_any Bmatrix dmatrix ysmatrix matrix Bweights dweights weights W hqmatrix.2 hqmatrix.1 hlweights qmatrix qweights)
    · exact walk_big_0  matrix weights Amatrix cmatrix ysmatrix Aweights cweights w  hz0  (by omega) hwmatrix hrmatrix hlweights
  · have hIweights : ¬ (weights.length : Int) ≤ 1048576 := by omega
    clear hrmatrix hrweights
    go_enter Try.func13, Try.ntmps13
    go_wp2
    go_ret
    exact ⟨rfl, Below.refl _ _⟩
end LColumnsWorst
end Go.Proofs.Ytammlkaclooohaa
