/-
  FnExactCoverRun: CoverRun answers as the model does, whatever it is given, and hands out rows of its own.
  Conditions: none.
-/
import Derived.Test.YtndjpkeenbbgiaaRows
import Derived.Test.YtndjpkeenbbgiaaChecked
import Derived.Test.YtndjpkeenbbgiaaCruS
import Derived.Test.YtndjpkeenbbgiaaCruI
import Derived.Deep.DeepHandedRow
import Derived.Stop.Joined
namespace Go.Proofs.Ytndjpkeenbbgiaa
open Go.RowKit Go.ChangeShapes Go.WideShapes
set_option linter.unusedVariables false
namespace LCoverRun
set_option maxHeartbeats 6400000 in
theorem walk_core (row : List Int) (reqs : List Int) (Arow : Option Addr) (crow : Nat) (Areqs : Option Addr) (creqs : Nat) (X : List (List Int) × Int × Bool) (w : World) (hl : X.1.length ≤ 1048576) (hll : ∀ l ∈ X.1, l.length ≤ 1048576) (htt : totL X.1 ≤ 1048576) (hnrow : row.length ≤ 1048576) (hnreqs : reqs.length ≤ 1048576) (HRrow : Hid (Law.Row w Arow (ivs row))) (HRreqs : Hid (Law.Row w Areqs (ivs reqs)))
    (HG : Hid (∀ (Brow : Option Addr) (drow : Nat) (Breqs : Option Addr) (dreqs : Nat) (W : World), Law.Row W Brow (ivs row) → Law.Row W Breqs (ivs reqs) → Calls Try.prog 25 #[.slice Brow row.length drow, .slice Breqs reqs.length dreqs] W (nestInt X W)))
    (HH : Hid (∀ (Brow : Option Addr) (drow : Nat) (Breqs : Option Addr) (dreqs : Nat) (W : World), Law.Row W Brow (ivs row) → Law.Row W Breqs (ivs reqs) → Calls Try.prog 26 #[.slice Brow row.length drow, .slice Breqs reqs.length dreqs] W (nestInt X W))) :
    Calls Try.prog 6 #[.slice Arow row.length crow, .slice Areqs reqs.length creqs] w fun e w' => e = .returned (.bool true) ∧ Below w.heap.size w w' := by
  obtain ⟨ps, yy, ok⟩ := X
  simp only [] at hl hll htt
  have HLL := Lib.hid hll
  clear hll
  have hIrow : (row.length : Int) ≤ 1048576 := by omega
  have hIreqs : (reqs.length : Int) ≤ 1048576 := by omega
  go_enter Try.func6, Try.ntmps6
  go_wp2_with fail
  go_at_call 16
  refine (toInt_any Arow crow row _ hnrow HRrow.out).mono ?_
  rintro e w1 ⟨v1, rfl, ho, hb⟩
  have hoarow : w1.ownsRow w.heap.size 3 1 v1 row.length (ivs row) := ho
  obtain ⟨Aarow, carow, rfl, hcarow, _, _⟩ := Law.own_len hoarow
  have Iarow : Hid (In w.heap.size w1.heap.size Aarow) := In.of hoarow
  clear ho
  have hz1 : Below w.heap.size w w1 := by first | exact hb | exact Law.undraw hb
  have S1 : Hid (w.heap.size ≤ w1.heap.size) := hz1.size
  have B1 : Hid (Below w.heap.size w w1) := hz1
  clear hz1
  clear hb
  have Farow_1 := Lib.hid hoarow
  clear hoarow
  go_wp2_with fail
  go_at_call 16
  refine (toInt_any Areqs creqs reqs _ hnreqs (HRreqs.out.stays B1.out)).mono ?_
  rintro e w2 ⟨v2, rfl, ho, hb⟩
  have hoareqs : w2.ownsRow w1.heap.size 3 1 v2 reqs.length (ivs reqs) := ho
  obtain ⟨Aareqs, careqs, rfl, hcareqs, _, _⟩ := Law.own_len hoareqs
  have Iareqs : Hid (In w1.heap.size w2.heap.size Aareqs) := In.of hoareqs
  clear ho
  have hz2 : Below w1.heap.size w1 w2 := by first | exact hb | exact Law.undraw hb
  have S2 : Hid (w1.heap.size ≤ w2.heap.size) := hz2.size
  have B2 : Hid (Below w.heap.size w w2) := Law.then_ B1.out hz2
  have Farow_2 := Lib.hid (own_on Farow_1.out hz2)
  clear hz2
  clear hb
  have Fareqs_2 := Lib.hid hoareqs
  clear hoareqs
  go_wp2_with fail
  go_at_call 25
  refine (HG.out Aarow carow Aareqs careqs _ (Law.Row.own Farow_2.out) (Law.Row.own Fareqs_2.out)).mono ?_
  rintro e w3 ⟨v3, xsW, rfl, ho, hno, hb⟩
  simp only [] at ho hno
  have hoW : w3.ownsRow w2.heap.size 22 1 v3 ps.length xsW := by first | exact ho | exact own_down ho (by simp)
  have hnW : NOwn w3 w2.heap.size xsW ps := by first | exact hno | exact hno.down (by simp)
  obtain ⟨AW, cW, rfl, _, _, _⟩ := Law.own_len hoW
  clear ho hno
  have hz3 : Below w2.heap.size w2 w3 := by first | exact hb | exact Law.undraw hb
  have S3 : Hid (w2.heap.size ≤ w3.heap.size) := hz3.size
  have B3 : Hid (Below w.heap.size w w3) := Law.then_ B2.out hz3
  have Farow_3 := Lib.hid (own_on Farow_2.out hz3)
  have Fareqs_3 := Lib.hid (own_on Fareqs_2.out hz3)
  clear hz3
  clear hb
  have HW : Hid (NRow w3 AW xsW ps) := Lib.hid (NRow.of hoW hnW)
  have BW_3 : Hid (Below w3.heap.size w3 w3) := Lib.hid (Below.refl _ _)
  clear hoW hnW
  go_wp2_with fail
  go_at_call 16
  refine (toInt_any Arow crow row _ hnrow (HRrow.out.stays B3.out)).mono ?_
  rintro e w4 ⟨v4, rfl, ho, hb⟩
  have hoxrow : w4.ownsRow w3.heap.size 3 1 v4 row.length (ivs row) := ho
  obtain ⟨Axrow, cxrow, rfl, hcxrow, _, _⟩ := Law.own_len hoxrow
  have Ixrow : Hid (In w3.heap.size w4.heap.size Axrow) := In.of hoxrow
  clear ho
  have hz4 : Below w3.heap.size w3 w4 := by first | exact hb | exact Law.undraw hb
  have S4 : Hid (w3.heap.size ≤ w4.heap.size) := hz4.size
  have B4 : Hid (Below w.heap.size w w4) := Law.then_ B3.out hz4
  have BW_4 : Hid (Below w3.heap.size w3 w4) := Law.then_ BW_3.out hz4
  clear hz4
  clear hb
  have Fxrow_4 := Lib.hid hoxrow
  clear hoxrow
  go_wp2_with fail
  go_at_call 16
  refine (toInt_any Areqs creqs reqs _ hnreqs (HRreqs.out.stays B4.out)).mono ?_
  rintro e w5 ⟨v5, rfl, ho, hb⟩
  have hoxreqs : w5.ownsRow w4.heap.size 3 1 v5 reqs.length (ivs reqs) := ho
  obtain ⟨Axreqs, cxreqs, rfl, hcxreqs, _, _⟩ := Law.own_len hoxreqs
  have Ixreqs : Hid (In w4.heap.size w5.heap.size Axreqs) := In.of hoxreqs
  clear ho
  have hz5 : Below w4.heap.size w4 w5 := by first | exact hb | exact Law.undraw hb
  have S5 : Hid (w4.heap.size ≤ w5.heap.size) := hz5.size
  have B5 : Hid (Below w.heap.size w w5) := Law.then_ B4.out hz5
  have BW_5 : Hid (Below w3.heap.size w3 w5) := Law.then_ BW_4.out hz5
  have Fxrow_5 := Lib.hid (own_on Fxrow_4.out hz5)
  clear hz5
  clear hb
  have Fxreqs_5 := Lib.hid hoxreqs
  clear hoxreqs
  go_wp2_with fail
  go_at_call 26
  refine (HH.out Axrow cxrow Axreqs cxreqs _ (Law.Row.own Fxrow_5.out) (Law.Row.own Fxreqs_5.out)).mono ?_
  rintro e w6 ⟨v6, xsG, rfl, ho, hno, hb⟩
  simp only [] at ho hno
  have hoG : w6.ownsRow w5.heap.size 22 1 v6 ps.length xsG := by first | exact ho | exact own_down ho (by simp)
  have hnG : NOwn w6 w5.heap.size xsG ps := by first | exact hno | exact hno.down (by simp)
  obtain ⟨AG, cG, rfl, _, _, _⟩ := Law.own_len hoG
  clear ho hno
  have hz6 : Below w5.heap.size w5 w6 := by first | exact hb | exact Law.undraw hb
  have S6 : Hid (w5.heap.size ≤ w6.heap.size) := hz6.size
  have B6 : Hid (Below w.heap.size w w6) := Law.then_ B5.out hz6
  have BW_6 : Hid (Below w3.heap.size w3 w6) := Law.then_ BW_5.out hz6
  have Fxrow_6 := Lib.hid (own_on Fxrow_5.out hz6)
  have Fxreqs_6 := Lib.hid (own_on Fxreqs_5.out hz6)
  clear hz6
  clear hb
  have FGo_6 := Lib.hid hoG
  have FGn_6 := Lib.hid hnG
  clear hoG hnG
  go_wp2_with fail
  go_at_call 27
  refine (eqSS_same AG AW cG cW xsG xsW ps _ hl HLL.out (NRow.of FGo_6.out FGn_6.out) (HW.out.stays BW_6.out)).mono ?_
  rintro e we1 ⟨rfl, m1, rfl⟩
  cases ok
  all_goals
    go_wp2_with fail
    go_at_call 16
    refine (toInt_any Arow crow row _ hnrow (Law.Row.drewN ((HRrow.out.stays B6.out)) m1)).mono ?_
    rintro e w7 ⟨v7, rfl, ho, hb⟩
    have hoyrow : w7.ownsRow w6.heap.size 3 1 v7 row.length (ivs row) := ho
    obtain ⟨Ayrow, cyrow, rfl, hcyrow, _, _⟩ := Law.own_len hoyrow
    have Iyrow : Hid (In w6.heap.size w7.heap.size Ayrow) := In.of hoyrow
    clear ho
    have hz7 : Below w6.heap.size w6 w7 := by first | exact hb | exact Law.undraw hb
    have S7 : Hid (w6.heap.size ≤ w7.heap.size) := hz7.size
    have B7 : Hid (Below w.heap.size w w7) := Law.then_ B6.out hz7
    have BW_7 : Hid (Below w3.heap.size w3 w7) := Law.then_ BW_6.out hz7
    have Fxrow_7 := Lib.hid (own_on Fxrow_6.out hz7)
    have Fxreqs_7 := Lib.hid (own_on Fxreqs_6.out hz7)
    have FGo_7 := Lib.hid (own_on FGo_6.out hz7)
    have FGn_7 := Lib.hid (FGn_6.out.past hz7)
    clear hz7
    clear hb
    have Fyrow_7 := Lib.hid hoyrow
    clear hoyrow
    go_wp2_with fail
    go_at_call 18
    refine (eqInt_same Axrow Ayrow cxrow cyrow row _ (by omega) (Law.Row.own Fxrow_7.out) (Law.Row.own Fyrow_7.out)).mono ?_
    rintro e we2 ⟨rfl, m2, rfl⟩
    go_wp2_with fail
    go_at_call 16
    refine (toInt_any Areqs creqs reqs _ hnreqs (Law.Row.drewN ((HRreqs.out.stays B7.out)) m2)).mono ?_
    rintro e w8 ⟨v8, rfl, ho, hb⟩
    have hoyreqs : w8.ownsRow w7.heap.size 3 1 v8 reqs.length (ivs reqs) := ho
    obtain ⟨Ayreqs, cyreqs, rfl, hcyreqs, _, _⟩ := Law.own_len hoyreqs
    have Iyreqs : Hid (In w7.heap.size w8.heap.size Ayreqs) := In.of hoyreqs
    clear ho
    have hz8 : Below w7.heap.size w7 w8 := by first | exact hb | exact Law.undraw hb
    have S8 : Hid (w7.heap.size ≤ w8.heap.size) := hz8.size
    have B8 : Hid (Below w.heap.size w w8) := Law.then_ B7.out hz8
    have BW_8 : Hid (Below w3.heap.size w3 w8) := Law.then_ BW_7.out hz8
    have Fxrow_8 := Lib.hid (own_on Fxrow_7.out hz8)
    have Fxreqs_8 := Lib.hid (own_on Fxreqs_7.out hz8)
    have FGo_8 := Lib.hid (own_on FGo_7.out hz8)
    have FGn_8 := Lib.hid (FGn_7.out.past hz8)
    clear hz8
    clear hb
    have Fyreqs_8 := Lib.hid hoyreqs
    clear hoyreqs
    go_wp2_with fail
    go_at_call 18
    refine (eqInt_same Axreqs Ayreqs cxreqs cyreqs reqs _ (by omega) (Law.Row.own Fxreqs_8.out) (Law.Row.own Fyreqs_8.out)).mono ?_
    rintro e we3 ⟨rfl, m3, rfl⟩
    go_wp2_with fail
    go_at_call 19
    refine (markInt_one _ row.length cxrow _ Axrow (ivs row) w8 (by omega) Fxrow_8.out).mono ?_
    rintro e w9 ⟨rfl, ho, hb⟩
    clear ho
    have S9 : Hid (w8.heap.size ≤ w9.heap.size) := hb.size
    have B9 : Hid (Below w.heap.size w w9) := B8.out.grown hb (by have s1 := S1.out; have s2 := S2.out; have s3 := S3.out; have s4 := S4.out; have s5 := S5.out; have s6 := S6.out; have s7 := S7.out; have s8 := S8.out; omega) (Ixrow.out.base (by have s1 := S1.out; have s2 := S2.out; have s3 := S3.out; have s4 := S4.out; have s5 := S5.out; have s6 := S6.out; have s7 := S7.out; have s8 := S8.out; omega))
    have BW_9 : Hid (Below w3.heap.size w3 w9) := BW_8.out.grown hb (by have s1 := S1.out; have s2 := S2.out; have s3 := S3.out; have s4 := S4.out; have s5 := S5.out; have s6 := S6.out; have s7 := S7.out; have s8 := S8.out; omega) (Ixrow.out.base (by have s1 := S1.out; have s2 := S2.out; have s3 := S3.out; have s4 := S4.out; have s5 := S5.out; have s6 := S6.out; have s7 := S7.out; have s8 := S8.out; omega))
    have Fxreqs_9 := Lib.hid (own_far Fxreqs_8.out hb Ixreqs.out Ixrow.out (by have s1 := S1.out; have s2 := S2.out; have s3 := S3.out; have s4 := S4.out; have s5 := S5.out; have s6 := S6.out; have s7 := S7.out; have s8 := S8.out; first | exact .inl (by omega) | exact .inr (by omega)))
    have FGo_9 := Lib.hid (own_low FGo_8.out hb Ixrow.out (by have s1 := S1.out; have s2 := S2.out; have s3 := S3.out; have s4 := S4.out; have s5 := S5.out; have s6 := S6.out; have s7 := S7.out; have s8 := S8.out; omega))
    have FGn_9 := Lib.hid (FGn_8.out.low hb Ixrow.out (by have s1 := S1.out; have s2 := S2.out; have s3 := S3.out; have s4 := S4.out; have s5 := S5.out; have s6 := S6.out; have s7 := S7.out; have s8 := S8.out; omega))
    clear hb
    go_wp2_with fail
    go_at_call 19
    refine (markInt_by _ (1 + row.length) reqs.length Axreqs cxreqs (ivs reqs) w9 (by omega) (by omega) Fxreqs_9.out).mono ?_
    rintro e w10 ⟨rfl, ho, hb⟩
    clear ho
    have S10 : Hid (w9.heap.size ≤ w10.heap.size) := hb.size
    have B10 : Hid (Below w.heap.size w w10) := B9.out.grown hb (by have s1 := S1.out; have s2 := S2.out; have s3 := S3.out; have s4 := S4.out; have s5 := S5.out; have s6 := S6.out; have s7 := S7.out; have s8 := S8.out; have s9 := S9.out; omega) (Ixreqs.out.base (by have s1 := S1.out; have s2 := S2.out; have s3 := S3.out; have s4 := S4.out; have s5 := S5.out; have s6 := S6.out; have s7 := S7.out; have s8 := S8.out; have s9 := S9.out; omega))
    have BW_10 : Hid (Below w3.heap.size w3 w10) := BW_9.out.grown hb (by have s1 := S1.out; have s2 := S2.out; have s3 := S3.out; have s4 := S4.out; have s5 := S5.out; have s6 := S6.out; have s7 := S7.out; have s8 := S8.out; have s9 := S9.out; omega) (Ixreqs.out.base (by have s1 := S1.out; have s2 := S2.out; have s3 := S3.out; have s4 := S4.out; have s5 := S5.out; have s6 := S6.out; have s7 := S7.out; have s8 := S8.out; have s9 := S9.out; omega))
    have FGo_10 := Lib.hid (own_low FGo_9.out hb Ixreqs.out (by have s1 := S1.out; have s2 := S2.out; have s3 := S3.out; have s4 := S4.out; have s5 := S5.out; have s6 := S6.out; have s7 := S7.out; have s8 := S8.out; have s9 := S9.out; omega))
    have FGn_10 := Lib.hid (FGn_9.out.low hb Ixreqs.out (by have s1 := S1.out; have s2 := S2.out; have s3 := S3.out; have s4 := S4.out; have s5 := S5.out; have s6 := S6.out; have s7 := S7.out; have s8 := S8.out; have s9 := S9.out; omega))
    clear hb
    go_wp2_with fail
    go_at_call 27
    refine (eqSS_same AG AW cG cW xsG xsW ps _ hl HLL.out (NRow.of FGo_10.out FGn_10.out) (HW.out.stays BW_10.out)).mono ?_
    rintro e we4 ⟨rfl, m4, rfl⟩
    go_wp2_with fail
    go_at_call 28
    refine (markSS_any w5.heap.size 1 AG cG xsG ps (w10.drewN m4) (by omega) (by omega) hl htt (by show w5.heap.size ≤ w10.heap.size; have s1 := S1.out; have s2 := S2.out; have s3 := S3.out; have s4 := S4.out; have s5 := S5.out; have s6 := S6.out; have s7 := S7.out; have s8 := S8.out; have s9 := S9.out; have s10 := S10.out; omega) (by show World.ownsRow w10 _ _ _ _ _ _; exact FGo_10.out) (FGn_10.out.drewN m4)).mono ?_
    rintro e w11 ⟨rfl, ho, hno, hb⟩
    have hz11 : Below w5.heap.size w10 w11 := by first | exact hb | exact Law.undraw hb
    have S11 : Hid (w10.heap.size ≤ w11.heap.size) := hz11.size
    have B11 : Hid (Below w.heap.size w w11) := Lib.hid (B10.out.trans (hz11.mono (by have s1 := S1.out; have s2 := S2.out; have s3 := S3.out; have s4 := S4.out; have s5 := S5.out; have s6 := S6.out; have s7 := S7.out; have s8 := S8.out; have s9 := S9.out; have s10 := S10.out; omega)))
    have BW_11 : Hid (Below w3.heap.size w3 w11) := Lib.hid (BW_10.out.trans (hz11.mono (by have s1 := S1.out; have s2 := S2.out; have s3 := S3.out; have s4 := S4.out; have s5 := S5.out; have s6 := S6.out; have s7 := S7.out; have s8 := S8.out; have s9 := S9.out; have s10 := S10.out; omega)))
    have FM_11 : Hid (NRow w11 AG xsG (mkL 1 ps)) := Lib.hid (NRow.of ho hno)
    clear ho hno hb hz11
    go_wp2_with fail
    go_at_call 29
    refine (heldSS_any 1 AG cG xsG ps _ (by omega) (by omega) hl htt (FM_11.out)).mono ?_
    rintro e w12 ⟨rfl, hb⟩
    have hz12 : Below w11.heap.size w11 w12 := by first | exact hb | exact Law.undraw hb
    have S12 : Hid (w11.heap.size ≤ w12.heap.size) := hz12.size
    have B12 : Hid (Below w.heap.size w w12) := Law.then_ B11.out hz12
    have BW_12 : Hid (Below w3.heap.size w3 w12) := Law.then_ BW_11.out hz12
    have FM_12 := Lib.hid (FM_11.out.stays hz12)
    clear hz12
    clear hb
    go_wp2_with fail
    go_at_call 16
    refine (toInt_any Arow crow row _ hnrow (HRrow.out.stays B12.out)).mono ?_
    rintro e w13 ⟨v13, rfl, ho, hb⟩
    have hozrow : w13.ownsRow w12.heap.size 3 1 v13 row.length (ivs row) := ho
    obtain ⟨Azrow, czrow, rfl, hczrow, _, _⟩ := Law.own_len hozrow
    have Izrow : Hid (In w12.heap.size w13.heap.size Azrow) := In.of hozrow
    clear ho
    have hz13 : Below w12.heap.size w12 w13 := by first | exact hb | exact Law.undraw hb
    have S13 : Hid (w12.heap.size ≤ w13.heap.size) := hz13.size
    have B13 : Hid (Below w.heap.size w w13) := Law.then_ B12.out hz13
    have BW_13 : Hid (Below w3.heap.size w3 w13) := Law.then_ BW_12.out hz13
    have FM_13 := Lib.hid (FM_12.out.stays hz13)
    clear hz13
    clear hb
    have Fzrow_13 := Lib.hid hozrow
    clear hozrow
    go_wp2_with fail
    go_at_call 16
    refine (toInt_any Areqs creqs reqs _ hnreqs (HRreqs.out.stays B13.out)).mono ?_
    rintro e w14 ⟨v14, rfl, ho, hb⟩
    have hozreqs : w14.ownsRow w13.heap.size 3 1 v14 reqs.length (ivs reqs) := ho
    obtain ⟨Azreqs, czreqs, rfl, hczreqs, _, _⟩ := Law.own_len hozreqs
    have Izreqs : Hid (In w13.heap.size w14.heap.size Azreqs) := In.of hozreqs
    clear ho
    have hz14 : Below w13.heap.size w13 w14 := by first | exact hb | exact Law.undraw hb
    have S14 : Hid (w13.heap.size ≤ w14.heap.size) := hz14.size
    have B14 : Hid (Below w.heap.size w w14) := Law.then_ B13.out hz14
    have BW_14 : Hid (Below w3.heap.size w3 w14) := Law.then_ BW_13.out hz14
    have Fzrow_14 := Lib.hid (own_on Fzrow_13.out hz14)
    have FM_14 := Lib.hid (FM_13.out.stays hz14)
    clear hz14
    clear hb
    have Fzreqs_14 := Lib.hid hozreqs
    clear hozreqs
    go_wp2_with fail
    go_at_call 26
    refine (HH.out Azrow czrow Azreqs czreqs _ (Law.Row.own Fzrow_14.out) (Law.Row.own Fzreqs_14.out)).mono ?_
    rintro e w15 ⟨v15, xsH, rfl, ho, hno, hb⟩
    simp only [] at ho hno
    have hoH : w15.ownsRow w14.heap.size 22 1 v15 ps.length xsH := by first | exact ho | exact own_down ho (by simp)
    have hnH : NOwn w15 w14.heap.size xsH ps := by first | exact hno | exact hno.down (by simp)
    obtain ⟨AH, cH, rfl, _, _, _⟩ := Law.own_len hoH
    clear ho hno
    have hz15 : Below w14.heap.size w14 w15 := by first | exact hb | exact Law.undraw hb
    have S15 : Hid (w14.heap.size ≤ w15.heap.size) := hz15.size
    have B15 : Hid (Below w.heap.size w w15) := Law.then_ B14.out hz15
    have BW_15 : Hid (Below w3.heap.size w3 w15) := Law.then_ BW_14.out hz15
    have Fzrow_15 := Lib.hid (own_on Fzrow_14.out hz15)
    have Fzreqs_15 := Lib.hid (own_on Fzreqs_14.out hz15)
    have FM_15 := Lib.hid (FM_14.out.stays hz15)
    clear hz15
    clear hb
    have FH : Hid (NRow w15 AH xsH ps) := Lib.hid (NRow.of hoH hnH)
    clear hoH hnH
    go_wp2_with fail
    go_at_call 27
    refine (eqSS_same AH AW cH cW xsH xsW ps _ hl HLL.out (FH.out) (HW.out.stays BW_15.out)).mono ?_
    rintro e we5 ⟨rfl, m5, rfl⟩
    go_wp2_with fail
    go_at_call 29
    refine (heldSS_any 1 AG cG xsG ps _ (by omega) (by omega) hl htt ((NRow.drewN (FM_15.out) m5))).mono ?_
    rintro e w16 ⟨rfl, hb⟩
    have hz16 : Below w15.heap.size w15 w16 := by first | exact hb | exact Law.undraw hb
    have S16 : Hid (w15.heap.size ≤ w16.heap.size) := hz16.size
    have B16 : Hid (Below w.heap.size w w16) := Law.then_ B15.out hz16
    have BW_16 : Hid (Below w3.heap.size w3 w16) := Law.then_ BW_15.out hz16
    have FM_16 := Lib.hid (FM_15.out.stays hz16)
    clear hz16
    clear hb
    go_wp2
    go_ret
    exact ⟨rfl, B16.out⟩
theorem walk (Arow : Option Addr) (nrow crow : Nat) (row : List Int) (Areqs : Option Addr) (nreqs creqs : Nat) (reqs : List Int) (w : World) (hrow : row.length = nrow ∧ nrow ≤ crow ∧ crow ≤ maxLen ∧ (∀ z ∈ row, (Lit.int .i64 z).wf = true) ∧ Law.Row w Arow (row.map (Value.int .i64))) (hreqs : reqs.length = nreqs ∧ nreqs ≤ creqs ∧ creqs ≤ maxLen ∧ (∀ z ∈ reqs, (Lit.int .i64 z).wf = true) ∧ Law.Row w Areqs (reqs.map (Value.int .i64))) (hL : laidMetH Try.prog Rows.fnExactCoverRunRow.laid w) (hsh : w.ShapedOpen Try.prog) :
    Calls Try.prog 6 #[.slice Arow nrow crow, .slice Areqs nreqs creqs] w fun e w' => e = .returned (.bool true) ∧ Below w.heap.size w w' := by
  obtain ⟨rfl, hArow, hBrow, _, hrrow⟩ := hrow
  obtain ⟨rfl, hAreqs, hBreqs, _, hrreqs⟩ := hreqs
  clear hL hsh
  by_cases hlrow : row.length ≤ 1048576
  · skip
    by_cases hlreqs : reqs.length ≤ 1048576
    · skip
      refine walk_core row reqs Arow crow Areqs creqs ((Q.crQ row reqs)) w ?_ ?_ ?_ hlrow hlreqs hrrow hrreqs (fun Brow drow Breqs dreqs W hrow hreqs => specCr_any row reqs Brow drow hlrow Breqs dreqs hlreqs W hrow hreqs) (fun Brow drow Breqs dreqs W hrow hreqs => impCr_any row reqs Brow drow hlrow Breqs dreqs hlreqs W hrow hreqs)
      exact (lenX row reqs).1
      exact (lenX row reqs).2.1
      exact (lenX row reqs).2.2
    · have hIreqs : ¬ (reqs.length : Int) ≤ 1048576 := by omega
      have hIrow : (row.length : Int) ≤ 1048576 := by omega
      clear hrrow hrreqs
      go_enter Try.func6, Try.ntmps6
      go_wp2
      go_ret
      exact ⟨rfl, Below.refl _ _⟩
  · have hIrow : ¬ (row.length : Int) ≤ 1048576 := by omega
    clear hrrow hrreqs
    go_enter Try.func6, Try.ntmps6
    go_wp2
    go_ret
    exact ⟨rfl, Below.refl _ _⟩
theorem lawOwn : ownKnob Try.prog.godebug = none := by kernel_rfl
theorem lawLaidOut : laidOutB Try.prog = true := by kernel_rfl
set_option maxRecDepth 100000 in
theorem contract (H : Type) (enc : TypeId × Value → H) (W : World) (base : Nat) (args : Array Value) (ds : List (DataW H)) (gs : List (DataW H)) (before : List MemPlace)
    (hval0 : ∀ (j : Nat) t v, Try.f6.params[j]? = some t → args[j]? = some v → Value.okWide Try.prog W .any base t v)
    (hW : DataW.Whole enc Try.prog Try.f6.params.toList Rows.fnExactCoverRunSpec.vars false W args.toList ds gs before) (hL : laidMetH Try.prog Rows.fnExactCoverRunRow.laid W) (hsh : W.ShapedOpen Try.prog) :
    Calls Try.prog 6 args W fun e W' => ∃ v, e = .returned v ∧ Rows.fnExactCoverRunSpec.post enc Try.prog Try.f6 false true false false W args v W' := by
  have hval : ∀ (j : Nat) t v, Try.f6.params[j]? = some t → args[j]? = some v → Value.okWide Try.prog W .any base t v := hval0
  have hW' := hW
  obtain ⟨p, q, hA0, hV, rfl, hfz, hnd⟩ := hW
  have hA : DataW.TrodAll enc Try.prog W 0 (fun _ => true) true Try.f6.params.toList args.toList ds p := hA0
  rw [Try.params6] at hA hval
  obtain ⟨v0, vs0, d0, ds0, p0, q0, hargs0, rfl, rfl, h0, r0⟩ := trodAll_cons hA
  obtain ⟨v1, vs1, d1, ds1, p1, q1, hargs1, rfl, rfl, h1, r1⟩ := trodAll_cons r0
  obtain ⟨rfl, rfl, rfl⟩ := trodAll_nil r1
  obtain rfl : args = #[v0, v1] := by cases args; simp_all
  obtain ⟨rfl, rfl⟩ := trodVars_none hV
  obtain ⟨A0, n0, c0, xs0, rfl, w0⟩ := Law.in_ints Try.underlying22 Try.underlying3 (by kernel_rfl) (hval 0 22 v0 rfl rfl) h0 (fun x hx => hW'.lt x (by simp [hx]))
  obtain ⟨A1, n1, c1, xs1, rfl, w1⟩ := Law.in_ints Try.underlying22 Try.underlying3 (by kernel_rfl) (hval 1 22 v1 rfl rfl) h1 (fun x hx => hW'.lt x (by simp [hx]))
  clear hA0 hval0
  refine (walk A0 n0 c0 xs0 A1 n1 c1 xs1 W w0 w1 hL hsh).mono fun e W' ⟨he, hb⟩ => ?_
  subst he
  exact ⟨_, rfl, Law.close hW' rfl rfl lawLaidOut (by kernel_rfl) Try.underlying4 (by kernel_rfl) hb⟩
theorem reads (os : Os) {H : Type} (enc : TypeId × Value → H) : ∃ places, DataW.whole enc Try.prog ((World.holding Try.prog os ⟨#[], #[], []⟩).forCall (fun _ _ => 0) ⟨#[], #[.slice none 0 0, .slice none 0 0], []⟩).memory Try.f6.params.toList Rows.fnExactCoverRunSpec.vars false (#[.slice none 0 0, .slice none 0 0] : Array Value).toList 8 = some ([.nil, .nil], [], places) :=
  ⟨[], by kernel_rfl⟩
set_option maxRecDepth 100000 in
theorem lifted (os : Os) (started : os.Started) (H : Type) (enc : TypeId × Value → H) (F : Stop.Interp) :
    ReturnsInHanded {} Try.checked os 6 .any ((OpenSpec.ofChange Rows.fnExactCoverRunSpec).preRow enc Try.prog Try.f6 Rows.fnExactCoverRunRow.domain false Rows.fnExactCoverRunRow.laid) (((OpenSpec.ofChange Rows.fnExactCoverRunSpec).at F).post enc Try.prog Try.f6 false true false false) := by
  obtain ⟨places, hx⟩ := reads os enc
  refine returnsInHanded_of_row (C := Try.checked) (s := OpenSpec.ofChange Rows.fnExactCoverRunSpec) lawOwn started (by kernel_rfl) Try.func6
    (witness_row_at (enc := enc) (C := Try.checked) false (World.holding Try.prog os ⟨#[], #[], []⟩) #[.slice none 0 0, .slice none 0 0] rfl (by kernel_rfl) (by kernel_rfl) (by kernel_rfl)
      (OpenSpec.preRow_of_cond 8 hx (by kernel_rfl) (fun k hk => by cases hk) (by kernel_rfl) (laidMet_nil _ _))) ?_
  intro W base args ds gs before hval hW _ _ _ hL hsh _
  exact contract H enc W base args ds gs before hval hW hL hsh
theorem proved : Rows.FnExactCoverRunSaid :=
  OpenClaim.holds_of_cond 6 Try.f6 rfl rfl rfl rfl rfl rfl rfl ⟨rfl, rfl, rfl, rfl, rfl⟩ rfl rfl rfl rfl rfl (by kernel_rfl) Try.func6 (by kernel_rfl)
    (of_decide_eq_true (by kernel_rfl)) (by unfold Func.isWrapper; first | (rw [if_pos (by decide +kernel)]; kernel_rfl) | (rw [if_neg (by decide +kernel)]; exact ⟨rfl, rfl⟩))
    (fun os started H enc _ F => by rw [OpenClaim.pre_eq_preRow]; exact lifted os started H enc F)
end LCoverRun
end Go.Proofs.Ytndjpkeenbbgiaa
