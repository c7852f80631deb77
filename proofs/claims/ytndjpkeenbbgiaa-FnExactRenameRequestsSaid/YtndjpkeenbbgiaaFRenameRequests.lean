/-
  FnExactRenameRequests: RenameRequests answers as the model does, whatever it is given, and hands out a row of its own.
  Conditions: none.
-/
import Derived.Test.YtndjpkeenbbgiaaRows
import Derived.Test.YtndjpkeenbbgiaaChecked
import Derived.Test.YtndjpkeenbbgiaaRenS
import Derived.Test.YtndjpkeenbbgiaaMarkI
import Derived.Deep.DeepHandedRow
import Derived.Stop.Joined
namespace Go.Proofs.Ytndjpkeenbbgiaa
open Go.RowKit Go.ChangeShapes Go.WideShapes
set_option linter.unusedVariables false
namespace LRenameRequests
set_option maxHeartbeats 6400000 in
theorem walk_core (n : Int) (reqs : List Int) (to0 : List Int) (Areqs : Option Addr) (creqs : Nat) (Ato0 : Option Addr) (cto0 : Nat) (X : List Int × Bool) (w : World) (hl : X.1.length ≤ 1048576) (hnreqs : reqs.length ≤ 1048576) (hnto0 : to0.length ≤ 1048576) (HRreqs : Hid (Law.Row w Areqs (ivs reqs))) (HRto0 : Hid (Law.Row w Ato0 (ivs to0)))
    (HG : Hid (∀ (Breqs : Option Addr) (dreqs : Nat) (Bto0 : Option Addr) (dto0 : Nat) (W : World), Law.Row W Breqs (ivs reqs) → Law.Row W Bto0 (ivs to0) → Calls Try.prog 15 #[.int .i64 n, .slice Breqs reqs.length dreqs, .slice Bto0 to0.length dto0] W (rowSays X W)))
    (HH : Hid (∀ (Breqs : Option Addr) (dreqs : Nat) (Bto0 : Option Addr) (dto0 : Nat) (W : World), Law.Row W Breqs (ivs reqs) → Law.Row W Bto0 (ivs to0) → Calls Try.prog 17 #[.int .i64 n, .slice Breqs reqs.length dreqs, .slice Bto0 to0.length dto0] W (rowSays X W))) :
    Calls Try.prog 3 #[.int .i64 n, .slice Areqs reqs.length creqs, .slice Ato0 to0.length cto0] w fun e w' => e = .returned (.bool true) ∧ Below w.heap.size w w' := by
  obtain ⟨ps, ok⟩ := X
  simp only [] at hl
  have hIreqs : (reqs.length : Int) ≤ 1048576 := by omega
  have hIto0 : (to0.length : Int) ≤ 1048576 := by omega
  go_enter Try.func3, Try.ntmps3
  go_wp2_with fail
  go_at_call 16
  refine (toInt_any Areqs creqs reqs _ hnreqs HRreqs.out).mono ?_
  rintro e w1 ⟨v1, rfl, ho, hb⟩
  have hoareqs : w1.ownsRow w.heap.size 3 1 v1 reqs.length (ivs reqs) := ho
  obtain ⟨Aareqs, careqs, rfl, hcareqs, _, _⟩ := Law.own_len hoareqs
  have Iareqs : Hid (In w.heap.size w1.heap.size Aareqs) := In.of hoareqs
  clear ho
  have hz1 : Below w.heap.size w w1 := by first | exact hb | exact Law.undraw hb
  have S1 : Hid (w.heap.size ≤ w1.heap.size) := hz1.size
  have B1 : Hid (Below w.heap.size w w1) := hz1
  clear hz1
  clear hb
  have Fareqs_1 := Lib.hid hoareqs
  clear hoareqs
  go_wp2_with fail
  go_at_call 16
  refine (toInt_any Ato0 cto0 to0 _ hnto0 (HRto0.out.stays B1.out)).mono ?_
  rintro e w2 ⟨v2, rfl, ho, hb⟩
  have hoato0 : w2.ownsRow w1.heap.size 3 1 v2 to0.length (ivs to0) := ho
  obtain ⟨Aato0, cato0, rfl, hcato0, _, _⟩ := Law.own_len hoato0
  have Iato0 : Hid (In w1.heap.size w2.heap.size Aato0) := In.of hoato0
  clear ho
  have hz2 : Below w1.heap.size w1 w2 := by first | exact hb | exact Law.undraw hb
  have S2 : Hid (w1.heap.size ≤ w2.heap.size) := hz2.size
  have B2 : Hid (Below w.heap.size w w2) := Law.then_ B1.out hz2
  have Fareqs_2 := Lib.hid (own_on Fareqs_1.out hz2)
  clear hz2
  clear hb
  have Fato0_2 := Lib.hid hoato0
  clear hoato0
  go_wp2_with fail
  go_at_call 15
  refine (HG.out Aareqs careqs Aato0 cato0 _ (Law.Row.own Fareqs_2.out) (Law.Row.own Fato0_2.out)).mono ?_
  rintro e w3 ⟨v3, rfl, ho, hb⟩
  simp only [] at ho
  have hoW : w3.ownsRow w2.heap.size 3 1 v3 ps.length (ivs ps) := ho
  obtain ⟨AW, cW, rfl, hcW, _, _⟩ := Law.own_len hoW
  have IW : Hid (In w2.heap.size w3.heap.size AW) := In.of hoW
  clear ho
  have hz3 : Below w2.heap.size w2 w3 := by first | exact hb | exact Law.undraw hb
  have S3 : Hid (w2.heap.size ≤ w3.heap.size) := hz3.size
  have B3 : Hid (Below w.heap.size w w3) := Law.then_ B2.out hz3
  have Fareqs_3 := Lib.hid (own_on Fareqs_2.out hz3)
  have Fato0_3 := Lib.hid (own_on Fato0_2.out hz3)
  clear hz3
  clear hb
  have FW_3 := Lib.hid hoW
  clear hoW
  have FWr := Lib.hid (Law.Row.own FW_3.out)
  clear FW_3
  have FW_3 := FWr
  clear FWr
  go_wp2_with fail
  go_at_call 16
  refine (toInt_any Areqs creqs reqs _ hnreqs (HRreqs.out.stays B3.out)).mono ?_
  rintro e w4 ⟨v4, rfl, ho, hb⟩
  have hoxreqs : w4.ownsRow w3.heap.size 3 1 v4 reqs.length (ivs reqs) := ho
  obtain ⟨Axreqs, cxreqs, rfl, hcxreqs, _, _⟩ := Law.own_len hoxreqs
  have Ixreqs : Hid (In w3.heap.size w4.heap.size Axreqs) := In.of hoxreqs
  clear ho
  have hz4 : Below w3.heap.size w3 w4 := by first | exact hb | exact Law.undraw hb
  have S4 : Hid (w3.heap.size ≤ w4.heap.size) := hz4.size
  have B4 : Hid (Below w.heap.size w w4) := Law.then_ B3.out hz4
  have FW_4 := Lib.hid (FW_3.out.stays hz4)
  clear hz4
  clear hb
  have Fxreqs_4 := Lib.hid hoxreqs
  clear hoxreqs
  go_wp2_with fail
  go_at_call 16
  refine (toInt_any Ato0 cto0 to0 _ hnto0 (HRto0.out.stays B4.out)).mono ?_
  rintro e w5 ⟨v5, rfl, ho, hb⟩
  have hoxto0 : w5.ownsRow w4.heap.size 3 1 v5 to0.length (ivs to0) := ho
  obtain ⟨Axto0, cxto0, rfl, hcxto0, _, _⟩ := Law.own_len hoxto0
  have Ixto0 : Hid (In w4.heap.size w5.heap.size Axto0) := In.of hoxto0
  clear ho
  have hz5 : Below w4.heap.size w4 w5 := by first | exact hb | exact Law.undraw hb
  have S5 : Hid (w4.heap.size ≤ w5.heap.size) := hz5.size
  have B5 : Hid (Below w.heap.size w w5) := Law.then_ B4.out hz5
  have FW_5 := Lib.hid (FW_4.out.stays hz5)
  have Fxreqs_5 := Lib.hid (own_on Fxreqs_4.out hz5)
  clear hz5
  clear hb
  have Fxto0_5 := Lib.hid hoxto0
  clear hoxto0
  go_wp2_with fail
  go_at_call 17
  refine (HH.out Axreqs cxreqs Axto0 cxto0 _ (Law.Row.own Fxreqs_5.out) (Law.Row.own Fxto0_5.out)).mono ?_
  rintro e w6 ⟨v6, rfl, ho, hb⟩
  simp only [] at ho
  have hoG : w6.ownsRow w5.heap.size 3 1 v6 ps.length (ivs ps) := ho
  obtain ⟨AG, cG, rfl, hcG, _, _⟩ := Law.own_len hoG
  have IG : Hid (In w5.heap.size w6.heap.size AG) := In.of hoG
  clear ho
  have hz6 : Below w5.heap.size w5 w6 := by first | exact hb | exact Law.undraw hb
  have S6 : Hid (w5.heap.size ≤ w6.heap.size) := hz6.size
  have B6 : Hid (Below w.heap.size w w6) := Law.then_ B5.out hz6
  have FW_6 := Lib.hid (FW_5.out.stays hz6)
  have Fxreqs_6 := Lib.hid (own_on Fxreqs_5.out hz6)
  have Fxto0_6 := Lib.hid (own_on Fxto0_5.out hz6)
  clear hz6
  clear hb
  have FG_6 := Lib.hid hoG
  clear hoG
  go_wp2_with fail
  go_at_call 18
  refine (eqInt_same AG AW cG cW ps _ (by omega) (Law.Row.own FG_6.out) (FW_6.out)).mono ?_
  rintro e we1 ⟨rfl, m1, rfl⟩
  cases ok
  all_goals
    go_wp2_with fail
    go_at_call 16
    refine (toInt_any Areqs creqs reqs _ hnreqs (Law.Row.drewN ((HRreqs.out.stays B6.out)) m1)).mono ?_
    rintro e w7 ⟨v7, rfl, ho, hb⟩
    have hoyreqs : w7.ownsRow w6.heap.size 3 1 v7 reqs.length (ivs reqs) := ho
    obtain ⟨Ayreqs, cyreqs, rfl, hcyreqs, _, _⟩ := Law.own_len hoyreqs
    have Iyreqs : Hid (In w6.heap.size w7.heap.size Ayreqs) := In.of hoyreqs
    clear ho
    have hz7 : Below w6.heap.size w6 w7 := by first | exact hb | exact Law.undraw hb
    have S7 : Hid (w6.heap.size ≤ w7.heap.size) := hz7.size
    have B7 : Hid (Below w.heap.size w w7) := Law.then_ B6.out hz7
    have FW_7 := Lib.hid (FW_6.out.stays hz7)
    have Fxreqs_7 := Lib.hid (own_on Fxreqs_6.out hz7)
    have Fxto0_7 := Lib.hid (own_on Fxto0_6.out hz7)
    have FG_7 := Lib.hid (own_on FG_6.out hz7)
    clear hz7
    clear hb
    have Fyreqs_7 := Lib.hid hoyreqs
    clear hoyreqs
    go_wp2_with fail
    go_at_call 18
    refine (eqInt_same Axreqs Ayreqs cxreqs cyreqs reqs _ (by omega) (Law.Row.own Fxreqs_7.out) (Law.Row.own Fyreqs_7.out)).mono ?_
    rintro e we2 ⟨rfl, m2, rfl⟩
    go_wp2_with fail
    go_at_call 16
    refine (toInt_any Ato0 cto0 to0 _ hnto0 (Law.Row.drewN ((HRto0.out.stays B7.out)) m2)).mono ?_
    rintro e w8 ⟨v8, rfl, ho, hb⟩
    have hoyto0 : w8.ownsRow w7.heap.size 3 1 v8 to0.length (ivs to0) := ho
    obtain ⟨Ayto0, cyto0, rfl, hcyto0, _, _⟩ := Law.own_len hoyto0
    have Iyto0 : Hid (In w7.heap.size w8.heap.size Ayto0) := In.of hoyto0
    clear ho
    have hz8 : Below w7.heap.size w7 w8 := by first | exact hb | exact Law.undraw hb
    have S8 : Hid (w7.heap.size ≤ w8.heap.size) := hz8.size
    have B8 : Hid (Below w.heap.size w w8) := Law.then_ B7.out hz8
    have FW_8 := Lib.hid (FW_7.out.stays hz8)
    have Fxreqs_8 := Lib.hid (own_on Fxreqs_7.out hz8)
    have Fxto0_8 := Lib.hid (own_on Fxto0_7.out hz8)
    have FG_8 := Lib.hid (own_on FG_7.out hz8)
    clear hz8
    clear hb
    have Fyto0_8 := Lib.hid hoyto0
    clear hoyto0
    go_wp2_with fail
    go_at_call 18
    refine (eqInt_same Axto0 Ayto0 cxto0 cyto0 to0 _ (by omega) (Law.Row.own Fxto0_8.out) (Law.Row.own Fyto0_8.out)).mono ?_
    rintro e we3 ⟨rfl, m3, rfl⟩
    go_wp2_with fail
    go_at_call 19
    refine (markInt_one _ reqs.length cxreqs _ Axreqs (ivs reqs) w8 (by omega) Fxreqs_8.out).mono ?_
    rintro e w9 ⟨rfl, ho, hb⟩
    clear ho
    have S9 : Hid (w8.heap.size ≤ w9.heap.size) := hb.size
    have B9 : Hid (Below w.heap.size w w9) := B8.out.grown hb (by have s1 := S1.out; have s2 := S2.out; have s3 := S3.out; have s4 := S4.out; have s5 := S5.out; have s6 := S6.out; have s7 := S7.out; have s8 := S8.out; omega) (Ixreqs.out.base (by have s1 := S1.out; have s2 := S2.out; have s3 := S3.out; have s4 := S4.out; have s5 := S5.out; have s6 := S6.out; have s7 := S7.out; have s8 := S8.out; omega))
    have FW_9 := Lib.hid (FW_8.out.far hb IW.out Ixreqs.out (by have s1 := S1.out; have s2 := S2.out; have s3 := S3.out; have s4 := S4.out; have s5 := S5.out; have s6 := S6.out; have s7 := S7.out; have s8 := S8.out; first | exact .inl (by omega) | exact .inr (by omega)))
    have Fxto0_9 := Lib.hid (own_far Fxto0_8.out hb Ixto0.out Ixreqs.out (by have s1 := S1.out; have s2 := S2.out; have s3 := S3.out; have s4 := S4.out; have s5 := S5.out; have s6 := S6.out; have s7 := S7.out; have s8 := S8.out; first | exact .inl (by omega) | exact .inr (by omega)))
    have FG_9 := Lib.hid (own_far FG_8.out hb IG.out Ixreqs.out (by have s1 := S1.out; have s2 := S2.out; have s3 := S3.out; have s4 := S4.out; have s5 := S5.out; have s6 := S6.out; have s7 := S7.out; have s8 := S8.out; first | exact .inl (by omega) | exact .inr (by omega)))
    clear hb
    go_wp2_with fail
    go_at_call 19
    refine (markInt_by _ (1 + reqs.length) to0.length Axto0 cxto0 (ivs to0) w9 (by omega) (by omega) Fxto0_9.out).mono ?_
    rintro e w10 ⟨rfl, ho, hb⟩
    clear ho
    have S10 : Hid (w9.heap.size ≤ w10.heap.size) := hb.size
    have B10 : Hid (Below w.heap.size w w10) := B9.out.grown hb (by have s1 := S1.out; have s2 := S2.out; have s3 := S3.out; have s4 := S4.out; have s5 := S5.out; have s6 := S6.out; have s7 := S7.out; have s8 := S8.out; have s9 := S9.out; omega) (Ixto0.out.base (by have s1 := S1.out; have s2 := S2.out; have s3 := S3.out; have s4 := S4.out; have s5 := S5.out; have s6 := S6.out; have s7 := S7.out; have s8 := S8.out; have s9 := S9.out; omega))
    have FW_10 := Lib.hid (FW_9.out.far hb IW.out Ixto0.out (by have s1 := S1.out; have s2 := S2.out; have s3 := S3.out; have s4 := S4.out; have s5 := S5.out; have s6 := S6.out; have s7 := S7.out; have s8 := S8.out; have s9 := S9.out; first | exact .inl (by omega) | exact .inr (by omega)))
    have FG_10 := Lib.hid (own_far FG_9.out hb IG.out Ixto0.out (by have s1 := S1.out; have s2 := S2.out; have s3 := S3.out; have s4 := S4.out; have s5 := S5.out; have s6 := S6.out; have s7 := S7.out; have s8 := S8.out; have s9 := S9.out; first | exact .inl (by omega) | exact .inr (by omega)))
    clear hb
    go_wp2_with fail
    go_at_call 18
    refine (eqInt_same AG AW cG cW ps _ (by omega) (Law.Row.own FG_10.out) (FW_10.out)).mono ?_
    rintro e we4 ⟨rfl, m4, rfl⟩
    go_wp2_with fail
    go_at_call 19
    refine (markInt_one _ ps.length cG _ AG (ivs ps) w10 (by omega) FG_10.out).mono ?_
    rintro e w11 ⟨rfl, ho, hb⟩
    have FM := Lib.hid (Law.Row.own ho)
    clear ho
    have S11 : Hid (w10.heap.size ≤ w11.heap.size) := hb.size
    have B11 : Hid (Below w.heap.size w w11) := B10.out.grown hb (by have s1 := S1.out; have s2 := S2.out; have s3 := S3.out; have s4 := S4.out; have s5 := S5.out; have s6 := S6.out; have s7 := S7.out; have s8 := S8.out; have s9 := S9.out; have s10 := S10.out; omega) (IG.out.base (by have s1 := S1.out; have s2 := S2.out; have s3 := S3.out; have s4 := S4.out; have s5 := S5.out; have s6 := S6.out; have s7 := S7.out; have s8 := S8.out; have s9 := S9.out; have s10 := S10.out; omega))
    have FW_11 := Lib.hid (FW_10.out.far hb IW.out IG.out (by have s1 := S1.out; have s2 := S2.out; have s3 := S3.out; have s4 := S4.out; have s5 := S5.out; have s6 := S6.out; have s7 := S7.out; have s8 := S8.out; have s9 := S9.out; have s10 := S10.out; first | exact .inl (by omega) | exact .inr (by omega)))
    clear hb
    have FM_11 := FM
    clear FM
    go_wp2_with fail
    go_at_call 20
    refine (heldInt_one ps.length cG AG _ hl (FM_11.out)).mono ?_
    rintro e w12 ⟨rfl, hb⟩
    have hz12 : Below w11.heap.size w11 w12 := by first | exact hb | exact Law.undraw hb
    have S12 : Hid (w11.heap.size ≤ w12.heap.size) := hz12.size
    have B12 : Hid (Below w.heap.size w w12) := Law.then_ B11.out hz12
    have FW_12 := Lib.hid (FW_11.out.stays hz12)
    have FM_12 := Lib.hid (FM_11.out.stays hz12)
    clear hz12
    clear hb
    go_wp2_with fail
    go_at_call 16
    refine (toInt_any Areqs creqs reqs _ hnreqs (HRreqs.out.stays B12.out)).mono ?_
    rintro e w13 ⟨v13, rfl, ho, hb⟩
    have hozreqs : w13.ownsRow w12.heap.size 3 1 v13 reqs.length (ivs reqs) := ho
    obtain ⟨Azreqs, czreqs, rfl, hczreqs, _, _⟩ := Law.own_len hozreqs
    have Izreqs : Hid (In w12.heap.size w13.heap.size Azreqs) := In.of hozreqs
    clear ho
    have hz13 : Below w12.heap.size w12 w13 := by first | exact hb | exact Law.undraw hb
    have S13 : Hid (w12.heap.size ≤ w13.heap.size) := hz13.size
    have B13 : Hid (Below w.heap.size w w13) := Law.then_ B12.out hz13
    have FW_13 := Lib.hid (FW_12.out.stays hz13)
    have FM_13 := Lib.hid (FM_12.out.stays hz13)
    clear hz13
    clear hb
    have Fzreqs_13 := Lib.hid hozreqs
    clear hozreqs
    go_wp2_with fail
    go_at_call 16
    refine (toInt_any Ato0 cto0 to0 _ hnto0 (HRto0.out.stays B13.out)).mono ?_
    rintro e w14 ⟨v14, rfl, ho, hb⟩
    have hozto0 : w14.ownsRow w13.heap.size 3 1 v14 to0.length (ivs to0) := ho
    obtain ⟨Azto0, czto0, rfl, hczto0, _, _⟩ := Law.own_len hozto0
    have Izto0 : Hid (In w13.heap.size w14.heap.size Azto0) := In.of hozto0
    clear ho
    have hz14 : Below w13.heap.size w13 w14 := by first | exact hb | exact Law.undraw hb
    have S14 : Hid (w13.heap.size ≤ w14.heap.size) := hz14.size
    have B14 : Hid (Below w.heap.size w w14) := Law.then_ B13.out hz14
    have FW_14 := Lib.hid (FW_13.out.stays hz14)
    have FM_14 := Lib.hid (FM_13.out.stays hz14)
    have Fzreqs_14 := Lib.hid (own_on Fzreqs_13.out hz14)
    clear hz14
    clear hb
    have Fzto0_14 := Lib.hid hozto0
    clear hozto0
    go_wp2_with fail
    go_at_call 17
    refine (HH.out Azreqs czreqs Azto0 czto0 _ (Law.Row.own Fzreqs_14.out) (Law.Row.own Fzto0_14.out)).mono ?_
    rintro e w15 ⟨v15, rfl, ho, hb⟩
    simp only [] at ho
    have hoH : w15.ownsRow w14.heap.size 3 1 v15 ps.length (ivs ps) := ho
    obtain ⟨AH, cH, rfl, hcH, _, _⟩ := Law.own_len hoH
    have IH : Hid (In w14.heap.size w15.heap.size AH) := In.of hoH
    clear ho
    have hz15 : Below w14.heap.size w14 w15 := by first | exact hb | exact Law.undraw hb
    have S15 : Hid (w14.heap.size ≤ w15.heap.size) := hz15.size
    have B15 : Hid (Below w.heap.size w w15) := Law.then_ B14.out hz15
    have FW_15 := Lib.hid (FW_14.out.stays hz15)
    have FM_15 := Lib.hid (FM_14.out.stays hz15)
    have Fzreqs_15 := Lib.hid (own_on Fzreqs_14.out hz15)
    have Fzto0_15 := Lib.hid (own_on Fzto0_14.out hz15)
    clear hz15
    clear hb
    have FH_15 := Lib.hid hoH
    clear hoH
    go_wp2_with fail
    go_at_call 18
    refine (eqInt_same AH AW cH cW ps _ (by omega) (Law.Row.own FH_15.out) (FW_15.out)).mono ?_
    rintro e we5 ⟨rfl, m5, rfl⟩
    go_wp2_with fail
    go_at_call 20
    refine (heldInt_one ps.length cG AG _ hl ((Law.Row.drewN (FM_15.out) m5))).mono ?_
    rintro e w16 ⟨rfl, hb⟩
    have hz16 : Below w15.heap.size w15 w16 := by first | exact hb | exact Law.undraw hb
    have S16 : Hid (w15.heap.size ≤ w16.heap.size) := hz16.size
    have B16 : Hid (Below w.heap.size w w16) := Law.then_ B15.out hz16
    have FW_16 := Lib.hid (FW_15.out.stays hz16)
    have FM_16 := Lib.hid (FM_15.out.stays hz16)
    clear hz16
    clear hb
    go_wp2
    go_ret
    exact ⟨rfl, B16.out⟩
theorem walk (n : Int) (Areqs : Option Addr) (nreqs creqs : Nat) (reqs : List Int) (Ato0 : Option Addr) (nto0 cto0 : Nat) (to0 : List Int) (w : World) (hn : (Lit.int .i64 n).wf = true) (hreqs : reqs.length = nreqs ∧ nreqs ≤ creqs ∧ creqs ≤ maxLen ∧ (∀ z ∈ reqs, (Lit.int .i64 z).wf = true) ∧ Law.Row w Areqs (reqs.map (Value.int .i64))) (hto0 : to0.length = nto0 ∧ nto0 ≤ cto0 ∧ cto0 ≤ maxLen ∧ (∀ z ∈ to0, (Lit.int .i64 z).wf = true) ∧ Law.Row w Ato0 (to0.map (Value.int .i64))) (hL : laidMetH Try.prog Rows.fnExactRenameRequestsRow.laid w) (hsh : w.ShapedOpen Try.prog) :
    Calls Try.prog 3 #[.int .i64 n, .slice Areqs nreqs creqs, .slice Ato0 nto0 cto0] w fun e w' => e = .returned (.bool true) ∧ Below w.heap.size w w' := by
  obtain ⟨rfl, hAreqs, hBreqs, _, hrreqs⟩ := hreqs
  obtain ⟨rfl, hAto0, hBto0, _, hrto0⟩ := hto0
  clear hL hsh
  by_cases hlreqs : reqs.length ≤ 1048576
  · skip
    by_cases hlto0 : to0.length ≤ 1048576
    · skip
      refine walk_core n reqs to0 Areqs creqs Ato0 cto0 (Q.renQ n reqs to0) w ?_ hlreqs hlto0 hrreqs hrto0 (fun Breqs dreqs Bto0 dto0 W hreqs hto0 => specRen_any n reqs to0 Breqs dreqs hlreqs Bto0 dto0 hlto0 W hreqs hto0) (fun Breqs dreqs Bto0 dto0 W hreqs hto0 => impRen_any n reqs to0 Breqs dreqs hlreqs Bto0 dto0 hlto0 W hreqs hto0)
      exact lenX n reqs to0
    · have hIto0 : ¬ (to0.length : Int) ≤ 1048576 := by omega
      have hIreqs : (reqs.length : Int) ≤ 1048576 := by omega
      clear hrreqs hrto0
      go_enter Try.func3, Try.ntmps3
      go_wp2
      go_ret
      exact ⟨rfl, Below.refl _ _⟩
  · have hIreqs : ¬ (reqs.length : Int) ≤ 1048576 := by omega
    clear hrreqs hrto0
    go_enter Try.func3, Try.ntmps3
    go_wp2
    go_ret
    exact ⟨rfl, Below.refl _ _⟩
theorem lawOwn : ownKnob Try.prog.godebug = none := by kernel_rfl
theorem lawLaidOut : laidOutB Try.prog = true := by kernel_rfl
set_option maxRecDepth 100000 in
theorem contract (H : Type) (enc : TypeId × Value → H) (W : World) (base : Nat) (args : Array Value) (ds : List (DataW H)) (gs : List (DataW H)) (before : List MemPlace)
    (hval0 : ∀ (j : Nat) t v, Try.f3.params[j]? = some t → args[j]? = some v → Value.okWide Try.prog W .any base t v)
    (hW : DataW.Whole enc Try.prog Try.f3.params.toList Rows.fnExactRenameRequestsSpec.vars false W args.toList ds gs before) (hL : laidMetH Try.prog Rows.fnExactRenameRequestsRow.laid W) (hsh : W.ShapedOpen Try.prog) :
    Calls Try.prog 3 args W fun e W' => ∃ v, e = .returned v ∧ Rows.fnExactRenameRequestsSpec.post enc Try.prog Try.f3 false true false false W args v W' := by
  have hval : ∀ (j : Nat) t v, Try.f3.params[j]? = some t → args[j]? = some v → Value.okWide Try.prog W .any base t v := hval0
  have hW' := hW
  obtain ⟨p, q, hA0, hV, rfl, hfz, hnd⟩ := hW
  have hA : DataW.TrodAll enc Try.prog W 0 (fun _ => true) true Try.f3.params.toList args.toList ds p := hA0
  rw [Try.params3] at hA hval
  obtain ⟨v0, vs0, d0, ds0, p0, q0, hargs0, rfl, rfl, h0, r0⟩ := trodAll_cons hA
  obtain ⟨v1, vs1, d1, ds1, p1, q1, hargs1, rfl, rfl, h1, r1⟩ := trodAll_cons r0
  obtain ⟨v2, vs2, d2, ds2, p2, q2, hargs2, rfl, rfl, h2, r2⟩ := trodAll_cons r1
  obtain ⟨rfl, rfl, rfl⟩ := trodAll_nil r2
  obtain rfl : args = #[v0, v1, v2] := by cases args; simp_all
  obtain ⟨rfl, rfl⟩ := trodVars_none hV
  obtain ⟨a0, rfl, rfl, rfl, w0⟩ := open_int Try.underlying3 (hval 0 3 v0 rfl rfl) h0
  obtain ⟨A1, n1, c1, xs1, rfl, w1⟩ := Law.in_ints Try.underlying22 Try.underlying3 (by kernel_rfl) (hval 1 22 v1 rfl rfl) h1 (fun x hx => hW'.lt x (by simp [hx]))
  obtain ⟨A2, n2, c2, xs2, rfl, w2⟩ := Law.in_ints Try.underlying22 Try.underlying3 (by kernel_rfl) (hval 2 22 v2 rfl rfl) h2 (fun x hx => hW'.lt x (by simp [hx]))
  clear hA0 hval0
  refine (walk a0 A1 n1 c1 xs1 A2 n2 c2 xs2 W w0 w1 w2 hL hsh).mono fun e W' ⟨he, hb⟩ => ?_
  subst he
  exact ⟨_, rfl, Law.close hW' rfl rfl lawLaidOut (by kernel_rfl) Try.underlying4 (by kernel_rfl) hb⟩
theorem reads (os : Os) {H : Type} (enc : TypeId × Value → H) : ∃ places, DataW.whole enc Try.prog ((World.holding Try.prog os ⟨#[], #[], []⟩).forCall (fun _ _ => 0) ⟨#[], #[.int .i64 0, .slice none 0 0, .slice none 0 0], []⟩).memory Try.f3.params.toList Rows.fnExactRenameRequestsSpec.vars false (#[.int .i64 0, .slice none 0 0, .slice none 0 0] : Array Value).toList 8 = some ([.lit (.int .i64 0), .nil, .nil], [], places) :=
  ⟨[], by kernel_rfl⟩
set_option maxRecDepth 100000 in
theorem lifted (os : Os) (started : os.Started) (H : Type) (enc : TypeId × Value → H) (F : Stop.Interp) :
    ReturnsInHanded {} Try.checked os 3 .any ((OpenSpec.ofChange Rows.fnExactRenameRequestsSpec).preRow enc Try.prog Try.f3 Rows.fnExactRenameRequestsRow.domain false Rows.fnExactRenameRequestsRow.laid) (((OpenSpec.ofChange Rows.fnExactRenameRequestsSpec).at F).post enc Try.prog Try.f3 false true false false) := by
  obtain ⟨places, hx⟩ := reads os enc
  refine returnsInHanded_of_row (C := Try.checked) (s := OpenSpec.ofChange Rows.fnExactRenameRequestsSpec) lawOwn started (by kernel_rfl) Try.func3
    (witness_row_at (enc := enc) (C := Try.checked) false (World.holding Try.prog os ⟨#[], #[], []⟩) #[.int .i64 0, .slice none 0 0, .slice none 0 0] rfl (by kernel_rfl) (by kernel_rfl) (by kernel_rfl)
      (OpenSpec.preRow_of_cond 8 hx (by kernel_rfl) (fun k hk => by cases hk) (by kernel_rfl) (laidMet_nil _ _))) ?_
  intro W base args ds gs before hval hW _ _ _ hL hsh _
  exact contract H enc W base args ds gs before hval hW hL hsh
theorem proved : Rows.FnExactRenameRequestsSaid :=
  OpenClaim.holds_of_cond 3 Try.f3 rfl rfl rfl rfl rfl rfl rfl ⟨rfl, rfl, rfl, rfl, rfl⟩ rfl rfl rfl rfl rfl (by kernel_rfl) Try.func3 (by kernel_rfl)
    (of_decide_eq_true (by kernel_rfl)) (by unfold Func.isWrapper; first | (rw [if_pos (by decide +kernel)]; kernel_rfl) | (rw [if_neg (by decide +kernel)]; exact ⟨rfl, rfl⟩))
    (fun os started H enc _ F => by rw [OpenClaim.pre_eq_preRow]; exact lifted os started H enc F)
end LRenameRequests
end Go.Proofs.Ytndjpkeenbbgiaa
