/-
  FnExactWeaveRequests: WeaveRequests answers as the model does, whatever it is given, and hands out a row of its own.
  Conditions: none.
-/
import Derived.Test.YtgnfmbdomofgcabRows
import Derived.Test.YtgnfmbdomofgcabChecked
import Derived.Test.YtgnfmbdomofgcabWeaveI
import Derived.Test.YtgnfmbdomofgcabMarkI
import Derived.Deep.DeepHandedRow
import Derived.Stop.Joined
namespace Go.Proofs.Ytgnfmbdomofgcab
open Go.RowKit Go.ChangeShapes Go.WideShapes
set_option linter.unusedVariables false
namespace LWeaveRequests
set_option maxHeartbeats 6400000 in
theorem walk_core (n : Int) (a : List Int) (b : List Int) (Aa : Option Addr) (ca : Nat) (Ab : Option Addr) (cb : Nat) (X : List Int × Bool) (w : World) (hl : X.1.length ≤ 1048576) (hna : a.length ≤ 1048576) (hnb : b.length ≤ 1048576) (HRa : Hid (Law.Row w Aa (ivs a))) (HRb : Hid (Law.Row w Ab (ivs b)))
    (HG : Hid (∀ (Ba : Option Addr) (da : Nat) (Bb : Option Addr) (db : Nat) (W : World), a.length ≤ da → Law.Row W Ba (ivs a) → b.length ≤ db → Law.Row W Bb (ivs b) → Calls Try.prog 26 #[.int .i64 n, .slice Ba a.length da, .slice Bb b.length db] W (rowSays X W)))
    (HH : Hid (∀ (Ba : Option Addr) (da : Nat) (Bb : Option Addr) (db : Nat) (W : World), a.length ≤ da → Law.Row W Ba (ivs a) → b.length ≤ db → Law.Row W Bb (ivs b) → Calls Try.prog 27 #[.int .i64 n, .slice Ba a.length da, .slice Bb b.length db] W (rowSays X W))) :
    Calls Try.prog 9 #[.int .i64 n, .slice Aa a.length ca, .slice Ab b.length cb] w fun e w' => e = .returned (.bool true) ∧ Below w.heap.size w w' := by
  obtain ⟨ps, ok⟩ := X
  simp only [] at hl
  have hIa : (a.length : Int) ≤ 1048576 := by omega
  have hIb : (b.length : Int) ≤ 1048576 := by omega
  go_enter Try.func9, Try.ntmps9
  go_wp2_with fail
  go_at_call 11
  refine (toInt_any Aa ca a _ hna HRa.out).mono ?_
  rintro e w1 ⟨v1, rfl, ho, hb⟩
  have hoaa : w1.ownsRow w.heap.size 3 1 v1 a.length (ivs a) := ho
  obtain ⟨Aaa, caa, rfl, hcaa, _, _⟩ := Law.own_len hoaa
  have Iaa : Hid (In w.heap.size w1.heap.size Aaa) := In.of hoaa
  clear ho
  have hz1 : Below w.heap.size w w1 := by first | exact hb | exact Law.undraw hb
  have S1 : Hid (w.heap.size ≤ w1.heap.size) := hz1.size
  have B1 : Hid (Below w.heap.size w w1) := hz1
  clear hz1
  clear hb
  have Faa_1 := Lib.hid hoaa
  clear hoaa
  go_wp2_with fail
  go_at_call 11
  refine (toInt_any Ab cb b _ hnb (HRb.out.stays B1.out)).mono ?_
  rintro e w2 ⟨v2, rfl, ho, hb⟩
  have hoab : w2.ownsRow w1.heap.size 3 1 v2 b.length (ivs b) := ho
  obtain ⟨Aab, cab, rfl, hcab, _, _⟩ := Law.own_len hoab
  have Iab : Hid (In w1.heap.size w2.heap.size Aab) := In.of hoab
  clear ho
  have hz2 : Below w1.heap.size w1 w2 := by first | exact hb | exact Law.undraw hb
  have S2 : Hid (w1.heap.size ≤ w2.heap.size) := hz2.size
  have B2 : Hid (Below w.heap.size w w2) := Law.then_ B1.out hz2
  have Faa_2 := Lib.hid (own_on Faa_1.out hz2)
  clear hz2
  clear hb
  have Fab_2 := Lib.hid hoab
  clear hoab
  go_wp2_with fail
  go_at_call 26
  refine (HG.out Aaa caa Aab cab _ hcaa (Law.Row.own Faa_2.out) hcab (Law.Row.own Fab_2.out)).mono ?_
  rintro e w3 ⟨v3, rfl, ho, hb⟩
  simp only [] at ho
  have hoW : w3.ownsRow w2.heap.size 3 1 v3 ps.length (ivs ps) := ho
  obtain ⟨AW, cW, rfl, hcW, _, _⟩ := Law.own_len hoW
  have IW : Hid (In w2.heap.size w3.heap.size AW) := In.of hoW
  clear ho
  have hz3 : Below w2.heap.size w2 w3 := by first | exact hb | exact Law.undraw hb
  have S3 : Hid (w2.heap.size ≤ w3.heap.size) := hz3.size
  have B3 : Hid (Below w.heap.size w w3) := Law.then_ B2.out hz3
  have Faa_3 := Lib.hid (own_on Faa_2.out hz3)
  have Fab_3 := Lib.hid (own_on Fab_2.out hz3)
  clear hz3
  clear hb
  have FW_3 := Lib.hid hoW
  clear hoW
  have FWr := Lib.hid (Law.Row.own FW_3.out)
  clear FW_3
  have FW_3 := FWr
  clear FWr
  go_wp2_with fail
  go_at_call 11
  refine (toInt_any Aa ca a _ hna (HRa.out.stays B3.out)).mono ?_
  rintro e w4 ⟨v4, rfl, ho, hb⟩
  have hoxa : w4.ownsRow w3.heap.size 3 1 v4 a.length (ivs a) := ho
  obtain ⟨Axa, cxa, rfl, hcxa, _, _⟩ := Law.own_len hoxa
  have Ixa : Hid (In w3.heap.size w4.heap.size Axa) := In.of hoxa
  clear ho
  have hz4 : Below w3.heap.size w3 w4 := by first | exact hb | exact Law.undraw hb
  have S4 : Hid (w3.heap.size ≤ w4.heap.size) := hz4.size
  have B4 : Hid (Below w.heap.size w w4) := Law.then_ B3.out hz4
  have FW_4 := Lib.hid (FW_3.out.stays hz4)
  clear hz4
  clear hb
  have Fxa_4 := Lib.hid hoxa
  clear hoxa
  go_wp2_with fail
  go_at_call 11
  refine (toInt_any Ab cb b _ hnb (HRb.out.stays B4.out)).mono ?_
  rintro e w5 ⟨v5, rfl, ho, hb⟩
  have hoxb : w5.ownsRow w4.heap.size 3 1 v5 b.length (ivs b) := ho
  obtain ⟨Axb, cxb, rfl, hcxb, _, _⟩ := Law.own_len hoxb
  have Ixb : Hid (In w4.heap.size w5.heap.size Axb) := In.of hoxb
  clear ho
  have hz5 : Below w4.heap.size w4 w5 := by first | exact hb | exact Law.undraw hb
  have S5 : Hid (w4.heap.size ≤ w5.heap.size) := hz5.size
  have B5 : Hid (Below w.heap.size w w5) := Law.then_ B4.out hz5
  have FW_5 := Lib.hid (FW_4.out.stays hz5)
  have Fxa_5 := Lib.hid (own_on Fxa_4.out hz5)
  clear hz5
  clear hb
  have Fxb_5 := Lib.hid hoxb
  clear hoxb
  go_wp2_with fail
  go_at_call 27
  refine (HH.out Axa cxa Axb cxb _ hcxa (Law.Row.own Fxa_5.out) hcxb (Law.Row.own Fxb_5.out)).mono ?_
  rintro e w6 ⟨v6, rfl, ho, hb⟩
  simp only [] at ho
  have hoG : w6.ownsRow w5.heap.size 3 1 v6 ps.length (ivs ps) := ho
  obtain ⟨AG, cG, rfl, hcG, _, _⟩ := Law.own_len hoG
  have IG : Hid (In w5.heap.size w6.heap.size AG) := In.of hoG
  clear ho
  have hz6 : Below w5.heap.size w5 w6 := by first | exact hb | exact Law.undraw hb
  have S6 : Hid (w5.heap.size ≤ w6.heap.size) := hz6.size
  have B6 : Hid (Below w.heap.size w w6) := Law.then_ B5.out hz6
  have FW_6 := Lib.hid (FW_5.out.stays hz6)
  have Fxa_6 := Lib.hid (own_on Fxa_5.out hz6)
  have Fxb_6 := Lib.hid (own_on Fxb_5.out hz6)
  clear hz6
  clear hb
  have FG_6 := Lib.hid hoG
  clear hoG
  go_wp2_with fail
  go_at_call 13
  refine (eqInt_same AG AW cG cW ps _ (by omega) (Law.Row.own FG_6.out) (FW_6.out)).mono ?_
  rintro e we1 ⟨rfl, m1, rfl⟩
  cases ok
  all_goals
    go_wp2_with fail
    go_at_call 11
    refine (toInt_any Aa ca a _ hna (Law.Row.drewN ((HRa.out.stays B6.out)) m1)).mono ?_
    rintro e w7 ⟨v7, rfl, ho, hb⟩
    have hoya : w7.ownsRow w6.heap.size 3 1 v7 a.length (ivs a) := ho
    obtain ⟨Aya, cya, rfl, hcya, _, _⟩ := Law.own_len hoya
    have Iya : Hid (In w6.heap.size w7.heap.size Aya) := In.of hoya
    clear ho
    have hz7 : Below w6.heap.size w6 w7 := by first | exact hb | exact Law.undraw hb
    have S7 : Hid (w6.heap.size ≤ w7.heap.size) := hz7.size
    have B7 : Hid (Below w.heap.size w w7) := Law.then_ B6.out hz7
    have FW_7 := Lib.hid (FW_6.out.stays hz7)
    have Fxa_7 := Lib.hid (own_on Fxa_6.out hz7)
    have Fxb_7 := Lib.hid (own_on Fxb_6.out hz7)
    have FG_7 := Lib.hid (own_on FG_6.out hz7)
    clear hz7
    clear hb
    have Fya_7 := Lib.hid hoya
    clear hoya
    go_wp2_with fail
    go_at_call 13
    refine (eqInt_same Axa Aya cxa cya a _ (by omega) (Law.Row.own Fxa_7.out) (Law.Row.own Fya_7.out)).mono ?_
    rintro e we2 ⟨rfl, m2, rfl⟩
    go_wp2_with fail
    go_at_call 11
    refine (toInt_any Ab cb b _ hnb (Law.Row.drewN ((HRb.out.stays B7.out)) m2)).mono ?_
    rintro e w8 ⟨v8, rfl, ho, hb⟩
    have hoyb : w8.ownsRow w7.heap.size 3 1 v8 b.length (ivs b) := ho
    obtain ⟨Ayb, cyb, rfl, hcyb, _, _⟩ := Law.own_len hoyb
    have Iyb : Hid (In w7.heap.size w8.heap.size Ayb) := In.of hoyb
    clear ho
    have hz8 : Below w7.heap.size w7 w8 := by first | exact hb | exact Law.undraw hb
    have S8 : Hid (w7.heap.size ≤ w8.heap.size) := hz8.size
    have B8 : Hid (Below w.heap.size w w8) := Law.then_ B7.out hz8
    have FW_8 := Lib.hid (FW_7.out.stays hz8)
    have Fxa_8 := Lib.hid (own_on Fxa_7.out hz8)
    have Fxb_8 := Lib.hid (own_on Fxb_7.out hz8)
    have FG_8 := Lib.hid (own_on FG_7.out hz8)
    clear hz8
    clear hb
    have Fyb_8 := Lib.hid hoyb
    clear hoyb
    go_wp2_with fail
    go_at_call 13
    refine (eqInt_same Axb Ayb cxb cyb b _ (by omega) (Law.Row.own Fxb_8.out) (Law.Row.own Fyb_8.out)).mono ?_
    rintro e we3 ⟨rfl, m3, rfl⟩
    go_wp2_with fail
    go_at_call 14
    refine (markInt_one _ a.length cxa _ Axa (ivs a) w8 (by omega) Fxa_8.out).mono ?_
    rintro e w9 ⟨rfl, ho, hb⟩
    clear ho
    have S9 : Hid (w8.heap.size ≤ w9.heap.size) := hb.size
    have B9 : Hid (Below w.heap.size w w9) := B8.out.grown hb (by have s1 := S1.out; have s2 := S2.out; have s3 := S3.out; have s4 := S4.out; have s5 := S5.out; have s6 := S6.out; have s7 := S7.out; have s8 := S8.out; omega) (Ixa.out.base (by have s1 := S1.out; have s2 := S2.out; have s3 := S3.out; have s4 := S4.out; have s5 := S5.out; have s6 := S6.out; have s7 := S7.out; have s8 := S8.out; omega))
    have FW_9 := Lib.hid (FW_8.out.far hb IW.out Ixa.out (by have s1 := S1.out; have s2 := S2.out; have s3 := S3.out; have s4 := S4.out; have s5 := S5.out; have s6 := S6.out; have s7 := S7.out; have s8 := S8.out; first | exact .inl (by omega) | exact .inr (by omega)))
    have Fxb_9 := Lib.hid (own_far Fxb_8.out hb Ixb.out Ixa.out (by have s1 := S1.out; have s2 := S2.out; have s3 := S3.out; have s4 := S4.out; have s5 := S5.out; have s6 := S6.out; have s7 := S7.out; have s8 := S8.out; first | exact .inl (by omega) | exact .inr (by omega)))
    have FG_9 := Lib.hid (own_far FG_8.out hb IG.out Ixa.out (by have s1 := S1.out; have s2 := S2.out; have s3 := S3.out; have s4 := S4.out; have s5 := S5.out; have s6 := S6.out; have s7 := S7.out; have s8 := S8.out; first | exact .inl (by omega) | exact .inr (by omega)))
    clear hb
    go_wp2_with fail
    go_at_call 14
    refine (markInt_by _ (1 + a.length) b.length Axb cxb (ivs b) w9 (by omega) (by omega) Fxb_9.out).mono ?_
    rintro e w10 ⟨rfl, ho, hb⟩
    clear ho
    have S10 : Hid (w9.heap.size ≤ w10.heap.size) := hb.size
    have B10 : Hid (Below w.heap.size w w10) := B9.out.grown hb (by have s1 := S1.out; have s2 := S2.out; have s3 := S3.out; have s4 := S4.out; have s5 := S5.out; have s6 := S6.out; have s7 := S7.out; have s8 := S8.out; have s9 := S9.out; omega) (Ixb.out.base (by have s1 := S1.out; have s2 := S2.out; have s3 := S3.out; have s4 := S4.out; have s5 := S5.out; have s6 := S6.out; have s7 := S7.out; have s8 := S8.out; have s9 := S9.out; omega))
    have FW_10 := Lib.hid (FW_9.out.far hb IW.out Ixb.out (by have s1 := S1.out; have s2 := S2.out; have s3 := S3.out; have s4 := S4.out; have s5 := S5.out; have s6 := S6.out; have s7 := S7.out; have s8 := S8.out; have s9 := S9.out; first | exact .inl (by omega) | exact .inr (by omega)))
    have FG_10 := Lib.hid (own_far FG_9.out hb IG.out Ixb.out (by have s1 := S1.out; have s2 := S2.out; have s3 := S3.out; have s4 := S4.out; have s5 := S5.out; have s6 := S6.out; have s7 := S7.out; have s8 := S8.out; have s9 := S9.out; first | exact .inl (by omega) | exact .inr (by omega)))
    clear hb
    go_wp2_with fail
    go_at_call 13
    refine (eqInt_same AG AW cG cW ps _ (by omega) (Law.Row.own FG_10.out) (FW_10.out)).mono ?_
    rintro e we4 ⟨rfl, m4, rfl⟩
    go_wp2_with fail
    go_at_call 14
    refine (markInt_one _ ps.length cG _ AG (ivs ps) w10 (by omega) FG_10.out).mono ?_
    rintro e w11 ⟨rfl, ho, hb⟩
    have FM := Lib.hid (Law.Row.own ho)
    clear ho
    have S11 : Hid (w10.heap.size ≤ w11.heap.size) := hb.size
    have B11 : Hid (Below w.heap.size w w11) := B10.out.grown hb (by have s1 := S1.out; have s2 := S2.out; have s3 := S3.out; have s4 := S4.out; have s5 := S5.out; have s6 := S6.out; have s7 := S7.out; have s8 := S8.out; have s9 := S9.out; have s10 := S10.out; omega) (IG.out.base (by have s1 := S1.out; have s2 := S2.out; have s3 := S3.out; have s4 := S4.out; have s5 := S5.out; have s6 := S6.out; have s7 := S7.out; have s8 := S8.out; have s9 := S9.out; have s10 := S10.out; omega))
    have FW_11 := Lib.hid (FW_10.out.far hb IW.out IG.out (by have s1 := S1.out; have s2 := S2.out; have s3 := S3.out; have s4 := S4.out; have s5 := S5.out; have s6 := S6.out; have s7 := S7.out; have s8 := S8.out; have s9 := S9.out; have s10 := S10.out; first | exact .inl (by omega) | exact .inr (by omega)))
    clear hb
    have FM_11 := FM
    clear FM
    go_wp2_with fail
    go_at_call 15
    refine (heldInt_one ps.length cG AG _ hl (FM_11.out)).mono ?_
    rintro e w12 ⟨rfl, hb⟩
    have hz12 : Below w11.heap.size w11 w12 := by first | exact hb | exact Law.undraw hb
    have S12 : Hid (w11.heap.size ≤ w12.heap.size) := hz12.size
    have B12 : Hid (Below w.heap.size w w12) := Law.then_ B11.out hz12
    have FW_12 := Lib.hid (FW_11.out.stays hz12)
    have FM_12 := Lib.hid (FM_11.out.stays hz12)
    clear hz12
    clear hb
    go_wp2_with fail
    go_at_call 11
    refine (toInt_any Aa ca a _ hna (HRa.out.stays B12.out)).mono ?_
    rintro e w13 ⟨v13, rfl, ho, hb⟩
    have hoza : w13.ownsRow w12.heap.size 3 1 v13 a.length (ivs a) := ho
    obtain ⟨Aza, cza, rfl, hcza, _, _⟩ := Law.own_len hoza
    have Iza : Hid (In w12.heap.size w13.heap.size Aza) := In.of hoza
    clear ho
    have hz13 : Below w12.heap.size w12 w13 := by first | exact hb | exact Law.undraw hb
    have S13 : Hid (w12.heap.size ≤ w13.heap.size) := hz13.size
    have B13 : Hid (Below w.heap.size w w13) := Law.then_ B12.out hz13
    have FW_13 := Lib.hid (FW_12.out.stays hz13)
    have FM_13 := Lib.hid (FM_12.out.stays hz13)
    clear hz13
    clear hb
    have Fza_13 := Lib.hid hoza
    clear hoza
    go_wp2_with fail
    go_at_call 11
    refine (toInt_any Ab cb b _ hnb (HRb.out.stays B13.out)).mono ?_
    rintro e w14 ⟨v14, rfl, ho, hb⟩
    have hozb : w14.ownsRow w13.heap.size 3 1 v14 b.length (ivs b) := ho
    obtain ⟨Azb, czb, rfl, hczb, _, _⟩ := Law.own_len hozb
    have Izb : Hid (In w13.heap.size w14.heap.size Azb) := In.of hozb
    clear ho
    have hz14 : Below w13.heap.size w13 w14 := by first | exact hb | exact Law.undraw hb
    have S14 : Hid (w13.heap.size ≤ w14.heap.size) := hz14.size
    have B14 : Hid (Below w.heap.size w w14) := Law.then_ B13.out hz14
    have FW_14 := Lib.hid (FW_13.out.stays hz14)
    have FM_14 := Lib.hid (FM_13.out.stays hz14)
    have Fza_14 := Lib.hid (own_on Fza_13.out hz14)
    clear hz14
    clear hb
    have Fzb_14 := Lib.hid hozb
    clear hozb
    go_wp2_with fail
    go_at_call 27
    refine (HH.out Aza cza Azb czb _ hcza (Law.Row.own Fza_14.out) hczb (Law.Row.own Fzb_14.out)).mono ?_
    rintro e w15 ⟨v15, rfl, ho, hb⟩
    simp only [] at ho
    have hoH : w15.ownsRow w14.heap.size 3 1 v15 ps.length (ivs ps) := ho
    obtain ⟨AH, cH, rfl, hcH, _, _⟩ := Law.own_len hoH
    have IH : Hid (In w14.heap.size w15.heap.size AH) := In.of hoH
    clear ho
    have hz15 : Below w14.heap.size w14 w15 := by first | exact hb | exact Law.undraw hb
    have S15 : Hid (w14.heap.size ≤ w15.heap.size) := hz15.size
    have B15 : Hid (Below w.heap.size w w15) := Law.then_ B14.out hz15
    have FW_15 := Lib.hid (FW_14.out.stays hz15)
    have FM_15 := Lib.hid (FM_14.out.stays hz15)
    have Fza_15 := Lib.hid (own_on Fza_14.out hz15)
    have Fzb_15 := Lib.hid (own_on Fzb_14.out hz15)
    clear hz15
    clear hb
    have FH_15 := Lib.hid hoH
    clear hoH
    go_wp2_with fail
    go_at_call 13
    refine (eqInt_same AH AW cH cW ps _ (by omega) (Law.Row.own FH_15.out) (FW_15.out)).mono ?_
    rintro e we5 ⟨rfl, m5, rfl⟩
    go_wp2_with fail
    go_at_call 15
    refine (heldInt_one ps.length cG AG _ hl ((Law.Row.drewN (FM_15.out) m5))).mono ?_
    rintro e w16 ⟨rfl, hb⟩
    have hz16 : Below w15.heap.size w15 w16 := by first | exact hb | exact Law.undraw hb
    have S16 : Hid (w15.heap.size ≤ w16.heap.size) := hz16.size
    have B16 : Hid (Below w.heap.size w w16) := Law.then_ B15.out hz16
    have FW_16 := Lib.hid (FW_15.out.stays hz16)
    have FM_16 := Lib.hid (FM_15.out.stays hz16)
    clear hz16
    clear hb
    go_wp2
    go_ret
    exact ⟨rfl, B16.out⟩
theorem walk (n : Int) (Aa : Option Addr) (na ca : Nat) (a : List Int) (Ab : Option Addr) (nb cb : Nat) (b : List Int) (w : World) (hn : (Lit.int .i64 n).wf = true) (ha : a.length = na ∧ na ≤ ca ∧ ca ≤ maxLen ∧ (∀ z ∈ a, (Lit.int .i64 z).wf = true) ∧ Law.Row w Aa (a.map (Value.int .i64))) (hb : b.length = nb ∧ nb ≤ cb ∧ cb ≤ maxLen ∧ (∀ z ∈ b, (Lit.int .i64 z).wf = true) ∧ Law.Row w Ab (b.map (Value.int .i64))) (hL : laidMetH Try.prog Rows.fnExactWeaveRequestsRow.laid w) (hsh : w.ShapedOpen Try.prog) :
    Calls Try.prog 9 #[.int .i64 n, .slice Aa na ca, .slice Ab nb cb] w fun e w' => e = .returned (.bool true) ∧ Below w.heap.size w w' := by
  obtain ⟨rfl, hAa, hBa, _, hra⟩ := ha
  obtain ⟨rfl, hAb, hBb, _, hrb⟩ := hb
  clear hL hsh
  by_cases hla : a.length ≤ 1048576
  · skip
    by_cases hlb : b.length ≤ 1048576
    · skip
      refine walk_core n a b Aa ca Ab cb (Q.weaveQ n a b) w ?_ hla hlb hra hrb (fun Ba da Bb db W qa ha qb hb => specWeave_any n a b Ba da hla Bb db hlb W qa ha qb hb) (fun Ba da Bb db W qa ha qb hb => impWeave_any n a b Ba da hla Bb db hlb W qa ha qb hb)
      exact lenX n a b
    · have hIb : ¬ (b.length : Int) ≤ 1048576 := by omega
      have hIa : (a.length : Int) ≤ 1048576 := by omega
      clear hra hrb
      go_enter Try.func9, Try.ntmps9
      go_wp2
      go_ret
      exact ⟨rfl, Below.refl _ _⟩
  · have hIa : ¬ (a.length : Int) ≤ 1048576 := by omega
    clear hra hrb
    go_enter Try.func9, Try.ntmps9
    go_wp2
    go_ret
    exact ⟨rfl, Below.refl _ _⟩
theorem lawOwn : ownKnob Try.prog.godebug = none := by kernel_rfl
theorem lawLaidOut : laidOutB Try.prog = true := by kernel_rfl
theorem contract (H : Type) (enc : TypeId × Value → H) (W : World) (base : Nat) (args : Array Value) (ds : List (DataW H)) (gs : List (DataW H)) (before : List MemPlace)
    (hval0 : ∀ (j : Nat) t v, Try.f9.params[j]? = some t → args[j]? = some v → Value.okWide Try.prog W .any base t v)
    (hW : DataW.Whole enc Try.prog Try.f9.params.toList Rows.fnExactWeaveRequestsSpec.vars false W args.toList ds gs before) (hL : laidMetH Try.prog Rows.fnExactWeaveRequestsRow.laid W) (hsh : W.ShapedOpen Try.prog) :
    Calls Try.prog 9 args W fun e W' => ∃ v, e = .returned v ∧ Rows.fnExactWeaveRequestsSpec.post enc Try.prog Try.f9 false true false false W args v W' := by
  have hval : ∀ (j : Nat) t v, Try.f9.params[j]? = some t → args[j]? = some v → Value.okWide Try.prog W .any base t v := hval0
  have hW' := hW
  obtain ⟨p, q, hA0, hV, rfl, hfz, hnd⟩ := hW
  have hA : DataW.TrodAll enc Try.prog W 0 (fun _ => true) true Try.f9.params.toList args.toList ds p := hA0
  rw [Try.params9] at hA hval
  obtain ⟨v0, vs0, d0, ds0, p0, q0, hargs0, rfl, rfl, h0, r0⟩ := trodAll_cons hA
  obtain ⟨v1, vs1, d1, ds1, p1, q1, hargs1, rfl, rfl, h1, r1⟩ := trodAll_cons r0
  obtain ⟨v2, vs2, d2, ds2, p2, q2, hargs2, rfl, rfl, h2, r2⟩ := trodAll_cons r1
  obtain ⟨rfl, rfl, rfl⟩ := trodAll_nil r2
  obtain rfl : args = #[v0, v1, v2] := by cases args; simp_all
  obtain ⟨rfl, rfl⟩ := trodVars_none hV
  obtain ⟨a0, rfl, rfl, rfl, w0⟩ := open_int Try.underlying3 (hval 0 3 v0 rfl rfl) h0
  obtain ⟨A1, n1, c1, xs1, rfl, w1⟩ := Law.in_ints Try.underlying22 Try.underlying3 (by kernel_rfl) (hval 1 22 v1 rfl rfl) h1 (fun x hx => hW'.lt x (by simp [hx]))
  obtain ⟨A2, n2, c2, xs2, rfl, w2⟩ := Law.in_ints Try.underlying22 Try.underlying3 (by kernel_rfl) (hval 2 22 v2 rfl rfl) h2 (fun x hx => hW'.lt x (by simp [hx]))
  clear hA0 hval0
  refine (walk a0 A1 n1 c1 xs1 A2 n2 c2 xs2 W w0 w1 w2 hL hsh).mono fun e W' ⟨he, hb⟩ => ?_
  subst he
  exact ⟨_, rfl, Law.close hW' rfl rfl lawLaidOut (by kernel_rfl) Try.underlying4 (by kernel_rfl) hb⟩
theorem reads (os : Os) {H : Type} (enc : TypeId × Value → H) : ∃ places, DataW.whole enc Try.prog ((World.holding Try.prog os ⟨#[], #[], []⟩).forCall (fun _ _ => 0) ⟨#[], #[.int .i64 0, .slice none 0 0, .slice none 0 0], []⟩).memory Try.f9.params.toList Rows.fnExactWeaveRequestsSpec.vars false (#[.int .i64 0, .slice none 0 0, .slice none 0 0] : Array Value).toList 8 = some ([.lit (.int .i64 0), .nil, .nil], [], places) :=
  ⟨[], by kernel_rfl⟩
set_option maxRecDepth 100000 in
theorem lifted (os : Os) (started : os.Started) (H : Type) (enc : TypeId × Value → H) (F : Stop.Interp) :
    ReturnsInHanded {} Try.checked os 9 .any ((OpenSpec.ofChange Rows.fnExactWeaveRequestsSpec).preRow enc Try.prog Try.f9 Rows.fnExactWeaveRequestsRow.domain false Rows.fnExactWeaveRequestsRow.laid) (((OpenSpec.ofChange Rows.fnExactWeaveRequestsSpec).at F).post enc Try.prog Try.f9 false true false false) := by
  obtain ⟨places, hx⟩ := reads os enc
  refine returnsInHanded_of_row (C := Try.checked) (s := OpenSpec.ofChange Rows.fnExactWeaveRequestsSpec) lawOwn started (by kernel_rfl) Try.func9
    (witness_row_at (enc := enc) (C := Try.checked) false (World.holding Try.prog os ⟨#[], #[], []⟩) #[.int .i64 0, .slice none 0 0, .slice none 0 0] rfl (by kernel_rfl) (by kernel_rfl) (by kernel_rfl)
      (OpenSpec.preRow_of_cond 8 hx (by kernel_rfl) (fun k hk => by cases hk) (by kernel_rfl) (laidMet_nil _ _))) ?_
  intro W base args ds gs before hval hW _ _ _ hL hsh _
  exact contract H enc W base args ds gs before hval hW hL hsh
theorem proved : Rows.FnExactWeaveRequestsSaid :=
  OpenClaim.holds_of_cond 9 Try.f9 rfl rfl rfl rfl rfl rfl rfl ⟨rfl, rfl, rfl, rfl, rfl⟩ rfl rfl rfl rfl rfl (by kernel_rfl) Try.func9 (by kernel_rfl)
    (of_decide_eq_true (by kernel_rfl)) (by unfold Func.isWrapper; first | (rw [if_pos (by decide +kernel)]; kernel_rfl) | (rw [if_neg (by decide +kernel)]; exact ⟨rfl, rfl⟩))
    (fun os started H enc _ F => by rw [OpenClaim.pre_eq_preRow]; exact lifted os started H enc F)
end LWeaveRequests
end Go.Proofs.Ytgnfmbdomofgcab
