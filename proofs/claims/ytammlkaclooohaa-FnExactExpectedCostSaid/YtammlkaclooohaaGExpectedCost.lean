/-
  The walk of FnExactExpectedCost: ExpectedCost answers as the model does, whatever it is given, and writes into no argument.
  Conditions: none.
-/
import Derived.Test.YtammlkaclooohaaRows
import Derived.Test.YtammlkaclooohaaMgm
import Derived.Test.YtammlkaclooohaaPlw
import Derived.Test.YtammlkaclooohaaMgg
import Derived.Test.YtammlkaclooohaaSzo
import Derived.Test.YtammlkaclooohaaMgh
import Derived.Test.YtammlkaclooohaaMgl
import Derived.Deep.DeepHandedRow
import Derived.Deep.RegionHeld3
import Derived.Deep.DeepCutAuto
namespace Go.Proofs.Ytammlkaclooohaa
open Go.RowKit Go.ChangeShapes Go.WideShapes
set_option linter.unusedVariables false
namespace LExpectedCost
set_option maxRecDepth 20000 in
set_option maxHeartbeats 6400000 in
theorem walk_core (A0 : Option Addr) (c0 : Nat) (xs0 : List Value) (L : List (List Int)) (B0 : Option Addr) (d0 : Nat) (ys0 : List Value) (S : List (List Int)) (V0 : Option Addr) (dv0 : Nat) (ws : List Int) (N0 : Option Addr) (cN0 : Nat) (zs0 : List Value) (C : List (List Int)) (T0 : Option Addr) (cT0 : Nat) (ts0 : List Value) (next : List (List Int)) (start : Int) (X : Int × Int × Bool) (w : World) (hz : (szN L : Int) + (szN S : Int) + (szN next : Int) + (ws.length : Int) + (szN C : Int) ≤ 1048576) (hnL : L.length ≤ maxLen) (hlL : ∀ l ∈ L, l.length ≤ maxLen) (hnS : S.length ≤ maxLen) (hlS : ∀ l ∈ S, l.length ≤ maxLen) (hwm : ws.length ≤ maxLen) (hnC : C.length ≤ maxLen) (hlC : ∀ l ∈ C, l.length ≤ maxLen) (hL : NRow w A0 xs0 L) (hS : NRow w B0 ys0 S) (hV : Law.Row w V0 (ivs ws)) (hN : NRow w N0 zs0 C) (hnT : next.length ≤ maxLen) (hlT : ∀ l ∈ next, l.length ≤ maxLen) (hT : NRow w T0 ts0 next)
    (HG : Hid (∀ (A : Option Addr) (c : Nat) (xs : List Value) (B : Option Addr) (d : Nat) (ys : List Value) (V : Option Addr) (dv : Nat) (N : Option Addr) (cN : Nat) (zs : List Value) (T : Option Addr) (cT : Nat) (ts : List Value) (W : World), NRow W A xs L → NRow W B ys S → Law.Row W V (ivs ws) → NRow W N zs C → NRow W T ts next → Calls Try.prog 43 #[pv A L.length c B S.length d, .slice T next.length cT, .int .i64 start, pv V ws.length dv N C.length cN] W fun r W' => r = .returned (.tuple #[.agg #[.int .i64 X.1, .int .i64 X.2.1], .bool X.2.2]) ∧ Below W.heap.size W W'))
    (HH : Hid (∀ (A : Option Addr) (c : Nat) (xs : List Value) (B : Option Addr) (d : Nat) (ys : List Value) (V : Option Addr) (dv : Nat) (N : Option Addr) (cN : Nat) (zs : List Value) (T : Option Addr) (cT : Nat) (ts : List Value) (W : World), NRow W A xs L → NRow W B ys S → Law.Row W V (ivs ws) → NRow W N zs C → NRow W T ts next → Calls Try.prog 45 #[pv A L.length c B S.length d, .slice T next.length cT, .int .i64 start, pv V ws.length dv N C.length cN] W fun r W' => r = .returned (.tuple #[.agg #[.int .i64 X.1, .int .i64 X.2.1], .bool X.2.2]) ∧ Below W.heap.size W W')) :
    Calls Try.prog 7 #[pv A0 L.length c0 B0 S.length d0, .slice T0 next.length cT0, .int .i64 start, pv V0 ws.length dv0 N0 C.length cN0] w fun e w' => e = .returned (.bool true) ∧ Below w.heap.size w w' := by
  obtain ⟨y, y2, z⟩ := X
  simp only [] at HG HH
  have hsL : szOk L = true := szOk_iff.2 (by have : (szN L : Int) ≤ 1048576 := by omega
                                             unfold szN at this; omega)
  have hsS : szOk S = true := szOk_iff.2 (by have : (szN S : Int) ≤ 1048576 := by omega
                                             unfold szN at this; omega)
  have hsC : szOk C = true := szOk_of (by omega)
  have hwl : ws.length ≤ 1048576 := by omega
  have hsT : szOk next = true := szOk_of (by omega)
  have hzP : szPr L S = 1048576 - (szN L : Int) - (szN S : Int) := szPr_yes (by omega)
  have HSz := Lib.hid fun (W : World) (h : NRow W A0 xs0 L) (h' : NRow W B0 ys0 S) => szPrb_any A0 c0 xs0 L B0 d0 ys0 S W hnL hlL hnS hlS h h'
  rw [hzP] at HSz
  clear hzP
  have HSt := Lib.hid fun (W : World) (h : NRow W T0 ts0 next) => szSS_g T0 cT0 ts0 next (1048576 - (szN L : Int) - (szN S : Int)) W (by omega) (by omega) hnT hlT h
  have hzT : szS (1048576 - (szN L : Int) - (szN S : Int)) next = 1048576 - (szN L : Int) - (szN S : Int) - (szN next : Int) := if_pos (by omega)
  rw [hzT] at HSt
  clear hzT
  have hzC : szC (1048576 - (szN L : Int) - (szN S : Int) - (szN next : Int)) ws C = 1048576 - (szN L : Int) - (szN S : Int) - (szN next : Int) - (ws.length : Int) - (szN C : Int) := if_pos (by omega)
  have HSc := Lib.hid fun (W : World) (h : NRow W N0 zs0 C) => szChn_any V0 dv0 ws N0 cN0 zs0 C (1048576 - (szN L : Int) - (szN S : Int) - (szN next : Int)) W (by omega) (by omega) hwm hnC hlC h
  rw [hzC] at HSc
  clear hzC
  have hs0 : ¬ (1048576 : Int) - (szN L : Int) - (szN S : Int) < 0 := by omega
  have hs2 : ¬ (1048576 : Int) - (szN L : Int) - (szN S : Int) - (szN next : Int) < 0 := by omega
  have hs1 : ¬ (1048576 : Int) - (szN L : Int) - (szN S : Int) - (szN next : Int) - (ws.length : Int) - (szN C : Int) < 0 := by omega
  generalize (szN L : Int) = zL at HSz HSc HSt hs0 hs1 hs2
  generalize (szN S : Int) = zS at HSz HSc HSt hs0 hs1 hs2
  generalize (szN next : Int) = zT at HSc HSt hs1 hs2
  generalize (szN C : Int) = zC at HSc hs1
  have HTt := Lib.hid fun (W : World) (h : NRow W T0 ts0 next) => toSS_any T0 cT0 ts0 next W hsT h
  have HEt := Lib.hid fun (W : World) A B c d xs ys (h1 : NRow W A xs next) (h2 : NRow W B ys next) => eqSS_same A B c d xs ys next W (sz_rows hsT).1 (sz_rows hsT).2.1 h1 h2
  have HTr := Lib.hid fun (W : World) (h : Below w.heap.size w W) => hT.stays h
  have HTp := Lib.hid fun (W : World) (h : NRow W A0 xs0 L) (h' : NRow W B0 ys0 S) => toPrb_any A0 c0 xs0 L B0 d0 ys0 S W hsL hsS h h'
  have HEp := Lib.hid fun (W : World) A c xs B d ys A' c' xs' B' d' ys' (h1 : NRow W A xs L) (h2 : NRow W B ys S) (h3 : NRow W A' xs' L) (h4 : NRow W B' ys' S) => eqPrb_same A c xs L B d ys S A' c' xs' B' d' ys' W hsL hsS h1 h2 h3 h4
  have HTc := Lib.hid fun (W : World) (h : Law.Row W V0 (ivs ws)) (h' : NRow W N0 zs0 C) => toChn_any V0 dv0 ws N0 cN0 zs0 C W hwl hsC h h'
  have HEc := Lib.hid fun (W : World) V dv N cN zs V' dv' N' cN' zs' (h1 : Law.Row W V (ivs ws)) (h2 : NRow W N zs C) (h3 : Law.Row W V' (ivs ws)) (h4 : NRow W N' zs' C) => eqChn_same V dv ws N cN zs C V' dv' N' cN' zs' W hwl hsC h1 h2 h3 h4
  have HI := Lib.hid (ChI.start (A := A0) (n0 := L.length) (c := c0) (B := B0) (m := S.length) (d := d0) (dv := dv0) (cN := cN0) 24 57 hV hN)
  have HLr := Lib.hid fun (W : World) (h : Below w.heap.size w W) => hL.stays h
  have HSr := Lib.hid fun (W : World) (h : Below w.heap.size w W) => hS.stays h
  clear hL hS hV hN hT hlL hlS hlC hlT hz hsL hsS hsC hsT hwl hwm
  go_enter Try.func7, Try.ntmps7
  go_wp2_with fail
  generalize (w.alloc (.cells #[.slice A0 L.length c0, .slice B0 S.length d0] 24)).alloc (.cells #[.slice V0 ws.length dv0, .slice N0 C.length cN0] 57) = w0 at HI ⊢
  obtain ⟨p0, p1, _, _, _⟩ := HI.out.pb
  obtain ⟨q0, q1, _, _, _⟩ := HI.out.cb
  go_wp2_with fail
  go_at_call 15
  refine (HSz.out w0 (HLr.out _ HI.out.bl) (HSr.out _ HI.out.bl)).mono ?_
  rintro r w1 ⟨rfl, hb⟩
  replace HI := Lib.hid (HI.out.on hb)
  clear p0 p1 q0 q1
  obtain ⟨p0, p1, _, _, _⟩ := HI.out.pb
  obtain ⟨q0, q1, _, _, _⟩ := HI.out.cb
  clear hb
  go_wp2_with fail
  go_at_call 42
  refine (HSt.out w1 (HTr.out _ HI.out.bl)).mono ?_
  rintro r w9 ⟨rfl, e9⟩
  obtain rfl := e9.symm
  clear e9
  go_wp2_with fail
  go_at_call 37
  refine (HSc.out w1 HI.out.sv).mono ?_
  rintro r w2 ⟨rfl, hb⟩
  replace HI := Lib.hid (HI.out.on hb)
  clear p0 p1 q0 q1
  obtain ⟨p0, p1, _, _, _⟩ := HI.out.pb
  obtain ⟨q0, q1, _, _, _⟩ := HI.out.cb
  clear hb
  have HM : Hid (∀ w' : World, Below w2.heap.size w2 w' → w'.cell? ⟨w.heap.size, 0, none⟩ = some (.slice A0 L.length c0) ∧ w'.cell? ⟨w.heap.size, 1, none⟩ = some (.slice B0 S.length d0) ∧ w'.cell? ⟨w.heap.size + 1, 0, none⟩ = some (.slice V0 ws.length dv0) ∧ w'.cell? ⟨w.heap.size + 1, 1, none⟩ = some (.slice N0 C.length cN0) ∧ Below w2.heap.size w2 w') := fun w' h => by
    obtain ⟨a0, a1, _, _, _⟩ := HI.out.pb.on h
    obtain ⟨b0, b1, _, _, _⟩ := HI.out.cb.on h
    exact ⟨a0, a1, b0, b1, h⟩
  clear p0 p1 q0 q1
  go_upto_region 11 with fail
  go_cut [10, 11] from 32 (fun s8 s9 wx => GotF w2 y y2 z s8 s9 wx)
  case first =>
    have hs0' := HM.out w2.drew (Below.refl _ _).drew
    go_region_held3 (fun w' => w'.cell? ⟨w.heap.size, 0, none⟩ = some (.slice A0 L.length c0) ∧ w'.cell? ⟨w.heap.size, 1, none⟩ = some (.slice B0 S.length d0) ∧ w'.cell? ⟨w.heap.size + 1, 0, none⟩ = some (.slice V0 ws.length dv0) ∧ w'.cell? ⟨w.heap.size + 1, 1, none⟩ = some (.slice N0 C.length cN0) ∧ Below w2.heap.size w2 w') ((first | exact hs0' | assumption | exact HM.out _ ((bel_al w2 _).drew) | exact HM.out _ (Law.then_ (by assumption : _ ∧ _ ∧ _ ∧ _ ∧ Below w2.heap.size w2 _).2.2.2.2 (by assumption)) | exact HM.out _ (bel_alloc (by assumption : _ ∧ _ ∧ _ ∧ _ ∧ Below w2.heap.size w2 _).2.2.2.2 _) | exact HM.out _ (bel_store (bel_store (by assumption : _ ∧ _ ∧ _ ∧ _ ∧ Below w2.heap.size w2 _).2.2.2.2 (by first | omega | (simp; omega) | (simp; done)) _) (by first | omega | (simp; omega) | (simp; done)) _) | exact HM.out _ (bel_realloc _ _ (by assumption : _ ∧ _ ∧ _ ∧ _ ∧ Below w2.heap.size w2 _).2.2.2.2 (by first | omega | (simp; omega) | (simp; done))))) (first
      | (go_at_call 18; have hS9 := (by assumption : _ ∧ _ ∧ _ ∧ _ ∧ Below w2.heap.size w2 _).2.2.2.2; refine (HTp.out _ (HLr.out _ (Law.then_ HI.out.bl hS9)) (HSr.out _ (Law.then_ HI.out.bl hS9))).mono ?_; rintro r wP ⟨AP, cP, xsP, BP, dP, ysP, rfl, hoP, hbP⟩; clear hS9; have zP := hbP.size; (try simp at zP); (try (refine Blk.carry (b := w2.heap.size) (x := .int .i64 0) (y := .int .i64 0) hbP ?_ ?_ ?_ ?_ ?_ ?_; (focus (go_simp; done)); (focus (go_simp; done)); (focus (go_simp; done)); (focus (go_simp; done)); (focus first | omega | (simp; omega) | (simp; done)); rintro ⟨ceP00, ceP01, feP00, feP01⟩)))
      | (go_at_call 44; have hS9 := (by assumption : _ ∧ _ ∧ _ ∧ _ ∧ Below w2.heap.size w2 _).2.2.2.2; refine (HTt.out _ (HTr.out _ (Law.then_ HI.out.bl hS9))).mono ?_; rintro r wN ⟨vN, tsN, rfl, hoN, hnN, hbN⟩; clear hS9; obtain ⟨TN, cTN, rfl, _, _, _⟩ := Law.own_len hoN; have zN := hbN.size; (try simp at zN); have hmP := (by first | exact hoP.mv.stays hbN | exact (hoP.mv.stays (bel_al _ _)).stays hbN : NRow wN AP xsP L); have hmS := (by first | exact hoP.sv.stays hbN | exact (hoP.sv.stays (bel_al _ _)).stays hbN : NRow wN BP ysP S); have hmT := NRow.of hoN hnN; clear hoN hnN; (try (refine Blk.carry (b := w2.heap.size) (x := .int .i64 0) (y := .int .i64 0) hbN ?_ ?_ ?_ ?_ ?_ ?_; (focus (go_simp; done)); (focus (go_simp; done)); (focus (go_simp; done)); (focus (go_simp; done)); (focus first | omega | (simp; omega) | (simp; done)); rintro ⟨ceN00, ceN01, feN00, feN01⟩)); (try (refine Blk.carry (b := wP.heap.size) (x := .int .i64 0) (y := .int .i64 0) hbN ?_ ?_ ?_ ?_ ?_ ?_; (focus (go_simp; done)); (focus (go_simp; done)); (focus (go_simp; done)); (focus (go_simp; done)); (focus first | omega | (simp; omega) | (simp; done)); rintro ⟨ceN10, ceN11, feN10, feN11⟩)))
      | (go_at_call 39; have hS9 := (by assumption : _ ∧ _ ∧ _ ∧ _ ∧ Below w2.heap.size w2 _).2.2.2.2; refine (HTc.out _ (HI.out.wv.stays hS9) (HI.out.sv.stays hS9)).mono ?_; rintro r wC ⟨VC, dvC, NC, cNC, zsC, rfl, hvC, hnC9, hbC⟩; clear hS9; have zC := hbC.size; (try simp at zC); replace hmP := (by first | exact hmP.stays hbC | exact (hmP.stays (bel_al _ _)).stays hbC : NRow wC AP xsP L); replace hmS := (by first | exact hmS.stays hbC | exact (hmS.stays (bel_al _ _)).stays hbC : NRow wC BP ysP S); replace hmT := (by first | exact hmT.stays hbC | exact (hmT.stays (bel_al _ _)).stays hbC : NRow wC TN tsN next); (try (refine Blk.carry (b := w2.heap.size) (x := .int .i64 0) (y := .int .i64 0) hbC ?_ ?_ ?_ ?_ ?_ ?_; (focus (go_simp; done)); (focus (go_simp; done)); (focus (go_simp; done)); (focus (go_simp; done)); (focus first | omega | (simp; omega) | (simp; done)); rintro ⟨ceC00, ceC01, feC00, feC01⟩)); (try (refine Blk.carry (b := wP.heap.size) (x := .int .i64 0) (y := .int .i64 0) hbC ?_ ?_ ?_ ?_ ?_ ?_; (focus (go_simp; done)); (focus (go_simp; done)); (focus (go_simp; done)); (focus (go_simp; done)); (focus first | omega | (simp; omega) | (simp; done)); rintro ⟨ceC10, ceC11, feC10, feC11⟩)); (try (refine Blk.carry (b := wN.heap.size) (x := .int .i64 0) (y := .int .i64 0) hbC ?_ ?_ ?_ ?_ ?_ ?_; (focus (go_simp; done)); (focus (go_simp; done)); (focus (go_simp; done)); (focus (go_simp; done)); (focus first | omega | (simp; omega) | (simp; done)); rintro ⟨ceC20, ceC21, feC20, feC21⟩)))
      | (go_at_call 43; refine (HG.out AP cP xsP BP dP ysP VC dvC NC cNC zsC TN cTN tsN _ (by first | exact hmP | exact hmP.stays (bel_al _ _)) (by first | exact hmS | exact hmS.stays (bel_al _ _)) (by first | exact hvC | exact hvC.stays (bel_al _ _)) (by first | exact hnC9 | exact hnC9.stays (bel_al _ _)) (by first | exact hmT | exact hmT.stays (bel_al _ _))).mono ?_; rintro r wS ⟨rfl, hbS⟩; have zS := hbS.size; (try simp at zS); (try (refine Blk.carry (b := w2.heap.size) (x := .int .i64 0) (y := .int .i64 0) hbS ?_ ?_ ?_ ?_ ?_ ?_; (focus (go_simp; done)); (focus (go_simp; done)); (focus (go_simp; done)); (focus (go_simp; done)); (focus first | omega | (simp; omega) | (simp; done)); rintro ⟨ceS00, ceS01, feS00, feS01⟩)); (try (refine Blk.carry (b := wP.heap.size) (x := .int .i64 0) (y := .int .i64 0) hbS ?_ ?_ ?_ ?_ ?_ ?_; (focus (go_simp; done)); (focus (go_simp; done)); (focus (go_simp; done)); (focus (go_simp; done)); (focus first | omega | (simp; omega) | (simp; done)); rintro ⟨ceS10, ceS11, feS10, feS11⟩)); (try (refine Blk.carry (b := wN.heap.size) (x := .int .i64 0) (y := .int .i64 0) hbS ?_ ?_ ?_ ?_ ?_ ?_; (focus (go_simp; done)); (focus (go_simp; done)); (focus (go_simp; done)); (focus (go_simp; done)); (focus first | omega | (simp; omega) | (simp; done)); rintro ⟨ceS20, ceS21, feS20, feS21⟩)); (try (refine Blk.carry (b := wC.heap.size) (x := .int .i64 0) (y := .int .i64 0) hbS ?_ ?_ ?_ ?_ ?_ ?_; (focus (go_simp; done)); (focus (go_simp; done)); (focus (go_simp; done)); (focus (go_simp; done)); (focus first | omega | (simp; omega) | (simp; done)); rintro ⟨ceS30, ceS31, feS30, feS31⟩))))
    all_goals (go_wp2_with fail; go_meet; refine ⟨(by assumption : _ ∧ _ ∧ _ ∧ _ ∧ Below w2.heap.size w2 _).2.2.2.2, ⟨_, rfl, ?_, (by first | omega | (simp; omega) | (simp; done))⟩, rfl⟩)
    all_goals first | exact Blk.set2 ⟨by assumption, by assumption, by assumption, by assumption⟩ _ _ | exact ⟨by go_simp, by go_simp, by go_simp, by go_simp⟩
  case rest =>
  rename World => wS
  obtain ⟨hb8, ⟨bw, rfl, hkw, hlw⟩, rfl⟩ := hcut
  replace HI := Lib.hid (HI.out.on hb8)
  have FW : Hid (Bk2 wS bw (.int .i64 y) (.int .i64 y2)) := ⟨hkw.c0, hkw.c1, hkw.f0, hkw.f1, hlw⟩
  clear hb8 hkw hlw HM HG
  obtain ⟨p0, p1, _, _, _⟩ := HI.out.pb
  obtain ⟨q0, q1, _, _, _⟩ := HI.out.cb
  go_wp2_with fail
  go_at_call 18
  refine (HTp.out wS (HLr.out _ HI.out.bl) (HSr.out _ HI.out.bl)).mono ?_
  rintro r w4 ⟨A4, c4, xs4, B4, d4, ys4, rfl, ho, hb⟩
  clear p0 p1 q0 q1
  replace HI := Lib.hid (HI.out.on hb)
  replace FW := Lib.hid (FW.out.on hb)
  have FXm := Lib.hid ho.mv
  have FXs := Lib.hid ho.sv
  clear ho hb
  have b9 : Below w4.heap.size w4 (w4.alloc (.cells #[.slice A4 L.length c4, .slice B4 S.length d4] 35)) := (Below.refl _ _).alloc (Nat.le_refl _) _
  have FQ := Lib.hid (Bk2.new w4 (.slice A4 L.length c4) (.slice B4 S.length d4) 35)
  replace HI := Lib.hid (HI.out.on b9)
  replace FW := Lib.hid (FW.out.on b9)
  replace FXm := Lib.hid (FXm.out.stays b9)
  replace FXs := Lib.hid (FXs.out.stays b9)
  clear b9
  obtain ⟨p0, p1, _, _, _⟩ := HI.out.pb
  obtain ⟨q0, q1, _, _, _⟩ := HI.out.cb
  have x0 := FQ.out.c0
  have x1 := FQ.out.c1
  go_wp2_with fail
  clear p0 p1 q0 q1 x0 x1
  generalize w4.alloc (.cells #[.slice A4 L.length c4, .slice B4 S.length d4] 35) = w5 at HI FW FXm FXs FQ ⊢
  obtain ⟨bq, hbq⟩ : ∃ b, b = w4.heap.size := ⟨_, rfl⟩
  rw [← hbq] at FQ ⊢
  clear hbq
  obtain ⟨p0, p1, _, _, _⟩ := HI.out.pb
  obtain ⟨q0, q1, _, _, _⟩ := HI.out.cb
  have x0 := FQ.out.c0
  have x1 := FQ.out.c1
  go_wp2_with fail
  go_at_call 44
  refine (HTt.out w5 (HTr.out _ HI.out.bl)).mono ?_
  rintro r wt ⟨vt, tst, rfl, ho, hn, hb⟩
  obtain ⟨Tt, cTt, rfl, _, _, _⟩ := Law.own_len ho
  clear p0 p1 q0 q1 x0 x1
  replace HI := Lib.hid (HI.out.on hb)
  replace FW := Lib.hid (FW.out.on hb)
  replace FXm := Lib.hid (FXm.out.stays hb)
  replace FXs := Lib.hid (FXs.out.stays hb)
  replace FQ := Lib.hid (FQ.out.on hb)
  have FTm := Lib.hid (NRow.of ho hn)
  clear ho hn hb
  obtain ⟨p0, p1, _, _, _⟩ := HI.out.pb
  obtain ⟨q0, q1, _, _, _⟩ := HI.out.cb
  have x0 := FQ.out.c0
  have x1 := FQ.out.c1
  go_wp2_with fail
  go_at_call 39
  refine (HTc.out wt HI.out.wv HI.out.sv).mono ?_
  rintro r w6 ⟨V6, dv6, N6, cN6, zs6, rfl, hv6, hn6, hb⟩
  clear p0 p1 q0 q1 x0 x1
  replace HI := Lib.hid (HI.out.on hb)
  replace FW := Lib.hid (FW.out.on hb)
  replace FXm := Lib.hid (FXm.out.stays hb)
  replace FXs := Lib.hid (FXs.out.stays hb)
  replace FQ := Lib.hid (FQ.out.on hb)
  replace FTm := Lib.hid (FTm.out.stays hb)
  have FCv := Lib.hid hv6
  have FCn := Lib.hid hn6
  clear hv6 hn6 hb
  have b9 : Below w6.heap.size w6 (w6.alloc (.cells #[.slice V6 ws.length dv6, .slice N6 C.length cN6] 61)) := (Below.refl _ _).alloc (Nat.le_refl _) _
  have FR := Lib.hid (Bk2.new w6 (.slice V6 ws.length dv6) (.slice N6 C.length cN6) 61)
  replace HI := Lib.hid (HI.out.on b9)
  replace FW := Lib.hid (FW.out.on b9)
  replace FXm := Lib.hid (FXm.out.stays b9)
  replace FXs := Lib.hid (FXs.out.stays b9)
  replace FQ := Lib.hid (FQ.out.on b9)
  replace FTm := Lib.hid (FTm.out.stays b9)
  replace FCv := Lib.hid (FCv.out.stays b9)
  replace FCn := Lib.hid (FCn.out.stays b9)
  clear b9
  obtain ⟨p0, p1, _, _, _⟩ := HI.out.pb
  obtain ⟨q0, q1, _, _, _⟩ := HI.out.cb
  have x0 := FQ.out.c0
  have x1 := FQ.out.c1
  have y0 := FR.out.c0
  have y1 := FR.out.c1
  go_wp2_with fail
  clear p0 p1 q0 q1 x0 x1 y0 y1
  generalize w6.alloc (.cells #[.slice V6 ws.length dv6, .slice N6 C.length cN6] 61) = w7 at HI FW FXm FXs FQ FTm FCv FCn FR ⊢
  obtain ⟨br, hbr⟩ : ∃ b, b = w6.heap.size := ⟨_, rfl⟩
  rw [← hbr] at FR ⊢
  clear hbr
  obtain ⟨p0, p1, _, _, _⟩ := HI.out.pb
  obtain ⟨q0, q1, _, _, _⟩ := HI.out.cb
  have x0 := FQ.out.c0
  have x1 := FQ.out.c1
  have y0 := FR.out.c0
  have y1 := FR.out.c1
  go_wp2_with fail
  go_at_call 45
  refine (HH.out A4 c4 xs4 B4 d4 ys4 V6 dv6 N6 cN6 zs6 Tt cTt tst w7 FXm.out FXs.out FCv.out FCn.out FTm.out).mono ?_
  rintro r w8 ⟨rfl, hb⟩
  clear p0 p1 q0 q1 x0 x1 y0 y1
  replace HI := Lib.hid (HI.out.on hb)
  replace FW := Lib.hid (FW.out.on hb)
  replace FXm := Lib.hid (FXm.out.stays hb)
  replace FXs := Lib.hid (FXs.out.stays hb)
  replace FQ := Lib.hid (FQ.out.on hb)
  replace FTm := Lib.hid (FTm.out.stays hb)
  replace FCv := Lib.hid (FCv.out.stays hb)
  replace FCn := Lib.hid (FCn.out.stays hb)
  replace FR := Lib.hid (FR.out.on hb)
  clear hb HH
  have b9 : Below w8.heap.size w8 (w8.alloc (.cells #[.int .i64 y, .int .i64 y2] 32)) := (Below.refl _ _).alloc (Nat.le_refl _) _
  have FG := Lib.hid (Bk2.new w8 (.int .i64 y) (.int .i64 y2) 32)
  replace HI := Lib.hid (HI.out.on b9)
  replace FW := Lib.hid (FW.out.on b9)
  replace FXm := Lib.hid (FXm.out.stays b9)
  replace FXs := Lib.hid (FXs.out.stays b9)
  replace FQ := Lib.hid (FQ.out.on b9)
  replace FTm := Lib.hid (FTm.out.stays b9)
  replace FCv := Lib.hid (FCv.out.stays b9)
  replace FCn := Lib.hid (FCn.out.stays b9)
  replace FR := Lib.hid (FR.out.on b9)
  clear b9
  obtain ⟨p0, p1, _, _, _⟩ := HI.out.pb
  obtain ⟨q0, q1, _, _, _⟩ := HI.out.cb
  have x0 := FQ.out.c0
  have x1 := FQ.out.c1
  have y0 := FR.out.c0
  have y1 := FR.out.c1
  have k0 := FW.out.c0
  have k1 := FW.out.c1
  have g0 := FG.out.c0
  have g1 := FG.out.c1
  go_wp2_with fail
  clear p0 p1 q0 q1 x0 x1 y0 y1 k0 k1 g0 g1
  generalize w8.alloc (.cells #[.int .i64 y, .int .i64 y2] 32) = wg at HI FW FXm FXs FQ FTm FCv FCn FR FG ⊢
  obtain ⟨bg, hbg⟩ : ∃ b, b = w8.heap.size := ⟨_, rfl⟩
  rw [← hbg] at FG ⊢
  clear hbg
  obtain ⟨p0, p1, _, _, _⟩ := HI.out.pb
  obtain ⟨q0, q1, _, _, _⟩ := HI.out.cb
  have x0 := FQ.out.c0
  have x1 := FQ.out.c1
  have y0 := FR.out.c0
  have y1 := FR.out.c1
  have k0 := FW.out.c0
  have k1 := FW.out.c1
  have g0 := FG.out.c0
  have g1 := FG.out.c1
  go_wp2_with fail
  go_at_call 22
  refine (eqFrac_yes y y2 wg).mono ?_
  rintro r wh ⟨rfl, hb⟩
  clear p0 p1 q0 q1 x0 x1 y0 y1 k0 k1 g0 g1
  replace HI := Lib.hid (HI.out.on hb)
  replace FW := Lib.hid (FW.out.on hb)
  replace FXm := Lib.hid (FXm.out.stays hb)
  replace FXs := Lib.hid (FXs.out.stays hb)
  replace FQ := Lib.hid (FQ.out.on hb)
  replace FTm := Lib.hid (FTm.out.stays hb)
  replace FCv := Lib.hid (FCv.out.stays hb)
  replace FCn := Lib.hid (FCn.out.stays hb)
  replace FR := Lib.hid (FR.out.on hb)
  replace FG := Lib.hid (FG.out.on hb)
  clear hb FW FG
  obtain ⟨p0, p1, _, _, _⟩ := HI.out.pb
  obtain ⟨q0, q1, _, _, _⟩ := HI.out.cb
  have x0 := FQ.out.c0
  have x1 := FQ.out.c1
  have y0 := FR.out.c0
  have y1 := FR.out.c1
  go_wp2_with fail
  go_region_law ((first
    | (go_simp; go_at_call 18; refine (HTp.out _ (HLr.out _ (HI.out.on ((Below.refl _ _).drew)).bl) (HSr.out _ (HI.out.on ((Below.refl _ _).drew)).bl)).mono ?_; rintro r w9 ⟨A9, c9, xs9, B9, d9, ys9, rfl, ho, hb⟩; have hb9 := ((Below.refl wh.heap.size wh).drew).trans hb; replace HI := Lib.hid (HI.out.on hb9); replace FXm := Lib.hid (FXm.out.stays hb9); replace FXs := Lib.hid (FXs.out.stays hb9); replace FQ := Lib.hid (FQ.out.on hb9); replace FTm := Lib.hid (FTm.out.stays hb9); replace FCv := Lib.hid (FCv.out.stays hb9); replace FCn := Lib.hid (FCn.out.stays hb9); replace FR := Lib.hid (FR.out.on hb9); have FZm := Lib.hid ho.mv; have FZs := Lib.hid ho.sv; clear ho hb hb9; clear p0 p1 q0 q1 x0 x1 y0 y1; obtain ⟨p0, p1, _, _, _⟩ := HI.out.pb; obtain ⟨q0, q1, _, _, _⟩ := HI.out.cb; have x0 := FQ.out.c0; have x1 := FQ.out.c1; have y0 := FR.out.c0; have y1 := FR.out.c1)
    | (go_simp; go_at_call 23; refine (HEp.out _ A4 c4 xs4 B4 d4 ys4 A9 c9 xs9 B9 d9 ys9 FXm.out FXs.out FZm.out FZs.out).mono ?_; rintro r w10 ⟨rfl, hb⟩; replace HI := Lib.hid (HI.out.on hb); replace FXm := Lib.hid (FXm.out.stays hb); replace FXs := Lib.hid (FXs.out.stays hb); replace FQ := Lib.hid (FQ.out.on hb); replace FTm := Lib.hid (FTm.out.stays hb); replace FCv := Lib.hid (FCv.out.stays hb); replace FCn := Lib.hid (FCn.out.stays hb); replace FR := Lib.hid (FR.out.on hb); clear hb; clear p0 p1 q0 q1 x0 x1 y0 y1; obtain ⟨p0, p1, _, _, _⟩ := HI.out.pb; obtain ⟨q0, q1, _, _, _⟩ := HI.out.cb; have x0 := FQ.out.c0; have x1 := FQ.out.c1; have y0 := FR.out.c0; have y1 := FR.out.c1)))
  all_goals
    go_wp2_with fail
    go_at_call 44
    refine (HTt.out _ (HTr.out _ HI.out.bl)).mono ?_
    rintro r wu ⟨vu, tsu, rfl, ho, hn, hb⟩
    obtain ⟨Tu, cTu, rfl, _, _, _⟩ := Law.own_len ho
    replace HI := Lib.hid (HI.out.on hb); replace FXm := Lib.hid (FXm.out.stays hb); replace FXs := Lib.hid (FXs.out.stays hb); replace FQ := Lib.hid (FQ.out.on hb); replace FTm := Lib.hid (FTm.out.stays hb); replace FCv := Lib.hid (FCv.out.stays hb); replace FCn := Lib.hid (FCn.out.stays hb); replace FR := Lib.hid (FR.out.on hb); clear p0 p1 q0 q1 x0 x1 y0 y1; obtain ⟨p0, p1, _, _, _⟩ := HI.out.pb; obtain ⟨q0, q1, _, _, _⟩ := HI.out.cb; have x0 := FQ.out.c0; have x1 := FQ.out.c1; have y0 := FR.out.c0; have y1 := FR.out.c1
    have FTu := Lib.hid (NRow.of ho hn)
    clear ho hn hb
    go_wp2_with fail
    go_at_call 46
    refine (HEt.out _ Tt Tu cTt cTu tst tsu FTm.out FTu.out).mono ?_
    rintro r wv ⟨rfl, mq, rfl⟩
    have hb := Law.up (Below.refl wu.heap.size wu) mq
    generalize World.drewN wu mq = wv at hb ⊢
    replace HI := Lib.hid (HI.out.on hb); replace FXm := Lib.hid (FXm.out.stays hb); replace FXs := Lib.hid (FXs.out.stays hb); replace FQ := Lib.hid (FQ.out.on hb); replace FTm := Lib.hid (FTm.out.stays hb); replace FCv := Lib.hid (FCv.out.stays hb); replace FCn := Lib.hid (FCn.out.stays hb); replace FR := Lib.hid (FR.out.on hb); clear p0 p1 q0 q1 x0 x1 y0 y1; obtain ⟨p0, p1, _, _, _⟩ := HI.out.pb; obtain ⟨q0, q1, _, _, _⟩ := HI.out.cb; have x0 := FQ.out.c0; have x1 := FQ.out.c1; have y0 := FR.out.c0; have y1 := FR.out.c1
    clear hb
    go_wp2_with fail
    go_region_law ((first
      | (go_simp; go_at_call 39; refine (HTc.out _ (HI.out.on ((Below.refl _ _).drew)).wv (HI.out.on ((Below.refl _ _).drew)).sv).mono ?_; rintro r w11 ⟨V11, dv11, N11, cN11, zs11, rfl, hv11, hn11, hb⟩; have hb9 := ((Below.refl wv.heap.size wv).drew).trans hb; replace HI := Lib.hid (HI.out.on hb9); replace FXm := Lib.hid (FXm.out.stays hb9); replace FXs := Lib.hid (FXs.out.stays hb9); replace FQ := Lib.hid (FQ.out.on hb9); replace FTm := Lib.hid (FTm.out.stays hb9); replace FCv := Lib.hid (FCv.out.stays hb9); replace FCn := Lib.hid (FCn.out.stays hb9); replace FR := Lib.hid (FR.out.on hb9); have FYv := Lib.hid hv11; have FYn := Lib.hid hn11; clear hv11 hn11 hb hb9; clear p0 p1 q0 q1 x0 x1 y0 y1; obtain ⟨p0, p1, _, _, _⟩ := HI.out.pb; obtain ⟨q0, q1, _, _, _⟩ := HI.out.cb; have x0 := FQ.out.c0; have x1 := FQ.out.c1; have y0 := FR.out.c0; have y1 := FR.out.c1)
      | (go_simp; go_at_call 41; refine (HEc.out _ V6 dv6 N6 cN6 zs6 V11 dv11 N11 cN11 zs11 FCv.out FCn.out FYv.out FYn.out).mono ?_; rintro r w12 ⟨rfl, hb⟩; replace HI := Lib.hid (HI.out.on hb); replace FXm := Lib.hid (FXm.out.stays hb); replace FXs := Lib.hid (FXs.out.stays hb); replace FQ := Lib.hid (FQ.out.on hb); replace FTm := Lib.hid (FTm.out.stays hb); replace FCv := Lib.hid (FCv.out.stays hb); replace FCn := Lib.hid (FCn.out.stays hb); replace FR := Lib.hid (FR.out.on hb); clear hb; clear p0 p1 q0 q1 x0 x1 y0 y1; obtain ⟨p0, p1, _, _, _⟩ := HI.out.pb; obtain ⟨q0, q1, _, _, _⟩ := HI.out.cb; have x0 := FQ.out.c0; have x1 := FQ.out.c1; have y0 := FR.out.c0; have y1 := FR.out.c1)))
    all_goals
      go_wp2
      go_ret
      exact ⟨rfl, HI.out.bl⟩
set_option maxHeartbeats 1600000 in
theorem walk_big (A0 : Option Addr) (c0 : Nat) (xs0 : List Value) (L : List (List Int)) (B0 : Option Addr) (d0 : Nat) (ys0 : List Value) (S : List (List Int)) (V0 : Option Addr) (dv0 : Nat) (ws : List Int) (N0 : Option Addr) (cN0 : Nat) (zs0 : List Value) (C : List (List Int)) (T0 : Option Addr) (cT0 : Nat) (ts0 : List Value) (next : List (List Int)) (start : Int) (w : World) (hz : ¬ (szN L : Int) + (szN S : Int) ≤ 1048576) (hnL : L.length ≤ maxLen) (hlL : ∀ l ∈ L, l.length ≤ maxLen) (hnS : S.length ≤ maxLen) (hlS : ∀ l ∈ S, l.length ≤ maxLen) (hwm : ws.length ≤ maxLen) (hnC : C.length ≤ maxLen) (hlC : ∀ l ∈ C, l.length ≤ maxLen) (hL : NRow w A0 xs0 L) (hS : NRow w B0 ys0 S) (hV : Law.Row w V0 (ivs ws)) (hN : NRow w N0 zs0 C) (hnT : next.length ≤ maxLen) (hlT : ∀ l ∈ next, l.length ≤ maxLen) (hT : NRow w T0 ts0 next) :
    Calls Try.prog 7 #[pv A0 L.length c0 B0 S.length d0, .slice T0 next.length cT0, .int .i64 start, pv V0 ws.length dv0 N0 C.length cN0] w fun e w' => e = .returned (.bool true) ∧ Below w.heap.size w w' := by
  have hzP : szPr L S = -1 := szPr_no hz
  have HSz := Lib.hid fun (W : World) (h : NRow W A0 xs0 L) (h' : NRow W B0 ys0 S) => szPrb_any A0 c0 xs0 L B0 d0 ys0 S W hnL hlL hnS hlS h h'
  rw [hzP] at HSz
  clear hzP
  have HI := Lib.hid (ChI.start (A := A0) (n0 := L.length) (c := c0) (B := B0) (m := S.length) (d := d0) (dv := dv0) (cN := cN0) 24 57 hV hN)
  have HLr := Lib.hid fun (W : World) (h : Below w.heap.size w W) => hL.stays h
  have HSr := Lib.hid fun (W : World) (h : Below w.heap.size w W) => hS.stays h
  clear hL hS hV hN hT hlL hlS hlC hlT hz hwm
  go_enter Try.func7, Try.ntmps7
  go_wp2_with fail
  generalize (w.alloc (.cells #[.slice A0 L.length c0, .slice B0 S.length d0] 24)).alloc (.cells #[.slice V0 ws.length dv0, .slice N0 C.length cN0] 57) = w0 at HI ⊢
  obtain ⟨p0, p1, _, _, _⟩ := HI.out.pb
  go_wp2_with fail
  go_at_call 15
  refine (HSz.out w0 (HLr.out _ HI.out.bl) (HSr.out _ HI.out.bl)).mono ?_
  rintro r w1 ⟨rfl, hb⟩
  have HB := Lib.hid (HI.out.on hb).bl
  clear hb p0 p1
  go_wp2
  go_ret
  exact ⟨rfl, HB.out⟩
set_option maxHeartbeats 1600000 in
theorem walk_big1 (A0 : Option Addr) (c0 : Nat) (xs0 : List Value) (L : List (List Int)) (B0 : Option Addr) (d0 : Nat) (ys0 : List Value) (S : List (List Int)) (V0 : Option Addr) (dv0 : Nat) (ws : List Int) (N0 : Option Addr) (cN0 : Nat) (zs0 : List Value) (C : List (List Int)) (T0 : Option Addr) (cT0 : Nat) (ts0 : List Value) (next : List (List Int)) (start : Int) (w : World) (hz : (szN L : Int) + (szN S : Int) ≤ 1048576) (hzz : ¬ (szN L : Int) + (szN S : Int) + (szN next : Int) ≤ 1048576) (hnL : L.length ≤ maxLen) (hlL : ∀ l ∈ L, l.length ≤ maxLen) (hnS : S.length ≤ maxLen) (hlS : ∀ l ∈ S, l.length ≤ maxLen) (hwm : ws.length ≤ maxLen) (hnC : C.length ≤ maxLen) (hlC : ∀ l ∈ C, l.length ≤ maxLen) (hL : NRow w A0 xs0 L) (hS : NRow w B0 ys0 S) (hV : Law.Row w V0 (ivs ws)) (hN : NRow w N0 zs0 C) (hnT : next.length ≤ maxLen) (hlT : ∀ l ∈ next, l.length ≤ maxLen) (hT : NRow w T0 ts0 next) :
    Calls Try.prog 7 #[pv A0 L.length c0 B0 S.length d0, .slice T0 next.length cT0, .int .i64 start, pv V0 ws.length dv0 N0 C.length cN0] w fun e w' => e = .returned (.bool true) ∧ Below w.heap.size w w' := by
  have hzP : szPr L S = 1048576 - (szN L : Int) - (szN S : Int) := szPr_yes (by omega)
  have HSz := Lib.hid fun (W : World) (h : NRow W A0 xs0 L) (h' : NRow W B0 ys0 S) => szPrb_any A0 c0 xs0 L B0 d0 ys0 S W hnL hlL hnS hlS h h'
  rw [hzP] at HSz
  clear hzP
  have hzT : szS (1048576 - (szN L : Int) - (szN S : Int)) next = -1 := if_neg (by omega)
  have HSt := Lib.hid fun (W : World) (h : NRow W T0 ts0 next) => szSS_g T0 cT0 ts0 next (1048576 - (szN L : Int) - (szN S : Int)) W (by omega) (by omega) hnT hlT h
  rw [hzT] at HSt
  clear hzT
  have HTr := Lib.hid fun (W : World) (h : Below w.heap.size w W) => hT.stays h
  have hs0 : ¬ (1048576 : Int) - (szN L : Int) - (szN S : Int) < 0 := by omega
  generalize (szN L : Int) = zL at HSz HSt hs0
  generalize (szN S : Int) = zS at HSz HSt hs0
  have HI := Lib.hid (ChI.start (A := A0) (n0 := L.length) (c := c0) (B := B0) (m := S.length) (d := d0) (dv := dv0) (cN := cN0) 24 57 hV hN)
  have HLr := Lib.hid fun (W : World) (h : Below w.heap.size w W) => hL.stays h
  have HSr := Lib.hid fun (W : World) (h : Below w.heap.size w W) => hS.stays h
  clear hL hS hV hN hT hlL hlS hlC hlT hz hzz hwm
  go_enter Try.func7, Try.ntmps7
  go_wp2_with fail
  generalize (w.alloc (.cells #[.slice A0 L.length c0, .slice B0 S.length d0] 24)).alloc (.cells #[.slice V0 ws.length dv0, .slice N0 C.length cN0] 57) = w0 at HI ⊢
  obtain ⟨p0, p1, _, _, _⟩ := HI.out.pb
  go_wp2_with fail
  go_at_call 15
  refine (HSz.out w0 (HLr.out _ HI.out.bl) (HSr.out _ HI.out.bl)).mono ?_
  rintro r w1 ⟨rfl, hb⟩
  replace HI := Lib.hid (HI.out.on hb)
  clear hb p0 p1
  go_wp2_with fail
  go_at_call 42
  refine (HSt.out w1 (HTr.out _ HI.out.bl)).mono ?_
  rintro r w9 ⟨rfl, e9⟩
  obtain rfl := e9.symm
  clear e9
  go_wp2
  go_ret
  exact ⟨rfl, HI.out.bl⟩
set_option maxHeartbeats 1600000 in
theorem walk_big2 (A0 : Option Addr) (c0 : Nat) (xs0 : List Value) (L : List (List Int)) (B0 : Option Addr) (d0 : Nat) (ys0 : List Value) (S : List (List Int)) (V0 : Option Addr) (dv0 : Nat) (ws : List Int) (N0 : Option Addr) (cN0 : Nat) (zs0 : List Value) (C : List (List Int)) (T0 : Option Addr) (cT0 : Nat) (ts0 : List Value) (next : List (List Int)) (start : Int) (w : World) (hz : (szN L : Int) + (szN S : Int) + (szN next : Int) ≤ 1048576) (hzz : ¬ (szN L : Int) + (szN S : Int) + (szN next : Int) + (ws.length : Int) + (szN C : Int) ≤ 1048576) (hnL : L.length ≤ maxLen) (hlL : ∀ l ∈ L, l.length ≤ maxLen) (hnS : S.length ≤ maxLen) (hlS : ∀ l ∈ S, l.length ≤ maxLen) (hwm : ws.length ≤ maxLen) (hnC : C.length ≤ maxLen) (hlC : ∀ l ∈ C, l.length ≤ maxLen) (hL : NRow w A0 xs0 L) (hS : NRow w B0 ys0 S) (hV : Law.Row w V0 (ivs ws)) (hN : NRow w N0 zs0 C) (hnT : next.length ≤ maxLen) (hlT : ∀ l ∈ next, l.length ≤ maxLen) (hT : NRow w T0 ts0 next) :
    Calls Try.prog 7 #[pv A0 L.length c0 B0 S.length d0, .slice T0 next.length cT0, .int .i64 start, pv V0 ws.length dv0 N0 C.length cN0] w fun e w' => e = .returned (.bool true) ∧ Below w.heap.size w w' := by
  have hzP : szPr L S = 1048576 - (szN L : Int) - (szN S : Int) := szPr_yes (by omega)
  have HSz := Lib.hid fun (W : World) (h : NRow W A0 xs0 L) (h' : NRow W B0 ys0 S) => szPrb_any A0 c0 xs0 L B0 d0 ys0 S W hnL hlL hnS hlS h h'
  rw [hzP] at HSz
  clear hzP
  have hzT : szS (1048576 - (szN L : Int) - (szN S : Int)) next = 1048576 - (szN L : Int) - (szN S : Int) - (szN next : Int) := if_pos (by omega)
  have HSt := Lib.hid fun (W : World) (h : NRow W T0 ts0 next) => szSS_g T0 cT0 ts0 next (1048576 - (szN L : Int) - (szN S : Int)) W (by omega) (by omega) hnT hlT h
  rw [hzT] at HSt
  clear hzT
  have HTr := Lib.hid fun (W : World) (h : Below w.heap.size w W) => hT.stays h
  have hzC : szC (1048576 - (szN L : Int) - (szN S : Int) - (szN next : Int)) ws C = -1 := if_neg (by omega)
  have HSc := Lib.hid fun (W : World) (h : NRow W N0 zs0 C) => szChn_any V0 dv0 ws N0 cN0 zs0 C (1048576 - (szN L : Int) - (szN S : Int) - (szN next : Int)) W (by omega) (by omega) hwm hnC hlC h
  rw [hzC] at HSc
  clear hzC
  have hs2 : ¬ (1048576 : Int) - (szN L : Int) - (szN S : Int) - (szN next : Int) < 0 := by omega
  have hs0 : ¬ (1048576 : Int) - (szN L : Int) - (szN S : Int) < 0 := by omega
  generalize (szN L : Int) = zL at HSz HSc HSt hs0 hs2
  generalize (szN S : Int) = zS at HSz HSc HSt hs0 hs2
  generalize (szN next : Int) = zT at HSc HSt hs2
  have HI := Lib.hid (ChI.start (A := A0) (n0 := L.length) (c := c0) (B := B0) (m := S.length) (d := d0) (dv := dv0) (cN := cN0) 24 57 hV hN)
  have HLr := Lib.hid fun (W : World) (h : Below w.heap.size w W) => hL.stays h
  have HSr := Lib.hid fun (W : World) (h : Below w.heap.size w W) => hS.stays h
  clear hL hS hV hN hT hlL hlS hlC hlT hz hzz hwm
  go_enter Try.func7, Try.ntmps7
  go_wp2_with fail
  generalize (w.alloc (.cells #[.slice A0 L.length c0, .slice B0 S.length d0] 24)).alloc (.cells #[.slice V0 ws.length dv0, .slice N0 C.length cN0] 57) = w0 at HI ⊢
  obtain ⟨p0, p1, _, _, _⟩ := HI.out.pb
  go_wp2_with fail
  go_at_call 15
  refine (HSz.out w0 (HLr.out _ HI.out.bl) (HSr.out _ HI.out.bl)).mono ?_
  rintro r w1 ⟨rfl, hb⟩
  replace HI := Lib.hid (HI.out.on hb)
  clear hb p0 p1
  go_wp2_with fail
  go_at_call 42
  refine (HSt.out w1 (HTr.out _ HI.out.bl)).mono ?_
  rintro r w9 ⟨rfl, e9⟩
  obtain rfl := e9.symm
  clear e9
  obtain ⟨q0, q1, _, _, _⟩ := HI.out.cb
  go_wp2_with fail
  go_at_call 37
  refine (HSc.out w1 HI.out.sv).mono ?_
  rintro r w2 ⟨rfl, hb⟩
  have HB := Lib.hid (HI.out.on hb).bl
  clear hb q0 q1
  go_wp2
  go_ret
  exact ⟨rfl, HB.out⟩
theorem walk (A0 : Option Addr) (n0 c0 : Nat) (xs0 : List Value) (L : List (List Int)) (B0 : Option Addr) (m0 d0 : Nat) (ys0 : List Value) (S : List (List Int)) (T0 : Option Addr) (nT cT0 : Nat) (ts0 : List Value) (next : List (List Int)) (start : Int) (V0 : Option Addr) (nv dv0 : Nat) (ws : List Int) (N0 : Option Addr) (nc cN0 : Nat) (zs0 : List Value) (C : List (List Int)) (w : World) (h0 : L.length = n0 ∧ n0 ≤ c0 ∧ c0 ≤ maxLen ∧ (∀ l ∈ L, l.length ≤ maxLen) ∧ NRow w A0 xs0 L) (h1 : S.length = m0 ∧ m0 ≤ d0 ∧ d0 ≤ maxLen ∧ (∀ l ∈ S, l.length ≤ maxLen) ∧ NRow w B0 ys0 S) (h4 : next.length = nT ∧ nT ≤ cT0 ∧ cT0 ≤ maxLen ∧ (∀ l ∈ next, l.length ≤ maxLen) ∧ NRow w T0 ts0 next) (hstart : (Lit.int .i64 start).wf = true) (h2 : ws.length = nv ∧ nv ≤ dv0 ∧ dv0 ≤ maxLen ∧ (∀ z ∈ ws, (Lit.int .i64 z).wf = true) ∧ Law.Row w V0 (ws.map (Value.int .i64))) (h3 : C.length = nc ∧ nc ≤ cN0 ∧ cN0 ≤ maxLen ∧ (∀ l ∈ C, l.length ≤ maxLen) ∧ NRow w N0 zs0 C) (hL : laidMetH Try.prog Rows.fnExactExpectedCostRow.laid w) (hsh : w.ShapedOpen Try.prog) :
    Calls Try.prog 7 #[.agg #[.slice A0 n0 c0, .slice B0 m0 d0], .slice T0 nT cT0, .int .i64 start, .agg #[.slice V0 nv dv0, .slice N0 nc cN0]] w fun e w' => e = .returned (.bool true) ∧ Below w.heap.size w w' := by
  obtain ⟨rfl, hcA, hcB, hlL, hrL⟩ := h0
  obtain ⟨rfl, hdA, hdB, hlS, hrS⟩ := h1
  obtain ⟨rfl, hvA, hvB, hwf, hrV⟩ := h2
  obtain ⟨rfl, hnA, hnB, hlC, hrN⟩ := h3
  obtain ⟨rfl, htA, htB, hlT, hrT⟩ := h4
  clear hL hsh
  by_cases hz : (szN L : Int) + (szN S : Int) ≤ 1048576
  · by_cases hzt : (szN L : Int) + (szN S : Int) + (szN next : Int) ≤ 1048576
    · by_cases hzz : (szN L : Int) + (szN S : Int) + (szN next : Int) + (ws.length : Int) + (szN C : Int) ≤ 1048576
      · have hrs : (∀ l ∈ L, l.length ≤ 1048576) ∧ (∀ l ∈ S, l.length ≤ 1048576) ∧ (∀ l ∈ C, l.length ≤ 1048576) ∧ C.length ≤ 1048576 ∧ ws.length ≤ 1048576 ∧ L.length ≤ 1048576 ∧ (∀ l ∈ next, l.length ≤ 1048576) ∧ next.length ≤ 1048576 := ⟨fun l hl => szN_row (by omega) hl, fun l hl => szN_row (by omega) hl, fun l hl => szN_row (by omega) hl, szN_len (by omega), by omega, szN_len (by omega), fun l hl => szN_row (by omega) hl, szN_len (by omega)⟩
        exact walk_core A0 c0 xs0 L B0 d0 ys0 S V0 dv0 ws N0 cN0 zs0 C T0 cT0 ts0 next start (Q.ecQ L S next start ws C) w hzz (by omega) hlL (by omega) hlS (by omega) (by omega) hlC hrL hrS hrV hrN (by omega) hlT hrT (fun A c xs B d ys V dv N cN zs T cT ts W h1 h2 h3 h4 h5 => specEc_any A c xs L B d ys S T cT ts next start V dv ws N cN zs C W hrs.2.2.2.2.2.1 hrs.2.1 hrs.2.2.1 hrs.2.2.2.1 hrs.2.2.2.2.1 hrs.2.2.2.2.2.2.1 hrs.2.2.2.2.2.2.2 h1 h2 h3 h4 h5) (fun A c xs B d ys V dv N cN zs T cT ts W h1 h2 h3 h4 h5 => impEc_any A c xs L B d ys S T cT ts next start V dv ws N cN zs C W hrs.1 hrs.2.1 hrs.2.2.1 hrs.2.2.2.1 hrs.2.2.2.2.1 hrs.2.2.2.2.2.2.1 hrs.2.2.2.2.2.2.2 h1 h2 h3 h4 h5)
      · exact walk_big2 A0 c0 xs0 L B0 d0 ys0 S V0 dv0 ws N0 cN0 zs0 C T0 cT0 ts0 next start w hzt hzz (by omega) hlL (by omega) hlS (by omega) (by omega) hlC hrL hrS hrV hrN (by omega) hlT hrT
    · exact walk_big1 A0 c0 xs0 L B0 d0 ys0 S V0 dv0 ws N0 cN0 zs0 C T0 cT0 ts0 next start w hz hzt (by omega) hlL (by omega) hlS (by omega) (by omega) hlC hrL hrS hrV hrN (by omega) hlT hrT
  · exact walk_big A0 c0 xs0 L B0 d0 ys0 S V0 dv0 ws N0 cN0 zs0 C T0 cT0 ts0 next start w hz (by omega) hlL (by omega) hlS (by omega) (by omega) hlC hrL hrS hrV hrN (by omega) hlT hrT
end LExpectedCost
end Go.Proofs.Ytammlkaclooohaa
