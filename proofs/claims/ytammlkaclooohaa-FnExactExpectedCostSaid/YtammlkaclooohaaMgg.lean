/-
  Chances of the code: areDrawn, isChances, IsChances. Chances of the model: l11Chances. IsChances of the code and of the model. Chances in the laws' own helpers: szChances, toChances, eqChances.
-/
import Derived.Test.YtammlkaclooohaaMgf
import Derived.Test.YtammlkaclooohaaAsk8
import Derived.Deep.RegionHeld3
import Derived.Test.YtammlkaclooohaaPlw
import Derived.Test.YtammlkaclooohaaSzo
import Derived.Test.YtammlkaclooohaaInts
/- Chances of the code: areDrawn, isChances, IsChances. -/
namespace Go.Proofs.Ytammlkaclooohaa
open Go.RowKit
set_option linter.unusedVariables false
namespace Q
/-- Sequences for m kinds of requests. -/
def drQ (m : Nat) (C : List (List Int)) : Bool := decide (1 ≤ C.length) && decide ((C.length : Int) ≤ 12) && C.all (good (m : Int))
def sameQ (C : List (List Int)) : Bool := C.all fun l => decide (l.length = (C.getD 0 []).length)
/-- Chances for m kinds of requests. -/
def chnQ (m : Nat) (ws : List Int) (C : List (List Int)) : Bool := (drQ m C && wtQ C.length 1 ws) && (decide ((C.getD 0 []).length ≤ 6) && sameQ C)
structure Chn (m : Nat) (ws : List Int) (C : List (List Int)) (n : Nat) : Prop where
  n1 : 1 ≤ C.length
  n12 : C.length ≤ 12
  wl : ws.length = C.length
  ww : within 1 9 ws = true
  n6 : n ≤ 6
  row : ∀ l ∈ C, l.length = n ∧ good (m : Int) l = true
theorem dr_iff {m : Nat} {C : List (List Int)} : drQ m C = true ↔ 1 ≤ C.length ∧ C.length ≤ 12 ∧ ∀ l ∈ C, good (m : Int) l = true := by
  rw [drQ, Bool.and_eq_true, Bool.and_eq_true, decide_eq_true_iff, decide_eq_true_iff, List.all_eq_true, and_assoc]
  exact ⟨fun h => ⟨h.1, by omega, h.2.2⟩, fun h => ⟨h.1, by omega, h.2.2⟩⟩
theorem chn_iff {m : Nat} {ws : List Int} {C : List (List Int)} : chnQ m ws C = true ↔ Chn m ws C (C.getD 0 []).length := by
  rw [chnQ, Bool.and_eq_true, Bool.and_eq_true, Bool.and_eq_true, dr_iff, wt_iff, decide_eq_true_iff, sameQ, List.all_eq_true]
  constructor
  · rintro ⟨⟨⟨h1, h2, h3⟩, h4, h5⟩, h6, h7⟩
    exact ⟨h1, h2, h4, h5, h6, fun l hl => ⟨by simpa using h7 l hl, h3 l hl⟩⟩
  · rintro ⟨h1, h2, h3, h4, h5, h6⟩
    exact ⟨⟨⟨h1, h2, fun l hl => (h6 l hl).2⟩, h3, h4⟩, h5, fun l hl => by simpa using (h6 l hl).1⟩
theorem Chn.within0 {m n : Nat} {ws : List Int} {C : List (List Int)} (h : Chn m ws C n) : within 0 9 ws = true := List.all_eq_true.2 fun z hz => by
  have := List.all_eq_true.1 h.ww z hz
  simp [okW] at this ⊢
  omega
end Q
/-- What the literal of areDrawn captures: the requests of the problem. -/
structure DrE (W : World) (bp : Nat) (B : Option Addr) (m d : Nat) : Prop where
  c1 : W.cell? ⟨bp, 1, none⟩ = some (.slice B m d)
  lt : bp < W.heap.size
theorem DrE.on {W W' : World} {bp : Nat} {B : Option Addr} {m d : Nat} (h : DrE W bp B m d) (hb : Below W.heap.size W W') : DrE W' bp B m d :=
  ⟨(hb.cell (p := ⟨bp, 1, none⟩) h.lt).trans h.c1, Nat.lt_of_lt_of_le h.lt hb.size⟩
/-- What the literal of isChances captures: a length. -/
structure LnE (W : World) (bc n : Nat) : Prop where
  c0 : W.cell? ⟨bc, 0, none⟩ = some (.int .i64 (n : Int))
  lt : bc < W.heap.size
theorem LnE.on {W W' : World} {bc n : Nat} (h : LnE W bc n) (hb : Below W.heap.size W W') : LnE W' bc n := ⟨(hb.cell (p := ⟨bc, 0, none⟩) h.lt).trans h.c0, Nat.lt_of_lt_of_le h.lt hb.size⟩
section
variable (A : Option Addr) (c n0 : Nat) (B : Option Addr) (m d : Nat) (N : Option Addr) (cN : Nat) (zs : List Value) (C : List (List Int)) (w : World)
set_option maxHeartbeats 800000 in
theorem drlit_any (bp : Nat) (l : List Int) (X : Option Addr) (dX : Nat) (hl : l.length ≤ 1048576) (h : DrE w bp B m d) (hX : Law.Row w X (ivs l)) :
    Calls Try.prog 186 #[.slice X l.length dX, .pointer (some ⟨bp, 0, none⟩)] w fun e w' => e = .returned (.bool (Q.good (m : Int) l)) ∧ Below w.heap.size w w' := by
  have HI := Lib.hid (impIsReq_any (m : Int) X dX l w hl hX)
  have p1 := h.c1
  generalize Q.good (m : Int) l = v at HI ⊢
  clear h hX
  generalize l.length = n at *
  go_enter Try.func186, Try.ntmps186
  go_wp2_with fail
  go_at_call 141
  refine (HI.out).mono ?_
  rintro e w' ⟨rfl, hw'⟩
  obtain rfl := hw'.symm
  clear hw'
  go_wp2
  go_ret
  exact ⟨rfl, Below.refl _ _⟩
set_option maxHeartbeats 800000 in
theorem areDrawn_any (hl : ∀ l ∈ C, l.length ≤ 1048576) (hn : C.length ≤ 1048576) (hN : NRow w N zs C) :
    Calls Try.prog 153 #[pv A n0 c B m d, .slice N C.length cN] w fun e w' => e = .returned (.bool (Q.drQ m C)) ∧ Below w.heap.size w w' := by
  have hb0 : Below w.heap.size w (w.alloc (.cells #[.slice A n0 c, .slice B m d] 35)) := (Below.refl _ _).alloc (Nat.le_refl _) _
  have HE : Hid (DrE (w.alloc (.cells #[.slice A n0 c, .slice B m d] 35)) w.heap.size B m d) := ⟨by simp, by simp⟩
  have HC := Lib.hid (IslIdr.isList_any (.pointer (some ⟨w.heap.size, 0, none⟩)) (fun W => DrE W w.heap.size B m d) (Q.good (m : Int)) N cN zs C _ (Lib.hid fun W W' h hb => h.on hb) 12 (Lib.hid fun _ l X dX W hm he hX => drlit_any B m d W w.heap.size l X dX (hl l hm) he hX) hn HE.out (hN.stays hb0))
  have HV : Hid (Q.drQ m C = (decide (1 ≤ C.length) && decide ((C.length : Int) ≤ 12) && C.all (Q.good (m : Int)))) := rfl
  rw [← HV.out] at HC
  generalize Q.drQ m C = V at HC ⊢
  have HB := Lib.hid hb0
  clear hN hl hb0 HV HE
  go_enter Try.func153, Try.ntmps153
  go_wp2_with fail
  go_at_call 166
  refine HC.out.mono ?_
  rintro e w1 ⟨rfl, hb⟩
  have HB1 := Lib.hid (Law.then_ HB.out hb)
  clear hb HC
  go_wp2
  go_ret
  exact ⟨rfl, HB1.out⟩
set_option maxHeartbeats 800000 in
theorem lnlit_any (bc n : Nat) (l : List Int) (X : Option Addr) (dX : Nat) (h : LnE w bc n) :
    Calls Try.prog 155 #[.slice X l.length dX, .pointer (some ⟨bc, 0, none⟩)] w fun e w' => e = .returned (.bool (!decide (l.length = n))) ∧ Below w.heap.size w w' := by
  have p0 := h.c0
  clear h
  generalize l.length = k at *
  by_cases e : k = n
  · subst e
    rw [decide_eq_true rfl]
    go_enter Try.func155, Try.ntmps155
    go_wp2
    go_ret
    exact ⟨by simp, Below.refl _ _⟩
  · have hne : ((k : Int) != (n : Int)) = true := by simp; omega
    have hne2 : ¬ (k : Int) = (n : Int) := by omega
    rw [decide_eq_false e]
    clear e
    go_enter Try.func155, Try.ntmps155
    go_wp2
    go_ret
    exact ⟨by first | rfl | simp, Below.refl _ _⟩
end
/-- What a call knows of the problem and the chances that it was given by value. -/
structure ChI (w W : World) (A : Option Addr) (n0 c : Nat) (B : Option Addr) (m d : Nat) (V : Option Addr) (dv : Nat) (ws : List Int) (N : Option Addr) (cN : Nat) (zs : List Value) (C : List (List Int)) : Prop where
  pb : Bk2 W w.heap.size (.slice A n0 c) (.slice B m d)
  cb : Bk2 W (w.heap.size + 1) (.slice V ws.length dv) (.slice N C.length cN)
  wv : Law.Row W V (ivs ws)
  sv : NRow W N zs C
  bl : Below w.heap.size w W
section
variable {w W W' : World} {A : Option Addr} {n0 c : Nat} {B : Option Addr} {m d : Nat} {V : Option Addr} {dv : Nat} {ws : List Int} {N : Option Addr} {cN : Nat} {zs : List Value} {C : List (List Int)}
theorem ChI.on (h : ChI w W A n0 c B m d V dv ws N cN zs C) (hb : Below W.heap.size W W') : ChI w W' A n0 c B m d V dv ws N cN zs C := ⟨h.pb.on hb, h.cb.on hb, h.wv.stays hb, h.sv.stays hb, Law.then_ h.bl hb⟩
theorem ChI.start (t t2 : TypeId) (hV : Law.Row w V (ivs ws)) (hN : NRow w N zs C) : ChI w ((w.alloc (.cells #[.slice A n0 c, .slice B m d] t)).alloc (.cells #[.slice V ws.length dv, .slice N C.length cN] t2)) A n0 c B m d V dv ws N cN zs C := by
  have hb : Below w.heap.size w ((w.alloc (.cells #[.slice A n0 c, .slice B m d] t)).alloc (.cells #[.slice V ws.length dv, .slice N C.length cN] t2)) := ((Below.refl _ _).alloc (Nat.le_refl _) _).alloc (by simp) _
  refine ⟨(Bk2.new w _ _ _).alloc _, ?_, hV.stays hb, hN.stays hb, hb⟩
  have h := Bk2.new (w.alloc (.cells #[.slice A n0 c, .slice B m d] t)) (.slice V ws.length dv) (.slice N C.length cN) t2
  rwa [show (w.alloc (.cells #[.slice A n0 c, .slice B m d] t)).heap.size = w.heap.size + 1 by simp] at h
end
theorem Q.chn_no {m : Nat} {ws : List Int} {C : List (List Int)} (h : Q.drQ m C = false) : Q.chnQ m ws C = false := by rw [Q.chnQ, h]; rfl
theorem Q.chn_no2 {m : Nat} {ws : List Int} {C : List (List Int)} (h : Q.wtQ C.length 1 ws = false) : Q.chnQ m ws C = false := by rw [Q.chnQ, h, Bool.and_false]; rfl
theorem Q.chn_both {m : Nat} {ws : List Int} {C : List (List Int)} (h : Q.drQ m C = true) (h2 : Q.wtQ C.length 1 ws = true) : Q.chnQ m ws C = (decide ((C.getD 0 []).length ≤ 6) && Q.sameQ C) := by rw [Q.chnQ, h, h2]; rfl
section
variable (A : Option Addr) (n0 c : Nat) (B : Option Addr) (m d : Nat) (V : Option Addr) (dv : Nat) (ws : List Int) (N : Option Addr) (cN : Nat) (zs : List Value) (C : List (List Int)) (w : World)
set_option maxRecDepth 100000 in
set_option maxHeartbeats 1600000 in
theorem isChances_any (hl : ∀ l ∈ C, l.length ≤ 1048576) (hn : C.length ≤ 1048576) (hwl : ws.length ≤ 1048576) (hV : Law.Row w V (ivs ws)) (hN : NRow w N zs C) :
    Calls Try.prog 93 #[pv A n0 c B m d, pv V ws.length dv N C.length cN] w fun e w' => e = .returned (.bool (Q.chnQ m ws C)) ∧ Below w.heap.size w w' := by
  have HI := Lib.hid (ChI.start (A := A) (n0 := n0) (c := c) (B := B) (m := m) (d := d) (dv := dv) (cN := cN) 35 61 hV hN)
  have HD := Lib.hid fun (W : World) (h : NRow W N zs C) => areDrawn_any A c n0 B m d N cN zs C W hl hn h
  have HWt := Lib.hid fun (W : World) (h : Law.Row W V (ivs ws)) => isWeights_any V dv ws W C.length 1 hwl h
  cases hd : Q.drQ m C
  · rw [hd] at HD
    have HX := Lib.hid (Q.chn_no (ws := ws) hd)
    generalize Q.chnQ m ws C = X at HX ⊢
    clear hd hV hN hl HWt
    go_enter Try.func93, Try.ntmps93
    go_wp2_with fail
    generalize (w.alloc (.cells #[.slice A n0 c, .slice B m d] 35)).alloc (.cells #[.slice V ws.length dv, .slice N C.length cN] 61) = wa at HI ⊢
    obtain ⟨p0, p1, _, _, _⟩ := HI.out.pb
    obtain ⟨q0, q1, _, _, _⟩ := HI.out.cb
    go_wp2_with fail
    go_at_call 153
    refine (HD.out wa HI.out.sv).mono ?_
    rintro e w1 ⟨rfl, hb⟩
    have HB := Lib.hid (HI.out.on hb).bl
    clear hb p0 p1 q0 q1
    go_wp2
    go_ret
    exact ⟨by rw [HX.out]; rfl, HB.out⟩
  · rw [hd] at HD
    cases hw : Q.wtQ C.length 1 ws
    · rw [hw] at HWt
      have HX := Lib.hid (Q.chn_no2 (m := m) hw)
      generalize Q.chnQ m ws C = X at HX ⊢
      clear hd hV hN hl hw
      go_enter Try.func93, Try.ntmps93
      go_wp2_with fail
      generalize (w.alloc (.cells #[.slice A n0 c, .slice B m d] 35)).alloc (.cells #[.slice V ws.length dv, .slice N C.length cN] 61) = wa at HI ⊢
      obtain ⟨p0, p1, _, _, _⟩ := HI.out.pb
      obtain ⟨q0, q1, _, _, _⟩ := HI.out.cb
      go_wp2_with fail
      go_at_call 153
      refine (HD.out wa HI.out.sv).mono ?_
      rintro e w1 ⟨rfl, hb⟩
      have HI1 := Lib.hid (HI.out.on hb)
      clear hb p0 p1 q0 q1
      obtain ⟨q0, q1, _, _, _⟩ := HI1.out.cb
      go_wp2_with fail
      go_at_call 143
      refine (HWt.out _ HI1.out.wv).mono ?_
      rintro e w' ⟨rfl, hw'⟩
      obtain rfl := hw'.symm
      clear hw'
      go_wp2
      go_ret
      exact ⟨by rw [HX.out]; rfl, HI1.out.bl⟩
    · rw [hw] at HWt
      have HX := Lib.hid (Q.chn_both hd hw)
      generalize Q.chnQ m ws C = X at HX ⊢
      have h1 := (Q.dr_iff.1 hd).1
      obtain ⟨l0, hl0⟩ : ∃ l0, C[0]? = some l0 := ⟨_, List.getElem?_eq_getElem (by omega)⟩
      have hl0e : C.getD 0 [] = l0 := by rw [List.getD_eq_getElem?_getD, hl0]; rfl
      obtain ⟨b1, o1, X0, d0, e1, hbb, hc0w, _⟩ := hN.row_at hl0
      subst e1
      rw [Nat.add_zero] at hc0w
      have HC0 := Lib.hid fun (W : World) (hb : Below w.heap.size w W) => (hb.cell (p := ⟨b1, o1, none⟩) hbb).trans hc0w
      have h1I : (0 : Int) < (C.length : Int) := by omega
      have HSm : Hid (Q.sameQ C = C.all fun l => decide (l.length = l0.length)) := by show _ = _; rw [← hl0e]; rfl
      rw [hl0e] at HX
      have HL0 := hl l0 (List.mem_of_getElem? hl0)
      have HHas := Lib.hid fun (bc : Nat) (W : World) (hE : LnE W bc l0.length) (h : NRow W (some ⟨b1, o1, none⟩) zs C) => IslHcl.has_any (.pointer (some ⟨bc, 0, none⟩)) (fun W => LnE W bc l0.length) (fun l => decide (l.length = l0.length)) (some ⟨b1, o1, none⟩) cN zs C W (Lib.hid fun W W' h hb => h.on hb) (Lib.hid fun l X dX W _ he hX => lnlit_any W bc l0.length l X dX he) hn ⟨hE, h⟩
      rw [← HSm.out] at HHas
      generalize Q.sameQ C = sm at HHas HX
      obtain ⟨k0, hk0⟩ : ∃ k0, k0 = l0.length := ⟨_, rfl⟩
      rw [← hk0] at HC0 HHas HX HL0
      clear hd hV hN hl hw hl0 hl0e hbb hc0w HSm hk0
      go_enter Try.func93, Try.ntmps93
      go_wp2_with fail
      generalize (w.alloc (.cells #[.slice A n0 c, .slice B m d] 35)).alloc (.cells #[.slice V ws.length dv, .slice (some ⟨b1, o1, none⟩) C.length cN] 61) = wa at HI ⊢
      obtain ⟨p0, p1, _, _, _⟩ := HI.out.pb
      obtain ⟨q0, q1, _, _, _⟩ := HI.out.cb
      go_wp2_with fail
      go_at_call 153
      refine (HD.out wa HI.out.sv).mono ?_
      rintro e w1 ⟨rfl, hb⟩
      have HI1 := Lib.hid (HI.out.on hb)
      clear hb p0 p1 q0 q1
      obtain ⟨q0, q1, _, _, _⟩ := HI1.out.cb
      go_wp2_with fail
      go_at_call 143
      refine (HWt.out _ HI1.out.wv).mono ?_
      rintro e w' ⟨rfl, hw'⟩
      obtain rfl := hw'.symm
      clear hw'
      have hc0 := HC0.out _ HI1.out.bl
      have HLn : Hid (LnE (w1.alloc (.cells #[.int .i64 (k0 : Int)] 3)) w1.heap.size k0) := ⟨by simp, by simp⟩
      have hb2 : Below w1.heap.size w1 (w1.alloc (.cells #[.int .i64 (k0 : Int)] 3)) := (Below.refl _ _).alloc (Nat.le_refl _) _
      have HI2 := Lib.hid (HI1.out.on hb2)
      have hl2 := HLn.out.c0
      have q1' := HI2.out.cb.c1
      clear hb2
      by_cases h6 : k0 ≤ 6
      · have h6I : (k0 : Int) ≤ 6 := by omega
        rw [decide_eq_true h6] at HX
        clear h6
        go_wp2_with fail
        generalize w1.alloc (.cells #[.int .i64 (k0 : Int)] 3) = w2 at HLn HI2 hl2 q1' ⊢
        have HH := Lib.hid (HHas.out _ w2 HLn.out HI2.out.sv)
        go_wp2_with fail
        go_at_call 154
        refine HH.out.mono ?_
        rintro e w3 ⟨rfl, hb⟩
        have HB := Lib.hid (HI2.out.on hb).bl
        clear hb q0 q1 q1' hc0 hl2
        cases sm
        all_goals
          go_wp2
          go_ret
          exact ⟨by rw [HX.out]; rfl, HB.out⟩
      · have h6I : ¬ (k0 : Int) ≤ 6 := by omega
        rw [decide_eq_false h6] at HX
        have HB := Lib.hid HI2.out.bl
        clear h6
        go_wp2
        go_ret
        exact ⟨by rw [HX.out]; rfl, HB.out⟩
end
end Go.Proofs.Ytammlkaclooohaa

/- Chances of the model: l11Chances. -/
namespace Go.Proofs.Ytammlkaclooohaa
open Go.RowKit
set_option linter.unusedVariables false
namespace Q
theorem cn_no1 {m : Nat} {ws : List Int} {C : List (List Int)} (h : ¬ (1 ≤ C.length ∧ C.length ≤ 12)) : chnQ m ws C = false := by
  rw [Bool.eq_false_iff]
  intro e
  have := chn_iff.1 e
  exact h ⟨this.n1, this.n12⟩
theorem cn_no2 {m : Nat} {ws : List Int} {C : List (List Int)} (h : ¬ ws.length = C.length) : chnQ m ws C = false := by
  rw [Bool.eq_false_iff]
  intro e
  exact h (chn_iff.1 e).wl
theorem cn_no3 {m : Nat} {ws : List Int} {C : List (List Int)} (h : within 1 9 ws = false) : chnQ m ws C = false := by
  rw [Bool.eq_false_iff]
  intro e
  have := (chn_iff.1 e).ww
  rw [h] at this
  cases this
theorem cn_no4 {m : Nat} {ws : List Int} {C : List (List Int)} {l0 l : List Int} (h0 : C[0]? = some l0) (hl : l ∈ C) (h : ¬ (l.length = l0.length ∧ l.length ≤ 6 ∧ good (m : Int) l = true)) : chnQ m ws C = false := by
  rw [Bool.eq_false_iff]
  intro e
  have := chn_iff.1 e
  rw [List.getD_eq_getElem?_getD, h0] at this
  have h1 := this.row l hl
  have h6 := this.n6
  simp only [Option.getD_some] at h1 h6
  exact h ⟨h1.1, by omega, h1.2⟩
theorem cn_yes {m : Nat} {ws : List Int} {C : List (List Int)} {l0 : List Int} (h0 : C[0]? = some l0) (h1 : 1 ≤ C.length ∧ C.length ≤ 12) (h2 : ws.length = C.length) (h3 : within 1 9 ws = true) (h : ∀ j l, j < C.length → C[j]? = some l → l.length = l0.length ∧ l.length ≤ 6 ∧ good (m : Int) l = true) : chnQ m ws C = true := by
  rw [chn_iff, List.getD_eq_getElem?_getD, h0]
  exact ⟨h1.1, h1.2, h2, h3, (h 0 l0 (by omega) h0).2.1, fun l hl => by
    obtain ⟨j, hj, rfl⟩ := List.mem_iff_getElem.1 hl
    have := h j _ hj (List.getElem?_eq_getElem hj)
    exact ⟨this.1, this.2.2⟩⟩
theorem ask0 {L S : List (List Int)} (h : Q.Pr L S) (l : List Int) : askQ L S 0 l = good (S.length : Int) l := by
  have h1 := h.n1
  rw [askQ, Q.pr_iff.2 h]
  simp
  omega
end Q
section
variable (A : Option Addr) (c : Nat) (xs : List Value) (L : List (List Int)) (B : Option Addr) (d : Nat) (ys : List Value) (S : List (List Int)) (V : Option Addr) (dv : Nat) (ws : List Int) (N : Option Addr) (cN : Nat) (zs : List Value) (C : List (List Int)) (w : World)
set_option maxRecDepth 100000 in
set_option maxHeartbeats 800000 in
theorem l11Chances_any (hlS : ∀ l ∈ S, l.length ≤ 1048576) (hl : ∀ l ∈ C, l.length ≤ 1048576) (hn : C.length ≤ 1048576) (hwl : ws.length ≤ 1048576) (hL : NRow w A xs L) (hS : NRow w B ys S) (hV : Law.Row w V (ivs ws)) (hN : NRow w N zs C) :
    Calls Try.prog 91 #[pv A L.length c B S.length d, pv V ws.length dv N C.length cN] w fun e w' => e = .returned (.bool (Q.prQ L S && Q.chnQ S.length ws C)) ∧ Below w.heap.size w w' := by
  have HI := Lib.hid (ChI.start (A := A) (n0 := L.length) (c := c) (B := B) (m := S.length) (d := d) (dv := dv) (cN := cN) 35 61 hV hN)
  have HG := Lib.hid fun (W : World) (h : Below w.heap.size w W) => l8Good_any A c xs L B d ys S W hlS (hL.stays h) (hS.stays h)
  have HIn := Lib.hid fun x y z W => l1In_any x y z W
  cases hp : Q.prQ L S
  · rw [hp] at HG
    rw [Bool.false_and]
    clear hp hL hS hV hN hl hlS
    go_enter Try.func91, Try.ntmps91
    go_wp2_with fail
    generalize (w.alloc (.cells #[.slice A L.length c, .slice B S.length d] 35)).alloc (.cells #[.slice V ws.length dv, .slice N C.length cN] 61) = wa at HI ⊢
    obtain ⟨p0, p1, _, _, _⟩ := HI.out.pb
    go_wp2_with fail
    go_at_call 90
    refine (HG.out wa HI.out.bl).mono ?_
    rintro e w1 ⟨rfl, hb⟩
    have HB := Lib.hid (HI.out.on hb).bl
    clear hb p0 p1
    go_wp2
    go_ret
    exact ⟨rfl, HB.out⟩
  · rw [hp] at HG
    rw [Bool.true_and]
    have hpr := Q.pr_iff.1 hp
    clear hp
    by_cases h1 : 1 ≤ C.length ∧ C.length ≤ 12
    · have hb1 : (decide ((1 : Int) ≤ (C.length : Int)) && decide ((C.length : Int) ≤ 12)) = true := by simp; omega
      have HI1 := Lib.hid fun W => HIn.out (C.length : Int) 1 12 W
      rw [hb1] at HI1
      have HWt := Lib.hid fun (W : World) (h : Law.Row W V (ivs ws)) => l11Weights_any V dv ws W 1 hwl h
      by_cases h2 : ws.length = C.length
      · have hne : ((ws.length : Int) != (C.length : Int)) = false := by simp [h2]
        cases h3 : Q.within 1 9 ws
        · rw [h3] at HWt
          have HX := Lib.hid (Q.cn_no3 (m := S.length) (C := C) h3)
          generalize Q.chnQ S.length ws C = X at HX ⊢
          clear h1 h3 hL hS hV hN hl hlS hb1 hpr
          clear h2
          go_enter Try.func91, Try.ntmps91
          go_wp2_with fail
          generalize (w.alloc (.cells #[.slice A L.length c, .slice B S.length d] 35)).alloc (.cells #[.slice V ws.length dv, .slice N C.length cN] 61) = wa at HI ⊢
          obtain ⟨p0, p1, _, _, _⟩ := HI.out.pb
          go_wp2_with fail
          go_at_call 90
          refine (HG.out wa HI.out.bl).mono ?_
          rintro e w1 ⟨rfl, hb⟩
          have HI9 := Lib.hid (HI.out.on hb)
          clear hb p0 p1
          obtain ⟨q0, q1, _, _, _⟩ := HI9.out.cb
          go_wp2_with fail
          go_at_call 83
          refine (HI1.out _).mono ?_
          rintro e w9 ⟨rfl, hw9⟩
          obtain rfl := hw9.symm
          clear hw9
          go_wp2_with fail
          go_at_call 113
          refine (HWt.out _ HI9.out.wv).mono ?_
          rintro e w9 ⟨rfl, hw9⟩
          obtain rfl := hw9.symm
          clear hw9
          go_wp2
          go_ret
          exact ⟨by rw [HX.out]; rfl, HI9.out.bl⟩
        · rw [h3] at HWt
          obtain ⟨l0, hl0⟩ : ∃ l0, C[0]? = some l0 := ⟨_, List.getElem?_eq_getElem (by omega)⟩
          obtain ⟨b1, o1, X0, d0, e1, hbb, hc0w, _⟩ := hN.row_at hl0
          subst e1
          rw [Nat.add_zero] at hc0w
          have HC0 := Lib.hid fun (W : World) (hb : Below w.heap.size w W) => (hb.cell (p := ⟨b1, o1, none⟩) hbb).trans hc0w
          have HNo := Lib.hid fun l (hl : l ∈ C) => Q.cn_no4 (m := S.length) (ws := ws) hl0 hl
          have HYes := Lib.hid (Q.cn_yes (m := S.length) hl0 h1 h2 h3)
          generalize Q.chnQ S.length ws C = X9 at HNo HYes ⊢
          have HTk := Lib.hid fun (l : List Int) (R : Option Addr) (e : Nat) (W : World) (hlr : l.length ≤ 1048576) (h : Below w.heap.size w W) (hR : Law.Row W R (ivs l)) => l8Takes_any A c xs L B d ys S W 0 l R e hlS hlr (hL.stays h) (hS.stays h) hR
          simp only [Q.ask0 hpr] at HTk
          have HLl := Lib.hid hl
          have h1I : (0 : Int) < (C.length : Int) := by omega
          have hn12 := h1.2
          have h1N : 0 < C.length := by omega
          have h1P : (C.length : Int) ≠ 0 := by omega
          have h1Q : ¬ (C.length : Int) ≤ 0 := by omega
          obtain ⟨k0, hk0⟩ : ∃ k0, k0 = l0.length := ⟨_, rfl⟩
          rw [← hk0] at HC0 HNo HYes
          have HK0 := Lib.hid (show k0 ≤ 1048576 by rw [hk0]; exact hl l0 (List.mem_of_getElem? hl0))
          clear h1 h2 h3 hL hS hV hN hl hlS hb1 hl0 hk0 hbb hc0w hpr
          go_enter Try.func91, Try.ntmps91
          go_wp2_with fail
          generalize (w.alloc (.cells #[.slice A L.length c, .slice B S.length d] 35)).alloc (.cells #[.slice V ws.length dv, .slice (some ⟨b1, o1, none⟩) C.length cN] 61) = wa at HI ⊢
          obtain ⟨p0, p1, _, _, _⟩ := HI.out.pb
          go_wp2_with fail
          go_at_call 90
          refine (HG.out wa HI.out.bl).mono ?_
          rintro e w1 ⟨rfl, hb⟩
          have HI9 := Lib.hid (HI.out.on hb)
          clear hb p0 p1
          obtain ⟨q0, q1, _, _, _⟩ := HI9.out.cb
          go_wp2_with fail
          go_at_call 83
          refine (HI1.out _).mono ?_
          rintro e w9 ⟨rfl, hw9⟩
          obtain rfl := hw9.symm
          clear hw9
          go_wp2_with fail
          go_at_call 113
          refine (HWt.out _ HI9.out.wv).mono ?_
          rintro e w9 ⟨rfl, hw9⟩
          obtain rfl := hw9.symm
          clear hw9
          clear q0 q1
          go_wp2_with fail
          go_loopw [5] (fun i wr => ∃ k : Nat, k ≤ C.length ∧ i = .int .i64 (k : Int) ∧ Hid (Below w1.heap.size w1 wr) ∧ Hid (∀ j l, j < k → C[j]? = some l → l.length = k0 ∧ l.length ≤ 6 ∧ Q.good (S.length : Int) l = true)) (fun i _ => C.length - (intOf i).toNat)
          case atStart => exact ⟨0, Nat.zero_le _, rfl, Below.refl _ _, fun j l hj => by omega⟩
          case round =>
            obtain ⟨k, hk, rfl, hbr, hall⟩ := hrel
            have HI2 := Lib.hid (HI9.out.on hbr.out)
            obtain ⟨p0, p1, _, _, _⟩ := HI2.out.pb
            obtain ⟨q0, q1, _, _, _⟩ := HI2.out.cb
            have hc0 := HC0.out wr HI2.out.bl
            by_cases hlt : k < C.length
            · have hltI : (k : Int) < (C.length : Int) := by omega
              obtain ⟨l, hlk⟩ : ∃ l, C[k]? = some l := ⟨_, List.getElem?_eq_getElem hlt⟩
              obtain ⟨b2, o2, X, dX, e2, hb2, hc, hrow⟩ := HI2.out.sv.row_at hlk
              cases e2
              have hll := HLl.out l (List.mem_of_getElem? hlk)
              have HN9 := Lib.hid (HNo.out l (List.mem_of_getElem? hlk))
              have HK := Lib.hid hlk
              clear hlk
              by_cases e1 : l.length = k0
              · have hne1 : ((l.length : Int) != (k0 : Int)) = false := by simp [e1]
                by_cases e6 : l.length ≤ 6
                · have h6b : decide ((6 : Int) < (k0 : Int)) = false := by rw [decide_eq_false_iff_not]; omega
                  have h6I : ¬ (6 : Int) < (k0 : Int) := by omega
                  have HT := Lib.hid fun (W : World) (h : Below wr.heap.size wr W) => HTk.out l X dX W hll (Law.then_ HI2.out.bl h) (hrow.stays h)
                  have HA : Hid (Q.good (S.length : Int) l = true → ∀ j l, j < k + 1 → C[j]? = some l → l.length = k0 ∧ l.length ≤ 6 ∧ Q.good (S.length : Int) l = true) := fun hg j l' hj hl' => by
                    by_cases e : j = k
                    · subst e
                      rw [HK.out] at hl'
                      cases hl'
                      exact ⟨e1, e6, hg⟩
                    · exact hall.out j l' (by omega) hl'
                  have HF : Hid (Q.good (S.length : Int) l = false → X9 = false) := fun hg => HN9.out (fun h => by rw [hg] at h; exact absurd h.2.2 (by decide))
                  have hp0 := Law.cell_in p0
                  have hq0 := Law.cell_in q1
                  have hcw := Law.cell_in hc0
                  have hcx := Law.cell_in hc
                  rw [e1] at HT hc hne1
                  generalize Q.good (S.length : Int) l = gd at HT HA HF
                  have HM : Hid (∀ w' : World, Below wr.heap.size wr w' → w'.cell? ⟨w.heap.size, 0, none⟩ = some (.slice A L.length c) ∧ w'.cell? ⟨w.heap.size, 1, none⟩ = some (.slice B S.length d) ∧ w'.cell? ⟨w.heap.size + 1, 1, none⟩ = some (.slice (some ⟨b1, o1, none⟩) C.length cN) ∧ w'.cell? ⟨b1, o1, none⟩ = some (.slice X0 k0 d0) ∧ w'.cell? ⟨b1, o1 + k, none⟩ = some (.slice X k0 dX) ∧ Below wr.heap.size wr w') := Lib.hid fun w' h => ⟨(h.cell (p := ⟨w.heap.size, 0, none⟩) hp0).trans p0, (h.cell (p := ⟨w.heap.size, 1, none⟩) hp0).trans p1, (h.cell (p := ⟨w.heap.size + 1, 1, none⟩) hq0).trans q1, (h.cell (p := ⟨b1, o1, none⟩) hcw).trans hc0, (h.cell (p := ⟨b1, o1 + k, none⟩) hcx).trans hc, h⟩
                  have hs0 := HM.out wr.drew (Below.refl _ _).drew
                  clear hall HN9 HK e1 e6 hrow hll q0 hp0 hq0 hcw hcx hb2 HNo
                  go_wp2
                  go_region_held3 (fun w' => w'.cell? ⟨w.heap.size, 0, none⟩ = some (.slice A L.length c) ∧ w'.cell? ⟨w.heap.size, 1, none⟩ = some (.slice B S.length d) ∧ w'.cell? ⟨w.heap.size + 1, 1, none⟩ = some (.slice (some ⟨b1, o1, none⟩) C.length cN) ∧ w'.cell? ⟨b1, o1, none⟩ = some (.slice X0 k0 d0) ∧ w'.cell? ⟨b1, o1 + k, none⟩ = some (.slice X k0 dX) ∧ Below wr.heap.size wr w') ((first | exact hs0 | assumption | exact HM.out _ (Law.then_ (by assumption : _ ∧ _ ∧ _ ∧ _ ∧ _ ∧ Below wr.heap.size wr _).2.2.2.2.2 (by assumption)))) (first
                    | (go_at_call 65; refine (HT.out _ (by assumption : _ ∧ _ ∧ _ ∧ _ ∧ _ ∧ Below wr.heap.size wr _).2.2.2.2.2).mono ?_; rintro e w10 ⟨rfl, hb10⟩))
                  all_goals
                    have hbl := (by assumption : _ ∧ _ ∧ _ ∧ _ ∧ _ ∧ Below wr.heap.size wr w10).2.2.2.2.2
                    have HBf := Lib.hid (Law.then_ hbr.out hbl)
                    have HBw := Lib.hid (HI2.out.on hbl).bl
                    clear hbl hb10 hs0 HM p0 p1 q1 hc0 hc
                    cases gd
                    · have HX := Lib.hid (HF.out rfl)
                      go_wp2
                      go_ret
                      exact ⟨by rw [HX.out]; rfl, HBw.out⟩
                    · have HA2 := Lib.hid (HA.out rfl)
                      go_wp2
                      go_roundw
                      case rel => exact ⟨k + 1, by omega, by go_num, HBf.out, HA2.out⟩
                      case measure => simp [intOf]; omega
                · have h6b : decide ((6 : Int) < (k0 : Int)) = true := by rw [decide_eq_true_iff]; omega
                  have h6I : (6 : Int) < (k0 : Int) := by omega
                  have HX : Hid (X9 = false) := HN9.out (fun h => e6 h.2.1)
                  rw [e1] at hc hne1
                  have HB := Lib.hid fun q => Law.up HI2.out.bl q
                  clear hall HN9 HK e1 e6 hrow hll q0 HNo hb2
                  go_wp2
                  go_quiet (fail)
                  go_wp2
                  go_ret
                  exact ⟨by rw [HX.out]; rfl, HB.out _⟩
              · have hne1 : ((l.length : Int) != (k0 : Int)) = true := by simp; omega
                have hne2 : ¬ (l.length : Int) = (k0 : Int) := by omega
                have HX : Hid (X9 = false) := HN9.out (fun h => e1 h.1)
                have HB := Lib.hid fun q => Law.up HI2.out.bl q
                clear hall HN9 HK e1 hrow hll q0 HNo hb2
                generalize l.length = ln at *
                go_wp2
                go_quiet (fail)
                go_wp2
                go_ret
                exact ⟨by rw [HX.out]; rfl, HB.out _⟩
            · have hke : k = C.length := by omega
              have hltI : ¬ (k : Int) < (C.length : Int) := by omega
              have HX : Hid (X9 = true) := HYes.out fun j l hj hl => hall.out j l (by omega) hl
              clear hke hall
              go_wp2
              go_ret
              exact ⟨by rw [HX.out]; rfl, HI2.out.bl⟩
      · have hne : ((ws.length : Int) != (C.length : Int)) = true := by simp; omega
        have hne2 : ¬ (ws.length : Int) = (C.length : Int) := by omega
        have HX := Lib.hid (Q.cn_no2 (m := S.length) h2)
        generalize Q.chnQ S.length ws C = X at HX ⊢
        clear h1 h2 hL hS hV hN hl hlS hb1 HWt hpr
        go_enter Try.func91, Try.ntmps91
        go_wp2_with fail
        generalize (w.alloc (.cells #[.slice A L.length c, .slice B S.length d] 35)).alloc (.cells #[.slice V ws.length dv, .slice N C.length cN] 61) = wa at HI ⊢
        obtain ⟨p0, p1, _, _, _⟩ := HI.out.pb
        go_wp2_with fail
        go_at_call 90
        refine (HG.out wa HI.out.bl).mono ?_
        rintro e w1 ⟨rfl, hb⟩
        have HI9 := Lib.hid (HI.out.on hb)
        clear hb p0 p1
        obtain ⟨q0, q1, _, _, _⟩ := HI9.out.cb
        go_wp2_with fail
        go_at_call 83
        refine (HI1.out _).mono ?_
        rintro e w9 ⟨rfl, hw9⟩
        obtain rfl := hw9.symm
        clear hw9
        go_wp2
        go_ret
        exact ⟨by rw [HX.out]; rfl, HI9.out.bl⟩
    · have hb1 : (decide ((1 : Int) ≤ (C.length : Int)) && decide ((C.length : Int) ≤ 12)) = false := by rw [Bool.and_eq_false_iff, decide_eq_false_iff_not, decide_eq_false_iff_not]; omega
      have HI1 := Lib.hid fun W => HIn.out (C.length : Int) 1 12 W
      rw [hb1] at HI1
      have HX := Lib.hid (Q.cn_no1 (m := S.length) (ws := ws) h1)
      generalize Q.chnQ S.length ws C = X at HX ⊢
      clear h1 hL hS hV hN hl hlS hb1 hpr
      go_enter Try.func91, Try.ntmps91
      go_wp2_with fail
      generalize (w.alloc (.cells #[.slice A L.length c, .slice B S.length d] 35)).alloc (.cells #[.slice V ws.length dv, .slice N C.length cN] 61) = wa at HI ⊢
      obtain ⟨p0, p1, _, _, _⟩ := HI.out.pb
      go_wp2_with fail
      go_at_call 90
      refine (HG.out wa HI.out.bl).mono ?_
      rintro e w1 ⟨rfl, hb⟩
      have HI9 := Lib.hid (HI.out.on hb)
      clear hb p0 p1
      obtain ⟨q0, q1, _, _, _⟩ := HI9.out.cb
      go_wp2_with fail
      go_at_call 83
      refine (HI1.out _).mono ?_
      rintro e w9 ⟨rfl, hw9⟩
      obtain rfl := hw9.symm
      clear hw9
      go_wp2
      go_ret
      exact ⟨by rw [HX.out]; rfl, HI9.out.bl⟩
end
end Go.Proofs.Ytammlkaclooohaa

/- IsChances of the code and of the model. -/
namespace Go.Proofs.Ytammlkaclooohaa
open Go.RowKit
set_option linter.unusedVariables false
noncomputable def icQ (L S : List (List Int)) (ws : List Int) (C : List (List Int)) : Bool × Bool := (Q.prQ L S && Q.chnQ S.length ws C, Q.prQ L S)
section
variable (A : Option Addr) (c : Nat) (xs : List Value) (L : List (List Int)) (B : Option Addr) (d : Nat) (ys : List Value) (S : List (List Int)) (V : Option Addr) (dv : Nat) (ws : List Int) (N : Option Addr) (cN : Nat) (zs : List Value) (C : List (List Int)) (w : World)
set_option maxHeartbeats 800000 in
theorem impIc_any (hlL : ∀ l ∈ L, l.length ≤ 1048576) (hlS : ∀ l ∈ S, l.length ≤ 1048576) (hl : ∀ l ∈ C, l.length ≤ 1048576) (hn : C.length ≤ 1048576) (hwl : ws.length ≤ 1048576) (hL : NRow w A xs L) (hS : NRow w B ys S) (hV : Law.Row w V (ivs ws)) (hN : NRow w N zs C) :
    Calls Try.prog 40 #[pv A L.length c B S.length d, pv V ws.length dv N C.length cN] w fun e w' => e = .returned (.tuple #[.bool (icQ L S ws C).1, .bool (icQ L S ws C).2]) ∧ Below w.heap.size w w' := by
  have HI := Lib.hid (ChI.start (A := A) (n0 := L.length) (c := c) (B := B) (m := S.length) (d := d) (dv := dv) (cN := cN) 35 61 hV hN)
  have HG := Lib.hid fun (W : World) (h : Below w.heap.size w W) => impPr_any A c xs L B d ys S W hlL hlS (hL.stays h) (hS.stays h)
  have HC := Lib.hid fun (W : World) (h : Below w.heap.size w W) => isChances_any A L.length c B S.length d V dv ws N cN zs C W hl hn hwl (hV.stays h) (hN.stays h)
  show Calls _ _ _ _ fun e w' => e = .returned (.tuple #[.bool (Q.prQ L S && Q.chnQ S.length ws C), .bool (Q.prQ L S)]) ∧ _
  clear hL hS hV hN hl hlS hlL
  generalize Q.chnQ S.length ws C = v at HC ⊢
  generalize Q.prQ L S = u at HG ⊢
  go_enter Try.func40, Try.ntmps40
  go_wp2_with fail
  generalize (w.alloc (.cells #[.slice A L.length c, .slice B S.length d] 35)).alloc (.cells #[.slice V ws.length dv, .slice N C.length cN] 61) = wa at HI ⊢
  obtain ⟨p0, p1, _, _, _⟩ := HI.out.pb
  go_wp2_with fail
  go_at_call 92
  refine (HG.out wa HI.out.bl).mono ?_
  rintro e w1 ⟨rfl, hb⟩
  have HI1 := Lib.hid (HI.out.on hb)
  clear hb p0 p1
  obtain ⟨p0, p1, _, _, _⟩ := HI1.out.pb
  obtain ⟨q0, q1, _, _, _⟩ := HI1.out.cb
  cases u
  · go_wp2
    go_ret2
    exact ⟨rfl, HI1.out.bl⟩
  · go_wp2_with fail
    go_at_call 93
    refine (HC.out w1 HI1.out.bl).mono ?_
    rintro e w2 ⟨rfl, hb⟩
    have HB := Lib.hid (HI1.out.on hb).bl
    clear hb p0 p1 q0 q1
    go_wp2
    go_ret2
    exact ⟨by simp, HB.out⟩
set_option maxHeartbeats 800000 in
theorem specIc_any (hlS : ∀ l ∈ S, l.length ≤ 1048576) (hl : ∀ l ∈ C, l.length ≤ 1048576) (hn : C.length ≤ 1048576) (hwl : ws.length ≤ 1048576) (hL : NRow w A xs L) (hS : NRow w B ys S) (hV : Law.Row w V (ivs ws)) (hN : NRow w N zs C) :
    Calls Try.prog 38 #[pv A L.length c B S.length d, pv V ws.length dv N C.length cN] w fun e w' => e = .returned (.tuple #[.bool (icQ L S ws C).1, .bool (icQ L S ws C).2]) ∧ Below w.heap.size w w' := by
  have HI := Lib.hid (ChI.start (A := A) (n0 := L.length) (c := c) (B := B) (m := S.length) (d := d) (dv := dv) (cN := cN) 35 61 hV hN)
  have HG := Lib.hid fun (W : World) (h : Below w.heap.size w W) => l8Good_any A c xs L B d ys S W hlS (hL.stays h) (hS.stays h)
  have HC := Lib.hid fun (W : World) (h : Below w.heap.size w W) => l11Chances_any A c xs L B d ys S V dv ws N cN zs C W hlS hl hn hwl (hL.stays h) (hS.stays h) (hV.stays h) (hN.stays h)
  show Calls _ _ _ _ fun e w' => e = .returned (.tuple #[.bool (Q.prQ L S && Q.chnQ S.length ws C), .bool (Q.prQ L S)]) ∧ _
  clear hL hS hV hN hl hlS
  generalize Q.chnQ S.length ws C = v at HC ⊢
  generalize Q.prQ L S = u at HG HC ⊢
  go_enter Try.func38, Try.ntmps38
  go_wp2_with fail
  generalize (w.alloc (.cells #[.slice A L.length c, .slice B S.length d] 35)).alloc (.cells #[.slice V ws.length dv, .slice N C.length cN] 61) = wa at HI ⊢
  obtain ⟨p0, p1, _, _, _⟩ := HI.out.pb
  go_wp2_with fail
  go_at_call 90
  refine (HG.out wa HI.out.bl).mono ?_
  rintro e w1 ⟨rfl, hb⟩
  have HI1 := Lib.hid (HI.out.on hb)
  clear hb p0 p1
  obtain ⟨p0, p1, _, _, _⟩ := HI1.out.pb
  obtain ⟨q0, q1, _, _, _⟩ := HI1.out.cb
  cases u
  · go_wp2
    go_ret2
    exact ⟨rfl, HI1.out.bl⟩
  · rw [Bool.true_and] at HC
    go_wp2_with fail
    go_at_call 91
    refine (HC.out w1 HI1.out.bl).mono ?_
    rintro e w2 ⟨rfl, hb⟩
    have HB := Lib.hid (HI1.out.on hb).bl
    clear hb p0 p1 q0 q1
    go_wp2
    go_ret2
    exact ⟨by simp, HB.out⟩
end
end Go.Proofs.Ytammlkaclooohaa

/- Chances in the laws' own helpers: szChances, toChances, eqChances. -/
namespace Go.Proofs.Ytammlkaclooohaa
open Go.RowKit
set_option linter.unusedVariables false
/-- A return of chances that lie in a block of the call's own. -/
theorem ret_chn {fn : Func} {R : Ending → World → Prop} {a : Act} {w : World} {pt : Tmp} {b : Nat} {x y : Value}
    (h : fn.results = #[.cell pt 61]) (hd : a.defers = []) (hp : a.tmps.getD pt undef = .pointer (some ⟨b, 0, none⟩)) (hB : Bk2 w b x y)
    (hR : R (.returned (.agg #[x, y])) w) : bodyPost Try.prog fn R .ret a w := by
  refine bodyPost_ret_by (v := .agg #[x, y]) ?_ hd hR
  obtain ⟨c0, c1, _, _, _⟩ := hB
  have key : (results fn a.tmps).run Try.prog w = ((asAddr (a.tmps.getD pt undef)).run Try.prog w).andThen fun q w1 => (loadVar 61 q).run Try.prog w1 := by
    simp only [results, h]
    simp [Sem.run_bind, Result.andThen]
  rw [key, hp]
  go_simp
/-- What is left behind chances. -/
def szC (left : Int) (ws : List Int) (C : List (List Int)) : Int := if (ws.length : Int) + (szN C : Int) ≤ left then left - (ws.length : Int) - (szN C : Int) else -1
set_option maxHeartbeats 1600000 in
theorem szChn_any (V : Option Addr) (dv : Nat) (ws : List Int) (N : Option Addr) (cN : Nat) (zs : List Value) (C : List (List Int)) (left : Int) (w : World) (h0 : 0 ≤ left) (h9 : left ≤ 1048576) (hw : ws.length ≤ maxLen) (hn : C.length ≤ maxLen) (hl : ∀ l ∈ C, l.length ≤ maxLen) (hN : NRow w N zs C) :
    Calls Try.prog 37 #[pv V ws.length dv N C.length cN, .int .i64 left] w fun e w' => e = .returned (.int .i64 (szC left ws C)) ∧ Below w.heap.size w w' := by
  have HK := Lib.hid (Bk2.new w (.slice V ws.length dv) (.slice N C.length cN) 57)
  have hb0 : Below w.heap.size w (w.alloc (.cells #[.slice V ws.length dv, .slice N C.length cN] 57)) := (Below.refl _ _).alloc (Nat.le_refl _) _
  have HB := Lib.hid hb0
  have HX : Hid (szC left ws C = if (ws.length : Int) + (szN C : Int) ≤ left then left - (ws.length : Int) - (szN C : Int) else -1) := rfl
  generalize szC left ws C = X at HX ⊢
  have H1 := Lib.hid fun W => szInt_any V ws.length dv left W h0 h9 hw
  by_cases hneg : left - (ws.length : Int) < 0
  · rw [if_pos hneg] at H1
    have HV : Hid (X = -1) := by show _ = _; rw [HX.out, if_neg (by omega)]
    clear HX hneg hN hl hb0
    go_enter Try.func37, Try.ntmps37
    go_wp2_with fail
    generalize w.alloc (.cells #[.slice V ws.length dv, .slice N C.length cN] 57) = wa at HK HB ⊢
    obtain ⟨p0, p1, _, _, _⟩ := HK.out
    go_wp2_with fail
    go_at_call 62
    refine (H1.out _).mono ?_
    rintro e w' ⟨rfl, hw'⟩
    obtain rfl := hw'.symm
    clear hw'
    go_wp2
    go_ret
    exact ⟨by rw [HV.out]; rfl, HB.out⟩
  · rw [if_neg hneg] at H1
    obtain ⟨z, hz⟩ : ∃ z, z = left - (ws.length : Int) := ⟨_, rfl⟩
    have hz0 : 0 ≤ z := by omega
    have hz9 : z ≤ 1048576 := by omega
    have hzn : ¬ z < 0 := by omega
    have H2 := Lib.hid fun (W : World) (h : NRow W N zs C) => szSS_g N cN zs C z W hz0 hz9 hn hl h
    have HY : Hid (szS z C = if (szN C : Int) ≤ z then z - (szN C : Int) else -1) := rfl
    have HV : Hid (X = szS z C) := by
      show _ = _
      rw [HX.out, HY.out, hz]
      by_cases h : (ws.length : Int) + (szN C : Int) ≤ left
      · rw [if_pos h, if_pos (by omega)]
      · rw [if_neg h, if_neg (by omega)]
    rw [← hz] at H1
    have HN := Lib.hid (hN.stays hb0)
    have hy : szS z C < 0 ∧ szS z C = -1 ∨ ¬ szS z C < 0 := by
      rw [HY.out]
      by_cases h : (szN C : Int) ≤ z
      · rw [if_pos h]; right; omega
      · rw [if_neg h]; left; omega
    generalize szS z C = y at H2 HV hy
    clear HX HY hneg hN hl hb0 hz
    rcases hy with ⟨hy, hy1⟩ | hy
    · subst hy1
      clear hy
      go_enter Try.func37, Try.ntmps37
      go_wp2_with fail
      generalize w.alloc (.cells #[.slice V ws.length dv, .slice N C.length cN] 57) = wa at HK HB HN ⊢
      obtain ⟨p0, p1, _, _, _⟩ := HK.out
      go_wp2_with fail
      go_at_call 62
      refine (H1.out _).mono ?_
      rintro e w' ⟨rfl, hw'⟩
      obtain rfl := hw'.symm
      clear hw'
      go_wp2_with fail
      go_at_call 42
      refine (H2.out _ HN.out).mono ?_
      rintro e w' ⟨rfl, hw'⟩
      obtain rfl := hw'.symm
      clear hw'
      go_wp2
      go_ret
      exact ⟨by rw [HV.out]; rfl, HB.out⟩
    · go_enter Try.func37, Try.ntmps37
      go_wp2_with fail
      generalize w.alloc (.cells #[.slice V ws.length dv, .slice N C.length cN] 57) = wa at HK HB HN ⊢
      obtain ⟨p0, p1, _, _, _⟩ := HK.out
      go_wp2_with fail
      go_at_call 62
      refine (H1.out _).mono ?_
      rintro e w' ⟨rfl, hw'⟩
      obtain rfl := hw'.symm
      clear hw'
      go_wp2_with fail
      go_at_call 42
      refine (H2.out _ HN.out).mono ?_
      rintro e w' ⟨rfl, hw'⟩
      obtain rfl := hw'.symm
      clear hw'
      go_wp2
      go_ret
      exact ⟨by rw [HV.out]; rfl, HB.out⟩
/-- Chances of a call's own. -/
def cSays (ws : List Int) (C : List (List Int)) (w : World) (e : Ending) (w' : World) : Prop :=
  ∃ V dv N cN zs, e = .returned (pv V ws.length dv N C.length cN) ∧ Law.Row w' V (ivs ws) ∧ NRow w' N zs C ∧ Below w.heap.size w w'
set_option maxHeartbeats 1600000 in
theorem toChn_any (V : Option Addr) (dv : Nat) (ws : List Int) (N : Option Addr) (cN : Nat) (zs : List Value) (C : List (List Int)) (w : World) (hwl : ws.length ≤ 1048576) (hs : szOk C = true) (hV : Law.Row w V (ivs ws)) (hN : NRow w N zs C) :
    Calls Try.prog 39 #[pv V ws.length dv N C.length cN] w (cSays ws C w) := by
  have HT1 := Lib.hid fun (W : World) (h : Law.Row W V (ivs ws)) => toInt_any V dv ws W hwl h
  have HT2 := Lib.hid fun (W : World) (h : NRow W N zs C) => toSS_any N cN zs C W hs h
  have hb1 : Below w.heap.size w (w.alloc (.cells #[.slice V ws.length dv, .slice N C.length cN] 57)) := (Below.refl _ _).alloc (Nat.le_refl _) _
  have hka := Bk2.new w (.slice V ws.length dv) (.slice N C.length cN) 57
  have hb2 : Below w.heap.size w (((w.alloc (.cells #[.slice V ws.length dv, .slice N C.length cN] 57)).alloc (.cells #[.slice none 0 0, .slice none 0 0] 61)).alloc (.cells #[.slice none 0 0, .slice none 0 0] 61)) := (hb1.alloc hb1.size _).alloc (by simp; omega) _
  have hk0 : Bk2 (((w.alloc (.cells #[.slice V ws.length dv, .slice N C.length cN] 57)).alloc (.cells #[.slice none 0 0, .slice none 0 0] 61)).alloc (.cells #[.slice none 0 0, .slice none 0 0] 61)) w.heap.size (.slice V ws.length dv) (.slice N C.length cN) := (hka.alloc _).alloc _
  have hk1 : Bk2 (((w.alloc (.cells #[.slice V ws.length dv, .slice N C.length cN] 57)).alloc (.cells #[.slice none 0 0, .slice none 0 0] 61)).alloc (.cells #[.slice none 0 0, .slice none 0 0] 61)) (w.heap.size + 1) (.slice none 0 0) (.slice none 0 0) := by
    have h := (Bk2.new (w.alloc (.cells #[.slice V ws.length dv, .slice N C.length cN] 57)) (.slice none 0 0) (.slice none 0 0) 61).alloc (.cells #[.slice none 0 0, .slice none 0 0] 61)
    rwa [show (w.alloc (.cells #[.slice V ws.length dv, .slice N C.length cN] 57)).heap.size = w.heap.size + 1 by simp] at h
  have hk2 : Bk2 (((w.alloc (.cells #[.slice V ws.length dv, .slice N C.length cN] 57)).alloc (.cells #[.slice none 0 0, .slice none 0 0] 61)).alloc (.cells #[.slice none 0 0, .slice none 0 0] 61)) (w.heap.size + 1 + 1) (.slice none 0 0) (.slice none 0 0) := by
    have h := Bk2.new ((w.alloc (.cells #[.slice V ws.length dv, .slice N C.length cN] 57)).alloc (.cells #[.slice none 0 0, .slice none 0 0] 61)) (.slice none 0 0) (.slice none 0 0) 61
    rwa [show ((w.alloc (.cells #[.slice V ws.length dv, .slice N C.length cN] 57)).alloc (.cells #[.slice none 0 0, .slice none 0 0] 61)).heap.size = w.heap.size + 1 + 1 by simp] at h
  have HVw := Lib.hid hV
  have HNw := Lib.hid hN
  clear hs hV hN hb1 hka
  go_enter Try.func39, Try.ntmps39
  obtain ⟨p0, p1, _, _, _⟩ := id hk0
  go_wp2_with fail
  go_at_call 20
  generalize ((w.alloc (.cells #[.slice V ws.length dv, .slice N C.length cN] 57)).alloc (.cells #[.slice none 0 0, .slice none 0 0] 61)).alloc (.cells #[.slice none 0 0, .slice none 0 0] 61) = wa at hb2 hk0 hk1 hk2 p0 p1 ⊢
  refine (HT1.out wa (HVw.out.stays hb2)).mono ?_
  rintro e w1 ⟨v1, rfl, ho, hb⟩
  obtain ⟨A1, c1, rfl, _, _, _⟩ := Law.own_len ho
  have hsz2 : w.heap.size + 1 + 1 < wa.heap.size := hk2.lt
  have hbw1 := Law.then_ hb2 hb
  have r0 := hk0.on hb
  have r1 := hk1.on hb
  have r2 := hk2.on hb
  have HBw2 := Lib.hid (hbw1.setCell (p := ⟨w.heap.size + 1 + 1, 0, none⟩) (by show w.heap.size ≤ w.heap.size + 1 + 1; omega) (.slice A1 ws.length c1))
  have s0 := r0.other ⟨w.heap.size + 1 + 1, 0, none⟩ (by show w.heap.size + 1 + 1 ≠ w.heap.size; omega) (.slice A1 ws.length c1)
  have s1 := r1.other ⟨w.heap.size + 1 + 1, 0, none⟩ (by show w.heap.size + 1 + 1 ≠ w.heap.size + 1; omega) (.slice A1 ws.length c1)
  have s2 := r2.set0 (.slice A1 ws.length c1)
  have HO1 := Lib.hid (own_store ho ⟨w.heap.size + 1 + 1, 0, none⟩ hsz2 (.slice A1 ws.length c1))
  have hw1 : wa.heap.size ≤ w1.heap.size := hb.size
  have hs1 : (w1.setCell ⟨w.heap.size + 1 + 1, 0, none⟩ (.slice A1 ws.length c1)).heap.size = w1.heap.size := by simp
  obtain ⟨q0, _, g0, _, _⟩ := r2
  clear ho hb hk0 hk1 hk2 p0 p1 hb2 hbw1 r0 r1
  obtain ⟨p0, p1, _, _, _⟩ := id s0
  go_wp2_with fail
  generalize w1.setCell ⟨w.heap.size + 1 + 1, 0, none⟩ (.slice A1 ws.length c1) = w2 at HBw2 s0 s1 s2 HO1 hs1 p0 p1 ⊢
  clear q0 g0
  go_wp2_with fail
  go_at_call 44
  refine (HT2.out w2 (HNw.out.stays HBw2.out)).mono ?_
  rintro e w3 ⟨v3, us3, rfl, ho, hn, hb⟩
  obtain ⟨A3, c3, rfl, _, _, _⟩ := Law.own_len ho
  have hsz4 : w.heap.size + 1 + 1 < w2.heap.size := by omega
  have r21 := s2.on hb
  have r11 := s1.on hb
  have hbl := Law.then_ HBw2.out hb
  have s21 := r21.set1 (.slice A3 C.length c3)
  have s11 := r11.other ⟨w.heap.size + 1 + 1, 1, none⟩ (by show w.heap.size + 1 + 1 ≠ w.heap.size + 1; omega) (.slice A3 C.length c3)
  have hblS := hbl.setCell (p := ⟨w.heap.size + 1 + 1, 1, none⟩) (by show w.heap.size ≤ w.heap.size + 1 + 1; omega) (.slice A3 C.length c3)
  have o1 := own_store (own_past HO1.out hb) ⟨w.heap.size + 1 + 1, 1, none⟩ hsz2 (.slice A3 C.length c3)
  have o2 := own_store ho ⟨w.heap.size + 1 + 1, 1, none⟩ (by show w.heap.size + 1 + 1 < _; omega) (.slice A3 C.length c3)
  have n2 := hn.store ⟨w.heap.size + 1 + 1, 1, none⟩ (by show w.heap.size + 1 + 1 < _; omega) (.slice A3 C.length c3)
  obtain ⟨S3, hS3⟩ : ∃ S3, S3 = w3.setCell ⟨w.heap.size + 1 + 1, 1, none⟩ (.slice A3 C.length c3) := ⟨_, rfl⟩
  rw [← hS3] at hblS o1 o2 n2 s21 s11
  have hv := Law.Row.own (own_store (own_store o1 ⟨w.heap.size + 1, 0, none⟩ (by show w.heap.size + 1 < _; omega) (.slice A1 ws.length c1)) ⟨w.heap.size + 1, 1, none⟩ (by show w.heap.size + 1 < _; omega) (.slice A3 C.length c3))
  have hnr := NRow.of (own_store (own_store o2 ⟨w.heap.size + 1, 0, none⟩ (by show w.heap.size + 1 < _; omega) (.slice A1 ws.length c1)) ⟨w.heap.size + 1, 1, none⟩ (by show w.heap.size + 1 < _; omega) (.slice A3 C.length c3)) ((n2.store ⟨w.heap.size + 1, 0, none⟩ (by show w.heap.size + 1 < _; omega) (.slice A1 ws.length c1)).store ⟨w.heap.size + 1, 1, none⟩ (by show w.heap.size + 1 < _; omega) (.slice A3 C.length c3))
  have hbf := (hblS.setCell (p := ⟨w.heap.size + 1, 0, none⟩) (by show w.heap.size ≤ w.heap.size + 1; omega) (.slice A1 ws.length c1)).setCell (p := ⟨w.heap.size + 1, 1, none⟩) (by show w.heap.size ≤ w.heap.size + 1; omega) (.slice A3 C.length c3)
  have hm := s11.set0 (.slice A1 ws.length c1)
  have hk9 := hm.set1 (.slice A3 C.length c3)
  have K1 := Lib.hid hv
  have K2 := Lib.hid hbf
  have K3 := Lib.hid hk9
  have K4 := Lib.hid hnr
  obtain ⟨q0, q1, g0, g1, _⟩ := r21
  obtain ⟨a0, a1, _, _, _⟩ := s21
  obtain ⟨m0, m1, j0, j1, _⟩ := s11
  obtain ⟨_, m3, _, j3, _⟩ := hm
  clear ho hn hb hbl hblS o1 o2 n2 HO1 s2 s1 s0 p0 p1 r11 hv hnr hbf hk9
  rw [hS3] at a0 a1 m0 m1 j0 j1 m3 j3 K1 K2 K3 K4
  clear hS3
  go_wp2
  exact ret_chn rfl rfl rfl K3.out ⟨A1, c1, A3, c3, us3, rfl, K1.out, K4.out, K2.out⟩
set_option maxHeartbeats 800000 in
theorem eqChn_same (V : Option Addr) (dv : Nat) (ws : List Int) (N : Option Addr) (cN : Nat) (zs : List Value) (C : List (List Int)) (V' : Option Addr) (dv' : Nat) (N' : Option Addr) (cN' : Nat) (zs' : List Value) (w : World) (hwl : ws.length ≤ 1048576) (hs : szOk C = true)
    (hV : Law.Row w V (ivs ws)) (hN : NRow w N zs C) (hV' : Law.Row w V' (ivs ws)) (hN' : NRow w N' zs' C) :
    Calls Try.prog 41 #[pv V ws.length dv N C.length cN, pv V' ws.length dv' N' C.length cN'] w fun e w' => e = .returned (.bool true) ∧ Below w.heap.size w w' := by
  obtain ⟨hn, hl, _⟩ := sz_rows hs
  have H1 := Lib.hid fun (W : World) (h : Below w.heap.size w W) => eqInt_same V V' dv dv' ws W (by omega) (hV.stays h) (hV'.stays h)
  have H2 := Lib.hid fun (W : World) (h : Below w.heap.size w W) => eqSS_same N N' cN cN' zs zs' C W hn hl (hN.stays h) (hN'.stays h)
  have b0 : Below w.heap.size w ((w.alloc (.cells #[.slice V ws.length dv, .slice N C.length cN] 61)).alloc (.cells #[.slice V' ws.length dv', .slice N' C.length cN'] 61)) := ((Below.refl _ _).alloc (Nat.le_refl _) _).alloc (by simp) _
  have k1 : Bk2 ((w.alloc (.cells #[.slice V ws.length dv, .slice N C.length cN] 61)).alloc (.cells #[.slice V' ws.length dv', .slice N' C.length cN'] 61)) w.heap.size (.slice V ws.length dv) (.slice N C.length cN) := (Bk2.new w _ _ _).alloc _
  have k2 : Bk2 ((w.alloc (.cells #[.slice V ws.length dv, .slice N C.length cN] 61)).alloc (.cells #[.slice V' ws.length dv', .slice N' C.length cN'] 61)) (w.heap.size + 1) (.slice V' ws.length dv') (.slice N' C.length cN') := by
    have h := Bk2.new (w.alloc (.cells #[.slice V ws.length dv, .slice N C.length cN] 61)) (.slice V' ws.length dv') (.slice N' C.length cN') 61
    rwa [show (w.alloc (.cells #[.slice V ws.length dv, .slice N C.length cN] 61)).heap.size = w.heap.size + 1 by simp] at h
  have HB0 := Lib.hid b0
  clear hV hN hV' hN' hs hn hl b0
  go_enter Try.func41, Try.ntmps41
  go_wp2_with fail
  generalize (w.alloc (.cells #[.slice V ws.length dv, .slice N C.length cN] 61)).alloc (.cells #[.slice V' ws.length dv', .slice N' C.length cN'] 61) = wa at HB0 k1 k2 ⊢
  obtain ⟨p0, p1, _, _, _⟩ := k1
  obtain ⟨q0, q1, _, _, _⟩ := k2
  go_wp2_with fail
  go_at_call 25
  refine (H1.out wa HB0.out).mono ?_
  rintro e w1 ⟨rfl, m, rfl⟩
  have HB1 := Lib.hid (Law.up HB0.out m)
  go_wp2_with fail
  go_at_call 46
  refine (H2.out _ HB1.out).mono ?_
  rintro e w1 ⟨rfl, m2, rfl⟩
  have HB2 := Lib.hid fun k => Law.up HB0.out k
  go_wp2
  go_ret
  exact ⟨rfl, HB2.out _⟩
end Go.Proofs.Ytammlkaclooohaa
