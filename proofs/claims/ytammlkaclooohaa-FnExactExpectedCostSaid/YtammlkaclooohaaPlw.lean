/-
  A problem in the laws' own helpers: szProblem, toProblem, eqProblem, markProblem.
-/
import Derived.Test.YtammlkaclooohaaPrm
import Derived.Test.YtammlkaclooohaaSzg
import Derived.Test.YtammlkaclooohaaTcn
namespace Go.Proofs.Ytammlkaclooohaa
open Go.RowKit
set_option linter.unusedVariables false
theorem Bk2.other {w : World} {b : Nat} {x y : Value} (h : Bk2 w b x y) (p : Addr) (hp : p.block ≠ b) (u : Value) : Bk2 (w.setCell p u) b x y := by
  refine ⟨?_, ?_, ?_, ?_, by simpa using h.lt⟩
  · rw [World.cell?_setCell_other (h := by intro e; subst e; exact hp rfl)]; exact h.c0
  · rw [World.cell?_setCell_other (h := by intro e; subst e; exact hp rfl)]; exact h.c1
  · rw [World.frozen?_setCell]; exact h.f0
  · rw [World.frozen?_setCell]; exact h.f1
theorem Bk2.set0 {w : World} {b : Nat} {x y : Value} (h : Bk2 w b x y) (u : Value) : Bk2 (w.setCell ⟨b, 0, none⟩ u) b u y := by
  refine ⟨World.cell?_setCell_same _ _ _ h.c0, ?_, ?_, ?_, by simpa using h.lt⟩
  · rw [World.cell?_setCell_other (h := by simp)]; exact h.c1
  · rw [World.frozen?_setCell]; exact h.f0
  · rw [World.frozen?_setCell]; exact h.f1
theorem Bk2.set1 {w : World} {b : Nat} {x y : Value} (h : Bk2 w b x y) (u : Value) : Bk2 (w.setCell ⟨b, 1, none⟩ u) b x u := by
  refine ⟨?_, World.cell?_setCell_same _ _ _ h.c1, ?_, ?_, by simpa using h.lt⟩
  · rw [World.cell?_setCell_other (h := by simp)]; exact h.c0
  · rw [World.frozen?_setCell]; exact h.f0
  · rw [World.frozen?_setCell]; exact h.f1
theorem Bk2.blk {w w' : World} {b : Nat} {x y : Value} (h : Bk2 w b x y) (e : w'.heap[b]? = w.heap[b]?) : Bk2 w' b x y := by
  have hlt : b < w'.heap.size := by
    rcases Nat.lt_or_ge b w'.heap.size with h' | h'
    · exact h'
    · rw [Array.getElem?_eq_none h', Array.getElem?_eq_getElem h.lt] at e
      cases e
  refine ⟨?_, ?_, ?_, ?_, hlt⟩
  · rw [← h.c0]; unfold World.cell?; simp only [e]
  · rw [← h.c1]; unfold World.cell?; simp only [e]
  · rw [← h.f0]; unfold World.frozen?; simp only [e]
  · rw [← h.f1]; unfold World.frozen?; simp only [e]
/-- A return of a problem that lies in a block of the call's own. -/
theorem ret_prb {fn : Func} {R : Ending → World → Prop} {a : Act} {w : World} {pt : Tmp} {b : Nat} {x y : Value}
    (h : fn.results = #[.cell pt 35]) (hd : a.defers = []) (hp : a.tmps.getD pt undef = .pointer (some ⟨b, 0, none⟩)) (hB : Bk2 w b x y)
    (hR : R (.returned (.agg #[x, y])) w) : bodyPost Try.prog fn R .ret a w := by
  refine bodyPost_ret_by (v := .agg #[x, y]) ?_ hd hR
  obtain ⟨c0, c1, _, _, _⟩ := hB
  have key : (results fn a.tmps).run Try.prog w = ((asAddr (a.tmps.getD pt undef)).run Try.prog w).andThen fun q w1 => (loadVar 35 q).run Try.prog w1 := by
    simp only [results, h]
    simp [Sem.run_bind, Result.andThen]
  rw [key, hp]
  go_simp
theorem szN_row {L : List (List Int)} (h : (szN L : Int) ≤ 1048576) {l : List Int} (hl : l ∈ L) : l.length ≤ 1048576 :=
  (sz_rows (szOk_iff.2 (by unfold szN at h; omega))).2.1 l hl
/-- The size of a problem. -/
def szPr (L S : List (List Int)) : Int := if (szN L : Int) + (szN S : Int) ≤ 1048576 then 1048576 - (szN L : Int) - (szN S : Int) else -1
theorem szPr_no {L S : List (List Int)} (h : ¬ (szN L : Int) + (szN S : Int) ≤ 1048576) : szPr L S = -1 := if_neg h
theorem szPr_yes {L S : List (List Int)} (h : (szN L : Int) + (szN S : Int) ≤ 1048576) : szPr L S = 1048576 - (szN L : Int) - (szN S : Int) := if_pos h
theorem szPrb_any (A : Option Addr) (c : Nat) (xs : List Value) (L : List (List Int)) (B : Option Addr) (d : Nat) (ys : List Value) (S : List (List Int)) (w : World) (hn : L.length ≤ maxLen) (hl : ∀ l ∈ L, l.length ≤ maxLen) (hm : S.length ≤ maxLen) (hk : ∀ l ∈ S, l.length ≤ maxLen) (hL : NRow w A xs L) (hS : NRow w B ys S) :
    Calls Try.prog 15 #[pv A L.length c B S.length d, .int .i64 1048576] w fun e w' => e = .returned (.int .i64 (szPr L S)) ∧ Below w.heap.size w w' := by
  have HP := Lib.hid (PIn.start (c := c) (d := d) hL hS 24)
  have H1 := Lib.hid fun (W : World) (h : NRow W A xs L) => szSS_g A c xs L 1048576 W (by decide) (by decide) hn hl h
  obtain ⟨f, hf⟩ : ∃ f : Int → Int, ∀ z, f z = szS z S := ⟨fun z => szS z S, fun z => rfl⟩
  have H2 := Lib.hid fun (z : Int) (W : World) (h0 : 0 ≤ z) (h1 : z ≤ 1048576) (h : NRow W B ys S) => by
    have q := szSS_g B d ys S z W h0 h1 hm hk h
    rw [← hf z] at q
    exact q
  have HZ : Hid (szS 1048576 L = if (szN L : Int) ≤ 1048576 then 1048576 - (szN L : Int) else -1) := rfl
  have HZ2 : Hid (∀ z, f z = if (szN S : Int) ≤ z then z - (szN S : Int) else -1) := fun z => hf z
  have HN : Hid (szPr L S = if (szN L : Int) + (szN S : Int) ≤ 1048576 then 1048576 - (szN L : Int) - (szN S : Int) else -1) := rfl
  generalize szPr L S = V at HN ⊢
  generalize hz1 : szS 1048576 L = z1 at H1 HZ
  clear hf
  have hp1 : 0 ≤ (szN L : Int) := by omega
  have hp2 : 0 ≤ (szN S : Int) := by omega
  generalize (szN L : Int) = a at *
  generalize (szN S : Int) = b at *
  clear hL hS hl hk hz1
  by_cases h1 : a ≤ 1048576
  · have e1 : z1 = 1048576 - a := by rw [HZ.out, if_pos h1]
    have hz0 : 0 ≤ z1 := by omega
    have hz9 : z1 ≤ 1048576 := by omega
    have hzn : ¬ z1 < 0 := by omega
    by_cases h2 : b ≤ z1
    · have e2 : f z1 = z1 - b := by rw [HZ2.out, if_pos h2]
      have E : Hid (V = f z1) := by show _ = _; rw [HN.out, if_pos (by omega), e2, e1]
      have hzn2 : ¬ f z1 < 0 := by omega
      have H2' := Lib.hid fun (W : World) h => H2.out z1 W hz0 hz9 h
      generalize f z1 = z2 at H2' hzn2 E
      clear e1 e2 H2 HZ HZ2 HN h1 h2 hz0 hz9
      go_enter Try.func15, Try.ntmps15
      go_wp2_with fail
      generalize w.alloc (.cells #[.slice A L.length c, .slice B S.length d] 24) = wa at HP ⊢
      obtain ⟨p0, p1, _, _, _⟩ := HP.out.bk
      go_wp2_with fail
      go_at_call 42
      refine (H1.out wa HP.out.mv).mono ?_
      rintro e w1 ⟨rfl, hw⟩
      obtain rfl := hw.symm
      clear hw
      go_wp2_with fail
      go_at_call 42
      refine (H2'.out wa HP.out.sv).mono ?_
      rintro e w1 ⟨rfl, hw⟩
      obtain rfl := hw.symm
      clear hw
      go_wp2
      go_ret
      exact ⟨by rw [E.out]; rfl, HP.out.bl⟩
    · have e2 : f z1 = -1 := by rw [HZ2.out, if_neg h2]
      have E : Hid (V = -1) := by show _ = _; rw [HN.out, if_neg (by omega)]
      have H2' := Lib.hid fun (W : World) h => H2.out z1 W hz0 hz9 h
      rw [e2] at H2'
      clear e1 e2 H2 HZ HZ2 HN h1 h2 hz0 hz9
      go_enter Try.func15, Try.ntmps15
      go_wp2_with fail
      generalize w.alloc (.cells #[.slice A L.length c, .slice B S.length d] 24) = wa at HP ⊢
      obtain ⟨p0, p1, _, _, _⟩ := HP.out.bk
      go_wp2_with fail
      go_at_call 42
      refine (H1.out wa HP.out.mv).mono ?_
      rintro e w1 ⟨rfl, hw⟩
      obtain rfl := hw.symm
      clear hw
      go_wp2_with fail
      go_at_call 42
      refine (H2'.out wa HP.out.sv).mono ?_
      rintro e w1 ⟨rfl, hw⟩
      obtain rfl := hw.symm
      clear hw
      go_wp2
      go_ret
      exact ⟨by rw [E.out]; rfl, HP.out.bl⟩
  · have e1 : z1 = -1 := by rw [HZ.out, if_neg h1]
    subst e1
    have E : Hid (V = -1) := by show _ = _; rw [HN.out, if_neg (by omega)]
    clear H2 HZ HZ2 HN h1
    go_enter Try.func15, Try.ntmps15
    go_wp2_with fail
    generalize w.alloc (.cells #[.slice A L.length c, .slice B S.length d] 24) = wa at HP ⊢
    obtain ⟨p0, p1, _, _, _⟩ := HP.out.bk
    go_wp2_with fail
    go_at_call 42
    refine (H1.out wa HP.out.mv).mono ?_
    rintro e w1 ⟨rfl, hw⟩
    obtain rfl := hw.symm
    clear hw
    go_wp2
    go_ret
    exact ⟨by rw [E.out]; rfl, HP.out.bl⟩
/-- A step that leaves all below lo. -/
theorem PIn.low {w W W' : World} {A : Option Addr} {c : Nat} {xs : List Value} {L : List (List Int)} {B : Option Addr} {d lo : Nat} {ys : List Value} {S : List (List Int)} (hL : NRow w A xs L) (hS : NRow w B ys S) (h : PIn w W A c xs L B d ys S) (hb : Below lo W W') (hlt : w.heap.size < lo) : PIn w W' A c xs L B d ys S :=
  have hbl := h.bl.trans (hb.mono (by omega))
  ⟨h.bk.below hb hlt, hL.stays hbl, hS.stays hbl, hbl⟩
/-- A problem whose rows are a call's own. -/
structure POwn (w : World) (base top : Nat) (A : Option Addr) (c : Nat) (xs : List Value) (L : List (List Int)) (B : Option Addr) (d : Nat) (ys : List Value) (S : List (List Int)) : Prop where
  o1 : w.ownsRow base 25 1 (.slice A L.length c) L.length xs
  n1 : NOwn w base xs L
  o2 : ∃ mid, base ≤ mid ∧ mid ≤ top ∧ w.ownsRow mid 25 1 (.slice B S.length d) S.length ys ∧ NOwn w mid ys S ∧ ∀ (x : Value) (b : Nat), x ∈ xs → x.ownBlock = some b → b < mid
  t2 : ∀ (x : Value) (b : Nat), x ∈ ys → x.ownBlock = some b → b < top
section
variable {w w' : World} {base top : Nat} {A : Option Addr} {c : Nat} {xs : List Value} {L : List (List Int)} {B : Option Addr} {d : Nat} {ys : List Value} {S : List (List Int)}
theorem POwn.past (h : POwn w base top A c xs L B d ys S) (hb : Below w.heap.size w w') : POwn w' base top A c xs L B d ys S := by
  obtain ⟨o1, n1, ⟨mid, m1, m2, o2, n2, t1⟩, t2⟩ := h
  exact ⟨own_past o1 hb, n1.past hb, ⟨mid, m1, m2, own_past o2 hb, n2.past hb, t1⟩, t2⟩
theorem POwn.mv (h : POwn w base top A c xs L B d ys S) : NRow w A xs L := NRow.of h.o1 h.n1
theorem POwn.sv (h : POwn w base top A c xs L B d ys S) : NRow w B ys S := by
  obtain ⟨o1, n1, ⟨mid, m1, m2, o2, n2, t1⟩, t2⟩ := h
  exact NRow.of o2 n2
theorem POwn.down {base' : Nat} (h : POwn w base top A c xs L B d ys S) (hb : base' ≤ base) : POwn w base' top A c xs L B d ys S := by
  obtain ⟨o1, n1, ⟨mid, m1, m2, o2, n2, t1⟩, t2⟩ := h
  exact ⟨own_down o1 hb, n1.down hb, ⟨mid, by omega, m2, o2, n2, t1⟩, t2⟩
end
def pSays (L S : List (List Int)) (w : World) (e : Ending) (w' : World) : Prop :=
  ∃ A c xs B d ys, e = .returned (pv A L.length c B S.length d) ∧ POwn w' w.heap.size w'.heap.size A c xs L B d ys S ∧ Below w.heap.size w w'
set_option maxHeartbeats 1600000 in
theorem toPrb_any (A : Option Addr) (c : Nat) (xs : List Value) (L : List (List Int)) (B : Option Addr) (d : Nat) (ys : List Value) (S : List (List Int)) (w : World) (hs : szOk L = true) (hs2 : szOk S = true) (hL : NRow w A xs L) (hS : NRow w B ys S) :
    Calls Try.prog 18 #[pv A L.length c B S.length d] w (pSays L S w) := by
  have HT1 := Lib.hid fun (W : World) (h : NRow W A xs L) => toSS_any A c xs L W hs h
  have HT2 := Lib.hid fun (W : World) (h : NRow W B ys S) => toSS_any B d ys S W hs2 h
  have HP := Lib.hid (PIn.start (c := c) (d := d) hL hS 24)
  have HLS := Lib.hid (And.intro hL hS)
  clear hs hs2 hL hS
  go_enter Try.func18, Try.ntmps18
  go_wp2_with fail
  have hk1 : Bk2 (((w.alloc (.cells #[.slice A L.length c, .slice B S.length d] 24)).alloc (.cells #[.slice none 0 0, .slice none 0 0] 35)).alloc (.cells #[.slice none 0 0, .slice none 0 0] 35)) (w.heap.size + 1) (.slice none 0 0) (.slice none 0 0) := by
    have h := (Bk2.new (w.alloc (.cells #[.slice A L.length c, .slice B S.length d] 24)) (.slice none 0 0) (.slice none 0 0) 35).alloc (.cells #[.slice none 0 0, .slice none 0 0] 35)
    rwa [show (w.alloc (.cells #[.slice A L.length c, .slice B S.length d] 24)).heap.size = w.heap.size + 1 by simp] at h
  have hk2 : Bk2 (((w.alloc (.cells #[.slice A L.length c, .slice B S.length d] 24)).alloc (.cells #[.slice none 0 0, .slice none 0 0] 35)).alloc (.cells #[.slice none 0 0, .slice none 0 0] 35)) (w.heap.size + 1 + 1) (.slice none 0 0) (.slice none 0 0) := by
    have h := Bk2.new ((w.alloc (.cells #[.slice A L.length c, .slice B S.length d] 24)).alloc (.cells #[.slice none 0 0, .slice none 0 0] 35)) (.slice none 0 0) (.slice none 0 0) 35
    rwa [show ((w.alloc (.cells #[.slice A L.length c, .slice B S.length d] 24)).alloc (.cells #[.slice none 0 0, .slice none 0 0] 35)).heap.size = w.heap.size + 1 + 1 by simp] at h
  have HPa := Lib.hid ((HP.out.on ((Below.refl _ _).alloc (Nat.le_refl _) (.cells #[.slice none 0 0, .slice none 0 0] 35))).on ((Below.refl _ _).alloc (Nat.le_refl _) (.cells #[.slice none 0 0, .slice none 0 0] 35)))
  go_at_call 44
  generalize ((w.alloc (.cells #[.slice A L.length c, .slice B S.length d] 24)).alloc (.cells #[.slice none 0 0, .slice none 0 0] 35)).alloc (.cells #[.slice none 0 0, .slice none 0 0] 35) = wa at HPa hk1 hk2 ⊢
  refine (HT1.out wa HPa.out.mv).mono ?_
  rintro e w1 ⟨v, us, rfl, ho, hn, hb⟩
  obtain ⟨A1, c1, rfl, _, _, _⟩ := Law.own_len ho
  have hsz2 : w.heap.size + 1 + 1 < wa.heap.size := hk2.lt
  have hP1 := HPa.out.on hb
  have hk11 := hk1.on hb
  have hk21 := hk2.on hb
  have HP2 := Lib.hid (PIn.low HLS.out.1 HLS.out.2 hP1 ((Below.refl (w.heap.size + 1) w1).setCell (p := ⟨w.heap.size + 1 + 1, 0, none⟩) (by show w.heap.size + 1 ≤ w.heap.size + 1 + 1; omega) (.slice A1 L.length c1)) (Nat.lt_succ_self _))
  have k21 := hk21.set0 (.slice A1 L.length c1)
  have k11 := hk11.other ⟨w.heap.size + 1 + 1, 0, none⟩ (by show w.heap.size + 1 + 1 ≠ w.heap.size + 1; omega) (.slice A1 L.length c1)
  have HO1 := Lib.hid (own_store ho ⟨w.heap.size + 1 + 1, 0, none⟩ hsz2 (.slice A1 L.length c1))
  have HN1 := Lib.hid (hn.store ⟨w.heap.size + 1 + 1, 0, none⟩ hsz2 (.slice A1 L.length c1))
  have hwa : w.heap.size ≤ wa.heap.size := HPa.out.bl.size
  have hw1 : wa.heap.size ≤ w1.heap.size := hb.size
  have hs1 : (w1.setCell ⟨w.heap.size + 1 + 1, 0, none⟩ (.slice A1 L.length c1)).heap.size = w1.heap.size := by simp
  obtain ⟨q0, _, g0, _, _⟩ := hk21
  clear ho hn hb hP1 hk1 hk2 HPa
  obtain ⟨p0, p1, _, _, _⟩ := HP2.out.bk
  go_wp2_with fail
  generalize w1.setCell ⟨w.heap.size + 1 + 1, 0, none⟩ (.slice A1 L.length c1) = w2 at HP2 k21 k11 HO1 HN1 hs1 ⊢
  clear p0 p1 q0 g0
  obtain ⟨p0, p1, _, _, _⟩ := HP2.out.bk
  go_wp2_with fail
  go_at_call 44
  refine (HT2.out w2 HP2.out.sv).mono ?_
  rintro e w3 ⟨v3, us3, rfl, ho, hn, hb⟩
  obtain ⟨A3, c3, rfl, _, _, _⟩ := Law.own_len ho
  have hsz3 : w2.heap.size ≤ w3.heap.size := hb.size
  have hsz4 : w.heap.size + 1 + 1 < w2.heap.size := by omega
  have r21 := k21.on hb
  have r11 := k11.on hb
  have hbl := Law.then_ HP2.out.bl hb
  have s21 := r21.set1 (.slice A3 S.length c3)
  have s11 := r11.other ⟨w.heap.size + 1 + 1, 1, none⟩ (by show w.heap.size + 1 + 1 ≠ w.heap.size + 1; omega) (.slice A3 S.length c3)
  have hblS := hbl.setCell (p := ⟨w.heap.size + 1 + 1, 1, none⟩) (by show w.heap.size ≤ w.heap.size + 1 + 1; omega) (.slice A3 S.length c3)
  have o1 := own_store (own_past HO1.out hb) ⟨w.heap.size + 1 + 1, 1, none⟩ hsz2 (.slice A3 S.length c3)
  have n1 := (HN1.out.past hb).store ⟨w.heap.size + 1 + 1, 1, none⟩ hsz2 (.slice A3 S.length c3)
  have o2 := own_store ho ⟨w.heap.size + 1 + 1, 1, none⟩ (by show w.heap.size + 1 + 1 < _; omega) (.slice A3 S.length c3)
  have n2 := hn.store ⟨w.heap.size + 1 + 1, 1, none⟩ (by show w.heap.size + 1 + 1 < _; omega) (.slice A3 S.length c3)
  have ht1 := HN1.out.tops
  have hs4 : (w3.setCell ⟨w.heap.size + 1 + 1, 1, none⟩ (.slice A3 S.length c3)).heap.size = w3.heap.size := by simp
  obtain ⟨S3, hS3⟩ : ∃ S3, S3 = w3.setCell ⟨w.heap.size + 1 + 1, 1, none⟩ (.slice A3 S.length c3) := ⟨_, rfl⟩
  rw [← hS3] at hblS o1 n1 o2 n2 s21 s11 hs4
  have hst : POwn ((S3.setCell ⟨w.heap.size + 1, 0, none⟩ (.slice A1 L.length c1)).setCell ⟨w.heap.size + 1, 1, none⟩ (.slice A3 S.length c3)) w.heap.size S3.heap.size A1 c1 us L A3 c3 us3 S := by
    refine ⟨own_down (own_store (own_store o1 _ (by show w.heap.size + 1 < _; omega) _) _ (by show w.heap.size + 1 < _; omega) _) (by omega), ((n1.store _ (by show w.heap.size + 1 < _; omega) _).store _ (by show w.heap.size + 1 < _; omega) _).down (by omega), ⟨w2.heap.size, by omega, by omega, own_store (own_store o2 _ (by show w.heap.size + 1 < _; omega) _) _ (by show w.heap.size + 1 < _; omega) _, (n2.store _ (by show w.heap.size + 1 < _; omega) _).store _ (by show w.heap.size + 1 < _; omega) _, ht1⟩, n2.tops⟩
  have hbf := (hblS.setCell (p := ⟨w.heap.size + 1, 0, none⟩) (by show w.heap.size ≤ w.heap.size + 1; omega) (.slice A1 L.length c1)).setCell (p := ⟨w.heap.size + 1, 1, none⟩) (by show w.heap.size ≤ w.heap.size + 1; omega) (.slice A3 S.length c3)
  have hm := s11.set0 (.slice A1 L.length c1)
  have hk9 := hm.set1 (.slice A3 S.length c3)
  have hz9 : ((S3.setCell ⟨w.heap.size + 1, 0, none⟩ (.slice A1 L.length c1)).setCell ⟨w.heap.size + 1, 1, none⟩ (.slice A3 S.length c3)).heap.size = S3.heap.size := by simp
  have K1 := Lib.hid hst
  have K2 := Lib.hid hbf
  have K3 := Lib.hid hk9
  have K4 := Lib.hid hz9
  obtain ⟨q0, q1, g0, g1, _⟩ := r21
  obtain ⟨a0, a1, _, _, _⟩ := s21
  obtain ⟨m0, m1, j0, j1, _⟩ := s11
  obtain ⟨_, m3, _, j3, _⟩ := hm
  clear ho hn hb hbl hblS o1 n1 o2 n2 ht1 HO1 HN1 k21 k11 HP2 p0 p1 r11 hst hbf hk9 hz9
  rw [hS3] at a0 a1 m0 m1 j0 j1 m3 j3 K1 K2 K3 K4
  clear hS3
  go_wp2
  exact ret_prb rfl rfl rfl K3.out ⟨A1, c1, us, A3, c3, us3, rfl, by rw [K4.out]; exact K1.out, K2.out⟩
set_option maxHeartbeats 800000 in
theorem eqPrb_same (A : Option Addr) (c : Nat) (xs : List Value) (L : List (List Int)) (B : Option Addr) (d : Nat) (ys : List Value) (S : List (List Int)) (A' : Option Addr) (c' : Nat) (xs' : List Value) (B' : Option Addr) (d' : Nat) (ys' : List Value) (w : World) (hs : szOk L = true) (hs2 : szOk S = true)
    (hL : NRow w A xs L) (hS : NRow w B ys S) (hL' : NRow w A' xs' L) (hS' : NRow w B' ys' S) :
    Calls Try.prog 23 #[pv A L.length c B S.length d, pv A' L.length c' B' S.length d'] w fun e w' => e = .returned (.bool true) ∧ Below w.heap.size w w' := by
  obtain ⟨hn, hl, _⟩ := sz_rows hs
  obtain ⟨hm, hk, _⟩ := sz_rows hs2
  have H1 := Lib.hid fun (W : World) (h : Below w.heap.size w W) => eqSS_same A A' c c' xs xs' L W hn hl (hL.stays h) (hL'.stays h)
  have H2 := Lib.hid fun (W : World) (h : Below w.heap.size w W) => eqSS_same B B' d d' ys ys' S W hm hk (hS.stays h) (hS'.stays h)
  have b0 : Below w.heap.size w ((w.alloc (.cells #[.slice A L.length c, .slice B S.length d] 35)).alloc (.cells #[.slice A' L.length c', .slice B' S.length d'] 35)) := ((Below.refl _ _).alloc (Nat.le_refl _) _).alloc (by simp) _
  have k1 : Bk2 ((w.alloc (.cells #[.slice A L.length c, .slice B S.length d] 35)).alloc (.cells #[.slice A' L.length c', .slice B' S.length d'] 35)) w.heap.size (.slice A L.length c) (.slice B S.length d) := (Bk2.new w _ _ _).alloc _
  have k2 : Bk2 ((w.alloc (.cells #[.slice A L.length c, .slice B S.length d] 35)).alloc (.cells #[.slice A' L.length c', .slice B' S.length d'] 35)) (w.heap.size + 1) (.slice A' L.length c') (.slice B' S.length d') := by
    have h := Bk2.new (w.alloc (.cells #[.slice A L.length c, .slice B S.length d] 35)) (.slice A' L.length c') (.slice B' S.length d') 35
    rwa [show (w.alloc (.cells #[.slice A L.length c, .slice B S.length d] 35)).heap.size = w.heap.size + 1 by simp] at h
  have HB0 := Lib.hid b0
  clear hL hS hL' hS' hs hs2 hn hl hm hk b0
  go_enter Try.func23, Try.ntmps23
  go_wp2_with fail
  generalize (w.alloc (.cells #[.slice A L.length c, .slice B S.length d] 35)).alloc (.cells #[.slice A' L.length c', .slice B' S.length d'] 35) = wa at HB0 k1 k2 ⊢
  obtain ⟨p0, p1, _, _, _⟩ := k1
  obtain ⟨q0, q1, _, _, _⟩ := k2
  go_wp2_with fail
  go_at_call 46
  refine (H1.out wa HB0.out).mono ?_
  rintro e w1 ⟨rfl, m, rfl⟩
  have HB1 := Lib.hid (Law.up HB0.out m)
  go_wp2_with fail
  go_at_call 46
  refine (H2.out _ HB1.out).mono ?_
  rintro e w1 ⟨rfl, m2, rfl⟩
  have HB2 := Lib.hid fun k => Law.up HB0.out k
  go_wp2
  go_ret
  exact ⟨rfl, HB2.out _⟩
set_option maxHeartbeats 800000 in
theorem markPrb_t (base top k : Nat) (A : Option Addr) (c : Nat) (xs : List Value) (L : List (List Int)) (B : Option Addr) (d : Nat) (ys : List Value) (S : List (List Int)) (w : World) (hk : 0 < k) (hkk : k ≤ 10) (hs : szOk L = true) (hs2 : szOk S = true) (hP : POwn w base top A c xs L B d ys S) (htop : top ≤ w.heap.size) :
    Calls Try.prog 29 #[pv A L.length c B S.length d, .int .i64 (k : Int)] w fun e w' => e = .returned (.int .i64 ((k + totL L + totL S : Nat) : Int)) ∧ Tch base top w w' := by
  obtain ⟨o1, n1, ⟨mid, m1, m2, o2, n2, t1⟩, t2⟩ := hP
  obtain ⟨hn, _, ht⟩ := sz_rows hs
  obtain ⟨hm, _, hu⟩ := sz_rows hs2
  have b0 : Below w.heap.size w (w.alloc (.cells #[.slice A L.length c, .slice B S.length d] 35)) := (Below.refl _ _).alloc (Nat.le_refl _) _
  have HC := Lib.hid (markSS_t base mid k A c xs L _ hk (by omega) hn ht (own_past o1 b0) (n1.past b0) t1)
  have HD := Lib.hid fun (W : World) (h1 : W.ownsRow mid 25 1 (.slice B S.length d) S.length ys) (h2 : NOwn W mid ys S) => markSS_t mid top (k + totL L) B d ys S W (by omega) (by omega) hm hu h1 h2 t2
  have T0 : Hid (Tch base top w (w.alloc (.cells #[.slice A L.length c, .slice B S.length d] 35))) := Tch.of b0
  have k0 : Bk2 (w.alloc (.cells #[.slice A L.length c, .slice B S.length d] 35)) w.heap.size (.slice A L.length c) (.slice B S.length d) := Bk2.new w _ _ _
  have O2 := Lib.hid (own_past o2 b0)
  have N2 := Lib.hid (n2.past b0)
  clear o1 n1 o2 n2 t1 t2 b0 hs hs2
  go_enter Try.func29, Try.ntmps29
  go_wp2_with fail
  generalize hWA : w.alloc (.cells #[.slice A L.length c, .slice B S.length d] 35) = wa at HC T0 k0 O2 N2 ⊢
  have hwz : w.heap.size < wa.heap.size := k0.lt
  clear hWA
  obtain ⟨p0, p1, _, _, _⟩ := id k0
  go_wp2_with fail
  go_at_call 61
  refine HC.out.mono ?_
  rintro e w1 ⟨rfl, hb⟩
  have k1 := k0.blk (hb.blk w.heap.size hwz (.inr (by omega)))
  have T1 : Hid (Tch base top w w1) := Lib.hid (T0.out.then_ ⟨hb.os, hb.tape, hb.output, hb.size, fun i h1 h2 => hb.blk i h1 (by omega)⟩)
  have O3 := Lib.hid (own_tch O2.out hb (Nat.le_refl _))
  have N3 := Lib.hid (N2.out.tch hb (Nat.le_refl _))
  clear hb p0 p1
  obtain ⟨p0, p1, _, _, _⟩ := k1
  go_wp2_with fail
  go_at_call 61
  refine (HD.out w1 O3.out N3.out).mono ?_
  rintro e w2 ⟨rfl, hb⟩
  have T2 : Hid (Tch base top w w2) := Lib.hid (T1.out.then_ ⟨hb.os, hb.tape, hb.output, hb.size, fun i h1 h2 => hb.blk i h1 (by omega)⟩)
  clear hb
  go_wp2
  go_ret
  exact ⟨rfl, T2.out⟩
end Go.Proofs.Ytammlkaclooohaa
