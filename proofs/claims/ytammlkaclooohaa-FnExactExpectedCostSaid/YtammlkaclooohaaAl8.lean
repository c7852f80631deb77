/-
  isAlgorithm: a table of schedules.
-/
import Derived.Test.YtammlkaclooohaaSc2
import Derived.Test.YtammlkaclooohaaWm8
namespace Go.Proofs.Ytammlkaclooohaa
open Go.RowKit
set_option linter.unusedVariables false
namespace Q
def kindsL (m : Nat) : List Int := (List.range m).map fun (r : Nat) => (r : Int)
theorem kindsL_len (m : Nat) : (kindsL m).length = m := by simp [kindsL]
theorem kindsL_at {m r : Nat} (h : r < m) : (kindsL m)[r]? = some (r : Int) := by simp [kindsL, h]
theorem kindsL_nats (m : Nat) : Nats m (kindsL m) := fun k hk => by
  rw [kindsL_len] at hk
  exact ⟨k, kindsL_at hk, hk⟩
def algQ (n : Nat) (S next : List (List Int)) : Bool := decide (next.length = n) && next.all fun row => schQ n S (kindsL S.length) row
def chQ (n cnt : Nat) (S next : List (List Int)) : Bool := decide (next.length = cnt) && next.all fun row => schQ n S (kindsL S.length) row
theorem ch_alg (n : Nat) (S next : List (List Int)) : chQ n n S next = algQ n S next := rfl
theorem ch_no_len {n cnt : Nat} {S next : List (List Int)} (h : ¬ next.length = cnt) : chQ n cnt S next = false := by simp [chQ, h]
theorem ch_all {n cnt : Nat} {S next : List (List Int)} (h : next.length = cnt) : chQ n cnt S next = decide (∀ l ∈ next, schQ n S (kindsL S.length) l = true) := by
  rw [chQ, decide_eq_true h, Bool.true_and, Bool.eq_iff_iff]
  simp
theorem alg_no_len {n : Nat} {S next : List (List Int)} (h : ¬ next.length = n) : algQ n S next = false := by simp [algQ, h]
theorem alg_all {n : Nat} {S next : List (List Int)} (h : next.length = n) : algQ n S next = decide (∀ l ∈ next, schQ n S (kindsL S.length) l = true) := by
  rw [algQ, decide_eq_true h, Bool.true_and, Bool.eq_iff_iff]
  simp
end Q
theorem Bk1.other {w : World} {b : Nat} {x : Value} (h : Bk1 w b x) (p : Addr) (hp : p.block ≠ b) (u : Value) : Bk1 (w.setCell p u) b x := by
  refine ⟨?_, ?_, by simpa using h.lt⟩
  · rw [World.cell?_setCell_other (h := by intro e; subst e; exact hp rfl)]; exact h.c0
  · rw [World.frozen?_setCell]; exact h.f0
structure AIn (W : World) (b0 bk : Nat) (A : Option Addr) (c : Nat) (xs : List Value) (L : List (List Int)) (B : Option Addr) (d : Nat) (ys : List Value) (S : List (List Int)) (K : Option Addr) (cK : Nat) (N : Option Addr) (zs : List Value) (next : List (List Int)) : Prop where
  k2 : Bk2 W b0 (.slice A L.length c) (.slice B S.length d)
  k1 : Bk1 W bk (.slice K S.length cK)
  mv : NRow W A xs L
  sv : NRow W B ys S
  kr : Law.Row W K (ivs (Q.kindsL S.length))
  nx : NRow W N zs next
theorem AIn.on {W W' : World} {b0 bk : Nat} {A : Option Addr} {c : Nat} {xs : List Value} {L : List (List Int)} {B : Option Addr} {d : Nat} {ys : List Value} {S : List (List Int)} {K : Option Addr} {cK : Nat} {N : Option Addr} {zs : List Value} {next : List (List Int)}
    (h : AIn W b0 bk A c xs L B d ys S K cK N zs next) (hb : Below W.heap.size W W') : AIn W' b0 bk A c xs L B d ys S K cK N zs next :=
  ⟨h.k2.on hb, h.k1.on hb, h.mv.stays hb, h.sv.stays hb, h.kr.stays hb, h.nx.stays hb⟩
section
variable (b0 bk : Nat) (A : Option Addr) (c : Nat) (xs : List Value) (L : List (List Int)) (B : Option Addr) (d : Nat) (ys : List Value) (S : List (List Int)) (K : Option Addr) (cK : Nat) (N : Option Addr) (cN : Nat) (zs : List Value) (next : List (List Int)) (w : World)
abbrev lit8 (b0 bk : Nat) : Value := .func (.func 188) #[] #[.pointer (some ⟨b0, 0, none⟩), .pointer (some ⟨bk, 0, none⟩)]
set_option maxHeartbeats 400000 in
theorem lit8_any (hpr : Q.Pr L S) (l : List Int) (X : Option Addr) (dX : Nat) (hl : l.length ≤ 1048576) (h : AIn w b0 bk A c xs L B d ys S K cK N zs next) (hX : Law.Row w X (ivs l)) :
    Calls Try.prog 188 #[.slice X l.length dX, .pointer (some ⟨b0, 0, none⟩), .pointer (some ⟨bk, 0, none⟩)] w fun e w' => e = .returned (.bool (!Q.schQ L.length S (Q.kindsL S.length) l)) ∧ Below w.heap.size w w' := by
  have HS := isServed_any A c xs L B d ys S w (Q.kindsL S.length) l K cK X dX hpr (by rw [Q.kindsL_len]; have := hpr.m4; omega) hl (Q.kindsL_nats _) h.mv h.sv h.kr hX
  rw [Q.kindsL_len] at HS
  have HS2 := Lib.hid HS
  obtain ⟨p0, p1, _, _, _⟩ := h.k2
  obtain ⟨q0, _, _⟩ := h.k1
  generalize Q.schQ L.length S (Q.kindsL S.length) l = v at HS2 ⊢
  clear h hX HS hpr hl
  generalize l.length = n1 at HS2 ⊢
  go_enter Try.func188, Try.ntmps188
  go_wp2_with fail
  go_at_call 189
  refine HS2.out.mono ?_
  rintro e w1 ⟨rfl, hb⟩
  have HB := Lib.hid hb
  clear hb p0 p1 q0
  cases v
  all_goals
    go_wp2
    go_ret
    exact ⟨rfl, HB.out⟩
set_option maxHeartbeats 800000 in
theorem index8_any (hpr : Q.Pr L S) (hl : ∀ l ∈ next, l.length ≤ 1048576) (hn : next.length ≤ 1048576) (h : AIn w b0 bk A c xs L B d ys S K cK N zs next) :
    Calls Try.prog 187 #[.slice N next.length cN, lit8 b0 bk] w fun e w' => (∃ i : Int, e = .returned (.int .i64 i) ∧ ((∀ l ∈ next, Q.schQ L.length S (Q.kindsL S.length) l = true) → i < 0) ∧ ((¬ ∀ l ∈ next, Q.schQ L.length S (Q.kindsL S.length) l = true) → 0 ≤ i)) ∧ Below w.heap.size w w' := by
  have HA := Lib.hid h
  have HLt := Lib.hid fun (l : List Int) (X : Option Addr) (dX : Nat) (W : World) (hl : l.length ≤ 1048576) (h : AIn W b0 bk A c xs L B d ys S K cK N zs next) (hX : Law.Row W X (ivs l)) => lit8_any b0 bk A c xs L B d ys S K cK N zs next W hpr l X dX hl h hX
  have HL := Lib.hid hl
  clear h hl hpr
  generalize Q.schQ L.length S (Q.kindsL S.length) = ok at HLt ⊢
  go_enter Try.func187, Try.ntmps187
  go_wp2
  go_loopw [8] (fun i wr => ∃ k : Nat, k ≤ next.length ∧ i = .int .i64 (k : Int) ∧ Hid (Below w.heap.size w wr) ∧ Hid (∀ j l, j < k → next[j]? = some l → ok l = true)) (fun i _ => next.length - (intOf i).toNat)
  case atStart => exact ⟨0, Nat.zero_le _, rfl, Below.refl _ _, fun j l hj => by omega⟩
  case round =>
    obtain ⟨k, hk, rfl, hb, hall⟩ := hrel
    have HAr := Lib.hid (HA.out.on hb.out)
    by_cases hlt : k < next.length
    · have hltI : (k : Int) < (next.length : Int) := by omega
      obtain ⟨l, hlk⟩ : ∃ l, next[k]? = some l := ⟨_, List.getElem?_eq_getElem hlt⟩
      obtain ⟨b, off, X, dX, rfl, hbb, hc, hrow⟩ := HAr.out.nx.row_at hlk
      have HC := Lib.hid (HLt.out l X dX wr (HL.out l (List.mem_of_getElem? hlk)) HAr.out hrow)
      have HK := Lib.hid hlk
      clear hlk hrow
      cases hm : ok l
      · rw [hm] at HC
        have HM := Lib.hid hm
        have HB0 := Lib.hid hb.out
        clear hm hall hb
        generalize l.length = n at HC hc
        go_wp2_with fail
        go_at_call 188
        refine HC.out.mono ?_
        rintro e w1 ⟨rfl, hb1⟩
        have HB1 := Lib.hid (Law.then_ HB0.out hb1)
        clear hb1
        go_wp2
        go_ret
        exact ⟨⟨_, rfl, fun h => absurd (h l (List.mem_of_getElem? HK.out)) (by rw [HM.out]; simp), fun _ => by omega⟩, HB1.out⟩
      · rw [hm] at HC
        have HN : Hid (∀ j l, j < k + 1 → next[j]? = some l → ok l = true) := fun j l' hj hl' => by
          by_cases e : j = k
          · subst e
            rw [HK.out] at hl'
            cases hl'
            exact hm
          · exact hall.out j l' (by omega) hl'
        have HB0 := Lib.hid hb.out
        clear hm hall hb
        generalize l.length = n at HC hc
        go_wp2_with fail
        go_at_call 188
        refine HC.out.mono ?_
        rintro e w1 ⟨rfl, hb1⟩
        have HB1 := Lib.hid (Law.then_ HB0.out hb1)
        clear hb1
        go_wp2
        go_roundw
        case rel => exact ⟨k + 1, by omega, by go_num, HB1.out, HN.out⟩
        case measure => simp [intOf]; omega
    · have hke : k = next.length := by omega
      have hltI : ¬ (k : Int) < (next.length : Int) := by omega
      have HN : Hid (∀ l ∈ next, ok l = true) := fun l hl => by
        obtain ⟨j, hj, rfl⟩ := List.mem_iff_getElem.1 hl
        exact hall.out j _ (by omega) (List.getElem?_eq_getElem hj)
      have HB0 := Lib.hid hb.out
      clear hke hall hb
      go_wp2
      go_ret
      exact ⟨⟨_, rfl, fun _ => (by decide), (by first | exact HN.out | exact (fun h => absurd HN.out h) | (intro l hl hb; have hq := HN.out l hl; rw [hq] at hb; cases hb) | (intro l hl hb; exact absurd (HN.out l hl) hb) | done)⟩, HB0.out⟩
open Classical in
theorem has8_any (hpr : Q.Pr L S) (hl : ∀ l ∈ next, l.length ≤ 1048576) (hn : next.length ≤ 1048576) (h : AIn w b0 bk A c xs L B d ys S K cK N zs next) :
    Calls Try.prog 154 #[.slice N next.length cN, lit8 b0 bk] w fun e w' => e = .returned (.bool (!decide (∀ l ∈ next, Q.schQ L.length S (Q.kindsL S.length) l = true))) ∧ Below w.heap.size w w' := by
  have HI := Lib.hid (index8_any b0 bk A c xs L B d ys S K cK N cN zs next w hpr hl hn h)
  clear h hl hpr hn
  by_cases h : ∀ l ∈ next, Q.schQ L.length S (Q.kindsL S.length) l = true
  · have HH := Lib.hid h
    rw [decide_eq_true h]
    clear h
    go_enter Try.func154, Try.ntmps154
    go_wp2_with fail
    go_at_call 187
    refine HI.out.mono ?_
    rintro e w' ⟨⟨i, rfl, h1, h2⟩, hb⟩
    have HB := Lib.hid hb
    have hi : ¬ 0 ≤ i := by have := h1 HH.out; omega
    clear h1 h2 hb
    go_wp2
    go_ret
    exact ⟨by show Ending.returned (.bool (decide (0 ≤ i))) = _; rw [decide_eq_false (show ¬ 0 ≤ i by omega)]; rfl, HB.out⟩
  · have HH := Lib.hid h
    rw [decide_eq_false h]
    clear h
    go_enter Try.func154, Try.ntmps154
    go_wp2_with fail
    go_at_call 187
    refine HI.out.mono ?_
    rintro e w' ⟨⟨i, rfl, h1, h2⟩, hb⟩
    have HB := Lib.hid hb
    have hi : 0 ≤ i := h2 HH.out
    clear h1 h2 hb
    go_wp2
    go_ret
    exact ⟨rfl, HB.out⟩
end
section
set_option maxRecDepth 100000 in
set_option maxHeartbeats 1600000 in
/-- The numbers below n in a row of one's own. -/
theorem countUp_any (n : Nat) (hn : n ≤ 1000) (w : World) : Calls Try.prog 133 #[.int .i64 (n : Int)] w (rowSays1 (Q.kindsL n) w) := by
  obtain ⟨i0, hi, hz0, hz1, hz2⟩ := info_parts infoInts
  have HFz := Lib.hid (Q.fill_zero (fun (r : Nat) => (r : Int)) n)
  have HFs := Lib.hid fun k => Q.fill_set (f := fun (r : Nat) => (r : Int)) (n := n) (k := k)
  have HF0 := Lib.hid fun k (hk : k < n) => Q.fill_at (f := fun (r : Nat) => (r : Int)) hk
  have HFe : Hid (Q.fillK (fun (r : Nat) => (r : Int)) n n = Q.kindsL n) := by show _ = _; rw [Q.fill_end]; rfl
  generalize Q.fillK (fun (r : Nat) => (r : Int)) n = FK at HFz HFs HF0 HFe
  have hln := Q.kindsL_len n
  show Calls _ _ _ _ (rowSays1 _ _)
  unfold rowSays1
  rw [hln]
  generalize Q.kindsL n = X at HFe ⊢
  clear hln
  go_enter Try.func133, Try.ntmps133
  go_wp2_with (at_make; refine wpList_make_full _ rfl _ _ 25 rfl w.heap.size 3 i0 (.int .i64 0) 1 Try.underlying25 hi hz0 hz1 .i64 .i64 _ _ n rfl rfl rfl rfl ?cm1a ?cm1b ?cm1c ?_)
  case cm1a => rw [hz2]; omega
  case cm1b => unfold maxLen; omega
  case cm1c => first | exact Nat.le_refl _ | omega | (simp; done) | (simp; omega)
  intro w1 hm1 hg1
  replace hm1 := made_own (w := w1) hm1
  have HB1 : Hid (Below w.heap.size w w1) := Lib.hid ((Below.refl _ _).grown hg1 (Nat.le_refl _) (fun k e => by cases e))
  clear hg1
  have HO1 : Hid (w1.ownsRow w.heap.size 3 1 (.slice (some ⟨w.heap.size, 0, none⟩) n n) n (ivs (FK 0))) := by show World.ownsRow _ _ _ _ _ _ _; rw [HFz.out]; exact hm1
  clear hm1
  go_wp2_with fail
  go_loopw [9] (fun i wr => ∃ k : Nat, k ≤ n ∧ i = .int .i64 (k : Int) ∧ Hid (wr.ownsRow w.heap.size 3 1 (.slice (some ⟨w.heap.size, 0, none⟩) n n) n (ivs (FK k))) ∧ Hid (Below w.heap.size w wr)) (fun i _ => n - (intOf i).toNat)
  case atStart => exact ⟨0, Nat.zero_le _, rfl, HO1.out, HB1.out⟩
  case round =>
    obtain ⟨k, hk, rfl, ho, hb⟩ := hrel
    by_cases hlt : k < n
    · have hltI : (k : Int) < (n : Int) := by omega
      have hcO := own_cell ho.out (HF0.out k hlt)
      have hfO := ho.out.frozenAt k
      have HSn := Lib.hid (own_put ho.out k (k : Int))
      rw [HFs.out k] at HSn
      have HBn := Lib.hid (hb.out.setCell (p := ⟨w.heap.size, k, none⟩) (Nat.le_refl _) (.int .i64 (k : Int)))
      clear ho hb
      go_wp2
      go_roundw
      case rel => exact ⟨k + 1, by omega, by go_num, HSn.out, HBn.out⟩
      case measure => simp [intOf]; omega
    · have hke : k = n := by omega
      have hltI : ¬ (k : Int) < (n : Int) := by omega
      have HK := Lib.hid hke
      clear hke
      go_wp2
      go_ret
      refine ⟨_, rfl, ?_, hb.out⟩
      have h := ho.out
      rw [HK.out, HFe.out] at h
      exact h
end
section
variable (A : Option Addr) (c : Nat) (xs : List Value) (L : List (List Int)) (B : Option Addr) (d : Nat) (ys : List Value) (S : List (List Int)) (N : Option Addr) (cN : Nat) (zs : List Value) (next : List (List Int)) (w : World)
set_option maxRecDepth 100000 in
set_option maxHeartbeats 1600000 in
theorem isChoices_any (cnt : Nat) (hpr : Q.Pr L S) (hl : ∀ l ∈ next, l.length ≤ 1048576) (hn : next.length ≤ 1048576) (hL : NRow w A xs L) (hS : NRow w B ys S) (hN : NRow w N zs next) :
    Calls Try.prog 157 #[pv A L.length c B S.length d, .slice N next.length cN, .int .i64 (cnt : Int)] w fun e w' => e = .returned (.bool (Q.chQ L.length cnt S next)) ∧ Below w.heap.size w w' := by
  obtain ⟨i0, hi, hz0, hz1, hz2⟩ := info_parts infoInts
  have HP := Lib.hid (PIn.start (c := c) (d := d) hL hS 35)
  obtain ⟨p0, p1, _, _, _⟩ := HP.out.bk
  have HNx := Lib.hid fun (W : World) (h : Below w.heap.size w W) => hN.stays h
  have hm4 := hpr.m4
  have hm1 := hpr.m1
  by_cases hlen : next.length = cnt
  · have hne : ((next.length : Int) != (cnt : Int)) = false := by simp [hlen]
    have HH := Lib.hid fun (b0 bk : Nat) (K : Option Addr) (cK : Nat) (W : World) (h : AIn W b0 bk A c xs L B d ys S K cK N zs next) => has8_any b0 bk A c xs L B d ys S K cK N cN zs next W hpr hl hn h
    have HV := Lib.hid (Q.ch_all (n := L.length) (S := S) hlen)
    have HCu := Lib.hid fun W => countUp_any S.length (by omega) W
    rw [hlen] at HH ⊢
    generalize Q.chQ L.length cnt S next = V at HV ⊢
    clear hL hS hN hl hn hlen hne
    go_enter Try.func157, Try.ntmps157
    go_wp2_with fail
    generalize w.alloc (.cells #[.slice A L.length c, .slice B S.length d] 35) = wa at HP p0 p1 ⊢
    go_wp2_with fail
    go_at_call 133
    refine (HCu.out wa).mono ?_
    rintro e w1 ⟨v, rfl, ho1, hb1⟩
    rw [Q.kindsL_len] at ho1
    obtain ⟨K, cK, rfl, _, _, _⟩ := Law.own_len ho1
    have HO1 := Lib.hid ho1
    have HP1 := Lib.hid (HP.out.on hb1)
    clear ho1 hb1 p0 p1
    have HK2 := Lib.hid (Bk1.new w1 (.slice K S.length cK) 25)
    have b2 : Below w1.heap.size w1 (w1.alloc (.cells #[.slice K S.length cK] 25)) := (Below.refl _ _).alloc (Nat.le_refl _) _
    have HO2 := Lib.hid (own_past HO1.out b2)
    have HPr := Lib.hid (HP1.out.on b2)
    clear b2 HO1 HP1
    go_wp2_with fail
    generalize hw2 : w1.alloc (.cells #[.slice K S.length cK] 25) = w2 at HK2 HO2 HPr ⊢
    clear hw2
    obtain ⟨q0, _, _⟩ := HK2.out
    have hrk := Law.Row.own HO2.out
    have HAi := Lib.hid (HH.out w.heap.size w1.heap.size K cK w2 ⟨HPr.out.bk, HK2.out, HPr.out.mv, HPr.out.sv, hrk, HNx.out w2 HPr.out.bl⟩)
    have HVe := HV.out
    generalize hdd : decide (∀ l ∈ next, Q.schQ L.length S (Q.kindsL S.length) l = true) = bb at HAi HVe
    have HVf := Lib.hid HVe
    clear hrk HV HVe hdd
    go_wp2_with fail
    go_at_call 154
    refine HAi.out.mono ?_
    rintro e w3 ⟨rfl, hb3⟩
    have HB3 := Lib.hid (HPr.out.on hb3).bl
    clear hb3 q0
    cases bb
    all_goals
      go_wp2
      go_ret
      exact ⟨by rw [HVf.out]; rfl, HB3.out⟩
  · have hne : ((next.length : Int) != (cnt : Int)) = true := by simp; omega
    have hne2 : ¬ (next.length : Int) = (cnt : Int) := by omega
    have HN := Lib.hid (Q.ch_no_len (n := L.length) (S := S) hlen)
    clear hL hS hN hlen hl
    generalize next.length = n1 at hne hne2 hn ⊢
    go_enter Try.func157, Try.ntmps157
    go_wp2
    go_ret
    exact ⟨by rw [HN.out]; first | rfl | simp, HP.out.bl⟩
set_option maxHeartbeats 800000 in
theorem isAlgorithm_any (hpr : Q.Pr L S) (hl : ∀ l ∈ next, l.length ≤ 1048576) (hn : next.length ≤ 1048576) (hL : NRow w A xs L) (hS : NRow w B ys S) (hN : NRow w N zs next) :
    Calls Try.prog 97 #[pv A L.length c B S.length d, .slice N next.length cN] w fun e w' => e = .returned (.bool (Q.algQ L.length S next)) ∧ Below w.heap.size w w' := by
  have HP := Lib.hid (PIn.start (c := c) (d := d) hL hS 35)
  obtain ⟨p0, p1, _, _, _⟩ := HP.out.bk
  have HNx := hN.stays HP.out.bl
  have HC := Lib.hid (isChoices_any A c xs L B d ys S N cN zs next _ L.length hpr hl hn HP.out.mv HP.out.sv HNx)
  rw [Q.ch_alg] at HC
  generalize Q.algQ L.length S next = V at HC ⊢
  have HBl := Lib.hid HP.out.bl
  clear hL hS hN hl hn HNx hpr HP
  go_enter Try.func97, Try.ntmps97
  go_wp2_with fail
  go_at_call 157
  refine HC.out.mono ?_
  rintro e w1 ⟨rfl, hb⟩
  have HB1 := Lib.hid (Law.then_ HBl.out hb)
  clear hb p0 p1
  go_wp2
  go_ret
  exact ⟨rfl, HB1.out⟩
end
end Go.Proofs.Ytammlkaclooohaa
