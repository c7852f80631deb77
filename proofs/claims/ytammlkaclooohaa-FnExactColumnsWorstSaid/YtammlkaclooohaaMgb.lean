/-
  isListOf over loop.example/g01087/impl.isMatrix$1: lists of rows all of which are as they must be. sumOf over loop.example/g01087/impl.columnSums$1: the sum of the products of weights and numbers.
-/
import Derived.Test.YtammlkaclooohaaMga
import Derived.Test.YtammlkaclooohaaPcl
import Derived.BigQuiet
/- isListOf over loop.example/g01087/impl.isMatrix$1: lists of rows all of which are as they must be. -/
namespace Go.Proofs.Ytammlkaclooohaa
open Go.RowKit
set_option linter.unusedVariables false
namespace IslImx
/-- The literal over a captured pointer. -/
abbrev lit (pc : Value) : Value := .func (.func 167) #[] #[pc]
abbrev lit2 (bf : Nat) : Value := .func (.func 192) #[] #[.pointer (some ⟨bf, 0, none⟩)]
structure IlE (W : World) (bf : Nat) (pc : Value) (E : World → Prop) (N : Option Addr) (zs : List Value) (M : List (List Int)) : Prop where
  cf : W.cell? ⟨bf, 0, none⟩ = some (lit pc)
  lf : bf < W.heap.size
  e : E W
  nx : NRow W N zs M
theorem IlE.on {W W' : World} {bf : Nat} {pc : Value} {E : World → Prop} {N : Option Addr} {zs : List Value} {M : List (List Int)} (hE : ∀ W W', E W → Below W.heap.size W W' → E W') (h : IlE W bf pc E N zs M) (hb : Below W.heap.size W W') : IlE W' bf pc E N zs M :=
  ⟨(hb.cell (p := ⟨bf, 0, none⟩) h.lf).trans h.cf, Nat.lt_of_lt_of_le h.lf hb.size, hE _ _ h.e hb, h.nx.stays hb⟩
section
variable (bf : Nat) (pc : Value) (E : World → Prop) (p : List Int → Bool) (N : Option Addr) (cN : Nat) (zs : List Value) (M : List (List Int)) (w : World)
set_option maxHeartbeats 800000 in
theorem lit2_any (l : List Int) (X : Option Addr) (dX : Nat) (v : Bool) (HL : Hid (∀ W, E W → Law.Row W X (ivs l) → Calls Try.prog 167 #[.slice X l.length dX, pc] W fun e w' => e = .returned (.bool v) ∧ Below W.heap.size W w')) (h : IlE w bf pc E N zs M) (hX : Law.Row w X (ivs l)) :
    Calls Try.prog 192 #[.slice X l.length dX, .pointer (some ⟨bf, 0, none⟩)] w fun e w' => e = .returned (.bool (!v)) ∧ Below w.heap.size w w' := by
  have HC := Lib.hid (HL.out w h.e hX)
  have p0 := h.cf
  clear h hX HL
  generalize l.length = n1 at HC ⊢
  go_enter Try.func192, Try.ntmps192
  go_wp2_with fail
  go_at_call 167
  refine HC.out.mono ?_
  rintro e w1 ⟨rfl, hb⟩
  have HB := Lib.hid hb
  clear hb p0
  cases v
  all_goals
    go_wp2
    go_ret
    exact ⟨rfl, HB.out⟩
variable (hE : Hid (∀ W W', E W → Below W.heap.size W W' → E W')) (HLt : Hid (∀ (l : List Int) (X : Option Addr) (dX : Nat) (W : World), l ∈ M → E W → Law.Row W X (ivs l) → Calls Try.prog 167 #[.slice X l.length dX, pc] W fun e w' => e = .returned (.bool (p l)) ∧ Below W.heap.size W w'))
include hE HLt
set_option maxHeartbeats 1600000 in
theorem index_any (hn : M.length ≤ 1048576) (h : IlE w bf pc E N zs M) :
    Calls Try.prog 187 #[.slice N M.length cN, lit2 bf] w fun e w' => (∃ i : Int, e = .returned (.int .i64 i) ∧ ((∀ l ∈ M, p l = true) → i < 0) ∧ ((¬ ∀ l ∈ M, p l = true) → 0 ≤ i)) ∧ Below w.heap.size w w' := by
  have HA := Lib.hid h
  have HL2 := Lib.hid fun (l : List Int) (X : Option Addr) (dX : Nat) (W : World) (hl : l ∈ M) (h : IlE W bf pc E N zs M) (hX : Law.Row W X (ivs l)) => lit2_any bf pc E N zs M W l X dX (p l) (Lib.hid fun W h h' => HLt.out l X dX W hl h h') h hX
  clear h HLt
  go_enter Try.func187, Try.ntmps187
  go_wp2
  go_loopw [8] (fun i wr => ∃ k : Nat, k ≤ M.length ∧ i = .int .i64 (k : Int) ∧ Hid (Below w.heap.size w wr) ∧ Hid (∀ j l, j < k → M[j]? = some l → p l = true)) (fun i _ => M.length - (intOf i).toNat)
  case atStart => exact ⟨0, Nat.zero_le _, rfl, Below.refl _ _, fun j l hj => by omega⟩
  case round =>
    obtain ⟨k, hk, rfl, hb, hall⟩ := hrel
    have HAr := Lib.hid (HA.out.on hE.out hb.out)
    by_cases hlt : k < M.length
    · have hltI : (k : Int) < (M.length : Int) := by omega
      obtain ⟨l, hlk⟩ : ∃ l, M[k]? = some l := ⟨_, List.getElem?_eq_getElem hlt⟩
      obtain ⟨b, off, X, dX, rfl, hbb, hc, hrow⟩ := HAr.out.nx.row_at hlk
      have HC := Lib.hid (HL2.out l X dX wr (List.mem_of_getElem? hlk) HAr.out hrow)
      have HK := Lib.hid hlk
      clear hlk hrow
      cases hm : p l
      · rw [hm] at HC
        have HM := Lib.hid hm
        have HB0 := Lib.hid hb.out
        clear hm hall hb
        generalize l.length = n at HC hc
        go_wp2_with fail
        go_at_call 192
        refine HC.out.mono ?_
        rintro e w1 ⟨rfl, hb1⟩
        have HB1 := Lib.hid (Law.then_ HB0.out hb1)
        clear hb1
        go_wp2
        go_ret
        exact ⟨⟨_, rfl, fun h => absurd (h l (List.mem_of_getElem? HK.out)) (by rw [HM.out]; simp), fun _ => by omega⟩, HB1.out⟩
      · rw [hm] at HC
        have HN : Hid (∀ j l, j < k + 1 → M[j]? = some l → p l = true) := fun j l' hj hl' => by
          by_cases e : j = k
          · subst e
            rw [HK.out] at hl'
            cases hl'
            exact hm
          · exact hall.out j l' (by omega) hl'
        have HB0 := Lib.hid hb.out
        clear hm hall hb
        generalize l.length = n at HC hc
        go_wp2_with fail
        go_at_call 192
        refine HC.out.mono ?_
        rintro e w1 ⟨rfl, hb1⟩
        have HB1 := Lib.hid (Law.then_ HB0.out hb1)
        clear hb1
        go_wp2
        go_roundw
        case rel => exact ⟨k + 1, by omega, by go_num, HB1.out, HN.out⟩
        case measure => simp [intOf]; omega
    · have hke : k = M.length := by omega
      have hltI : ¬ (k : Int) < (M.length : Int) := by omega
      have HN : Hid (∀ l ∈ M, p l = true) := fun l hl => by
        obtain ⟨j, hj, rfl⟩ := List.mem_iff_getElem.1 hl
        exact hall.out j _ (by omega) (List.getElem?_eq_getElem hj)
      have HB0 := Lib.hid hb.out
      clear hke hall hb
      go_wp2
      go_ret
      exact ⟨⟨_, rfl, fun _ => (by decide), (by first | exact HN.out | exact (fun h => absurd HN.out h) | (intro l hl hb; have hq := HN.out l hl; rw [hq] at hb; cases hb) | (intro l hl hb; exact absurd (HN.out l hl) hb) | done)⟩, HB0.out⟩
open Classical in
set_option maxHeartbeats 800000 in
theorem has_any (hn : M.length ≤ 1048576) (h : IlE w bf pc E N zs M) :
    Calls Try.prog 154 #[.slice N M.length cN, lit2 bf] w fun e w' => e = .returned (.bool (!M.all p)) ∧ Below w.heap.size w w' := by
  have HI := Lib.hid (index_any bf pc E p N cN zs M w hE HLt hn h)
  clear h hn HLt hE
  by_cases h : ∀ l ∈ M, p l = true
  · have HH := Lib.hid h
    rw [List.all_eq_true.2 h]
    clear h
    go_enter Try.func154, Try.ntmps154
    go_wp2_with fail
    go_at_call 187
    refine HI.out.mono ?_
    rintro e w' ⟨⟨i, rfl, h1, h2⟩, hb⟩
    have HB := Lib.hid hb
    have hi : ¬ 0 ≤ i := by have := h1 HH.out; omega
    clear h1 h2 hb
    go_wp2
    go_ret
    exact ⟨by show Ending.returned (.bool (decide (0 ≤ i))) = _; rw [decide_eq_false (show ¬ 0 ≤ i by omega)]; rfl, HB.out⟩
  · have HH := Lib.hid h
    rw [show M.all p = false by rw [Bool.eq_false_iff]; intro e; exact h (List.all_eq_true.1 e)]
    clear h
    go_enter Try.func154, Try.ntmps154
    go_wp2_with fail
    go_at_call 187
    refine HI.out.mono ?_
    rintro e w' ⟨⟨i, rfl, h1, h2⟩, hb⟩
    have HB := Lib.hid hb
    have hi : 0 ≤ i := h2 HH.out
    clear h1 h2 hb
    go_wp2
    go_ret
    exact ⟨rfl, HB.out⟩
omit HLt in
set_option maxHeartbeats 800000 in
theorem isList_any (most : Int) (HLt : Hid (1 ≤ M.length → ∀ (l : List Int) (X : Option Addr) (dX : Nat) (W : World), l ∈ M → E W → Law.Row W X (ivs l) → Calls Try.prog 167 #[.slice X l.length dX, pc] W fun e w' => e = .returned (.bool (p l)) ∧ Below W.heap.size W w')) (hn : M.length ≤ 1048576) (he : E w) (hN : NRow w N zs M) :
    Calls Try.prog 166 #[.slice N M.length cN, .int .i64 most, lit pc] w fun e w' => e = .returned (.bool (decide (1 ≤ M.length) && decide ((M.length : Int) ≤ most) && M.all p)) ∧ Below w.heap.size w w' := by
  have hb0 : Below w.heap.size w (w.alloc (.cells #[lit pc] 152)) := (Below.refl _ _).alloc (Nat.le_refl _) _
  by_cases h1 : 1 ≤ M.length
  · have h1I : ¬ (M.length : Int) < 1 := by omega
    by_cases h2 : (M.length : Int) ≤ most
    · have h2I : ¬ most < (M.length : Int) := by omega
      have HA : Hid (IlE (w.alloc (.cells #[lit pc] 152)) w.heap.size pc E N zs M) := ⟨by simp, by simp, hE.out _ _ he hb0, hN.stays hb0⟩
      have HC := Lib.hid (has_any w.heap.size pc E p N cN zs M _ hE (HLt.out h1) hn HA.out)
      have HB := Lib.hid hb0
      rw [decide_eq_true h1, decide_eq_true h2]
      generalize M.all p = v at HC ⊢
      clear he hN hb0 hE HLt h1 h2 HA
      go_enter Try.func166, Try.ntmps166
      go_wp2_with fail
      go_at_call 154
      refine HC.out.mono ?_
      rintro e w1 ⟨rfl, hb⟩
      have HB1 := Lib.hid (Law.then_ HB.out hb)
      clear hb HC
      cases v
      all_goals
        go_wp2
        go_ret
        exact ⟨rfl, HB1.out⟩
    · have h2I : most < (M.length : Int) := by omega
      have HB := Lib.hid hb0
      rw [decide_eq_true h1, decide_eq_false h2]
      clear he hN hb0 hE HLt h1 h2
      go_enter Try.func166, Try.ntmps166
      go_wp2
      go_ret
      exact ⟨rfl, HB.out⟩
  · have h1I : (M.length : Int) < 1 := by omega
    have HB := Lib.hid hb0
    rw [decide_eq_false h1]
    clear he hN hb0 hE HLt h1
    go_enter Try.func166, Try.ntmps166
    go_wp2
    go_ret
    exact ⟨rfl, HB.out⟩
end
end IslImx
end Go.Proofs.Ytammlkaclooohaa

/- sumOf over loop.example/g01087/impl.columnSums$1: the sum of the products of weights and numbers. -/
namespace Go.Proofs.Ytammlkaclooohaa
open Go.RowKit
set_option linter.unusedVariables false
namespace SumScs
abbrev lit (pc : Value) : Value := .func (.func 168) #[] #[pc]
section
variable (pc : Value) (E : World → Prop) (f : List Int → Int) (V : Option Addr) (dv : Nat) (ws : List Int) (A : Option Addr) (c : Nat) (xs : List Value) (M : List (List Int)) (w : World)
set_option maxHeartbeats 1600000 in
theorem sumOf_any (hE : ∀ W W', E W → Below W.heap.size W W' → E W') (HLt : ∀ (l : List Int) (X : Option Addr) (dX : Nat) (W : World), l ∈ M → E W → Law.Row W X (ivs l) → Calls Try.prog 168 #[.slice X l.length dX, pc] W fun e w' => e = .returned (.int .i64 (f l)) ∧ w' = W)
    (hl : ws.length = M.length) (hn : M.length ≤ 1048576) (hb : ∀ k, k ≤ M.length → -1000000000000000 ≤ Q.sfK ws (fun i => f (M.getD i [])) k ∧ Q.sfK ws (fun i => f (M.getD i [])) k ≤ 1000000000000000) (hb2 : ∀ k z, k < M.length → ws[k]? = some z → -1000000000000000 ≤ z * f (M.getD k []) ∧ z * f (M.getD k []) ≤ 1000000000000000)
    (he : E w) (hV : Law.Row w V (ivs ws)) (hM : NRow w A xs M) :
    Calls Try.prog 158 #[.agg #[.slice V ws.length dv, .slice A M.length c], lit pc] w fun e w' => e = .returned (.int .i64 (Q.sfK ws (fun i => f (M.getD i [])) M.length)) ∧ ∃ m, w' = (w.alloc (.cells #[.slice V ws.length dv, .slice A M.length c] 110)).drewN m := by
  have hb0 : Below w.heap.size w (w.alloc (.cells #[.slice V ws.length dv, .slice A M.length c] 110)) := (Below.refl _ _).alloc (Nat.le_refl _) _
  have HK := Lib.hid (Bk2.new w (.slice V ws.length dv) (.slice A M.length c) 110)
  have HV := Lib.hid (hV.stays hb0)
  have HM := Lib.hid (hM.stays hb0)
  have HE := Lib.hid (hE _ _ he hb0)
  have HEd : Hid (∀ W m, E W → E (W.drewN m)) := fun W m h => hE _ _ h (Law.up (Below.refl _ _) m)
  have HL := Lib.hid HLt
  have HB := Lib.hid hb
  have HB2 := Lib.hid hb2
  have HS := Lib.hid fun k z (h : ws[k]? = some z) => Q.sfK_succ (g := fun i => f (M.getD i [])) h
  have HZ : Hid (Q.sfK ws (fun i => f (M.getD i [])) 0 = 0) := rfl
  have HW : Hid (∀ k, k < M.length → ∃ z, ws[k]? = some z) := fun k hk => ⟨_, List.getElem?_eq_getElem (by omega)⟩
  generalize Q.sfK ws (fun i => f (M.getD i [])) = K at HB HS HZ ⊢
  have hwl : M.length ≤ ws.length := by omega
  have hwI : (M.length : Int) ≤ (ws.length : Int) := by omega
  generalize ws.length = wn at *
  clear hE HLt hb hb2 he hV hM hb0 hl
  go_enter Try.func158, Try.ntmps158
  obtain ⟨q0, q1, _, _, _⟩ := HK.out
  go_wp2
  generalize hwa : w.alloc (.cells #[.slice V wn dv, .slice A M.length c] 110) = wa at HK HV HM HE q0 q1 ⊢
  have HWA := Lib.hid hwa
  clear q0 q1 hwa
  go_loopw [5, 11] (fun s i wr => ∃ k : Nat, k ≤ M.length ∧ i = .int .i64 (k : Int) ∧ s = .int .i64 (K k) ∧ Hid (∃ m, wr = wa.drewN m)) (fun _ i _ => M.length - (intOf i).toNat)
  case atStart => exact ⟨0, Nat.zero_le _, rfl, by rw [HZ.out], ⟨0, rfl⟩⟩
  case round =>
    obtain ⟨k, hk, rfl, rfl, hw⟩ := hrel
    have HPr : Hid (∀ m, ∃ q, wr.drewN m = wa.drewN q) := fun m => by
      obtain ⟨q, e⟩ := hw.out
      rw [e]
      exact ⟨q + m, by simp⟩
    have HK2 : Hid (Bk2 wr w.heap.size (.slice V wn dv) (.slice A M.length c)) := by
      obtain ⟨q, e⟩ := hw.out
      rw [e]
      exact HK.out.drewN q
    have HV2 : Hid (Law.Row wr V (ivs ws)) := by
      obtain ⟨q, e⟩ := hw.out
      rw [e]
      exact HV.out.drewN q
    have HM2 : Hid (NRow wr A xs M) := by
      obtain ⟨q, e⟩ := hw.out
      rw [e]
      exact HM.out.drewN q
    have HE2 : Hid (E wr) := by
      obtain ⟨q, e⟩ := hw.out
      rw [e]
      exact HEd.out _ q HE.out
    clear hw
    obtain ⟨q0, q1, _, _, _⟩ := HK2.out
    by_cases hlt : k < M.length
    · have hltI : (k : Int) < (M.length : Int) := by omega
      obtain ⟨l, hlk⟩ : ∃ l, M[k]? = some l := ⟨_, List.getElem?_eq_getElem hlt⟩
      obtain ⟨b, off, X, dX, rfl, hbb, hc, hrow⟩ := HM2.out.row_at hlk
      obtain ⟨z, hz⟩ := HW.out k hlt
      obtain ⟨bV, oV, eV, hbV, hcV⟩ := HV2.out.at_ (ivs_some hz)
      subst eV
      have hg : M.getD k [] = l := by rw [List.getD_eq_getElem?_getD, hlk]; rfl
      have HC : Hid (∀ m, Calls Try.prog 168 #[.slice X l.length dX, pc] (wr.drewN m) fun e w' => e = .returned (.int .i64 (f l)) ∧ w' = wr.drewN m) := fun m => HL.out l X dX (wr.drewN m) (List.mem_of_getElem? hlk) (HEd.out _ m HE2.out) (hrow.drewN m)
      obtain ⟨k1, k2⟩ := HB.out k hk
      obtain ⟨n1, n2⟩ := HB.out (k + 1) (by omega)
      obtain ⟨p1, p2⟩ := HB2.out k z hlt hz
      have hS := HS.out k z hz
      rw [hg] at hS p1 p2
      have HN := Lib.hid hS
      generalize hfl : f l = fv at HC hS p1 p2 HN
      generalize hP : z * fv = P at p1 p2 HN hS
      have hw1 : IntKind.i64.wrap P = P := IntWalk.i64_in _ (by omega)
      have hw2 : IntKind.i64.wrap (K k + P) = K k + P := IntWalk.i64_in _ (by omega)
      have hkw : (k : Int) < (wn : Int) := by omega
      clear hlk hrow hz hg hS hfl n1 n2
      generalize l.length = ln at HC hc
      go_wp2
      go_quiet ((go_at_call 168; exact Calls.quiet_of_same (HC.out _)))
      go_wp2
      go_roundw
      case rel => exact ⟨k + 1, by omega, by go_num, by rw [HN.out], HPr.out _⟩
      case measure => simp [intOf]; omega
    · have hke : k = M.length := by omega
      have hltI : ¬ (k : Int) < (M.length : Int) := by omega
      have hq := HPr.out 0
      have e0 : wr.drewN 0 = wr := rfl
      rw [e0] at hq
      have HQ := Lib.hid hq
      clear hq e0 q0 q1
      have HKe : Hid (K k = K M.length) := by show _ = _; rw [hke]
      clear hke
      go_wp2
      go_ret
      exact ⟨by rw [← HKe.out]; rfl, by rw [HWA.out]; exact HQ.out⟩
end
end SumScs
end Go.Proofs.Ytammlkaclooohaa
