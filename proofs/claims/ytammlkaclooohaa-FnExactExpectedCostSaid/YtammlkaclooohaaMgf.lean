/-
  isListOf over loop.example/g01087/impl.areDrawn$1: lists of rows all of which are as they must be. ContainsFunc over loop.example/g01087/impl.isChances$1: whether a row is not as it must be.
-/
import Derived.Test.YtammlkaclooohaaMga
import Derived.Test.YtammlkaclooohaaMgn
/- isListOf over loop.example/g01087/impl.areDrawn$1: lists of rows all of which are as they must be. -/
namespace Go.Proofs.Ytammlkaclooohaa
open Go.RowKit
set_option linter.unusedVariables false
namespace IslIdr
/-- The literal over a captured pointer. -/
abbrev lit (pc : Value) : Value := .func (.func 186) #[] #[pc]
abbrev lit2 (bf : Nat) : Value := .func (.func 192) #[] #[.pointer (some ⟨bf, 0, none⟩)]
structure IlE (W : World) (bf : Nat) (pc : Value) (E : World → Prop) (N : Option Addr) (zs : List Value) (M : List (List Int)) : Prop where
  cf : W.cell? ⟨bf, 0, none⟩ = some (lit pc)
  lf : bf < W.heap.size
  e : E W
  nx : NRow W N zs M
theorem IlE.on {W W' : World} {bf : Nat} {pc : Value} {E : World → Prop} {N : Option Addr} {zs : List Value} {M : List (List Int)} (hE : ∀ W W', E W → Below W.heap.size W W' → E W') (h : IlE W bf pc E N zs M) (hb : Below W.heap.size W W') : IlE W' bf pc E N zs M :=
  ⟨(hb.cell (p := ⟨bf, 0, none⟩) h.lf).trans h.cf, Nat.lt_of_lt_of_le h.lf hb.size, hE _ _ h.e hb, h.nx.stays hb⟩
section
variable (bf : Nat) (pc : Value) (E : World → Prop) (p : List Int → Bool) (N : Option Addr) (cN : Nat) (zs : List Value) (M : List (List Int)) (w : World)
set_option maxHeartbeats 800000 in
theorem lit2_any (l : List Int) (X : Option Addr) (dX : Nat) (v : Bool) (HL : Hid (∀ W, E W → Law.Row W X (ivs l) → Calls Try.prog 186 #[.slice X l.length dX, pc] W fun e w' => e = .returned (.bool v) ∧ Below W.heap.size W w')) (h : IlE w bf pc E N zs M) (hX : Law.Row w X (ivs l)) :
    Calls Try.prog 192 #[.slice X l.length dX, .pointer (some ⟨bf, 0, none⟩)] w fun e w' => e = .returned (.bool (!v)) ∧ Below w.heap.size w w' := by
  have HC := Lib.hid (HL.out w h.e hX)
  have p0 := h.cf
  clear h hX HL
  generalize l.length = n1 at HC ⊢
  go_enter Try.func192, Try.ntmps192
  go_wp2_with fail
  go_at_call 186
  refine HC.out.mono ?_
  rintro e w1 ⟨rfl, hb⟩
  have HB := Lib.hid hb
  clear hb p0
  cases v
  all_goals
    go_wp2
    go_ret
    exact ⟨rfl, HB.out⟩
variable (hE : Hid (∀ W W', E W → Below W.heap.size W W' → E W')) (HLt : Hid (∀ (l : List Int) (X : Option Addr) (dX : Nat) (W : World), l ∈ M → E W → Law.Row W X (ivs l) → Calls Try.prog 186 #[.slice X l.length dX, pc] W fun e w' => e = .returned (.bool (p l)) ∧ Below W.heap.size W w'))
include hE HLt
set_option maxHeartbeats 1600000 in
theorem index_any (hn : M.length ≤ 1048576) (h : IlE w bf pc E N zs M) :
    Calls Try.prog 187 #[.slice N M.length cN, lit2 bf] w fun e w' => (∃ i : Int, e = .returned (.int .i64 i) ∧ ((∀ l ∈ M, p l = true) → i < 0) ∧ ((¬ ∀ l ∈ M, p l = true) → 0 ≤ i)) ∧ Below w.heap.size w w' := by
  have HA := Lib.hid h
  have HL2 := Lib.hid fun (l : List Int) (X : Option Addr) (dX : Nat) (W : World) (hl : l ∈ M) (h : IlE W bf pc E N zs M) (hX : Law.Row W X (ivs l)) => lit2_any bf pc E N zs M W l X dX (p l) (Lib.hid fun W h h' => HLt.out l X dX W hl h h') h hX
  clear h HLt
  go_enter Try.func187, Try.ntmps187
  go_wp2
  go_loopw [8] (fun i wr => ∃ k : Nat, k ≤ M.length ∧ i = .int .i64 (k : Int) ∧ Hid (Below w.heap.size w wr) ∧ Hid (∀ j l, j < k → M[j]? = some l → p l = true)) (fun i _ => M.length - (intOf i).toNat)
  case atStart => exact ⟨0, Nat.zero_le _, rfl, Below.refl _ _, fun j l hj => by omega⟩
  case round =>
    obtain ⟨k, hk, rfl, hb, hall⟩ := hrel
    have HAr := Lib.hid (HA.out.on hE.out hb.out)
    by_cases hlt : k < M.length
    · have hltI : (k : Int) < (M.length : Int) := by omega
      obtain ⟨l, hlk⟩ : ∃ l, M[k]? = some l := ⟨_, List.getElem?_eq_getElem hlt⟩
      obtain ⟨b, off, X, dX, rfl, hbb, hc, hrow⟩ := HAr.out.nx.row_at hlk
      have HC := Lib.hid (HL2.out l X dX wr (List.mem_of_getElem? hlk) HAr.out hrow)
      have HK := Lib.hid hlk
      clear hlk hrow
      cases hm : p l
      · rw [hm] at HC
        have HM := Lib.hid hm
        have HB0 := Lib.hid hb.out
        clear hm hall hb
        generalize l.length = n at HC hc
        go_wp2_with fail
        go_at_call 192
        refine HC.out.mono ?_
        rintro e w1 ⟨rfl, hb1⟩
        have HB1 := Lib.hid (Law.then_ HB0.out hb1)
        clear hb1
        go_wp2
        go_ret
        exact ⟨⟨_, rfl, fun h => absurd (h l (List.mem_of_getElem? HK.out)) (by rw [HM.out]; simp), fun _ => by omega⟩, HB1.out⟩
      · rw [hm] at HC
        have HN : Hid (∀ j l, j < k + 1 → M[j]? = some l → p l = true) := fun j l' hj hl' => by
          by_cases e : j = k
          · subst e
            rw [HK.out] at hl'
            cases hl'
            exact hm
          · exact hall.out j l' (by omega) hl'
        have HB0 := Lib.hid hb.out
        clear hm hall hb
        generalize l.length = n at HC hc
        go_wp2_with fail
        go_at_call 192
        refine HC.out.mono ?_
        rintro e w1 ⟨rfl, hb1⟩
        have HB1 := Lib.hid (Law.then_ HB0.out hb1)
        clear hb1
        go_wp2
        go_roundw
        case rel => exact ⟨k + 1, by omega, by go_num, HB1.out, HN.out⟩
        case measure => simp [intOf]; omega
    · have hke : k = M.length := by omega
      have hltI : ¬ (k : Int) < (M.length : Int) := by omega
      have HN : Hid (∀ l ∈ M, p l = true) := fun l hl => by
        obtain ⟨j, hj, rfl⟩ := List.mem_iff_getElem.1 hl
        exact hall.out j _ (by omega) (List.getElem?_eq_getElem hj)
      have HB0 := Lib.hid hb.out
      clear hke hall hb
      go_wp2
      go_ret
      exact ⟨⟨_, rfl, fun _ => (by decide), (by first | exact HN.out | exact (fun h => absurd HN.out h) | (intro l hl hb; have hq := HN.out l hl; rw [hq] at hb; cases hb) | (intro l hl hb; exact absurd (HN.out l hl) hb) | done)⟩, HB0.out⟩
open Classical in
set_option maxHeartbeats 800000 in
theorem has_any (hn : M.length ≤ 1048576) (h : IlE w bf pc E N zs M) :
    Calls Try.prog 154 #[.slice N M.length cN, lit2 bf] w fun e w' => e = .returned (.bool (!M.all p)) ∧ Below w.heap.size w w' := by
  have HI := Lib.hid (index_any bf pc E p N cN zs M w hE HLt hn h)
  clear h hn HLt hE
  by_cases h : ∀ l ∈ M, p l = true
  · have HH := Lib.hid h
    rw [List.all_eq_true.2 h]
    clear h
    go_enter Try.func154, Try.ntmps154
    go_wp2_with fail
    go_at_call 187
    refine HI.out.mono ?_
    rintro e w' ⟨⟨i, rfl, h1, h2⟩, hb⟩
    have HB := Lib.hid hb
    have hi : ¬ 0 ≤ i := by have := h1 HH.out; omega
    clear h1 h2 hb
    go_wp2
    go_ret
    exact ⟨by show Ending.returned (.bool (decide (0 ≤ i))) = _; rw [decide_eq_false (show ¬ 0 ≤ i by omega)]; rfl, HB.out⟩
  · have HH := Lib.hid h
    rw [show M.all p = false by rw [Bool.eq_false_iff]; intro e; exact h (List.all_eq_true.1 e)]
    clear h
    go_enter Try.func154, Try.ntmps154
    go_wp2_with fail
    go_at_call 187
    refine HI.out.mono ?_
    rintro e w' ⟨⟨i, rfl, h1, h2⟩, hb⟩
    have HB := Lib.hid hb
    have hi : 0 ≤ i := h2 HH.out
    clear h1 h2 hb
    go_wp2
    go_ret
    exact ⟨rfl, HB.out⟩
omit HLt in
set_option maxHeartbeats 800000 in
theorem isList_any (most : Int) (HLt : Hid (1 ≤ M.length → ∀ (l : List Int) (X : Option Addr) (dX : Nat) (W : World), l ∈ M → E W → Law.Row W X (ivs l) → Calls Try.prog 186 #[.slice X l.length dX, pc] W fun e w' => e = .returned (.bool (p l)) ∧ Below W.heap.size W w')) (hn : M.length ≤ 1048576) (he : E w) (hN : NRow w N zs M) :
    Calls Try.prog 166 #[.slice N M.length cN, .int .i64 most, lit pc] w fun e w' => e = .returned (.bool (decide (1 ≤ M.length) && decide ((M.length : Int) ≤ most) && M.all p)) ∧ Below w.heap.size w w' := by
  have hb0 : Below w.heap.size w (w.alloc (.cells #[lit pc] 152)) := (Below.refl _ _).alloc (Nat.le_refl _) _
  by_cases h1 : 1 ≤ M.length
  · have h1I : ¬ (M.length : Int) < 1 := by omega
    by_cases h2 : (M.length : Int) ≤ most
    · have h2I : ¬ most < (M.length : Int) := by omega
      have HA : Hid (IlE (w.alloc (.cells #[lit pc] 152)) w.heap.size pc E N zs M) := ⟨by simp, by simp, hE.out _ _ he hb0, hN.stays hb0⟩
      have HC := Lib.hid (has_any w.heap.size pc E p N cN zs M _ hE (HLt.out h1) hn HA.out)
      have HB := Lib.hid hb0
      rw [decide_eq_true h1, decide_eq_true h2]
      generalize M.all p = v at HC ⊢
      clear he hN hb0 hE HLt h1 h2 HA
      go_enter Try.func166, Try.ntmps166
      go_wp2_with fail
      go_at_call 154
      refine HC.out.mono ?_
      rintro e w1 ⟨rfl, hb⟩
      have HB1 := Lib.hid (Law.then_ HB.out hb)
      clear hb HC
      cases v
      all_goals
        go_wp2
        go_ret
        exact ⟨rfl, HB1.out⟩
    · have h2I : most < (M.length : Int) := by omega
      have HB := Lib.hid hb0
      rw [decide_eq_true h1, decide_eq_false h2]
      clear he hN hb0 hE HLt h1 h2
      go_enter Try.func166, Try.ntmps166
      go_wp2
      go_ret
      exact ⟨rfl, HB.out⟩
  · have h1I : (M.length : Int) < 1 := by omega
    have HB := Lib.hid hb0
    rw [decide_eq_false h1]
    clear he hN hb0 hE HLt h1
    go_enter Try.func166, Try.ntmps166
    go_wp2
    go_ret
    exact ⟨rfl, HB.out⟩
end
end IslIdr
end Go.Proofs.Ytammlkaclooohaa

/- ContainsFunc over loop.example/g01087/impl.isChances$1: whether a row is not as it must be. -/
namespace Go.Proofs.Ytammlkaclooohaa
open Go.RowKit
set_option linter.unusedVariables false
namespace IslHcl
/-- The literal over a captured pointer. -/
abbrev lit (pc : Value) : Value := .func (.func 155) #[] #[pc]
structure HcE (W : World) (E : World → Prop) (N : Option Addr) (zs : List Value) (M : List (List Int)) : Prop where
  e : E W
  nx : NRow W N zs M
theorem HcE.on {W W' : World} {E : World → Prop} {N : Option Addr} {zs : List Value} {M : List (List Int)} (hE : ∀ W W', E W → Below W.heap.size W W' → E W') (h : HcE W E N zs M) (hb : Below W.heap.size W W') : HcE W' E N zs M :=
  ⟨hE _ _ h.e hb, h.nx.stays hb⟩
section
variable (pc : Value) (E : World → Prop) (p : List Int → Bool) (N : Option Addr) (cN : Nat) (zs : List Value) (M : List (List Int)) (w : World)
variable (hE : Hid (∀ W W', E W → Below W.heap.size W W' → E W')) (HLt : Hid (∀ (l : List Int) (X : Option Addr) (dX : Nat) (W : World), l ∈ M → E W → Law.Row W X (ivs l) → Calls Try.prog 155 #[.slice X l.length dX, pc] W fun e w' => e = .returned (.bool (!p l)) ∧ Below W.heap.size W w'))
include hE HLt
set_option maxHeartbeats 1600000 in
theorem index_any (hn : M.length ≤ 1048576) (h : HcE w E N zs M) :
    Calls Try.prog 187 #[.slice N M.length cN, lit pc] w fun e w' => (∃ i : Int, e = .returned (.int .i64 i) ∧ ((∀ l ∈ M, p l = true) → i < 0) ∧ ((¬ ∀ l ∈ M, p l = true) → 0 ≤ i)) ∧ Below w.heap.size w w' := by
  have HA := Lib.hid h
  have HL2 := Lib.hid fun (l : List Int) (X : Option Addr) (dX : Nat) (W : World) (hl : l ∈ M) (h : HcE W E N zs M) (hX : Law.Row W X (ivs l)) => HLt.out l X dX W hl h.e hX
  clear h HLt
  go_enter Try.func187, Try.ntmps187
  go_wp2
  go_loopw [8] (fun i wr => ∃ k : Nat, k ≤ M.length ∧ i = .int .i64 (k : Int) ∧ Hid (Below w.heap.size w wr) ∧ Hid (∀ j l, j < k → M[j]? = some l → p l = true)) (fun i _ => M.length - (intOf i).toNat)
  case atStart => exact ⟨0, Nat.zero_le _, rfl, Below.refl _ _, fun j l hj => by omega⟩
  case round =>
    obtain ⟨k, hk, rfl, hb, hall⟩ := hrel
    have HAr := Lib.hid (HA.out.on hE.out hb.out)
    by_cases hlt : k < M.length
    · have hltI : (k : Int) < (M.length : Int) := by omega
      obtain ⟨l, hlk⟩ : ∃ l, M[k]? = some l := ⟨_, List.getElem?_eq_getElem hlt⟩
      obtain ⟨b, off, X, dX, rfl, hbb, hc, hrow⟩ := HAr.out.nx.row_at hlk
      have HC := Lib.hid (HL2.out l X dX wr (List.mem_of_getElem? hlk) HAr.out hrow)
      have HK := Lib.hid hlk
      clear hlk hrow
      cases hm : p l
      · rw [hm] at HC
        have HM := Lib.hid hm
        have HB0 := Lib.hid hb.out
        clear hm hall hb
        generalize l.length = n at HC hc
        go_wp2_with fail
        go_at_call 155
        refine HC.out.mono ?_
        rintro e w1 ⟨rfl, hb1⟩
        have HB1 := Lib.hid (Law.then_ HB0.out hb1)
        clear hb1
        go_wp2
        go_ret
        exact ⟨⟨_, rfl, fun h => absurd (h l (List.mem_of_getElem? HK.out)) (by rw [HM.out]; simp), fun _ => by omega⟩, HB1.out⟩
      · rw [hm] at HC
        have HN : Hid (∀ j l, j < k + 1 → M[j]? = some l → p l = true) := fun j l' hj hl' => by
          by_cases e : j = k
          · subst e
            rw [HK.out] at hl'
            cases hl'
            exact hm
          · exact hall.out j l' (by omega) hl'
        have HB0 := Lib.hid hb.out
        clear hm hall hb
        generalize l.length = n at HC hc
        go_wp2_with fail
        go_at_call 155
        refine HC.out.mono ?_
        rintro e w1 ⟨rfl, hb1⟩
        have HB1 := Lib.hid (Law.then_ HB0.out hb1)
        clear hb1
        go_wp2
        go_roundw
        case rel => exact ⟨k + 1, by omega, by go_num, HB1.out, HN.out⟩
        case measure => simp [intOf]; omega
    · have hke : k = M.length := by omega
      have hltI : ¬ (k : Int) < (M.length : Int) := by omega
      have HN : Hid (∀ l ∈ M, p l = true) := fun l hl => by
        obtain ⟨j, hj, rfl⟩ := List.mem_iff_getElem.1 hl
        exact hall.out j _ (by omega) (List.getElem?_eq_getElem hj)
      have HB0 := Lib.hid hb.out
      clear hke hall hb
      go_wp2
      go_ret
      exact ⟨⟨_, rfl, fun _ => (by decide), (by first | exact HN.out | exact (fun h => absurd HN.out h) | (intro l hl hb; have hq := HN.out l hl; rw [hq] at hb; cases hb) | (intro l hl hb; exact absurd (HN.out l hl) hb) | done)⟩, HB0.out⟩
open Classical in
set_option maxHeartbeats 800000 in
theorem has_any (hn : M.length ≤ 1048576) (h : HcE w E N zs M) :
    Calls Try.prog 154 #[.slice N M.length cN, lit pc] w fun e w' => e = .returned (.bool (!M.all p)) ∧ Below w.heap.size w w' := by
  have HI := Lib.hid (index_any pc E p N cN zs M w hE HLt hn h)
  clear h hn HLt hE
  by_cases h : ∀ l ∈ M, p l = true
  · have HH := Lib.hid h
    rw [List.all_eq_true.2 h]
    clear h
    go_enter Try.func154, Try.ntmps154
    go_wp2_with fail
    go_at_call 187
    refine HI.out.mono ?_
    rintro e w' ⟨⟨i, rfl, h1, h2⟩, hb⟩
    have HB := Lib.hid hb
    have hi : ¬ 0 ≤ i := by have := h1 HH.out; omega
    clear h1 h2 hb
    go_wp2
    go_ret
    exact ⟨by show Ending.returned (.bool (decide (0 ≤ i))) = _; rw [decide_eq_false (show ¬ 0 ≤ i by omega)]; rfl, HB.out⟩
  · have HH := Lib.hid h
    rw [show M.all p = false by rw [Bool.eq_false_iff]; intro e; exact h (List.all_eq_true.1 e)]
    clear h
    go_enter Try.func154, Try.ntmps154
    go_wp2_with fail
    go_at_call 187
    refine HI.out.mono ?_
    rintro e w' ⟨⟨i, rfl, h1, h2⟩, hb⟩
    have HB := Lib.hid hb
    have hi : 0 ≤ i := h2 HH.out
    clear h1 h2 hb
    go_wp2
    go_ret
    exact ⟨rfl, HB.out⟩
end
end IslHcl
end Go.Proofs.Ytammlkaclooohaa
