/-
  Rows of rows in the laws' own helpers (szIntSS, toIntSS); a metric: szMetric, toMetric, eqMetric.
-/
import Derived.Test.YtammlkaclooohaaNestL
import Derived.Test.YtammlkaclooohaaNil
import Derived.Test.YtammlkaclooohaaRw3
import Derived.Laws.ResultCell
namespace Go.Proofs.Ytammlkaclooohaa
open Go.RowKit
set_option linter.unusedVariables false
/-- A metric's value. -/
abbrev mv (A : Option Addr) (n c : Nat) : Value := .agg #[.slice A n c]
/-- A struct of one cell in a block of the call's own. -/
structure Bk1 (w : World) (b : Nat) (x : Value) : Prop where
  c0 : w.cell? ⟨b, 0, none⟩ = some x
  f0 : w.frozen? ⟨b, 0, none⟩ = false
  lt : b < w.heap.size
theorem Bk1.below {B : Nat} {w w' : World} {b : Nat} {x : Value} (h : Bk1 w b x) (hb : Below B w w') (hlt : b < B) : Bk1 w' b x :=
  ⟨(hb.cell (p := ⟨b, 0, none⟩) hlt).trans h.c0, (hb.frozen (p := ⟨b, 0, none⟩) hlt).trans h.f0, Nat.lt_of_lt_of_le h.lt hb.size⟩
theorem Bk1.on {w w' : World} {b : Nat} {x : Value} (h : Bk1 w b x) (hb : Below w.heap.size w w') : Bk1 w' b x := h.below hb h.lt
theorem Bk1.new (w : World) (x : Value) (t : TypeId) : Bk1 (w.alloc (.cells #[x] t)) w.heap.size x := ⟨by simp, by simp, by simp⟩
theorem Bk1.alloc {w : World} {b : Nat} {x : Value} (h : Bk1 w b x) (o : Obj) : Bk1 (w.alloc o) b x := h.on ((Below.refl _ _).alloc (Nat.le_refl _) o)
theorem Bk1.drewN {w : World} {b : Nat} {x : Value} (h : Bk1 w b x) (m : Nat) : Bk1 (w.drewN m) b x := h.on (Law.up (Below.refl _ _) m)
/-- A return of a metric that lies in a block of the call's own. -/
theorem ret_met1 {fn : Func} {R : Ending → World → Prop} {a : Act} {w : World} {pt : Tmp} {b : Nat} {x : Value}
    (h : fn.results = #[.cell pt 150]) (hd : a.defers = []) (hp : a.tmps.getD pt undef = .pointer (some ⟨b, 0, none⟩)) (hB : w.cell? ⟨b, 0, none⟩ = some x)
    (hR : R (.returned (.agg #[x])) w) : bodyPost Try.prog fn R .ret a w := by
  refine bodyPost_ret_by (v := .agg #[x]) ?_ hd hR
  have key : (results fn a.tmps).run Try.prog w = ((asAddr (a.tmps.getD pt undef)).run Try.prog w).andThen fun q w1 => (loadVar 150 q).run Try.prog w1 := by
    simp only [results, h]
    simp [Sem.run_bind, Result.andThen]
  rw [key, hp]
  go_simp
/-- A return of such a metric and a flag. -/
theorem ret_met {fn : Func} {R : Ending → World → Prop} {a : Act} {w : World} {pt u : Tmp} {b : Nat} {x f : Value}
    (h : fn.results = #[.cell pt 150, .tmp u]) (hd : a.defers = []) (hp : a.tmps.getD pt undef = .pointer (some ⟨b, 0, none⟩)) (hB : w.cell? ⟨b, 0, none⟩ = some x) (hf : a.tmps.getD u undef = f)
    (hR : R (.returned (.tuple #[.agg #[x], f])) w) : bodyPost Try.prog fn R .ret a w := by
  refine bodyPost_ret_by (v := .tuple #[.agg #[x], f]) ?_ hd hR
  rw [results_cell_tmp h, hp, hf]
  go_simp
def nrSays (L : List (List Int)) (w : World) (e : Ending) (w' : World) : Prop :=
  ∃ v ys, e = .returned v ∧ w'.ownsRow w.heap.size 25 1 v L.length ys ∧ NOwn w' w.heap.size ys L ∧ Below w.heap.size w w'
def mSays (L : List (List Int)) (w : World) (e : Ending) (w' : World) : Prop :=
  ∃ v ys, e = .returned (.agg #[v]) ∧ w'.ownsRow w.heap.size 25 1 v L.length ys ∧ NOwn w' w.heap.size ys L ∧ Below w.heap.size w w'
theorem maxLen_num : (maxLen : Int) = 9223372036854775807 := by decide
theorem szInt_any (A : Option Addr) (n c : Nat) (left : Int) (w : World) (h0 : 0 ≤ left) (h1 : left ≤ 1048576) (hn : n ≤ maxLen) :
    Calls Try.prog 62 #[.slice A n c, .int .i64 left] w fun e w' => e = .returned (.int .i64 (if left - (n : Int) < 0 then -1 else left - (n : Int))) ∧ w' = w := by
  have hn' : (n : Int) ≤ 9223372036854775807 := by have := maxLen_num; omega
  have hw : IntKind.i64.wrap (left - (n : Int)) = left - (n : Int) := IntWalk.i64_in _ (by omega)
  by_cases h : left - (n : Int) < 0
  · rw [if_pos h]
    go_enter Try.func62, Try.ntmps62
    go_wp2
    go_ret
    exact ⟨rfl, rfl⟩
  · rw [if_neg h]
    go_enter Try.func62, Try.ntmps62
    go_wp2
    go_ret
    exact ⟨rfl, rfl⟩
def szOk (L : List (List Int)) : Bool := decide (L.length + totL L ≤ 1048576)
theorem szOk_iff {L : List (List Int)} : szOk L = true ↔ L.length + totL L ≤ 1048576 := by simp [szOk]
theorem sz_rows {L : List (List Int)} (h : szOk L = true) : L.length ≤ 1048576 ∧ (∀ l ∈ L, l.length ≤ 1048576) ∧ totL L ≤ 1048576 := by
  have h' := szOk_iff.1 h
  refine ⟨by omega, fun l hl => ?_, by omega⟩
  obtain ⟨j, hj, rfl⟩ := List.mem_iff_getElem.1 hl
  have h1 := totL_take (List.getElem?_eq_getElem hj)
  have h2 := totL_le L (j + 1)
  omega
set_option maxHeartbeats 400000 in
theorem szSS_any (A : Option Addr) (c : Nat) (xs : List Value) (L : List (List Int)) (w : World) (hn : L.length ≤ maxLen) (hl : ∀ l ∈ L, l.length ≤ maxLen) (hr : NRow w A xs L) :
    Calls Try.prog 42 #[.slice A L.length c, .int .i64 1048576] w fun e w' => (∃ s : Int, e = .returned (.int .i64 s) ∧ (szOk L = true → 0 ≤ s) ∧ (szOk L = false → s = -1)) ∧ w' = w := by
  have hn' : (L.length : Int) ≤ 9223372036854775807 := by have := maxLen_num; omega
  have hw : IntKind.i64.wrap (1048576 - (L.length : Int)) = 1048576 - (L.length : Int) := IntWalk.i64_in _ (by omega)
  have HR := Lib.hid hr
  have HL := Lib.hid hl
  have HT := Lib.hid (totL_le L)
  have HZ : Hid (szOk L = true ↔ L.length + totL L ≤ 1048576) := szOk_iff
  clear hr hl
  by_cases h : 1048576 - (L.length : Int) < 0
  · go_enter Try.func42, Try.ntmps42
    go_wp2
    go_ret
    exact ⟨⟨_, rfl, fun h => by have := HZ.out.1 h; omega, fun _ => rfl⟩, rfl⟩
  · go_enter Try.func42, Try.ntmps42
    go_wp2
    go_loop [1, 5] (fun s i => ∃ (j : Nat) (z : Int), j ≤ L.length ∧ i = .int .i64 j ∧ s = .int .i64 z ∧ 0 ≤ z ∧ z ≤ 1048576 ∧ Hid (z = 1048576 - (L.length : Int) - (totL (L.take j) : Nat))) (fun _ i => L.length - (intOf i).toNat)
    case atStart => exact ⟨0, _, Nat.zero_le _, rfl, rfl, by omega, by omega, by show _ = _; simp [totL]⟩
    case round =>
      obtain ⟨j, z, hj, rfl, rfl, hz0, hz1, hz⟩ := hrel
      by_cases hlt : j < L.length
      · have hltI : (j : Int) < (L.length : Int) := by omega
        obtain ⟨l, hlj⟩ : ∃ l, L[j]? = some l := ⟨_, List.getElem?_eq_getElem hlt⟩
        obtain ⟨x, hx⟩ : ∃ x, xs[j]? = some x := ⟨_, List.getElem?_eq_getElem (by rw [HR.out.len]; exact hlt)⟩
        obtain ⟨B, cB, rfl, hrB⟩ := HR.out.at_ j x l hx hlj
        obtain ⟨b, off, rfl, hbl, hc⟩ := HR.out.row.at_ hx
        have HI := Lib.hid (szInt_any B l.length cB z w hz0 hz1 (HL.out l (List.mem_of_getElem? hlj)))
        have HTn := Lib.hid (totL_take hlj)
        have HTl := Lib.hid (HT.out (j + 1))
        clear hlj hx hrB
        generalize l.length = n at HI HTn hc
        by_cases hneg : z - (n : Int) < 0
        · rw [if_pos hneg] at HI
          go_wp2_with (go_at_call 62; refine (HI.out).mono ?_; rintro e w' ⟨rfl, hw'⟩; subst hw')
          go_ret
          refine ⟨⟨_, rfl, fun h => ?_, fun _ => rfl⟩, rfl⟩
          have h1 := HZ.out.1 h
          have h2 := hz.out
          have h3 := HTn.out
          have h4 := HTl.out
          omega
        · rw [if_neg hneg] at HI
          go_wp2_with (go_at_call 62; refine (HI.out).mono ?_; rintro e w' ⟨rfl, hw'⟩; subst hw')
          go_round
          case rel => exact ⟨j + 1, _, by omega, by go_num, rfl, by omega, by omega, by show _ = _; rw [HTn.out, hz.out]; omega⟩
          case measure => simp [intOf]; omega
      · have hje : j = L.length := by omega
        have hltI : ¬ (j : Int) < (L.length : Int) := by omega
        have HE := Lib.hid hje
        clear hje
        go_wp2
        go_ret
        refine ⟨⟨_, rfl, fun _ => hz0, fun h => ?_⟩, rfl⟩
        have h2 := hz.out
        have h3 := HE.out
        rw [h3, List.take_length] at h2
        have h4 : szOk L = true := HZ.out.2 (by omega)
        rw [h] at h4
        cases h4
set_option maxHeartbeats 800000 in
theorem toSS_any (A : Option Addr) (c : Nat) (xs : List Value) (L : List (List Int)) (w : World) (hs : szOk L = true) (hr : NRow w A xs L) :
    Calls Try.prog 44 #[.slice A L.length c] w (nrSays L w) := by
  obtain ⟨i0, hi, hz0, hz1, hz2⟩ := info_parts infoII
  obtain ⟨hn, hl, _⟩ := sz_rows hs
  have HR := Lib.hid hr
  have HL := Lib.hid hl
  clear hr hl hs
  go_enter Try.func44, Try.ntmps44
  go_wp2_with (at_make; refine wpList_make_full _ rfl _ _ 22 rfl w.heap.size 25 i0 (.slice none 0 0) 1 Try.underlying22 hi hz0 hz1 .i64 .i64 _ _ L.length rfl rfl rfl rfl ?c1 ?c2 ?c3 ?_)
  case c1 => rw [hz2]; omega
  case c2 => unfold maxLen; omega
  case c3 => exact Nat.le_refl _
  intro w2 hown hg
  rw [made_nils] at hown
  have HB2 : Hid (Below w.heap.size w w2) := Lib.hid ((Below.refl _ _).grown hg (Nat.le_refl _) (fun k e => by cases e))
  have HO := Lib.hid hown
  clear hown hg
  go_wp2_with fail
  go_loopw [4] (fun i wr => ∃ j : Nat, j ≤ L.length ∧ i = .int .i64 j ∧ Hid (∃ ys, wr.ownsRow w.heap.size 25 1 (.slice (some ⟨w.heap.size, 0, none⟩) L.length L.length) L.length (ys ++ List.replicate (L.length - j) (.slice none 0 0)) ∧ NOwn wr w.heap.size ys (L.take j)) ∧ Hid (Below w.heap.size w wr)) (fun i _ => L.length - (intOf i).toNat)
  case atStart => exact ⟨0, Nat.zero_le _, rfl, ⟨[], HO.out, NOwn.nil _ _⟩, HB2.out⟩
  case round =>
    obtain ⟨j, hj, rfl, ho, hb⟩ := hrel
    by_cases hlt : j < L.length
    · have hltI : (j : Int) < (L.length : Int) := by omega
      obtain ⟨l, hlj⟩ : ∃ l, L[j]? = some l := ⟨_, List.getElem?_eq_getElem hlt⟩
      obtain ⟨x, hx⟩ : ∃ x, xs[j]? = some x := ⟨_, List.getElem?_eq_getElem (by rw [HR.out.len]; exact hlt)⟩
      obtain ⟨B, cB, rfl, hrB⟩ := (HR.out.stays hb.out).at_ j x l hx hlj
      obtain ⟨b, off, rfl, hbl, hc⟩ := (HR.out.stays hb.out).row.at_ hx
      have HT : Hid (L.take (j + 1) = L.take j ++ [l]) := by
        obtain ⟨hl, e⟩ := List.getElem?_eq_some_iff.1 hlj
        show _ = _
        rw [List.take_succ_eq_append_getElem hl, e]
      have HI := Lib.hid (toInt_any B cB l wr (HL.out l (List.mem_of_getElem? hlj)) hrB)
      clear hlj hx hrB
      go_wp2_with fail
      go_at_call 20
      refine HI.out.mono ?_
      rintro e w3 ⟨v3, rfl, hx3, hb3⟩
      obtain ⟨ys, ho1, hn1⟩ := ho.out
      have ho2 := own_past ho1 hb3
      have hn3 := NOwn.snoc hn1 (hn1.past hb3) hx3 hb.out.size
      have hyl : ys.length = j := by
        have := hn1.len
        rw [List.length_take] at this
        omega
      have hcO : w3.cell? ⟨w.heap.size, j, none⟩ = some (.slice none 0 0) := (ho2.cellAt j (by omega)).trans (by
        rw [List.getElem?_append_right (by omega), hyl, Nat.sub_self]
        rw [List.getElem?_replicate]
        rw [if_pos (by omega)])
      have hfO := ho2.frozenAt j
      obtain ⟨A3, c3, rfl, _, _, _⟩ := Law.own_len hx3
      have hst := ho2.stored j (.slice A3 l.length c3)
      have ho4 := hst.1
      rw [nils_set ys L.length j _ hyl hlt] at ho4
      have hn4 := hn3.outer ints_ne ho2 hst.2
      rw [← HT.out] at hn4
      have HO4 := Lib.hid ho4
      have HN4 := Lib.hid hn4
      have HB4 := Lib.hid ((Law.then_ hb.out hb3).setCell (p := ⟨w.heap.size, j, none⟩) (Nat.le_refl _) (.slice A3 l.length c3))
      clear ho ho1 hn1 ho2 hn3 hx3 hst ho4 hn4 hb3 hb hc
      go_wp2
      go_roundw
      case rel => exact ⟨j + 1, by omega, by go_num, ⟨_, HO4.out, HN4.out⟩, HB4.out⟩
      case measure => simp [intOf]; omega
    · have hje : j = L.length := by omega
      have hltI : ¬ (j : Int) < (L.length : Int) := by omega
      have HJ := Lib.hid hje
      clear hje
      go_wp2
      go_ret
      obtain ⟨ys, ho1, hn1⟩ := ho.out
      rw [HJ.out, Nat.sub_self, List.replicate_zero, List.append_nil] at ho1
      rw [HJ.out, List.take_length] at hn1
      exact ⟨_, ys, rfl, ho1, hn1, hb.out⟩
theorem own_store {w : World} {base n size : Nat} {e : TypeId} {v : Value} {xs : List Value} (h : w.ownsRow base e size v n xs) (p : Addr) (hp : p.block < base) (u : Value) : (w.setCell p u).ownsRow base e size v n xs :=
  h.kept (setBy w p u) (by
    cases hv : v.ownBlock with
    | none => exact .inl rfl
    | some k =>
      have := (h.lt k hv).1
      exact .inr (by simp; omega))
theorem NOwn.store {w : World} {base : Nat} {xs : List Value} {L : List (List Int)} (h : NOwn w base xs L) (p : Addr) (hp : p.block < base) (u : Value) : NOwn (w.setCell p u) base xs L :=
  ⟨h.len, fun j x l h1 h2 => own_store (h.own j x l h1 h2) p hp u, h.apart⟩
end Go.Proofs.Ytammlkaclooohaa
