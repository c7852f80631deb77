/-
  Offsets as values, and as the keys of a map. An offset's list; the offset of a list.
-/
import Derived.Test.YthpoeeadhjnljaaGr
import Derived.Test.YthpoeeadhjnljaaGa
import Derived.Test.YthpoeeadhjnljaaWw8
/- Offsets as values, and as the keys of a map. -/
namespace Go.Proofs.Ythpoeeadhjnljaa
open Go.RowKit Go.ChangeShapes Go.WideShapes Go.WideMaps
set_option linter.unusedVariables false
abbrev nil3 : Array Value := #[.slice none 0 0, .slice none 0 0, .slice none 0 0]
abbrev sl (g n c : Nat) : Value := .slice (some ⟨g, 0, none⟩) n c
abbrev csI (i : Nat) : List Value := [.int .i64 (i : Int)]
abbrev csZ (z : Int) : List Value := [.int .i64 z]
abbrev vZ (z : Int) : Value := .int .i64 z
/-- One of two, by whether an operation has come up. -/
def pk {α : Type} (b : Bool) (x y : α) : α := match b with
  | true => x
  | false => y
theorem pk_t {α : Type} (x y : α) : pk true x y = x := rfl
theorem pk_f {α : Type} (x y : α) : pk false x y = y := rfl
theorem own_none (w : World) (e : TypeId) (s : Nat) : (w.alloc (.cells #[] e)).ownsRow w.heap.size e s (sl w.heap.size 0 0) 0 [] :=
  ⟨by simp, .inr ⟨w.heap.size, 0, #[], rfl, Nat.le_refl _, heap_alloc_new w _, Nat.le_refl _, by unfold maxLen; omega, by simp, by simp⟩⟩
theorem laidOutG : laidOutB Try.prog = true := by kernel_rfl
abbrev csO (v : List Int) : List Value := [.int .i64 (v.length : Int), .int .i64 (v[0]?.getD 0), .int .i64 (v[1]?.getD 0), .int .i64 (v[2]?.getD 0), .int .i64 (v[3]?.getD 0)]
abbrev kvO (v : List Int) : Value := .agg #[.int .i64 (v.length : Int), .int .i64 (v[0]?.getD 0), .int .i64 (v[1]?.getD 0), .int .i64 (v[2]?.getD 0), .int .i64 (v[3]?.getD 0)]
theorem csO_len (v : List Int) : (csO v).length = 5 := rfl
theorem kvO_inj {a b : List Int} {n : Nat} (hn : n ≤ 4) (ha : a.length = n) (hb : b.length = n) (h : kvO a = kvO b) : a = b := by
  simp only [kvO, Value.agg.injEq, Array.mk.injEq, List.cons.injEq, Value.int.injEq, true_and, and_true] at h
  obtain ⟨_, h0, h1, h2, h3⟩ := h
  apply List.ext_getElem (by omega)
  intro i hi hi'
  have g : ∀ (j : Nat) (l : List Int) (hl : j < l.length), l[j]?.getD 0 = l[j] := fun j l hl => by rw [List.getElem?_eq_getElem hl]; rfl
  rcases (by omega : i = 0 ∨ i = 1 ∨ i = 2 ∨ i = 3) with rfl | rfl | rfl | rfl
  · rwa [g _ _ hi, g _ _ hi'] at h0
  · rwa [g _ _ hi, g _ _ hi'] at h1
  · rwa [g _ _ hi, g _ _ hi'] at h2
  · rwa [g _ _ hi, g _ _ hi'] at h3
theorem offRow : (98 : TypeId) < Try.prog.types.size := of_decide_eq_true (by kernel_rfl)
set_option maxRecDepth 1000000 in
theorem offKeys : Try.prog.keyTypeAt 3 98 = true := by kernel_rfl
theorem offLaw : KeyLaw Try.prog 98 := deep_law_laid laidOutG (m := 3) (by omega) offRow offKeys (by rw [Try.underlying98])
theorem offKeyed : Maps.Keyed Try.prog 98 := Maps.Keyed.of_law offLaw
theorem offDeep : Try.prog.keyTypeAt (Try.prog.types.size + 1) 98 = true := by kernel_rfl
theorem offCells : Try.prog.cellsOf 98 = 5 := by kernel_rfl
theorem four_cells : Try.prog.cellsOf 96 = 4 := by kernel_rfl
theorem int_cells : Try.prog.cellsOf 3 = 1 := by kernel_rfl
theorem offFormed {c0 c1 c2 c3 c4 : Value} : (Value.agg #[c0, c1, c2, c3, c4]).formed Try.prog 98 = true := by simp [Value.formed, Try.underlying98, offCells]
theorem offKind : Try.prog.keyType 98 = true := offDeep
theorem int_lits {u : Int} (n : Nat) (hu : (Lit.int .i64 u).wf = true) : Try.prog.keyLits (n + 1) 3 [.int .i64 u] = some [.int .i64 u] := by
  unfold Program.keyLits
  rw [Try.underlying3]
  simp [hu]
theorem four_lits {x y z t : Int} (n : Nat) (hx : (Lit.int .i64 x).wf = true) (hy : (Lit.int .i64 y).wf = true) (hz : (Lit.int .i64 z).wf = true) (ht : (Lit.int .i64 t).wf = true) : Try.prog.keyLits (n + 1 + 1) 96 [.int .i64 x, .int .i64 y, .int .i64 z, .int .i64 t] = some [.int .i64 x, .int .i64 y, .int .i64 z, .int .i64 t] := by
  unfold Program.keyLits
  rw [Try.underlying96]
  simp [four_cells, int_cells, show List.range 4 = [0, 1, 2, 3] from rfl, int_lits n hx, int_lits n hy, int_lits n hz, int_lits n ht]
theorem off_key {m x y z t : Int} (hm : (Lit.int .i64 m).wf = true) (hx : (Lit.int .i64 x).wf = true) (hy : (Lit.int .i64 y).wf = true) (hz : (Lit.int .i64 z).wf = true) (ht : (Lit.int .i64 t).wf = true) : ∃ kl, keyOf Try.prog 98 (.agg #[.int .i64 m, .int .i64 x, .int .i64 y, .int .i64 z, .int .i64 t]) = some kl := by
  obtain ⟨n, hn⟩ : ∃ n, Try.prog.types.size = n + 1 + 1 := ⟨Try.prog.types.size - 2, by have h : 2 ≤ Try.prog.types.size := of_decide_eq_true (by kernel_rfl); omega⟩
  refine ⟨.string (keyBytes [.int .i64 m, .int .i64 x, .int .i64 y, .int .i64 z, .int .i64 t]), ?_⟩
  have hL : Try.prog.keyLits (n + 1 + 1 + 1) 98 [.int .i64 m, .int .i64 x, .int .i64 y, .int .i64 z, .int .i64 t] = some [.int .i64 m, .int .i64 x, .int .i64 y, .int .i64 z, .int .i64 t] := by
    unfold Program.keyLits
    rw [Try.underlying98]
    simp [four_cells, int_cells, offCells, int_lits (n + 1) hm, four_lits n hx hy hz ht]
  unfold keyOf
  rw [Try.underlying98, hn]
  simp [offKind, offFormed, Value.cells, hL]
theorem small_wf {z : Int} (h0 : 0 ≤ z) (h1 : z ≤ 1000000) : (Lit.int .i64 z).wf = true := by
  obtain ⟨k, rfl⟩ : ∃ k : Nat, z = k := ⟨z.toNat, by omega⟩
  exact nat_wf (by omega)
theorem okO_key {n : Nat} {v : List Int} (hn : n ≤ 4) (h : Q.OkO n v) : ∃ kl, keyOf Try.prog 98 (kvO v) = some kl := by
  have hg : ∀ i : Nat, 0 ≤ v[i]?.getD 0 ∧ v[i]?.getD 0 ≤ 99 := fun i => by
    by_cases hi : i < n
    · obtain ⟨z, e, h0, h1⟩ := h.vals i hi
      rw [e]
      exact ⟨h0, h1⟩
    · rw [List.getElem?_eq_none (by have := h.len; omega)]
      exact ⟨by decide, by decide⟩
  have hl := h.len
  exact off_key (small_wf (by omega) (by omega)) (small_wf (hg 0).1 (by have := (hg 0).2; omega)) (small_wf (hg 1).1 (by have := (hg 1).2; omega)) (small_wf (hg 2).1 (by have := (hg 2).2; omega)) (small_wf (hg 3).1 (by have := (hg 3).2; omega))
theorem infoOff : (Try.prog.info? 98).map (fun i => (i.zero, i.size, i.bytes)) = some (some (.agg #[.int .i64 0, .int .i64 0, .int .i64 0, .int .i64 0, .int .i64 0]), 5, 40) := by kernel_rfl
end Go.Proofs.Ythpoeeadhjnljaa

/- An offset's list; the offset of a list. -/
namespace Go.Proofs.Ythpoeeadhjnljaa
open Go.RowKit
set_option linter.unusedVariables false
set_option maxHeartbeats 800000 in
theorem oList_any (v : List Int) (h1 : 1 ≤ v.length) (h4 : v.length ≤ 4) (w : World) : Calls Try.prog 87 #[kvO v] w (rowSays1 v w) := by
  have hb := Hb.new w (csO v).toArray 98
  have HR : Hid (Law.Row (w.alloc (.cells (csO v).toArray 98)) (some ⟨w.heap.size, 1, none⟩) (ivs v)) := Lib.hid fun _ => ⟨w.heap.size, 1, rfl, hb.lt, fun j u hu => by
    have hj := (List.getElem?_eq_some_iff.1 hu).1
    rw [ivs_len] at hj
    rw [List.getElem?_map, List.getElem?_eq_getElem hj] at hu
    simp only [Option.map_some, Option.some.injEq] at hu
    have g : v[j]?.getD 0 = v[j] := by rw [List.getElem?_eq_getElem hj]; rfl
    rcases (by omega : j = 0 ∨ j = 1 ∨ j = 2 ∨ j = 3) with rfl | rfl | rfl | rfl <;> exact hb.cell (by rw [← hu, ← g]; rfl)⟩
  have c0 := hb.cell (i := 0) (v := .int .i64 (v.length : Int)) rfl
  have h4I : (v.length : Int) ≤ 4 := by omega
  have HB : Hid (Below w.heap.size w (w.alloc (.cells (csO v).toArray 98))) := Lib.hid ((Below.refl _ _).alloc (Nat.le_refl _) _)
  have h5 : v.length ≤ 1048576 := by omega
  clear hb
  go_enter Try.func87, Try.ntmps87
  go_wp2_with (go_at_call 104; refine (clone8 HR.out h5).mono ?_; rintro e w' ⟨v', rfl, ho, hb'⟩)
  go_ret
  exact ⟨_, rfl, own_down ho HB.out.size, Law.then_ HB.out hb'⟩
namespace Q
/-- The number at place j of an offset that is filled up to place k. -/
def offK (v : List Int) (l : Int) (k j : Nat) : Int := if j < k then v[j]?.getD 0 - l else 0
theorem offK_end {v : List Int} {j : Nat} : offK v (leastK v v.length) v.length j = (offL v)[j]?.getD 0 := by
  unfold offK
  split
  · rename_i h
    rw [offL, List.getElem?_map, List.getElem?_eq_getElem h]
    rfl
  · rename_i h
    rw [List.getElem?_eq_none (by rw [offL_len]; omega)]
    rfl
theorem offK_other {v : List Int} {l : Int} {k j : Nat} (h : j ≠ k) : offK v l (k + 1) j = offK v l k j := by
  unfold offK
  by_cases e : j < k
  · rw [if_pos e, if_pos (by omega)]
  · rw [if_neg e, if_neg (by omega)]
theorem offK_same {v : List Int} {l : Int} {k : Nat} : offK v l (k + 1) k = v[k]?.getD 0 - l := if_pos (by omega)
end Q
abbrev csK (v : List Int) (l : Int) (k : Nat) : Array Value := #[.int .i64 (v.length : Int), .int .i64 (Q.offK v l k 0), .int .i64 (Q.offK v l k 1), .int .i64 (Q.offK v l k 2), .int .i64 (Q.offK v l k 3)]
theorem csK_set {v : List Int} {l : Int} {k : Nat} (hk : k < 4) : (csK v l k).setIfInBounds (1 + k) (.int .i64 (v[k]?.getD 0 - l)) = csK v l (k + 1) := by
  rcases (by omega : k = 0 ∨ k = 1 ∨ k = 2 ∨ k = 3) with rfl | rfl | rfl | rfl <;> simp [csK, Q.offK]
theorem csK_at {v : List Int} {l : Int} {k : Nat} (hk : k < 4) : (csK v l k)[1 + k]? = some (.int .i64 0) := by
  rcases (by omega : k = 0 ∨ k = 1 ∨ k = 2 ∨ k = 3) with rfl | rfl | rfl | rfl <;> simp [csK, Q.offK]
/-- A return of a struct of five cells in a block of the call's own, and a number. -/
theorem ret_off {fn : Func} {R : Ending → World → Prop} {a : Act} {w : World} {pt u : Tmp} {b : Nat} {v0 v1 v2 v3 v4 f : Value}
    (h : fn.results = #[.cell pt 98, .tmp u]) (hd : a.defers = []) (hp : a.tmps.getD pt undef = .pointer (some ⟨b, 0, none⟩)) (hB : Hb w b #[v0, v1, v2, v3, v4] 98) (hf : a.tmps.getD u undef = f)
    (hR : R (.returned (.tuple #[.agg #[v0, v1, v2, v3, v4], f])) w) : bodyPost Try.prog fn R .ret a w := by
  refine bodyPost_ret_by (v := .tuple #[.agg #[v0, v1, v2, v3, v4], f]) ?_ hd hR
  rw [results_cell_tmp h, hp, hf]
  have c0 := hB.cell (i := 0) (v := v0) rfl
  have c1 := hB.cell (i := 1) (v := v1) rfl
  have c2 := hB.cell (i := 2) (v := v2) rfl
  have c3 := hB.cell (i := 3) (v := v3) rfl
  have c4 := hB.cell (i := 4) (v := v4) rfl
  go_simp
set_option maxRecDepth 100000 in
set_option maxHeartbeats 1600000 in
theorem offsetOf_any (v : List Int) (V : Option Addr) (e : Nat) (w : World) (h1 : 1 ≤ v.length) (h4 : v.length ≤ 4) (hv : Q.Vals v.length 1000000 v) (hV : Law.Row w V (ivs v)) :
    Calls Try.prog 109 #[.slice V v.length e] w fun e w' => e = .returned (.tuple #[kvO (Q.offL v), .int .i64 (Q.leastK v v.length)]) ∧ Below w.heap.size w w' := by
  have hb2 := Hb.new w #[.int .i64 0, .int .i64 0, .int .i64 0, .int .i64 0, .int .i64 0] 98
  have HM := Lib.hid fun (W : World) (h : Below w.heap.size w W) => min_row (c := e) (hV.stays h) h1 (by omega)
  have HV := Lib.hid fun (W : World) (h : Below w.heap.size w W) => hV.stays h
  have HVs := Lib.hid hv
  obtain ⟨l, hl⟩ : ∃ l, l = Q.leastK v v.length := ⟨_, rfl⟩
  have hl0 : 0 ≤ l ∧ l ≤ 1000000 := by
    obtain ⟨t, ht, et⟩ := List.mem_iff_getElem.1 (Q.leastK_mem (l := v) h1 v.length (Nat.le_refl _))
    obtain ⟨z, hz, z0, z1⟩ := hv t ht
    rw [List.getElem?_eq_getElem ht, et, ← hl] at hz
    simp only [Option.some.injEq] at hz
    omega
  rw [Q.minOf_least h1, ← hl] at HM
  have HE : Hid (∀ j : Nat, Q.offK v l v.length j = (Q.offL v)[j]?.getD 0) := Lib.hid fun j => by rw [hl]; exact Q.offK_end
  have HLn : Hid ((Q.offL v).length = v.length) := Lib.hid (Q.offL_len v)
  rw [← hl]
  have HN0 : Hid (csK v l 0 = #[.int .i64 (v.length : Int), .int .i64 0, .int .i64 0, .int .i64 0, .int .i64 0]) := Lib.hid (by simp [csK, Q.offK])
  have HCS := Lib.hid fun (k : Nat) (hk : k < 4) => csK_set (v := v) (l := l) hk
  have HCA := Lib.hid fun (k : Nat) (hk : k < 4) => csK_at (v := v) (l := l) hk
  have HSP := Lib.hid hl
  clear hv hV hl
  go_enter Try.func109, Try.ntmps109
  have HB2 : Hid (Below w.heap.size w (w.alloc (.cells #[.int .i64 0, .int .i64 0, .int .i64 0, .int .i64 0, .int .i64 0] 98))) := Lib.hid ((Below.refl _ _).alloc (Nat.le_refl _) _)
  have HM2 := Lib.hid (HM.out _ HB2.out)
  go_wp2_with (go_at_call 71; refine HM2.out.mono ?_; rintro e w' ⟨rfl, hw'⟩; obtain rfl := hw'.symm; clear hw')
  have hb3 := hb2.alloc (.cells (csK v l 0) 98)
  have hb4 := Hb.new (w.alloc (.cells #[.int .i64 0, .int .i64 0, .int .i64 0, .int .i64 0, .int .i64 0] 98)) (csK v l 0) 98
  rw [World.size_alloc] at hb4
  have hB4 := HB2.out.alloc HB2.out.size (.cells (csK v l 0) 98)
  rw [HN0.out] at hb3 hb4 hB4
  have H3 := Lib.hid hb3
  have H4 : Hid (Hb _ _ (csK v l 0) 98) := Lib.hid (by rw [HN0.out]; exact hb4)
  have HB4 := Lib.hid hB4
  clear hb2 hb3 hb4 hB4
  go_loopw [15] (fun i wr => ∃ k : Nat, k ≤ v.length ∧ i = .int .i64 (k : Int) ∧ Hid (Hb wr w.heap.size #[.int .i64 0, .int .i64 0, .int .i64 0, .int .i64 0, .int .i64 0] 98) ∧ Hid (Hb wr (w.heap.size + 1) (csK v l k) 98) ∧ Hid (Below w.heap.size w wr)) (fun i _ => v.length - (intOf i).toNat)
  case atStart => exact ⟨0, Nat.zero_le _, rfl, H3, H4, HB4⟩
  case round =>
    obtain ⟨k, hk, rfl, h3, h5, hb⟩ := hrel
    by_cases hlt : k < v.length
    · have hltI : (k : Int) < (v.length : Int) := by omega
      obtain ⟨z, hz, z0, z1⟩ := HVs.out k hlt
      obtain ⟨bV, oV, eV, hbV, hcV⟩ := (HV.out wr hb.out).at_ (ivs_some hz)
      subst eV
      have hk4 : k < 4 := by omega
      have hc := h5.out.cell (HCA.out k hk4)
      have hf := h5.out.frozen (1 + k)
      have hkI : (k : Int) < 4 := by omega
      have hw1 : IntKind.i64.wrap (z - l) = z - l := IntWalk.i64_in _ (by omega)
      have H5 : Hid (Hb (wr.setCell ⟨w.heap.size + 1, 1 + k, none⟩ (.int .i64 (z - l))) (w.heap.size + 1) (csK v l (k + 1)) 98) := by
        have h := h5.out.set (1 + k) (.int .i64 (z - l))
        have e := HCS.out k hk4
        rw [hz] at e
        show Hb _ _ _ _
        rw [← e]
        exact h
      have H3' := Lib.hid (h3.out.other ⟨w.heap.size + 1, 1 + k, none⟩ (by show w.heap.size ≠ w.heap.size + 1; omega) (.int .i64 (z - l)))
      have HB' := Lib.hid (hb.out.setCell (p := ⟨w.heap.size + 1, 1 + k, none⟩) (by show w.heap.size ≤ w.heap.size + 1; omega) (.int .i64 (z - l)))
      clear hz
      go_wp2
      go_roundw
      case rel => exact ⟨k + 1, by omega, by go_num, H3', H5, HB'⟩
      case measure => simp [intOf]; omega
    · have hke : k = v.length := by omega
      have hltI : ¬ (k : Int) < (v.length : Int) := by omega
      subst hke
      have h6 := h5.out
      simp only [csK, HE.out] at h6
      rw [← HLn.out] at h6
      have H6 := Lib.hid h6
      have d0 := h6.cell (i := 0) (v := .int .i64 ((Q.offL v).length : Int)) rfl
      have d1 := h6.cell (i := 1) (v := .int .i64 ((Q.offL v)[0]?.getD 0)) rfl
      have d2 := h6.cell (i := 2) (v := .int .i64 ((Q.offL v)[1]?.getD 0)) rfl
      have d3 := h6.cell (i := 3) (v := .int .i64 ((Q.offL v)[2]?.getD 0)) rfl
      have d4 := h6.cell (i := 4) (v := .int .i64 ((Q.offL v)[3]?.getD 0)) rfl
      have hk3 := h3.out
      have e0 := hk3.cell (i := 0) (v := .int .i64 0) rfl
      have e1 := hk3.cell (i := 1) (v := .int .i64 0) rfl
      have e2 := hk3.cell (i := 2) (v := .int .i64 0) rfl
      have e3 := hk3.cell (i := 3) (v := .int .i64 0) rfl
      have e4 := hk3.cell (i := 4) (v := .int .i64 0) rfl
      have f0 := hk3.frozen 0
      have f1 := hk3.frozen 1
      have f2 := hk3.frozen 2
      have f3 := hk3.frozen 3
      have f4 := hk3.frozen 4
      clear h6 hk3
      go_wp2
      refine ret_off rfl rfl rfl (((((h3.out.set 0 (.int .i64 ((Q.offL v).length : Int))).set 1 (.int .i64 ((Q.offL v)[0]?.getD 0))).set 2 (.int .i64 ((Q.offL v)[1]?.getD 0))).set 3 (.int .i64 ((Q.offL v)[2]?.getD 0))).set 4 (.int .i64 ((Q.offL v)[3]?.getD 0))) rfl ⟨rfl, ?_⟩
      exact ((((hb.out.setCell (p := ⟨w.heap.size, 0, none⟩) (Nat.le_refl _) _).setCell (p := ⟨w.heap.size, 1, none⟩) (Nat.le_refl _) _).setCell (p := ⟨w.heap.size, 2, none⟩) (Nat.le_refl _) _).setCell (p := ⟨w.heap.size, 3, none⟩) (Nat.le_refl _) _).setCell (p := ⟨w.heap.size, 4, none⟩) (Nat.le_refl _) _
end Go.Proofs.Ythpoeeadhjnljaa
