/-
  How a law's row is closed, whatever its arguments are: the call gave true, and below the old heap nothing has turned ('Below'). Nothing of the program stands here. Slices of ints in the laws' own helpers: 'toIntS', 'eqIntS'. The laws' own helpers on marks in slices of ints: 'markIntS', 'heldIntS'. Sequences of requests: last and next uses, counts, different numbers, weaving, projecting, runs. Nothing of the program stands here. Sequences of requests: the model's tests (l3Items, l3List, l3Good, l3Length). A row of the call's own: the empty one, one more at its end, what an answer says. Rows of ints of a call's own: what a store does to them and to the others. Sequences: what a valid one is, item by item. 'append' of a whole row of ints onto a row of the call's own, the source empty or not: at a plain operation and at a step of a region that draws its order. Cuts of a row. Rows of the call's own: stores of several cells, a length that grows into the capacity, one that shrinks; a new block as a row. Nothing of the program stands here. 'append' of one int onto a row of the call's own: the row stays in its block or goes to a new one. The model's l1Own (a row of one's own with the same numbers) and l1Has (whether a number stands in a row). Sorted lists without doubles: putting in a number; the different numbers of a list; windows. Nothing of the program stands here. The model's l1Put and l3Different: the different numbers of a list, in order.
-/
import Derived.ProofKit
import Derived.OpenShut
import Derived.WalkKit
import Derived.Below
import Derived.Lib.LaidTab
import Derived.Deep.Draws
import Derived.Carry
import Derived.SliceStrings
import Derived.Laws.AppendOwn
import Derived.Laws.OwnMore
import Derived.Test.YtdjafooabpcbmaaProg
import Derived.Lib.Hide
import Derived.LoopTactic
import Derived.OwnWalk
import Derived.WalkSpells
import Derived.Deep.QuietTactic
import Derived.BigQuiet
import Derived.Deep.AppendLies
import Derived.Laws.IdiomCopy
import Derived.Deep.RegionLaw
/- How a law's row is closed, whatever its arguments are: the call gave true, and below the old heap nothing has turned ('Below'). Nothing of the program stands here. -/
namespace Go.Proofs.Ytdjafooabpcbmaa.Law
open Go.RowKit Go.ChangeShapes Go.WideShapes
section
variable {H : Type} {enc : TypeId × Value → H} {P : Program}

/-- All arguments read as they did in a world that is the old one below the old heap. -/
theorem args_stay (hl : laidOutB P = true) {W W' : World} (hb : Below W.heap.size W W') :
    ∀ {ts : List TypeId} {vs : List Value} {ds : List (DataW H)} {ps : List MemPlace}, (ts.all fun t => P.readableRec t && decide (t < P.types.size)) = true →
      DataW.TrodAll enc P W 0 (fun _ => true) true ts vs ds ps → (∀ x ∈ ps, x.block < W.heap.size) → DataW.TrodAll enc P W' 0 (fun b => decide (b < W.heap.size)) true ts vs ds ps
  | [], [], [], _, _, h, _ => h
  | [], _ :: _, _, _, _, h, _ => h.elim
  | [], [], _ :: _, _, _, h, _ => h.elim
  | _ :: _, [], _, _, _, h, _ => h.elim
  | _ :: _, _ :: _, [], _, _, h, _ => h.elim
  | t :: ts, v :: vs, d :: ds, ps, hr, ⟨p, q, h1, h2, e⟩, hlt => by
    simp only [List.all_cons, Bool.and_eq_true, decide_eq_true_eq] at hr
    subst e
    exact ⟨p, q, Below.trod hl hr.1.1 hr.1.2 h1 hb (fun x hx => hlt x (List.mem_append_left _ hx)), args_stay hl hb hr.2 h2 (fun x hx => hlt x (List.mem_append_right _ hx)), rfl⟩

/-- A LAW'S END: it returned true, its arguments read as before, nothing old has turned. -/
theorem close {f : Func} {s : ChangeSpec} {W W' : World} {args : Array Value} {ds : List (DataW H)} {before : List MemPlace} {B : TypeId}
    (hW : DataW.Whole enc P f.params.toList s.vars false W args.toList ds [] before) (hv : s.vars = []) (hs : s.fn H (ds ++ []) = { results := [.lit (.bool true)], args := ds })
    (hl : laidOutB P = true) (hr : (f.params.toList.all fun t => P.readableRec t && decide (t < P.types.size)) = true) (hB : P.underlying B = some .bool) (hres : f.resultTypes = #[B])
    (hb : Below W.heap.size W W') : s.post enc P f false true false false W args (.bool true) W' := by
  have hW' := hW
  have hlt : ∀ p ∈ before, p.block < W.heap.size := fun p hp => hW.lt p hp
  obtain ⟨p, q, hA, hV, rfl, hz, hn⟩ := hW
  rw [hv] at hV
  have hq : q = [] := hV
  subst hq
  refine ⟨ds, [], _, [], p, [], hW', ?_, ?_, ?_, World.keptBut_mono (fun x hx => ⟨hx, .inr (.inl (by simpa using hx))⟩) (hb.frame (· ∈ p ++ [])), fun h => by cases h⟩
  · rw [hs, hres]
    exact trodAll_mk1 (shut_bool hB _)
  · rw [hs]
    exact args_stay hl hb hr hA (fun x hx => hlt x (List.mem_append_left _ hx))
  · rw [hv, hs]
    rfl
end
theorem undraw {B m : Nat} {w w' : World} (h : Below B (w.drewN m) w') : Below B w w' := ⟨h.os, h.tape, h.output, h.size, h.block⟩
theorem draws (B : Nat) (w : World) (m : Nat) : Below B w (w.drewN m) := ⟨rfl, rfl, rfl, Nat.le_refl _, fun _ _ => rfl⟩
theorem up {B : Nat} {a w : World} (h : Below B a w) (m : Nat) : Below B a (w.drewN m) := ⟨h.os, h.tape, h.output, h.size, h.block⟩
theorem of_same {P : Program} {f : FuncId} {args : Array Value} {w : World} {E : Ending} (h : Calls P f args w fun e w' => e = E ∧ w' = w) : Calls P f args w fun e w' => e = E ∧ Below w.heap.size w w' := h.mono fun _ _ ⟨he, hw⟩ => ⟨he, by rw [hw]; exact Below.refl _ _⟩
theorem then_ {w w1 w2 : World} (h : Below w.heap.size w w1) (h' : Below w1.heap.size w1 w2) : Below w.heap.size w w2 := h.trans (h'.mono h.size)
/-- A callee that leaves the world alone, met behind draws. -/
theorem quiet_more {P : Program} {f : FuncId} {args : Array Value} {v : Value} (c : ∀ W : World, Calls P f args W fun e w' => e = .returned v ∧ w' = W) {w : World} {a n : Nat} :
    Calls P f args (w.drewN (a + n)) fun e w'' => e = .returned v ∧ ∃ m, w'' = w.drewN (a + m) := (c _).mono fun _ _ ⟨he, hm⟩ => ⟨he, n, hm⟩
/-- A slice's cells: the row at A holds the values xs, and lies in the heap (nothing is said where xs is empty). -/
def Row (w : World) (A : Option Addr) (xs : List Value) : Prop :=
  xs ≠ [] → ∃ b off, A = some ⟨b, off, none⟩ ∧ b < w.heap.size ∧ ∀ j u, xs[j]? = some u → w.cell? ⟨b, off + j, none⟩ = some u
theorem Row.stays {w w' : World} {A : Option Addr} {xs : List Value} (h : Row w A xs) (hb : Below w.heap.size w w') : Row w' A xs := fun hx => by
  obtain ⟨b, off, e, hlt, hc⟩ := h hx
  exact ⟨b, off, e, Nat.lt_of_lt_of_le hlt hb.size, fun j u hu => (hb.cell (p := ⟨b, off + j, none⟩) hlt).trans (hc j u hu)⟩
theorem Row.drewN {w : World} {A : Option Addr} {xs : List Value} (h : Row w A xs) (k : Nat) : Row (w.drewN k) A xs := h
theorem Row.at_ {w : World} {A : Option Addr} {xs : List Value} (h : Row w A xs) {k : Nat} {u : Value} (hk : xs[k]? = some u) :
    ∃ b off, A = some ⟨b, off, none⟩ ∧ b < w.heap.size ∧ w.cell? ⟨b, off + k, none⟩ = some u := by
  obtain ⟨b, off, e, hlt, hc⟩ := h (fun e => by rw [e] at hk; simp at hk)
  exact ⟨b, off, e, hlt, hc k u hk⟩
theorem cell_in {w : World} {a : Addr} {v : Value} (h : w.cell? a = some v) : a.block < w.heap.size := by
  rcases Nat.lt_or_ge a.block w.heap.size with h' | h'
  · exact h'
  · unfold World.cell? at h
    rw [Array.getElem?_eq_none h'] at h
    simp at h
theorem add_plain (b o j : Nat) : (⟨b, o, none⟩ : Addr).add j = ⟨b, o + j, none⟩ := by
  unfold Addr.add
  split
  · rename_i h; subst h; rfl
  · rfl
theorem Row.own {w : World} {base : Nat} {e : TypeId} {A : Option Addr} {n c : Nat} {xs : List Value} (h : w.ownsRow base e 1 (.slice A n c) n xs) : Row w A xs := fun hx => by
  rcases h.2 with ⟨_, h0⟩ | ⟨g, cap, cur, hv, _, hg, _, _, _, _⟩
  · have := h.1
    rw [h0] at this
    exact absurd (List.eq_nil_of_length_eq_zero (by simpa using this)) hx
  · injection hv with hA
    subst hA
    exact ⟨g, 0, rfl, (Array.getElem?_eq_some_iff.1 hg).1, fun j u hu => by
      have := h.cells (g := g) rfl j u hu
      rwa [add_plain] at this⟩
theorem own_len {w : World} {base : Nat} {e : TypeId} {v : Value} {n : Nat} {xs : List Value} (h : w.ownsRow base e 1 v n xs) : ∃ A c, v = .slice A n c ∧ n ≤ c ∧ c ≤ maxLen ∧ xs.length = n := by
  rcases h.2 with ⟨rfl, rfl⟩ | ⟨g, cap, cur, rfl, _, _, h1, h2, _, _⟩
  · exact ⟨none, 0, rfl, Nat.le_refl _, Nat.zero_le _, by simpa using h.1⟩
  · exact ⟨_, cap, rfl, h1, h2, by simpa using h.1⟩
section
variable {H : Type} {enc : TypeId × Value → H} {P : Program}
/-- A slice of integers that came in. -/
theorem in_nums {k : IntKind} {t e : TypeId} {W : World} {base : Nat} {v : Value} {d : DataW H} {p : List MemPlace} (ht : P.underlying t = some (.slice e)) (he : P.underlying e = some (.int k)) (hc : P.cellsOf e = 1)
    (hval : Value.okWide P W .any base t v) (hd : DataW.Trod enc P W 0 (fun _ => true) true t v d p) :
    ∃ (A : Option Addr) (n c : Nat) (zs : List Int), v = .slice A n c ∧ (zs.length = n ∧ n ≤ c ∧ c ≤ maxLen ∧ (∀ z ∈ zs, (Lit.int k z).wf = true) ∧ Row W A (zs.map (Value.int k))) := by
  obtain ⟨a0, len, cap, rfl⟩ := okWide_slice ht hval
  obtain ⟨fuel, hf⟩ := hd
  simp only [Value.cells] at hf
  rcases open_ints ht he hc hf with ⟨hcs, hx⟩ | ⟨a, len', cap', zs, hcs, _, hl, hm, hz, hx, hcell, hwf⟩
  · simp at hcs
    obtain ⟨rfl, rfl, rfl⟩ := hcs
    exact ⟨none, 0, 0, [], rfl, rfl, Nat.le_refl _, Nat.zero_le _, fun z hz => by simp at hz, fun h => absurd rfl h⟩
  · simp at hcs
    obtain ⟨rfl, rfl, rfl⟩ := hcs
    simp only [if_true] at hz
    refine ⟨_, len, cap, zs.take len, rfl, by simp; omega, hl, hm, fun z hz => hwf z (List.mem_of_mem_take hz), fun hne => ?_⟩
    have h0 : 0 < len := by
      rcases Nat.eq_zero_or_pos len with h | h
      · subst h; simp at hne
      · exact h
    obtain ⟨b, off, spot⟩ := a
    have hspot : spot = none := by simpa [Addr.add] using World.cell?_spot (hcell 0 (by omega))
    subst hspot
    refine ⟨b, off, rfl, cell_in (hcell 0 (by omega)), fun j u hu => ?_⟩
    rw [List.getElem?_map, Option.map_eq_some_iff] at hu
    obtain ⟨X, hX, rfl⟩ := hu
    have hj : j < len := by
      have := (List.getElem?_eq_some_iff.1 hX).1
      simp at this
      omega
    have hX' : zs.getD j 0 = X := by
      rw [List.getElem?_take_of_lt hj] at hX
      simp [List.getD, hX]
    have h1 := hcell j (by omega)
    rw [add_plain, hX'] at h1
    exact h1
/-- A []int that came in. -/
theorem in_ints {t e : TypeId} {W : World} {base : Nat} {v : Value} {d : DataW H} {p : List MemPlace} (ht : P.underlying t = some (.slice e)) (he : P.underlying e = some (.int .i64)) (hc : P.cellsOf e = 1)
    (hval : Value.okWide P W .any base t v) (hd : DataW.Trod enc P W 0 (fun _ => true) true t v d p) (_hlt : ∀ x ∈ p, x.block < W.heap.size) :
    ∃ (A : Option Addr) (n c : Nat) (zs : List Int), v = .slice A n c ∧ (zs.length = n ∧ n ≤ c ∧ c ≤ maxLen ∧ (∀ z ∈ zs, (Lit.int .i64 z).wf = true) ∧ Row W A (zs.map (Value.int .i64))) := in_nums ht he hc hval hd
/-- A []byte that came in. -/
theorem in_bytes {t e : TypeId} {W : World} {base : Nat} {v : Value} {d : DataW H} {p : List MemPlace} (ht : P.underlying t = some (.slice e)) (he : P.underlying e = some (.int .u8)) (hc : P.cellsOf e = 1)
    (hval : Value.okWide P W .any base t v) (hd : DataW.Trod enc P W 0 (fun _ => true) true t v d p) (_hlt : ∀ x ∈ p, x.block < W.heap.size) :
    ∃ (A : Option Addr) (n c : Nat) (bs : List UInt8), v = .slice A n c ∧ (bs.length = n ∧ n ≤ c ∧ c ≤ maxLen ∧ Row W A (bs.map fun b => Value.int .u8 (b.toNat : Int))) := by
  obtain ⟨A, n, c, zs, rfl, h1, h2, h3, h4, h5⟩ := in_nums ht he hc hval hd
  have e : (zs.map fun z => UInt8.ofNat z.toNat).map (fun b => Value.int .u8 (b.toNat : Int)) = zs.map (Value.int .u8) := by
    rw [List.map_map]
    refine List.map_congr_left fun z hz => ?_
    have hw := h4 z hz
    have hb : 0 ≤ z ∧ z ≤ 255 := by simpa [Lit.wf, IntKind.min, IntKind.max, IntKind.signed, IntKind.bits] using hw
    show Value.int .u8 (((UInt8.ofNat z.toNat).toNat : Nat) : Int) = Value.int .u8 z
    rw [UInt8.toNat_ofNat']
    congr 1
    omega
  exact ⟨A, n, c, zs.map fun z => UInt8.ofNat z.toNat, rfl, by simpa using h1, h2, h3, by rw [e]; exact h5⟩
/-- A []string that came in. -/
theorem in_strings {t e : TypeId} {W : World} {base : Nat} {v : Value} {d : DataW H} {p : List MemPlace} (ht : P.underlying t = some (.slice e)) (he : P.underlying e = some .string) (hc : P.cellsOf e = 1)
    (hval : Value.okWide P W .any base t v) (hd : DataW.Trod enc P W 0 (fun _ => true) true t v d p) (_hlt : ∀ x ∈ p, x.block < W.heap.size) :
    ∃ (A : Option Addr) (n c : Nat) (ss : List ByteArray), v = .slice A n c ∧ (ss.length = n ∧ n ≤ c ∧ c ≤ maxLen ∧ (∀ s ∈ ss, s.size ≤ maxLen) ∧ Row W A (ss.map Value.string)) := by
  obtain ⟨a0, len, cap, rfl⟩ := okWide_slice ht hval
  obtain ⟨fuel, hf⟩ := hd
  simp only [Value.cells] at hf
  rcases open_strings ht he hc hf with ⟨hcs, hx⟩ | ⟨a, len', cap', ss, hcs, _, hl, hm, hz, hx, hcell, hsz⟩
  · simp at hcs
    obtain ⟨rfl, rfl, rfl⟩ := hcs
    exact ⟨none, 0, 0, [], rfl, rfl, Nat.le_refl _, Nat.zero_le _, fun s hs => by simp at hs, fun h => absurd rfl h⟩
  · simp at hcs
    obtain ⟨rfl, rfl, rfl⟩ := hcs
    simp only [if_true] at hz
    refine ⟨_, len, cap, ss.take len, rfl, by simp; omega, hl, hm, fun s hs => hsz s (List.mem_of_mem_take hs), fun hne => ?_⟩
    have h0 : 0 < len := by
      rcases Nat.eq_zero_or_pos len with h | h
      · subst h; simp at hne
      · exact h
    obtain ⟨b, off, spot⟩ := a
    have hspot : spot = none := by simpa [Addr.add] using World.cell?_spot (hcell 0 (by omega))
    subst hspot
    refine ⟨b, off, rfl, cell_in (hcell 0 (by omega)), fun j u hu => ?_⟩
    rw [List.getElem?_map, Option.map_eq_some_iff] at hu
    obtain ⟨X, hX, rfl⟩ := hu
    have hj : j < len := by
      have := (List.getElem?_eq_some_iff.1 hX).1
      simp at this
      omega
    have hX' : ss.getD j ByteArray.empty = X := by
      rw [List.getElem?_take_of_lt hj] at hX
      simp [List.getD, hX]
    have h1 := hcell j (by omega)
    rw [add_plain, hX'] at h1
    exact h1
end
end Go.Proofs.Ytdjafooabpcbmaa.Law

/- Slices of ints in the laws' own helpers: 'toIntS', 'eqIntS'. -/
namespace Go.Proofs.Ytdjafooabpcbmaa
open Go.RowKit
abbrev ivs (zs : List Int) : List Value := zs.map (Value.int .i64)
theorem ivs_at {zs : List Int} {k : Nat} (h : k < zs.length) : (ivs zs)[k]? = some (.int .i64 zs[k]) := by
  rw [List.getElem?_map, List.getElem?_eq_getElem h]; rfl
theorem infoInts : (Try.prog.info? 3).map (fun i => (i.zero, i.size, i.bytes)) = some (some (.int .i64 0), 1, 8) := by kernel_rfl
/-- A row filled from the left. -/
def fillS (xs zs : List Value) (k : Nat) : List Value := xs.take k ++ zs.drop k
theorem fillS_length {xs zs : List Value} {k : Nat} (h : k ≤ xs.length) (hz : zs.length = xs.length) : (fillS xs zs k).length = xs.length := by
  unfold fillS; rw [List.length_append, List.length_take, List.length_drop]; omega
theorem fillS_set {xs zs : List Value} {k : Nat} {u : Value} (hu : xs[k]? = some u) (hz : k < zs.length) : (fillS xs zs k).set k u = fillS xs zs (k + 1) := by
  obtain ⟨hk, e⟩ := List.getElem?_eq_some_iff.1 hu
  unfold fillS
  rw [List.set_append, if_neg (by rw [List.length_take]; omega), List.length_take, Nat.min_eq_left (by omega), Nat.sub_self, List.take_succ_eq_append_getElem hk, e,
    List.drop_eq_getElem_cons hz, List.set_cons_zero, List.append_assoc]
  rfl
theorem fillS_all {xs zs : List Value} {k : Nat} (h : xs.length = k) (hz : zs.length ≤ k) : fillS xs zs k = xs := by
  unfold fillS; rw [List.take_of_length_le (by omega), List.drop_of_length_le hz, List.append_nil]
/-- What 'toIntS' gives: a new row with the same ints. -/
def toSays (ss : List Int) (w : World) (e : Ending) (w' : World) : Prop :=
  ∃ v, e = .returned v ∧ w'.ownsRow w.heap.size 3 1 v ss.length (ivs ss) ∧ Below w.heap.size w w'
set_option maxHeartbeats 1600000 in
theorem toInt_any (A : Option Addr) (c : Nat) (ss : List Int) (w : World) (hn : ss.length ≤ 1048576) (hr : Law.Row w A (ivs ss)) :
    Calls Try.prog 23 #[.slice A ss.length c] w (toSays ss w) := by
  obtain ⟨i0, hi, hz0, hz1, hz2⟩ := info_parts infoInts
  have HR := Lib.hid hr
  clear hr
  go_enter Try.func23, Try.ntmps23
  go_wp2_with (at_make; refine wpList_make_full _ rfl _ _ 22 rfl w.heap.size 3 i0 (.int .i64 0) 1 Try.underlying22 hi hz0 hz1 .i64 .i64 _ _ ss.length rfl rfl rfl rfl ?c1 ?c2 ?c3 ?_)
  case c1 => rw [hz2]; omega
  case c2 => unfold maxLen; omega
  case c3 => exact Nat.le_refl _
  intro w1 hown hg
  have hz : (madeCells #[Value.int .i64 0] ss.length).toList.length = ss.length := by rw [Array.length_toList, size_madeCells]
  have hb1 : Below w.heap.size w w1 := (Below.refl _ _).grown hg (Nat.le_refl _) (fun k e => by cases e)
  obtain ⟨zs, hzs⟩ : ∃ zs, zs = (madeCells #[Value.int .i64 0] ss.length).toList := ⟨_, rfl⟩
  rw [← hzs] at hown hz
  have HZ := Lib.hid hz
  have HO := Lib.hid hown
  have HB := Lib.hid hb1
  clear hzs hz hown hg hb1
  go_wp2_with fail
  go_loopw [4] (fun i wr => ∃ k : Nat, k ≤ ss.length ∧ i = .int .i64 k ∧ Hid (wr.ownsRow w.heap.size 3 1 (.slice (some ⟨w.heap.size, 0, none⟩) ss.length ss.length) ss.length (fillS (ivs ss) zs k)) ∧ Hid (Below w.heap.size w wr)) (fun i _ => ss.length - (intOf i).toNat)
  case atStart => exact ⟨0, Nat.zero_le _, rfl, HO.out, HB.out⟩
  case round =>
    obtain ⟨k, hk, rfl, ho, hb⟩ := hrel
    by_cases hlt : k < ss.length
    · obtain ⟨b, off, rfl, hbl, hc⟩ := (HR.out.stays hb.out).at_ (ivs_at hlt)
      have hl : (fillS (ivs ss) zs k).length = ss.length := by rw [fillS_length (by simp; omega) (by simp [HZ.out])]; simp
      obtain ⟨u, hu⟩ : ∃ u, (fillS (ivs ss) zs k)[k]? = some u := ⟨_, List.getElem?_eq_getElem (by omega)⟩
      have hcO : wr.cell? ⟨w.heap.size, k, none⟩ = some u := (ho.out.cellAt k (by omega)).trans hu
      have hfO := ho.out.frozenAt k
      have HS := Lib.hid (ho.out.stored k (.int .i64 ss[k])).1
      have HB' := Lib.hid (hb.out.setCell (p := ⟨w.heap.size, k, none⟩) (Nat.le_refl _) (.int .i64 ss[k]))
      have HF := Lib.hid (fillS_set (xs := ivs ss) (zs := zs) (ivs_at hlt) (by rw [HZ.out]; exact hlt))
      clear ho hb hu hl
      go_wp2
      go_roundw
      case rel => exact ⟨k + 1, by omega, by go_num, (by show World.ownsRow _ _ _ _ _ _ _; rw [← HF.out]; exact HS.out), HB'.out⟩
      case measure => simp [intOf]; omega
    · have hke : k = ss.length := by omega
      have HF : Hid (fillS (ivs ss) zs k = ivs ss) := by show fillS _ _ _ = _; rw [hke]; exact fillS_all (by simp) (Nat.le_of_eq HZ.out)
      clear hke
      go_wp2
      go_ret
      refine ⟨_, rfl, ?_, hb.out⟩
      rw [← HF.out]
      exact ho.out
/-- Two rows with the same ints are equal for 'eqIntS'. -/
theorem eqInt_same (A B : Option Addr) (c d : Nat) (ss : List Int) (w : World) (hn : ss.length ≤ 9223372036854775807) (ha : Law.Row w A (ivs ss)) (hb : Law.Row w B (ivs ss)) :
    Calls Try.prog 25 #[.slice A ss.length c, .slice B ss.length d] w fun e w' => e = .returned (.bool true) ∧ ∃ m, w' = w.drewN m := by
  have HA := Lib.hid ha
  have HB := Lib.hid hb
  clear ha hb
  go_enter Try.func25, Try.ntmps25
  go_wp2
  go_loopw [5] (fun i wr => ∃ k m : Nat, k ≤ ss.length ∧ i = .int .i64 k ∧ wr = w.drewN m) (fun i _ => ss.length - (intOf i).toNat)
  case atStart => exact ⟨0, 0, Nat.zero_le _, rfl, rfl⟩
  case round =>
    obtain ⟨k, m, hk, rfl, rfl⟩ := hrel
    by_cases hlt : k < ss.length
    · obtain ⟨b, off, rfl, hbl, hc⟩ := HA.out.at_ (ivs_at hlt)
      obtain ⟨b', off', rfl, hbl', hc'⟩ := HB.out.at_ (ivs_at hlt)
      have hlt' : (k : Int) < (ss.length : Int) := by omega
      go_wp2
      go_quiet (fail)
      go_wp2
      go_roundw
      case rel => exact ⟨k + 1, _, by omega, by go_num, rfl⟩
      case measure => simp [intOf]; omega
    · go_wp2
      go_ret
      exact ⟨rfl, m, rfl⟩
end Go.Proofs.Ytdjafooabpcbmaa

/- The laws' own helpers on marks in slices of ints: 'markIntS', 'heldIntS'. -/
namespace Go.Proofs.Ytdjafooabpcbmaa
open Go.RowKit
set_option linter.unusedVariables false
/-- The marks k, k + 1, .. -/
def mki (k n : Nat) : List Int := (List.range n).map fun i => ((k + i : Nat) : Int)
theorem mki_len (k n : Nat) : (mki k n).length = n := by simp [mki]
theorem mki_at {k n j : Nat} (h : j < n) : (ivs (mki k n))[j]? = some (.int .i64 ((k + j : Nat) : Int)) := by simp [mki, h]
theorem by_refl (w : World) (row : Option Nat) : w.grownBy w row := ⟨rfl, rfl, rfl, Nat.le_refl _, fun _ _ _ => rfl⟩
theorem by_trans {a b c : World} {row : Option Nat} (h : a.grownBy b row) (k : b.grownBy c row) : a.grownBy c row :=
  ⟨k.os.trans h.os, k.tape.trans h.tape, k.output.trans h.output, Nat.le_trans h.size k.size, fun i hi hn => (k.block i (Nat.lt_of_lt_of_le hi h.size) hn).trans (h.block i hi hn)⟩
theorem by_undraw {m : Nat} {w w' : World} {row : Option Nat} (h : (w.drewN m).grownBy w' row) : w.grownBy w' row := ⟨h.os, h.tape, h.output, h.size, h.block⟩
/-- A step that writes one row, of the call's own. -/
theorem by_below {B : Nat} {a w w' : World} {row : Option Nat} (h : Below B a w) (hg : w.grownBy w' row) (hB : B ≤ w.heap.size) (hr : ∀ k, row = some k → B ≤ k) : Below B a w' := h.grown hg hB hr
/-- Where a row's block lies. -/
def In (lo hi : Nat) (A : Option Addr) : Prop := ∀ a, A = some a → lo ≤ a.block ∧ a.block < hi
theorem In.of {w : World} {base : Nat} {e : TypeId} {A : Option Addr} {n c : Nat} {xs : List Value} (h : w.ownsRow base e 1 (.slice A n c) n xs) : In base w.heap.size A := fun a ha => by
  rcases h.2 with ⟨hv, _⟩ | ⟨g, cap, cur, hv, hb, hg, _⟩
  · injection hv with h1; rw [h1] at ha; cases ha
  · injection hv with h1
    rw [h1] at ha
    cases ha
    exact ⟨hb, (Array.getElem?_eq_some_iff.1 hg).1⟩
theorem In.wide {lo hi hi' : Nat} {A : Option Addr} (h : In lo hi A) (hh : hi ≤ hi') : In lo hi' A := fun a ha => ⟨(h a ha).1, Nat.lt_of_lt_of_le (h a ha).2 hh⟩
theorem In.base {lo hi : Nat} {A : Option Addr} {n c : Nat} (h : In lo hi A) {B : Nat} (hB : B ≤ lo) : ∀ k, (Value.slice A n c).ownBlock = some k → B ≤ k := fun k hk => by
  cases A with
  | none => simp [Value.ownBlock] at hk
  | some a =>
    have := (h a rfl).1
    simp [Value.ownBlock] at hk
    omega
/-- A row stays where another one is written. -/
theorem Law.Row.far {w w' : World} {A B : Option Addr} {n c lo hi lo' hi' : Nat} {xs : List Value} (h : Law.Row w A xs) (hg : w.grownBy w' (Value.slice B n c).ownBlock) (hA : In lo hi A) (hB : In lo' hi' B) (hd : hi ≤ lo' ∨ hi' ≤ lo) :
    Law.Row w' A xs := fun hx => by
  obtain ⟨b, off, rfl, hb, hc⟩ := h hx
  refine ⟨b, off, rfl, Nat.lt_of_lt_of_le hb hg.size, fun j u hu => ?_⟩
  have hne : some b ≠ (Value.slice B n c).ownBlock := fun e => by
    cases B with
    | none => simp [Value.ownBlock] at e
    | some q =>
      have h1 := hA _ rfl
      have h2 := hB q rfl
      simp [Value.ownBlock] at e
      simp only [] at h1
      omega
  exact (World.cell?_of_block (a := ⟨b, off + j, none⟩) (hg.block b hb hne)).trans (hc j u hu)
/-- What the call owns stays while another row is written. -/
theorem own_far {w w' : World} {A B : Option Addr} {n c n' c' lo hi lo' hi' base : Nat} {e : TypeId} {xs : List Value} (h : w.ownsRow base e 1 (.slice A n' c') n' xs) (hg : w.grownBy w' (Value.slice B n c).ownBlock) (hA : In lo hi A) (hB : In lo' hi' B) (hd : hi ≤ lo' ∨ hi' ≤ lo) :
    w'.ownsRow base e 1 (.slice A n' c') n' xs := h.kept hg (by
  cases A with
  | none => exact .inl rfl
  | some a =>
    refine .inr fun e => ?_
    cases B with
    | none => simp [Value.ownBlock] at e
    | some q =>
      have h1 := hA a rfl
      have h2 := hB q rfl
      simp [Value.ownBlock] at e
      omega)
theorem own_on {w w' : World} {base : Nat} {e : TypeId} {v : Value} {n : Nat} {xs : List Value} (h : w.ownsRow base e 1 v n xs) (hb : Below w.heap.size w w') : w'.ownsRow base e 1 v n xs :=
  h.kept (row := none) ⟨hb.os, hb.tape, hb.output, hb.size, fun i hi _ => hb.block i hi⟩ (by cases hv : v.ownBlock <;> simp)
set_option maxHeartbeats 800000 in
theorem markInt_by (base k n : Nat) (A : Option Addr) (c : Nat) (xs : List Value) (w : World) (hk : 0 < k) (hkn : k + n ≤ 100000000) (ho : w.ownsRow base 3 1 (.slice A n c) n xs) :
    Calls Try.prog 26 #[.slice A n c, .int .i64 (k : Int)] w fun e w' => e = .returned (.int .i64 ((k + n : Nat) : Int)) ∧ w'.ownsRow base 3 1 (.slice A n c) n (ivs (mki k n)) ∧ w.grownBy w' (Value.slice A n c).ownBlock := by
  obtain ⟨A', c', hv, hc1, hc2, hxl⟩ := Law.own_len ho
  injection hv with e1 e2 e3
  subst e1 e3
  have HO := Lib.hid ho
  have HX := Lib.hid hxl
  unfold maxLen at hc2
  clear ho hxl
  go_enter Try.func26, Try.ntmps26
  go_wp2
  go_loopw [1, 5] (fun q i wr => ∃ j : Nat, j ≤ n ∧ i = .int .i64 j ∧ q = .int .i64 ((k + j : Nat) : Int) ∧ Hid (wr.ownsRow base 3 1 (.slice A n c) n (fillS (ivs (mki k n)) xs j)) ∧ Hid (w.grownBy wr (Value.slice A n c).ownBlock)) (fun _ i _ => n - (intOf i).toNat)
  case atStart => exact ⟨0, Nat.zero_le _, rfl, rfl, HO.out, by_refl _ _⟩
  case round =>
    obtain ⟨j, hj, rfl, rfl, how, hbw⟩ := hrel
    by_cases hlt : j < n
    · obtain ⟨g, hA⟩ : ∃ g, A = some ⟨g, 0, none⟩ := by
        rcases how.out.2 with ⟨h, h0⟩ | ⟨g, cap, cur, h, _⟩
        · omega
        · injection h with h; exact ⟨g, h⟩
      subst hA
      have hltI : (j : Int) < (n : Int) := by omega
      have hml : (ivs (mki k n)).length = n := by simp [mki]
      have hl : (fillS (ivs (mki k n)) xs j).length = n := by rw [fillS_length (by omega) (by rw [HX.out, hml])]; exact hml
      obtain ⟨u, hu⟩ : ∃ u, (fillS (ivs (mki k n)) xs j)[j]? = some u := ⟨_, List.getElem?_eq_getElem (by omega)⟩
      have HF := Lib.hid (fillS_set (xs := ivs (mki k n)) (zs := xs) (mki_at (k := k) hlt) (by rw [HX.out]; exact hlt))
      have hcO : wr.cell? ⟨g, j, none⟩ = some u := (how.out.cellAt j (by omega)).trans hu
      have hfO := how.out.frozenAt j
      have HS := Lib.hid (how.out.stored j (.int .i64 ((k + j : Nat) : Int))).1
      have HB : Hid (w.grownBy (wr.setCell ⟨g, j, none⟩ (.int .i64 ((k + j : Nat) : Int))) (Value.slice (some ⟨g, 0, none⟩) n c).ownBlock) := by_trans hbw.out (how.out.stored j (.int .i64 ((k + j : Nat) : Int))).2
      clear hu hl hml how hbw
      go_wp2
      go_roundw
      case rel => exact ⟨j + 1, by omega, by go_num, by go_num, (by show World.ownsRow _ _ _ _ _ _ _; rw [← HF.out]; exact HS.out), HB.out⟩
      case measure => simp [intOf]; omega
    · have hje : j = n := by omega
      have hltI : ¬ (j : Int) < (n : Int) := by omega
      have HF : Hid (fillS (ivs (mki k n)) xs j = ivs (mki k n)) := by show fillS _ _ _ = _; rw [hje]; exact fillS_all (by simp [mki]) (Nat.le_of_eq HX.out)
      have HJ := Lib.hid hje
      clear hje
      go_wp2
      go_ret
      refine ⟨by rw [HJ.out]; rfl, ?_, hbw.out⟩
      rw [← HF.out]
      exact how.out
theorem heldInt_any (k n c : Nat) (A : Option Addr) (w : World) (hk : 0 < k) (hkn : k + n ≤ 100000000) (hr : Law.Row w A (ivs (mki k n))) :
    Calls Try.prog 29 #[.slice A n c, .int .i64 (k : Int)] w fun e w' => e = .returned (.int .i64 ((k + n : Nat) : Int)) ∧ ∃ m, w' = w.drewN m := by
  have HR := Lib.hid hr
  clear hr
  go_enter Try.func29, Try.ntmps29
  go_wp2
  go_loopw [1, 5] (fun q i wr => ∃ j m : Nat, j ≤ n ∧ i = .int .i64 j ∧ q = .int .i64 ((k + j : Nat) : Int) ∧ wr = w.drewN m) (fun _ i _ => n - (intOf i).toNat)
  case atStart => exact ⟨0, 0, Nat.zero_le _, rfl, rfl, rfl⟩
  case round =>
    obtain ⟨j, m, hj, rfl, rfl, rfl⟩ := hrel
    by_cases hlt : j < n
    · obtain ⟨b, off, rfl, hbl, hc⟩ := HR.out.at_ (mki_at hlt)
      have hltI : (j : Int) < (n : Int) := by omega
      go_wp2
      go_roundw
      case rel => exact ⟨j + 1, m, by omega, by go_num, by go_num, rfl⟩
      case measure => simp [intOf]; omega
    · have hje : j = n := by omega
      have hltI : ¬ (j : Int) < (n : Int) := by omega
      have HJ := Lib.hid hje
      clear hje
      go_wp2
      go_ret
      exact ⟨by rw [HJ.out]; rfl, m, rfl⟩
/-- 'markIntS' from 1 on, behind draws: it writes the one row. -/
theorem markInt_one (base n c m : Nat) (A : Option Addr) (xs : List Value) (w : World) (hn : n ≤ 1048576) (ho : w.ownsRow base 3 1 (.slice A n c) n xs) :
    Calls Try.prog 26 #[.slice A n c, .int .i64 1] (w.drewN m) fun e w' => e = .returned (.int .i64 ((1 + n : Nat) : Int)) ∧ w'.ownsRow base 3 1 (.slice A n c) n (ivs (mki 1 n)) ∧ w.grownBy w' (Value.slice A n c).ownBlock :=
  (markInt_by base 1 n A c xs (w.drewN m) (by omega) (by omega) ho).mono fun _ _ ⟨h1, h2, h3⟩ => ⟨h1, h2, by_undraw h3⟩
theorem heldInt_one (n c : Nat) (A : Option Addr) (w : World) (hn : n ≤ 1048576) (hr : Law.Row w A (ivs (mki 1 n))) :
    Calls Try.prog 29 #[.slice A n c, .int .i64 1] w fun e w' => e = .returned (.int .i64 ((1 + n : Nat) : Int)) ∧ Below w.heap.size w w' :=
  (heldInt_any 1 n c A w (by omega) (by omega) hr).mono fun _ _ ⟨h1, m, h2⟩ => ⟨h1, by rw [h2]; exact Law.draws _ _ _⟩
end Go.Proofs.Ytdjafooabpcbmaa

/- Sequences of requests: last and next uses, counts, different numbers, weaving, projecting, runs. Nothing of the program stands here. -/
namespace Go.Proofs.Ytdjafooabpcbmaa
namespace Q
/-- The greatest k below j with zs[k] = x, or -1. -/
def dn (zs : List Int) (x : Int) : Nat → Int
  | 0 => -1
  | j + 1 => if zs[j]? = some x then (j : Int) else dn zs x j
/-- The least place of x in the list, counted from k on, or -1. -/
def up (x : Int) : List Int → Nat → Int
  | [], _ => -1
  | y :: ys, k => if y = x then (k : Int) else up x ys (k + 1)
def lastOf (zs : List Int) (i : Nat) : Int := dn zs (zs.getD i 0) i
def nextOf (zs : List Int) (i : Nat) : Int := up (zs.getD i 0) (zs.drop (i + 1)) (i + 1)
def lastL (zs : List Int) (k : Nat) : List Int := (List.range k).map (lastOf zs)
def nextL (zs : List Int) (k : Nat) : List Int := (List.range k).map (nextOf zs)
theorem map_succ (f : Nat → Int) (k : Nat) : (List.range (k + 1)).map f = (List.range k).map f ++ [f k] := by simp [List.range_succ]
/-- What the code keeps for each item ahead of place p. -/
def latestL (n : Nat) (zs : List Int) (p : Nat) : List Int := (List.range n).map fun (x : Nat) => dn zs (x : Int) p
def nearestL (n : Nat) (zs : List Int) (p : Nat) : List Int := (List.range n).map fun (x : Nat) => up (x : Int) (zs.drop p) p
theorem set_map {n : Nat} (f g : Nat → Int) (i : Nat) (u : Int) (h : ∀ x, x < n → g x = if x = i then u else f x) : ((List.range n).map f).set i u = (List.range n).map g := by
  apply List.ext_getElem (by simp)
  intro k h1 h2
  simp at h1
  rw [List.getElem_set]
  simp [h k h1]
  by_cases e : i = k
  · simp [e]
  · rw [if_neg e, if_neg (fun x => e x.symm)]
theorem latest_succ {n : Nat} {zs : List Int} {p : Nat} {x : Nat} (h : zs[p]? = some (x : Int)) : (latestL n zs p).set x (p : Int) = latestL n zs (p + 1) := by
  refine set_map _ _ _ _ fun y _ => ?_
  show (if zs[p]? = some (y : Int) then (p : Int) else dn zs y p) = _
  rw [h]
  by_cases e : y = x
  · subst e; simp
  · rw [if_neg (by simp; omega), if_neg e]
theorem drop_at {zs : List Int} {p : Nat} {x : Int} (h : zs[p]? = some x) : zs.drop p = x :: zs.drop (p + 1) := by
  obtain ⟨hl, rfl⟩ := List.getElem?_eq_some_iff.1 h
  exact List.drop_eq_getElem_cons hl
theorem nearest_pred {n : Nat} {zs : List Int} {p : Nat} {x : Nat} (h : zs[p]? = some (x : Int)) : (nearestL n zs (p + 1)).set x (p : Int) = nearestL n zs p := by
  refine set_map _ _ _ _ fun y _ => ?_
  rw [drop_at h]
  show (if (x : Int) = (y : Int) then (p : Int) else up y (zs.drop (p + 1)) (p + 1)) = _
  by_cases e : y = x
  · subst e; simp
  · rw [if_neg (by omega), if_neg e]
theorem latest_at {n : Nat} {zs : List Int} {p x : Nat} (h : x < n) : (latestL n zs p)[x]? = some (dn zs x p) := by simp [latestL, h]
theorem nearest_at {n : Nat} {zs : List Int} {p x : Nat} (h : x < n) : (nearestL n zs p)[x]? = some (up x (zs.drop p) p) := by simp [nearestL, h]
theorem latest_zero (n : Nat) (zs : List Int) : latestL n zs 0 = List.replicate n (-1) := by simp [latestL, dn, List.map_const']
theorem nearest_end (n : Nat) (zs : List Int) : nearestL n zs zs.length = List.replicate n (-1) := by simp [nearestL, up, List.map_const']
theorem dn_bd (zs : List Int) (x : Int) : ∀ p, -1 ≤ dn zs x p ∧ dn zs x p < p
  | 0 => by simp [dn]
  | p + 1 => by
    have := dn_bd zs x p
    unfold dn
    split <;> omega
theorem up_bd (x : Int) : ∀ (zs : List Int) (p : Nat), -1 ≤ up x zs p ∧ up x zs p < (p + zs.length : Nat)
  | [], p => by simp [up]; omega
  | y :: ys, p => by
    have := up_bd x ys (p + 1)
    unfold up
    simp only [List.length_cons]
    split <;> omega
/-- Counts. -/
def countL (n : Nat) (zs : List Int) : List Int := (List.range n).map fun (x : Nat) => ((zs.count (x : Int) : Nat) : Int)
theorem count_snoc {n : Nat} {zs : List Int} {x : Nat} : (countL n zs).set x (((zs.count (x : Int) : Nat) : Int) + 1) = countL n (zs ++ [(x : Int)]) := by
  refine set_map _ _ _ _ fun y _ => ?_
  rw [List.count_append]
  by_cases e : y = x
  · subst e; simp
  · rw [if_neg e, List.count_cons_of_ne (by omega)]; simp
theorem count_at {n : Nat} {zs : List Int} {x : Nat} (h : x < n) : (countL n zs)[x]? = some ((zs.count (x : Int) : Nat) : Int) := by simp [countL, h]
theorem count_nil (n : Nat) : countL n [] = List.replicate n 0 := by simp [countL, List.map_const']
theorem take_snoc {zs : List Int} {k : Nat} {x : Int} (h : zs[k]? = some x) : zs.take (k + 1) = zs.take k ++ [x] := by
  obtain ⟨hl, rfl⟩ := List.getElem?_eq_some_iff.1 h
  exact List.take_succ_eq_append_getElem hl
/-- How many different numbers a list holds. -/
def difR : List Int → Nat
  | [] => 0
  | x :: xs => difR xs + if x ∈ xs then 0 else 1
def dif (l : List Int) : Nat := difR l.reverse
theorem dif_snoc (l : List Int) (x : Int) : dif (l ++ [x]) = dif l + if x ∈ l then 0 else 1 := by simp [dif, difR]
theorem difR_le : ∀ l, difR l ≤ l.length
  | [] => Nat.le_refl _
  | x :: xs => by have := difR_le xs; unfold difR; simp only [List.length_cons]; split <;> omega
theorem dif_le (l : List Int) : dif l ≤ l.length := by have := difR_le l.reverse; simpa [dif] using this
end Q
namespace Q
/-- Weaving: the places 0 .. k - 1 of both. -/
def weaveK (a b : List Int) (k : Nat) : List Int := (List.range k).flatMap fun i => a[i]?.toList ++ b[i]?.toList
theorem weaveK_succ (a b : List Int) (k : Nat) : weaveK a b (k + 1) = weaveK a b k ++ a[k]?.toList ++ b[k]?.toList := by simp [weaveK, List.range_succ]
def weave (a b : List Int) : List Int := weaveK a b (max a.length b.length)
theorem take_opt (l : List Int) (k j : Nat) : (l.drop k).take (j + 1) = (l.drop k).take j ++ l[k + j]?.toList := by
  rw [List.take_add_one, List.getElem?_drop]
theorem weave_rest (a b : List Int) (k : Nat) (h : a.length ≤ k ∨ b.length ≤ k) : ∀ j, weaveK a b (k + j) = weaveK a b k ++ ((a.drop k).take j ++ (b.drop k).take j)
  | 0 => by simp
  | j + 1 => by
    rw [← Nat.add_assoc, weaveK_succ, weave_rest a b k h j, take_opt, take_opt]
    rcases h with h | h
    · have e : a.drop k = [] := List.drop_of_length_le h
      have e' : a[k + j]? = none := List.getElem?_eq_none (by omega)
      simp [e, e']
    · have e : b.drop k = [] := List.drop_of_length_le h
      have e' : b[k + j]? = none := List.getElem?_eq_none (by omega)
      simp [e, e']
theorem weave_min (a b : List Int) : weave a b = weaveK a b (min a.length b.length) ++ a.drop (min a.length b.length) ++ b.drop (min a.length b.length) := by
  unfold weave
  have e : max a.length b.length = min a.length b.length + (max a.length b.length - min a.length b.length) := by omega
  rw [e, weave_rest a b _ (by omega), List.append_assoc]
  congr 2
  · rw [List.take_of_length_le]; simp; omega
  · rw [List.take_of_length_le]; simp; omega
theorem weaveK_len (a b : List Int) (k : Nat) (h : k ≤ a.length) (h' : k ≤ b.length) : (weaveK a b k).length = k + k := by
  induction k with
  | zero => rfl
  | succ k ih =>
    rw [weaveK_succ, List.length_append, List.length_append, ih (by omega) (by omega), List.getElem?_eq_getElem (by omega), List.getElem?_eq_getElem (by omega)]
    simp; omega
theorem weave_len (a b : List Int) : (weave a b).length = a.length + b.length := by
  rw [weave_min, List.length_append, List.length_append, weaveK_len _ _ _ (by omega) (by omega)]
  simp; omega
theorem weaveK_le (a b : List Int) (k : Nat) : (weaveK a b k).length ≤ k + k := by
  induction k with
  | zero => simp [weaveK]
  | succ k ih =>
    rw [weaveK_succ, List.length_append, List.length_append]
    have h1 : (a[k]?.toList).length ≤ 1 := by cases a[k]? <;> simp
    have h2 : (b[k]?.toList).length ≤ 1 := by cases b[k]? <;> simp
    omega
def projL (items zs : List Int) : List Int := zs.filter fun z => decide (z ∈ items)
theorem proj_snoc (items zs : List Int) (x : Int) : projL items (zs ++ [x]) = projL items zs ++ (if x ∈ items then [x] else []) := by
  simp only [projL, List.filter_append]
  by_cases h : x ∈ items <;> simp [h]
theorem proj_len (items zs : List Int) : (projL items zs).length ≤ zs.length := List.length_filter_le _ _
def renL (to zs : List Int) : List Int := zs.map fun z => to.getD z.toNat 0
theorem ren_snoc (to zs : List Int) (x : Int) : renL to (zs ++ [x]) = renL to zs ++ [to.getD x.toNat 0] := by simp [renL]
/-- Runs of the first k places: item and number. -/
def bump (l : List (Int × Int)) : List (Int × Int) := l.set (l.length - 1) ((l.getD (l.length - 1) (0, 0)).1, (l.getD (l.length - 1) (0, 0)).2 + 1)
theorem bump_len (l : List (Int × Int)) : (bump l).length = l.length := by simp [bump]
def runsK (zs : List Int) : Nat → List (Int × Int)
  | 0 => []
  | k + 1 => if 0 < k ∧ zs[k]? = zs[k - 1]? then bump (runsK zs k) else runsK zs k ++ [(zs.getD k 0, 1)]
theorem runsK_pos (zs : List Int) : ∀ k, 0 < k → 0 < (runsK zs k).length
  | k + 1, _ => by
    unfold runsK
    split
    · rename_i h; rw [bump_len]; exact runsK_pos zs k h.1
    · simp
theorem runsK_le (zs : List Int) : ∀ k, (runsK zs k).length ≤ k
  | 0 => Nat.le_refl _
  | k + 1 => by
    have := runsK_le zs k
    unfold runsK
    split
    · rw [bump_len]; omega
    · simp; omega
/-- The sequence of some runs, if it is one. -/
def fromK (n : Int) : List (Int × Int) → List Int → Option (List Int)
  | [], acc => some acc
  | r :: rs, acc => if (0 ≤ r.1 ∧ r.1 ≤ n - 1) ∧ 1 ≤ r.2 ∧ r.2 ≤ 60 - (acc.length : Int) then fromK n rs (acc ++ List.replicate r.2.toNat r.1) else none
theorem fromK_len {n : Int} : ∀ {rs : List (Int × Int)} {acc out : List Int}, acc.length ≤ 60 → fromK n rs acc = some out → out.length ≤ 60
  | [], acc, out, h, e => by injection e with e; rw [← e]; exact h
  | r :: rs, acc, out, h, e => by
    unfold fromK at e
    split at e
    · rename_i hh
      exact fromK_len (by simp; omega) e
    · cases e
theorem fromK_many {n : Int} : ∀ {rs : List (Int × Int)} {acc out : List Int}, fromK n rs acc = some out → acc.length + rs.length ≤ out.length
  | [], acc, out, e => by injection e with e; subst e; simp
  | r :: rs, acc, out, e => by
    unfold fromK at e
    split at e
    · rename_i hh
      have := fromK_many e
      simp at this ⊢
      omega
    · cases e
theorem fromK_step {n : Int} {r : Int × Int} {rs : List (Int × Int)} {acc : List Int} (h : (0 ≤ r.1 ∧ r.1 ≤ n - 1) ∧ 1 ≤ r.2 ∧ r.2 ≤ 60 - (acc.length : Int)) : fromK n (r :: rs) acc = fromK n rs (acc ++ List.replicate r.2.toNat r.1) := if_pos h
theorem fromK_stop {n : Int} {r : Int × Int} {rs : List (Int × Int)} {acc : List Int} (h : ¬ ((0 ≤ r.1 ∧ r.1 ≤ n - 1) ∧ 1 ≤ r.2 ∧ r.2 ≤ 60 - (acc.length : Int))) : fromK n (r :: rs) acc = none := if_neg h
/-- A strictly rising list of items. -/
def rising (lo hi : Int) : List Int → Bool
  | [] => true
  | x :: xs => (decide (lo ≤ x) && decide (x ≤ hi)) && rising (x + 1) hi xs
end Q
end Go.Proofs.Ytdjafooabpcbmaa

/- Sequences of requests: the model's tests (l3Items, l3List, l3Good, l3Length). -/
namespace Go.Proofs.Ytdjafooabpcbmaa
open Go.RowKit
set_option linter.unusedVariables false
namespace Q
def okItem (n z : Int) : Bool := decide (0 ≤ z) && decide (z ≤ n - 1)
def okList (n : Int) (zs : List Int) : Bool := zs.all (okItem n)
def okN (n : Int) : Bool := decide (1 ≤ n) && decide (n ≤ 8)
def good (n : Int) (zs : List Int) : Bool := okN n && (decide (zs.length ≤ 60) && okList n zs)
theorem okN_iff {n : Int} : okN n = true ↔ 1 ≤ n ∧ n ≤ 8 := by simp [okN]
theorem good_iff {n : Int} {zs : List Int} : good n zs = true ↔ (1 ≤ n ∧ n ≤ 8) ∧ zs.length ≤ 60 ∧ ∀ z ∈ zs, 0 ≤ z ∧ z ≤ n - 1 := by
  simp [good, okN, okList, okItem]
end Q
theorem l1In_any (x a b : Int) (w : World) : Calls Try.prog 60 #[.int .i64 x, .int .i64 a, .int .i64 b] w fun e w' => e = .returned (.bool (decide (a ≤ x) && decide (x ≤ b))) ∧ w' = w := by
  by_cases h1 : a ≤ x
  · go_enter Try.func60, Try.ntmps60
    go_wp2
    go_ret
    exact ⟨by simp [h1], rfl⟩
  · go_enter Try.func60, Try.ntmps60
    go_wp2
    go_ret
    exact ⟨by simp [show ¬ a ≤ x from by omega], rfl⟩
theorem l3Items_any (n : Int) (w : World) : Calls Try.prog 96 #[.int .i64 n] w fun e w' => e = .returned (.bool (Q.okN n)) ∧ w' = w := by
  have HI := Lib.hid fun W => l1In_any n 1 8 W
  go_enter Try.func96, Try.ntmps96
  go_wp2_with (go_at_call 60; refine (HI.out _).mono ?_; rintro e w' ⟨rfl, rfl⟩)
  go_ret
  exact ⟨rfl, rfl⟩
set_option maxHeartbeats 400000 in
theorem l3List_any (n : Int) (A : Option Addr) (c : Nat) (zs : List Int) (w : World) (h1 : 1 ≤ n) (h2 : n ≤ 8) (hn : zs.length ≤ 1048576) (hr : Law.Row w A (ivs zs)) :
    Calls Try.prog 98 #[.int .i64 n, .slice A zs.length c] w fun e w' => e = .returned (.bool (Q.okList n zs)) ∧ w' = w := by
  have HR := Lib.hid hr
  clear hr
  go_enter Try.func98, Try.ntmps98
  go_wp2
  go_loop [5] (fun i => ∃ k : Nat, k ≤ zs.length ∧ i = .int .i64 (k : Int) ∧ Hid (∀ z ∈ zs.take k, Q.okItem n z = true)) (fun i => zs.length - (intOf i).toNat)
  case atStart => exact ⟨0, Nat.zero_le _, rfl, fun z hz => by simp at hz⟩
  case round =>
    obtain ⟨k, hk, rfl, hall⟩ := hrel
    by_cases hlt : k < zs.length
    · obtain ⟨b, off, rfl, hbl, hc⟩ := HR.out.at_ (ivs_at hlt)
      have hltI : (k : Int) < (zs.length : Int) := by omega
      have HI := Lib.hid fun W => l1In_any zs[k] 0 (n - 1) W
      have hm : zs[k] ∈ zs := List.getElem_mem hlt
      have HT := Lib.hid (List.take_succ_eq_append_getElem hlt)
      by_cases hz : (decide (0 ≤ zs[k]) && decide (zs[k] ≤ n - 1)) = true
      · rw [hz] at HI
        have HN : Hid (∀ z ∈ zs.take (k + 1), Q.okItem n z = true) := fun z hzm => by
          rw [HT.out] at hzm
          rcases List.mem_append.1 hzm with h | h
          · exact hall.out z h
          · obtain rfl := List.mem_singleton.1 h
            exact hz
        clear hz hm
        obtain ⟨Z, hZ⟩ : ∃ Z, Z = zs[k] := ⟨_, rfl⟩
        rw [← hZ] at HI hc
        clear hZ HT
        go_wp2_with (go_at_call 60; refine (HI.out _).mono ?_; rintro e w' ⟨rfl, hw'⟩; subst hw')
        go_round
        case rel => exact ⟨k + 1, by omega, by go_num, HN.out⟩
        case measure => simp [intOf]; omega
      · have HN : Hid (Q.okList n zs = false) := by
          show _ = _
          rw [Bool.eq_false_iff]
          intro h
          exact hz (List.all_eq_true.1 h _ hm)
        rw [Bool.eq_false_iff.2 hz] at HI
        clear hz hm
        obtain ⟨Z, hZ⟩ : ∃ Z, Z = zs[k] := ⟨_, rfl⟩
        rw [← hZ] at HI hc
        clear hZ HT
        go_wp2_with (go_at_call 60; refine (HI.out _).mono ?_; rintro e w' ⟨rfl, hw'⟩; subst hw')
        go_ret
        exact ⟨by rw [HN.out]; rfl, rfl⟩
    · have hke : k = zs.length := by omega
      have hltI : ¬ (k : Int) < (zs.length : Int) := by omega
      have HN : Hid (Q.okList n zs = true) := by
        show _ = _
        refine List.all_eq_true.2 fun z hz => hall.out z ?_
        rw [hke, List.take_length]
        exact hz
      clear hke hall
      go_wp2
      go_ret
      exact ⟨by rw [HN.out]; rfl, rfl⟩
end Go.Proofs.Ytdjafooabpcbmaa

/- A row of the call's own: the empty one, one more at its end, what an answer says. -/
namespace Go.Proofs.Ytdjafooabpcbmaa
open Go.RowKit
set_option linter.unusedVariables false
theorem ownsRow_nil (w : World) (e : TypeId) : (w.alloc (.cells #[] e)).ownsRow w.heap.size e 1 (.slice (some ⟨w.heap.size, 0, none⟩) 0 0) 0 [] :=
  ⟨rfl, .inr ⟨w.heap.size, 0, #[], rfl, Nat.le_refl _, heap_alloc_new w _, Nat.le_refl _, Nat.zero_le _, rfl, rfl⟩⟩
theorem ivs_snoc (zs : List Int) (x : Int) : ivs (zs ++ [x]) = ivs zs ++ [.int .i64 x] := by simp [ivs]
/-- What a call says that gives a new row of ints and whether it is one. -/
def rowSays (X : List Int × Bool) (w : World) (e : Ending) (w' : World) : Prop :=
  ∃ v, e = .returned (.tuple #[v, .bool X.2]) ∧ w'.ownsRow w.heap.size 3 1 v X.1.length (ivs X.1) ∧ Below w.heap.size w w'
end Go.Proofs.Ytdjafooabpcbmaa

/- Rows of ints of a call's own: what a store does to them and to the others. Sequences: what a valid one is, item by item. -/
namespace Go.Proofs.Ytdjafooabpcbmaa
open Go.RowKit
set_option linter.unusedVariables false
theorem setBy (w : World) (p : Addr) (u : Value) : w.grownBy (w.setCell p u) (some p.block) :=
  ⟨rfl, rfl, rfl, by simp, fun i hi hne => Below.heap_setCell w p u i (fun e => hne (by rw [e]))⟩
theorem own_set {w : World} {base g n c : Nat} {e : TypeId} {xs : List Value} (h : w.ownsRow base e 1 (.slice (some ⟨g, 0, none⟩) n c) n xs) (p : Addr) (hp : p.block ≠ g) (u : Value) :
    (w.setCell p u).ownsRow base e 1 (.slice (some ⟨g, 0, none⟩) n c) n xs := h.kept (setBy w p u) (by right; simp [Value.ownBlock]; exact fun e => hp e.symm)
/-- Made cells are nothing but zeros. -/
theorem made_ints (n : Nat) : (madeCells #[Value.int .i64 0] n).toList = ivs (List.replicate n 0) := by
  apply List.ext_getElem (by simp [size_madeCells])
  intro k h1 h2
  simp [madeCells, Nat.mod_one]
theorem made_own {w w1 : World} {base n : Nat} {e : TypeId} {v : Value} (h : w1.ownsRow base e 1 v n (madeCells #[Value.int .i64 0] n).toList) : w1.ownsRow base e 1 v n (ivs (List.replicate n 0)) := by
  rwa [made_ints] at h
theorem ivs_some {zs : List Int} {k : Nat} {x : Int} (h : zs[k]? = some x) : (ivs zs)[k]? = some (.int .i64 x) := by rw [List.getElem?_map, h]; rfl
theorem ivs_set (zs : List Int) (k : Nat) (x : Int) : (ivs zs).set k (.int .i64 x) = ivs (zs.set k x) := by simp [ivs, List.map_set]
theorem ivs_len (zs : List Int) : (ivs zs).length = zs.length := by simp [ivs]
/-- The row after a store of an int. -/
theorem own_put {w : World} {base g n c : Nat} {e : TypeId} {zs : List Int} (h : w.ownsRow base e 1 (.slice (some ⟨g, 0, none⟩) n c) n (ivs zs)) (k : Nat) (x : Int) :
    (w.setCell ⟨g, k, none⟩ (.int .i64 x)).ownsRow base e 1 (.slice (some ⟨g, 0, none⟩) n c) n (ivs (zs.set k x)) := by rw [← ivs_set]; exact (h.stored k _).1
theorem own_cell {w : World} {base g n c : Nat} {e : TypeId} {zs : List Int} (h : w.ownsRow base e 1 (.slice (some ⟨g, 0, none⟩) n c) n (ivs zs)) {k : Nat} {x : Int} (hx : zs[k]? = some x) : w.cell? ⟨g, k, none⟩ = some (.int .i64 x) := by
  have hk : k < zs.length := (List.getElem?_eq_some_iff.1 hx).1
  have hl : zs.length = n := by have := h.1; simpa using this
  exact (h.cellAt k (by omega)).trans (ivs_some hx)
theorem own_down {w : World} {base base' : Nat} {e : TypeId} {size : Nat} {v : Value} {n : Nat} {xs : List Value} (h : w.ownsRow base e size v n xs) (hb : base' ≤ base) : w.ownsRow base' e size v n xs := by
  refine ⟨h.1, ?_⟩
  rcases h.2 with h' | ⟨g, cap, cur, h1, h2, h3⟩
  · exact .inl h'
  · exact .inr ⟨g, cap, cur, h1, Nat.le_trans hb h2, h3⟩
theorem own_past {w w' : World} {base : Nat} {e : TypeId} {v : Value} {n size : Nat} {xs : List Value} (h : w.ownsRow base e size v n xs) (hb : Below w.heap.size w w') : w'.ownsRow base e size v n xs :=
  h.kept (row := none) ⟨hb.os, hb.tape, hb.output, hb.size, fun i hi _ => hb.block i hi⟩ (by cases hv : v.ownBlock <;> simp)
theorem new_cell (W : World) (u : Value) (t : TypeId) : (W.alloc (.cells #[u] t)).cell? ⟨W.heap.size, 0, none⟩ = some u := by simp
/-- What comes from 'make' has an address. -/
theorem own_some {w : World} {base n : Nat} {e : TypeId} {v : Value} {xs : List Value} (h : w.ownsRow base e 1 v n xs) (hn : 0 < n) : ∃ g c, v = .slice (some ⟨g, 0, none⟩) n c ∧ base ≤ g ∧ g < w.heap.size := by
  rcases h.2 with ⟨_, h0⟩ | ⟨g, cap, cur, hv, hb, hg, _⟩
  · omega
  · exact ⟨g, cap, hv, hb, (Array.getElem?_eq_some_iff.1 hg).1⟩
/-- What a call says that gives a new row of ints. -/
def rowSays1 (X : List Int) (w : World) (e : Ending) (w' : World) : Prop :=
  ∃ v, e = .returned v ∧ w'.ownsRow w.heap.size 3 1 v X.length (ivs X) ∧ Below w.heap.size w w'
namespace Q
theorem good_nat {n : Int} {zs : List Int} (h : good n zs = true) : ∃ N : Nat, n = N ∧ 1 ≤ N ∧ N ≤ 8 ∧ zs.length ≤ 60 ∧ ∀ k, k < zs.length → ∃ x : Nat, zs[k]? = some (x : Int) ∧ x < N := by
  obtain ⟨⟨h1, h2⟩, h3, h4⟩ := good_iff.1 h
  obtain ⟨N, rfl⟩ := Int.eq_ofNat_of_zero_le (show 0 ≤ n by omega)
  refine ⟨N, rfl, by omega, by omega, h3, fun k hk => ?_⟩
  have hb := h4 zs[k] (List.getElem_mem hk)
  obtain ⟨x, hx⟩ := Int.eq_ofNat_of_zero_le hb.1
  exact ⟨x, by rw [List.getElem?_eq_getElem hk, hx], by omega⟩
/-- An answer of a row and whether there is one, from a valid sequence. -/
def ifGood (n : Int) (zs : List Int) (out : List Int) : List Int × Bool := if good n zs then (out, true) else ([], false)
theorem ifGood_yes {n : Int} {zs out : List Int} (h : good n zs = true) : ifGood n zs out = (out, true) := if_pos h
theorem ifGood_no {n : Int} {zs out : List Int} (h : good n zs = false) : ifGood n zs out = ([], false) := if_neg (by simp [h])
theorem ifGood_len {n : Int} {zs out : List Int} (h : out.length ≤ 1048576) : (ifGood n zs out).1.length ≤ 1048576 := by
  unfold ifGood; split
  · exact h
  · simp
end Q
end Go.Proofs.Ytdjafooabpcbmaa

/- 'append' of a whole row of ints onto a row of the call's own, the source empty or not: at a plain operation and at a step of a region that draws its order. Cuts of a row. -/
namespace Go.Proofs.Ytdjafooabpcbmaa
open Go.RowKit
set_option linter.unusedVariables false
section
variable {P : Program} {w : World}
theorem run_app {base : Nat} {t ty e : TypeId} {i : TypeInfo} (ht : P.underlying t = some (.slice e)) (hi : P.info? e = some i) (hz : i.zero = some (.int .i64 0)) (h1 : i.size = 1) (h8 : i.bytes = 8)
    {v : Value} {n : Nat} {zs : List Int} (hown : w.ownsRow base e 1 v n (ivs zs)) {A : Option Addr} {m c : Nat} {ns : List Int} (hm : ns.length = m) (hr : Law.Row w A (ivs ns)) (hbase : base ≤ w.heap.size) (hsmall : n + m ≤ 1048576) :
    ∃ v' w', (Builtin.append_ #[t, t] ty #[v, .slice A m c]).run P w = .ok v' w' ∧ w'.ownsRow base e 1 v' (n + m) (ivs (zs ++ ns)) ∧ w.grownBy w' v.ownBlock := by
  rcases A with _ | ad
  · have h0 : ns = [] := by
      rcases Classical.em (ns = []) with h | h
      · exact h
      · obtain ⟨b, off, e, _⟩ := hr (by simpa [ivs] using h)
        cases e
    subst h0
    obtain rfl : m = 0 := hm.symm
    refine ⟨v, w, ?_, by simpa using hown, ⟨rfl, rfl, rfl, Nat.le_refl _, fun _ _ _ => rfl⟩⟩
    rcases hown.2 with ⟨rfl, rfl⟩ | ⟨g, cap, cur, rfl, _, _, hnc, _⟩
    · simp [Builtin.append_, run_underlying ht, sizeOf, typeInfo, hi, Builtin.lenOf, Builtin.firstCells]
    · simp [Builtin.append_, run_underlying ht, sizeOf, typeInfo, hi, Builtin.lenOf, Builtin.firstCells, hnc, storeCells]
  · have hnews : ∀ j u, (ivs ns)[j]? = some u → w.cell? (ad.add j) = some u := fun j u hu => by
      obtain ⟨b, off, e, _, hc⟩ := hr (fun h => by rw [h] at hu; simp at hu)
      injection e with e
      subst e
      rw [Law.add_plain]
      exact hc j u hu
    obtain ⟨v', w', hrun, ho, hg, _⟩ := run_append_own w base t ty e i (.int .i64 0) 1 8 ht hi hz h1 h8 rfl (by decide) v n (ivs zs) hown ad m c (ivs ns) (by simp [ivs, hm]) hnews
      (fun u hu => by obtain ⟨x, _, rfl⟩ := List.mem_map.1 hu; rfl) (by unfold maxLen; omega) (by omega) hbase
    exact ⟨v', w', hrun, by rw [show ivs (zs ++ ns) = ivs zs ++ ivs ns from by simp [ivs]]; exact ho, hg⟩
theorem wp_app {o : Oper} {a : Act} {K : Act → World → Prop} {Q : Exit → Act → World → Prop} (s x : Operand) (t : TypeId)
    (ho : o.op = .call { callee := .builtin .append, args := #[s, x], argTypes := #[t, t] })
    {base : Nat} {e : TypeId} {i : TypeInfo} (ht : P.underlying t = some (.slice e)) (hi : P.info? e = some i) (hz : i.zero = some (.int .i64 0)) (h1 : i.size = 1) (h8 : i.bytes = 8)
    {v : Value} {n : Nat} {zs : List Int} (hs : a.eval s = v) (hown : w.ownsRow base e 1 v n (ivs zs)) {A : Option Addr} {m c : Nat} {ns : List Int} (hx : a.eval x = .slice A m c) (hm : ns.length = m) (hr : Law.Row w A (ivs ns)) (hbase : base ≤ w.heap.size) (hsmall : n + m ≤ 1048576)
    (h : ∀ v' w', w'.ownsRow base e 1 v' (n + m) (ivs (zs ++ ns)) → w.grownBy w' v.ownBlock → K (a.put o.dst v') w') : o.wp P a w K Q := by
  obtain ⟨v', w', hrun, h2, h3⟩ := run_app (P := P) (ty := o.type) (c := c) ht hi hz h1 h8 hown hm hr hbase hsmall
  unfold Oper.wp execOp
  simp only [ho, resolve, invoke, builtin, Sem.run_bind, Sem.run_pure, Result.andThen_ok, List.map_toArray, List.map_cons, List.map_nil, hs, hx, hrun]
  exact h v' w' h2 h3
theorem list_app {ops : Array Oper} {rest : List Oper} {o : Oper} {a : Act} {Q : Exit → Act → World → Prop} (hgd : o.guard = none) (s x : Operand) (t : TypeId)
    (ho : o.op = .call { callee := .builtin .append, args := #[s, x], argTypes := #[t, t] })
    {base : Nat} {e : TypeId} {i : TypeInfo} (ht : P.underlying t = some (.slice e)) (hi : P.info? e = some i) (hz : i.zero = some (.int .i64 0)) (h1 : i.size = 1) (h8 : i.bytes = 8)
    {v : Value} {n : Nat} {zs : List Int} (hs : a.eval s = v) (hown : w.ownsRow base e 1 v n (ivs zs)) {A : Option Addr} {m c : Nat} {ns : List Int} (hx : a.eval x = .slice A m c) (hm : ns.length = m) (hr : Law.Row w A (ivs ns)) (hbase : base ≤ w.heap.size) (hsmall : n + m ≤ 1048576)
    (h : ∀ v' w', w'.ownsRow base e 1 v' (n + m) (ivs (zs ++ ns)) → w.grownBy w' v.ownBlock → wpList P ops Q rest (a.put o.dst v') w') : wpList P ops Q (o :: rest) a w :=
  wpList_plain hgd fun _ hK => wp_app s x t ho ht hi hz h1 h8 hs hown hx hm hr hbase hsmall fun v' w' h2 h3 => hK _ _ (h v' w' h2 h3)
theorem step_app {ops : Array Oper} {o : Oper} {a : Act} {K : Act → World → Prop} {Q : Exit → Act → World → Prop} {E : Prop} (hgd : o.guard = none) (s x : Operand) (t : TypeId)
    (ho : o.op = .call { callee := .builtin .append, args := #[s, x], argTypes := #[t, t] })
    {base : Nat} {e : TypeId} {i : TypeInfo} (ht : P.underlying t = some (.slice e)) (hi : P.info? e = some i) (hz : i.zero = some (.int .i64 0)) (h1 : i.size = 1) (h8 : i.bytes = 8)
    {v : Value} {n : Nat} {zs : List Int} (hs : a.eval s = v) (hown : w.ownsRow base e 1 v n (ivs zs)) {A : Option Addr} {m c : Nat} {ns : List Int} (hx : a.eval x = .slice A m c) (hm : ns.length = m) (hr : Law.Row w A (ivs ns)) (hbase : base ≤ w.heap.size) (hsmall : n + m ≤ 1048576)
    (h : ∀ v' w', w'.ownsRow base e 1 v' (n + m) (ivs (zs ++ ns)) → w.grownBy w' v.ownBlock → K (a.put o.dst v') w') :
    if Region.wanted o (yielded ops a.tmps) = true then Oper.wp P o a w K Q else E := by
  rw [if_pos (by simp [Region.wanted, hgd])]
  exact wp_app s x t ho ht hi hz h1 h8 hs hown hx hm hr hbase hsmall h
end
/-- A cut from place k on: where k is the capacity the address stays. -/
theorem row_drop {w : World} {A : Option Addr} {zs : List Int} (h : Law.Row w A (ivs zs)) (k c : Nat) (hc : zs.length ≤ c) : Law.Row w (if c = k then A else A.map (·.add k)) (ivs (zs.drop k)) := fun hx => by
  have hne : zs.drop k ≠ [] := fun e => hx (by rw [e]; rfl)
  have hk : k < zs.length := by
    rcases Nat.lt_or_ge k zs.length with h | h
    · exact h
    · exact absurd (List.drop_of_length_le h) hne
  obtain ⟨b, off, rfl, hb, hcell⟩ := h (fun e => by
    have h0 : zs = [] := (by simpa [ivs] using e)
    rw [h0] at hk
    simp at hk)
  refine ⟨b, off + k, by rw [if_neg (by omega)]; simp [Law.add_plain], hb, fun j u hu => ?_⟩
  rw [show off + k + j = off + (k + j) by omega]
  refine hcell _ u ?_
  rw [← hu]
  simp [ivs, List.getElem?_drop]
theorem row_take {w : World} {A : Option Addr} {zs : List Int} (h : Law.Row w A (ivs zs)) (k : Nat) : Law.Row w A (ivs (zs.take k)) := fun hx => by
  have hz : ivs zs ≠ [] := fun e => hx (by have : zs = [] := by simpa [ivs] using e
                                           simp [this])
  obtain ⟨b, off, rfl, hb, hcell⟩ := h hz
  refine ⟨b, off, rfl, hb, fun j u hu => hcell j u ?_⟩
  simp only [ivs, List.map_take] at hu
  rw [List.getElem?_take] at hu
  split at hu
  · exact hu
  · cases hu
end Go.Proofs.Ytdjafooabpcbmaa

/- Rows of the call's own: stores of several cells, a length that grows into the capacity, one that shrinks; a new block as a row. Nothing of the program stands here. -/
namespace Go.Proofs.Ytdjafooabpcbmaa
open Go.RowKit
set_option linter.unusedVariables false
/-- Several elements stored from place o on. -/
def setM : List Value → Nat → List Value → List Value
  | xs, _, [] => xs
  | xs, o, v :: r => setM (xs.set o v) (o + 1) r
theorem setM_len : ∀ (vs : List Value) (xs : List Value) (o : Nat), (setM xs o vs).length = xs.length
  | [], _, _ => rfl
  | v :: r, xs, o => by rw [setM, setM_len r]; simp
theorem setM_eq : ∀ (vs : List Value) (xs : List Value) (o : Nat), o + vs.length ≤ xs.length → setM xs o vs = xs.take o ++ vs ++ xs.drop (o + vs.length)
  | [], xs, o, _ => by simp [setM]
  | v :: r, xs, o, h => by
    simp only [List.length_cons] at h
    rw [setM, setM_eq r _ _ (by simp; omega)]
    have h1 : (xs.set o v).take (o + 1) = xs.take o ++ [v] := by
      apply List.ext_getElem?
      intro i
      rw [List.getElem?_take, List.getElem?_append, List.length_take, Nat.min_eq_left (by omega), List.getElem?_take]
      by_cases hi : i < o
      · rw [if_pos (by omega), if_pos hi, if_pos hi, List.getElem?_set_ne (by omega)]
      · rw [if_neg hi]
        by_cases e : i = o
        · subst e
          rw [if_pos (by omega), List.getElem?_set_self (by omega)]
          simp
        · rw [if_neg (by omega), List.getElem?_eq_none (by simp; omega)]
    have h2 : (xs.set o v).drop (o + 1 + r.length) = xs.drop (o + (r.length + 1)) := by
      apply List.ext_getElem?
      intro i
      rw [List.getElem?_drop, List.getElem?_drop, List.getElem?_set_ne (by omega)]
      congr 1
      omega
    rw [h1, h2]
    simp
theorem gr_refl (w : World) (row : Option Nat) : w.grownBy w row := ⟨rfl, rfl, rfl, Nat.le_refl _, fun _ _ _ => rfl⟩
theorem gr_trans {a b c : World} {row : Option Nat} (h : a.grownBy b row) (k : b.grownBy c row) : a.grownBy c row :=
  ⟨k.os.trans h.os, k.tape.trans h.tape, k.output.trans h.output, Nat.le_trans h.size k.size, fun i hi hn => (k.block i (Nat.lt_of_lt_of_le hi h.size) hn).trans (h.block i hi hn)⟩
theorem gr_drewN (w : World) (q : Nat) (row : Option Nat) : w.grownBy (w.drewN q) row := ⟨rfl, rfl, rfl, Nat.le_refl _, fun _ _ _ => rfl⟩
section
variable {w : World} {base g n c : Nat} {e : TypeId} {xs : List Value}
theorem own_setCells : ∀ (vs : List Value) (o : Nat) {w : World} {xs : List Value}, w.ownsRow base e 1 (.slice (some ⟨g, 0, none⟩) n c) n xs →
    (w.setCells g o vs).ownsRow base e 1 (.slice (some ⟨g, 0, none⟩) n c) n (setM xs o vs) ∧ w.grownBy (w.setCells g o vs) (some g)
  | [], _, _, _, h => ⟨h, gr_refl _ _⟩
  | v :: r, o, w, xs, h => by
    obtain ⟨h1, h2⟩ := h.stored o v
    obtain ⟨h3, h4⟩ := own_setCells r (o + 1) h1
    exact ⟨h3, gr_trans h2 h4⟩
theorem own_block (h : w.ownsRow base e 1 (.slice (some ⟨g, 0, none⟩) n c) n xs) : ∃ cur : Array Value, base ≤ g ∧ w.heap[g]? = some (.cells cur e (0, 0)) ∧ n ≤ c ∧ c ≤ maxLen ∧ cur.size = c ∧ cur.toList.take n = xs := by
  rcases h.2 with ⟨h', _⟩ | ⟨g', cap', cur, h', hb, hg, hnc, hcm, hcs, htake⟩
  · simp at h'
  · simp only [Value.slice.injEq, Option.some.injEq, Addr.mk.injEq, and_true, true_and] at h'
    obtain ⟨rfl, rfl⟩ := h'
    exact ⟨cur, hb, hg, hnc, hcm, by simpa using hcs, by simpa using htake⟩
theorem own_made {m : Nat} {cur : Array Value} (hb : base ≤ g) (hg : w.heap[g]? = some (.cells cur e (0, 0))) (hm : m ≤ c) (hcm : c ≤ maxLen) (hs : cur.size = c) :
    w.ownsRow base e 1 (.slice (some ⟨g, 0, none⟩) m c) m (cur.toList.take m) :=
  ⟨by simp; omega, .inr ⟨g, c, cur, rfl, hb, hg, hm, hcm, by simpa using hs, by simp⟩⟩
/-- One element more, whatever it holds. -/
theorem own_widen (h : w.ownsRow base e 1 (.slice (some ⟨g, 0, none⟩) n c) n xs) (hn : n < c) : ∃ u, w.ownsRow base e 1 (.slice (some ⟨g, 0, none⟩) (n + 1) c) (n + 1) (xs ++ [u]) := by
  obtain ⟨cur, hb, hg, hnc, hcm, hs, ht⟩ := own_block h
  have hl : n < cur.toList.length := by simp; omega
  refine ⟨cur.toList[n], ?_⟩
  have h1 := own_made (m := n + 1) hb hg (by omega) hcm hs
  rwa [List.take_succ_eq_append_getElem hl, ht] at h1
theorem own_narrow (h : w.ownsRow base e 1 (.slice (some ⟨g, 0, none⟩) n c) n xs) {m : Nat} (hm : m ≤ n) : w.ownsRow base e 1 (.slice (some ⟨g, 0, none⟩) m c) m (xs.take m) := by
  obtain ⟨cur, hb, hg, hnc, hcm, hs, ht⟩ := own_block h
  have h1 := own_made (m := m) hb hg (by omega) hcm hs
  rw [← ht, List.take_take, Nat.min_eq_left hm]
  exact h1
theorem own_shape (h : w.ownsRow base e 1 (.slice (some ⟨g, 0, none⟩) n c) n xs) : w.shape? g = some (e, c) := by
  obtain ⟨cur, hb, hg, hnc, hcm, hs, ht⟩ := own_block h
  unfold World.shape?
  rw [hg]
  simp [hs]
theorem own_some_all (h : w.ownsRow base e 1 (.slice (some ⟨g, 0, none⟩) n c) n xs) {j : Nat} (hj : j < c) : (w.cell? ⟨g, j, none⟩).isSome = true := by
  obtain ⟨cur, hb, hg, hnc, hcm, hs, ht⟩ := own_block h
  unfold World.cell?
  simp [hg, hs, hj]
theorem own_lt (h : w.ownsRow base e 1 (.slice (some ⟨g, 0, none⟩) n c) n xs) : g < w.heap.size := by
  obtain ⟨cur, hb, hg, hnc, hcm, hs, ht⟩ := own_block h
  exact (Array.getElem?_eq_some_iff.1 hg).1
/-- A new block as a row. -/
theorem own_new (w : World) (cur : Array Value) (m : Nat) (hm : m ≤ cur.size) (hcm : cur.size ≤ maxLen) (hb : base ≤ w.heap.size) :
    (w.alloc (.cells cur e)).ownsRow base e 1 (.slice (some ⟨w.heap.size, 0, none⟩) m cur.size) m (cur.toList.take m) :=
  own_made hb (heap_alloc_new w _) hm hcm rfl
end
end Go.Proofs.Ytdjafooabpcbmaa

/- 'append' of one int onto a row of the call's own: the row stays in its block or goes to a new one. -/
namespace Go.Proofs.Ytdjafooabpcbmaa
open Go.RowKit
set_option linter.unusedVariables false
section
variable {P : Program} {w : World}
/-- Where the row lies. -/
def atOrNew (v : Value) (w : World) (v' : Value) : Prop := v'.ownBlock = v.ownBlock ∨ v'.ownBlock = some w.heap.size
theorem run_app1 {base : Nat} {t ty e : TypeId} {i : TypeInfo} (ht : P.underlying t = some (.slice e)) (hi : P.info? e = some i) (hz : i.zero = some (.int .i64 0)) (h1 : i.size = 1) (h8 : i.bytes = 8)
    {v : Value} {n : Nat} {xs : List Value} (hown : w.ownsRow base e 1 v n xs) {a : Addr} {c : Nat} {x : Int} (hx : w.cell? a = some (.int .i64 x)) (hn : n ≤ 1000000) (hbase : base ≤ w.heap.size) :
    ∃ v' w', (Builtin.append_ #[t, t] ty #[v, .slice (some a) 1 c]).run P w = .ok v' w' ∧ w'.ownsRow base e 1 v' (n + 1) (xs ++ [.int .i64 x]) ∧ w.grownBy w' v.ownBlock ∧ atOrNew v w v' := by
  have hnews : ∀ j u, [Value.int .i64 x][j]? = some u → w.cell? (a.add j) = some u := fun j u hj => by
    match j, hj with
    | 0, hj => simp at hj; subst hj; simpa [Addr.add] using hx
  have hone : ∀ u ∈ [Value.int .i64 x], u.oneCell' = true := fun u hu => by simp at hu; subst hu; rfl
  obtain ⟨v', w', hrun, h2, h3, _⟩ := run_append_own w base t ty e i (.int .i64 0) 1 8 ht hi hz h1 h8 rfl (by decide) v n xs hown a 1 c [.int .i64 x] rfl hnews hone (by unfold maxLen; omega) (by omega) hbase
  refine ⟨v', w', hrun, h2, h3, ?_⟩
  rcases hown.2 with ⟨rfl, rfl⟩ | ⟨g, cap, cur, rfl, hbg, hg, hnc, hcm, hcs, htake⟩
  · have hr := run_append_nil (P := P) w t ty e i (.int .i64 0) ht hi hz a 1 c [.int .i64 x] (by rw [h1]; rfl) hnews (by omega) (by omega) (by rw [h8]; omega)
    rw [hr] at hrun
    injection hrun with e1 _
    exact .inr (by rw [← e1]; rfl)
  · by_cases hroom : n + 1 ≤ cap
    · have hr := run_append_room (P := P) w t ty e i ht hi g n cap cur hg a 1 c [.int .i64 x] (by rw [h1]; rfl) hnews hone hroom (by rw [h1]; simp; omega)
      rw [hr] at hrun
      injection hrun with e1 _
      exact .inl (by rw [← e1]; rfl)
    · have holds : ∀ j u, xs[j]? = some u → w.cell? ((⟨g, 0, none⟩ : Addr).add j) = some u := hown.cells (g := g) rfl
      have hr := run_append_grow (P := P) w t ty e i (.int .i64 0) ht hi hz ⟨g, 0, none⟩ n cap xs (by rw [h1]; exact hown.1) holds a 1 c [.int .i64 x] (by rw [h1]; rfl) hnews (by omega) (by omega) (growslice_fits (by omega) (by rw [h8]; omega))
      rw [hr] at hrun
      injection hrun with e1 _
      exact .inr (by rw [← e1]; rfl)
theorem list_app1 {ops : Array Oper} {rest : List Oper} {o : Oper} {a : Act} {Q : Exit → Act → World → Prop} (hgd : o.guard = none) (s x : Operand) (t : TypeId)
    (ho : o.op = .call { callee := .builtin .append, args := #[s, x], argTypes := #[t, t] })
    {base : Nat} {e : TypeId} {i : TypeInfo} (ht : P.underlying t = some (.slice e)) (hi : P.info? e = some i) (hz : i.zero = some (.int .i64 0)) (h1 : i.size = 1) (h8 : i.bytes = 8)
    {v : Value} {n : Nat} {xs : List Value} (hs : a.eval s = v) (hown : w.ownsRow base e 1 v n xs) {ad : Addr} {c : Nat} {z : Int} (hx : a.eval x = .slice (some ad) 1 c) (hc : w.cell? ad = some (.int .i64 z)) (hn : n ≤ 1000000) (hbase : base ≤ w.heap.size)
    (h : ∀ v' w', w'.ownsRow base e 1 v' (n + 1) (xs ++ [.int .i64 z]) → w.grownBy w' v.ownBlock → atOrNew v w v' → wpList P ops Q rest (a.put o.dst v') w') : wpList P ops Q (o :: rest) a w := by
  refine wpList_plain hgd fun _ hK => ?_
  obtain ⟨v', w', hrun, h2, h3, h4⟩ := run_app1 (P := P) (ty := o.type) (c := c) ht hi hz h1 h8 hown hc hn hbase
  unfold Oper.wp execOp
  simp only [ho, resolve, invoke, builtin, Sem.run_bind, Sem.run_pure, Result.andThen_ok, List.map_toArray, List.map_cons, List.map_nil, hs, hx, hrun]
  exact hK _ _ (h v' w' h2 h3 h4)
end
/-- A row lies in block q alone, or at and behind block b. -/
def AtOr (q b : Nat) (v : Value) : Prop := ∀ g, v.ownBlock = some g → g = q ∨ b ≤ g
theorem AtOr.next {q b : Nat} {v v' : Value} {w : World} (h : AtOr q b v) (hn : atOrNew v w v') (hb : b ≤ w.heap.size) : AtOr q b v' := fun g hg => by
  rcases hn with e | e
  · exact h g (e ▸ hg)
  · rw [e] at hg; injection hg with hg; exact .inr (by omega)
/-- A row elsewhere stays while one is written that lies in q or behind b. -/
theorem Law.Row.apart {w w' : World} {A : Option Addr} {v : Value} {q lo b : Nat} {xs : List Value} (h : Law.Row w A xs) (hA : ∀ a, A = some a → lo ≤ a.block ∧ a.block < b) (hg : w.grownBy w' v.ownBlock) (hv : AtOr q b v) (hq : q < lo) : Law.Row w' A xs := fun hx => by
  obtain ⟨k, off, rfl, hb, hc⟩ := h hx
  have hk := hA _ rfl
  refine ⟨k, off, rfl, Nat.lt_of_lt_of_le hb hg.size, fun j u hu => ?_⟩
  exact (World.cell?_of_block (a := ⟨k, off + j, none⟩) (hg.block k hb (fun e => by
    rcases hv k e.symm with h' | h'
    · have := hk.1; simp only [] at this; omega
    · have := hk.2; simp only [] at this; omega))).trans (hc j u hu)
end Go.Proofs.Ytdjafooabpcbmaa

/- The model's l1Own (a row of one's own with the same numbers) and l1Has (whether a number stands in a row). -/
namespace Go.Proofs.Ytdjafooabpcbmaa
open Go.RowKit
set_option linter.unusedVariables false
set_option maxHeartbeats 800000 in
theorem l1Own_any (A : Option Addr) (c : Nat) (zs : List Int) (w : World) (h3 : zs.length ≤ 1000000) (hr : Law.Row w A (ivs zs)) :
    Calls Try.prog 100 #[.slice A zs.length c] w (rowSays1 zs w) := by
  obtain ⟨i0, hi, hz0, hz1, hz2⟩ := info_parts infoInts
  have b0 : Below w.heap.size w (w.alloc (.cells #[] 3)) := (Below.refl _ _).alloc (Nat.le_refl _) _
  have HR := Lib.hid (hr.stays b0)
  have H0 : Hid ((w.alloc (.cells #[] 3)).ownsRow w.heap.size 3 1 (.slice (some ⟨w.heap.size, 0, none⟩) 0 0) 0 (ivs [])) := ownsRow_nil w 3
  have HB0 := Lib.hid b0
  clear hr b0
  go_enter Try.func100, Try.ntmps100
  go_wp2_with (at_builtin; refine list_app rfl _ _ 22 rfl Try.underlying22 hi hz0 hz1 hz2 rfl H0.out rfl rfl HR.out ?c1 ?c2 ?_)
  case c1 => simp
  case c2 => omega
  intro v w1 ho hg
  have HB := Lib.hid (HB0.out.grown hg (by simp) (fun k e => (H0.out.lt k e).1))
  have HO := Lib.hid ho
  clear ho hg
  go_wp2
  go_ret
  exact ⟨_, rfl, HO.out, HB.out⟩
set_option maxHeartbeats 800000 in
theorem l1Has_any (A : Option Addr) (c : Nat) (zs : List Int) (x : Int) (w : World) (hn : zs.length ≤ 1048576) (hr : Law.Row w A (ivs zs)) :
    Calls Try.prog 86 #[.slice A zs.length c, .int .i64 x] w fun e w' => e = .returned (.bool (decide (x ∈ zs))) ∧ w' = w := by
  have HR := Lib.hid hr
  clear hr
  go_enter Try.func86, Try.ntmps86
  go_wp2
  go_loop [5] (fun i => ∃ k : Nat, k ≤ zs.length ∧ i = .int .i64 (k : Int) ∧ Hid (¬ x ∈ zs.take k)) (fun i => zs.length - (intOf i).toNat)
  case atStart => exact ⟨0, Nat.zero_le _, rfl, by (show ¬ _); simp⟩
  case round =>
    obtain ⟨k, hk, rfl, hall⟩ := hrel
    by_cases hlt : k < zs.length
    · obtain ⟨y, hy⟩ : ∃ y, zs[k]? = some y := ⟨_, List.getElem?_eq_getElem hlt⟩
      obtain ⟨b, off, rfl, hbl, hc⟩ := HR.out.at_ (ivs_some hy)
      have hltI : (k : Int) < (zs.length : Int) := by omega
      have hm : y ∈ zs := List.mem_of_getElem? hy
      have HT := Lib.hid (Q.take_snoc hy)
      clear hy
      by_cases hyx : y = x
      · subst hyx
        have HN : Hid (decide (y ∈ zs) = true) := by show _ = _; simpa using hm
        clear hm hall
        go_wp2
        go_ret
        exact ⟨by rw [HN.out]; rfl, rfl⟩
      · have HN : Hid (¬ x ∈ zs.take (k + 1)) := by
          show ¬ _
          rw [HT.out]
          intro h
          rcases List.mem_append.1 h with h | h
          · exact hall.out h
          · exact hyx (List.mem_singleton.1 h).symm
        have hyb : (y == x) = false := by simpa using hyx
        clear hm hall
        go_wp2
        go_round
        case rel => exact ⟨k + 1, by omega, by go_num, HN.out⟩
        case measure => simp [intOf]; omega
    · have hke : k = zs.length := by omega
      have hltI : ¬ (k : Int) < (zs.length : Int) := by omega
      have HN : Hid (decide (x ∈ zs) = false) := by
        show _ = _
        have := hall.out
        rw [hke, List.take_length] at this
        simpa using this
      clear hke hall
      go_wp2
      go_ret
      exact ⟨by rw [HN.out]; rfl, rfl⟩
end Go.Proofs.Ytdjafooabpcbmaa

/- Sorted lists without doubles: putting in a number; the different numbers of a list; windows. Nothing of the program stands here. -/
namespace Go.Proofs.Ytdjafooabpcbmaa
namespace Q
/-- How many numbers at a list's front are less. -/
def lead (x : Int) : List Int → Nat
  | [] => 0
  | y :: ys => if y < x then lead x ys + 1 else 0
def put (x : Int) : List Int → List Int
  | [] => [x]
  | y :: ys => if y < x then y :: put x ys else if y = x then y :: ys else x :: y :: ys
theorem lead_le (x : Int) : ∀ l, lead x l ≤ l.length
  | [] => Nat.le_refl _
  | y :: ys => by have := lead_le x ys; unfold lead; split <;> simp <;> omega
theorem put_eq (x : Int) : ∀ l, put x l = if l[lead x l]? = some x then l else l.take (lead x l) ++ x :: l.drop (lead x l)
  | [] => by simp [put, lead]
  | y :: ys => by
    unfold put lead
    by_cases h : y < x
    · simp only [if_pos h, List.getElem?_cons_succ, List.take_succ_cons, List.drop_succ_cons]
      rw [put_eq x ys]
      split <;> simp
    · simp only [if_neg h]
      by_cases e : y = x
      · simp [e]
      · simp [e]
theorem lead_lt (x : Int) : ∀ (l : List Int) k y, k < lead x l → l[k]? = some y → y < x
  | [], k, y, hk, h => by simp [lead] at hk
  | z :: zs, k, y, hk, h => by
    unfold lead at hk
    split at hk
    · cases k with
      | zero => simp at h; omega
      | succ k => exact lead_lt x zs k y (by omega) (by simpa using h)
    · omega
theorem lead_at (x : Int) : ∀ (l : List Int) y, l[lead x l]? = some y → x ≤ y
  | [], y, h => by simp at h
  | z :: zs, y, h => by
    unfold lead at h
    split at h
    · exact lead_at x zs y (by simpa using h)
    · simp at h; omega
/-- 'lead' is the place where a search comes to its end. -/
theorem lead_of {x : Int} {l : List Int} {k : Nat} (h1 : ∀ j y, j < k → l[j]? = some y → y < x) (h2 : ∀ y, l[k]? = some y → ¬ y < x) (hk : k ≤ l.length) : lead x l = k := by
  rcases Nat.lt_trichotomy (lead x l) k with h | h | h
  · have hl : lead x l < l.length := by omega
    have := lead_at x l _ (List.getElem?_eq_getElem hl)
    have := h1 _ _ h (List.getElem?_eq_getElem hl)
    omega
  · exact h
  · have hl : k < l.length := by have := lead_le x l; omega
    have := lead_lt x l k _ h (List.getElem?_eq_getElem hl)
    exact absurd this (h2 _ (List.getElem?_eq_getElem hl))
def Srt (l : List Int) : Prop := l.Pairwise (· < ·)
theorem put_mem (x z : Int) : ∀ l, z ∈ put x l ↔ z = x ∨ z ∈ l
  | [] => by simp [put]
  | y :: ys => by
    unfold put
    split
    · simp [put_mem x z ys]; constructor <;> (intro h; rcases h with h | h | h <;> simp [h])
    · split
      · rename_i e; subst e; simp
      · simp
theorem put_srt (x : Int) : ∀ {l}, Srt l → Srt (put x l)
  | [], _ => by simp [put, Srt]
  | y :: ys, h => by
    have h' := List.pairwise_cons.1 h
    unfold put
    split
    · rename_i hlt
      refine List.pairwise_cons.2 ⟨fun z hz => ?_, put_srt x h'.2⟩
      rcases (put_mem x z ys).1 hz with e | e
      · omega
      · exact h'.1 z e
    · split
      · exact h
      · refine List.pairwise_cons.2 ⟨fun z hz => ?_, h⟩
        rcases List.mem_cons.1 hz with e | e
        · omega
        · have := h'.1 z e; omega
theorem put_len (x : Int) : ∀ {l}, Srt l → (put x l).length = l.length + if x ∈ l then 0 else 1
  | [], _ => by simp [put]
  | y :: ys, h => by
    have h' := List.pairwise_cons.1 h
    unfold put
    split
    · rename_i hlt
      have e : x ∈ y :: ys ↔ x ∈ ys := by simp; omega
      simp only [List.length_cons, put_len x h'.2, e]
      omega
    · rename_i hge
      split
      · rename_i e; simp [e]
      · rename_i hne
        have e : ¬ x ∈ y :: ys := by
          intro hm
          rcases List.mem_cons.1 hm with e | e
          · exact hne e.symm
          · have := h'.1 x e; omega
        rw [if_neg e]
        simp
/-- The different numbers of a list, in order. -/
def diffs (l : List Int) : List Int := l.foldl (fun acc x => put x acc) []
theorem diffs_snoc (l : List Int) (x : Int) : diffs (l ++ [x]) = put x (diffs l) := by simp [diffs]
theorem diffs_ok (l : List Int) : Srt (diffs l) ∧ (∀ z, z ∈ diffs l ↔ z ∈ l) ∧ (diffs l).length = dif l := by
  rw [← List.reverse_reverse l]
  generalize l.reverse = r
  induction r with
  | nil => simp [diffs, Srt, dif, difR]
  | cons x r ih =>
    obtain ⟨h1, h2, h3⟩ := ih
    rw [List.reverse_cons, diffs_snoc]
    refine ⟨put_srt x h1, fun z => ?_, ?_⟩
    · rw [put_mem, h2]; simp; exact Or.comm
    · rw [put_len x h1, dif_snoc, h3]
      simp only [h2]
/-- The places of a list that a window sees. -/
def win (zs : List Int) (a b : Nat) : List Int := (zs.drop a).take (b - a)
end Q
end Go.Proofs.Ytdjafooabpcbmaa

/- The model's l1Put and l3Different: the different numbers of a list, in order. -/
namespace Go.Proofs.Ytdjafooabpcbmaa
open Go.RowKit
set_option linter.unusedVariables false
/-- What a call says that gives a row of ints, old or new. -/
def listSays (X : List Int) (w : World) (e : Ending) (w' : World) : Prop :=
  ∃ A c, e = .returned (.slice A X.length c) ∧ X.length ≤ c ∧ c ≤ maxLen ∧ Law.Row w' A (ivs X) ∧ Below w.heap.size w w'
theorem row_one_new (W : World) (x : Int) (t : TypeId) : Law.Row (W.alloc (.cells #[.int .i64 x] t)) (some ⟨W.heap.size, 0, none⟩) (ivs [x]) := fun _ =>
  ⟨W.heap.size, 0, rfl, by simp, fun j u hu => by
    match j, hu with
    | 0, hu => simp at hu; subst hu; exact new_cell W _ t⟩
theorem row_one_far {W w' : World} {row : Option Nat} {b : Nat} {x : Int} (hg : W.grownBy w' row) (hne : some b ≠ row) (hb : b < W.heap.size) (hc : W.cell? ⟨b, 0, none⟩ = some (.int .i64 x)) : Law.Row w' (some ⟨b, 0, none⟩) (ivs [x]) := fun _ =>
  ⟨b, 0, rfl, Nat.lt_of_lt_of_le hb hg.size, fun j u hu => by
    match j, hu with
    | 0, hu => simp at hu; subst hu; exact (World.cell?_of_block (a := ⟨b, 0, none⟩) (hg.block b hb hne)).trans hc⟩
set_option maxRecDepth 100000 in
set_option maxHeartbeats 6400000 in
theorem l1Put_any (A : Option Addr) (c : Nat) (zs : List Int) (x : Int) (w : World) (h3 : zs.length ≤ 60) (hc : zs.length ≤ c) (hcm : c ≤ maxLen) (hr : Law.Row w A (ivs zs)) :
    Calls Try.prog 125 #[.slice A zs.length c, .int .i64 x] w (listSays (Q.put x zs) w) := by
  obtain ⟨i0, hi, hz0, hz1, hz2⟩ := info_parts infoInts
  have HR := Lib.hid hr
  have HC := Lib.hid hc
  have HM := Lib.hid hcm
  clear hr hc hcm
  go_enter Try.func125, Try.ntmps125
  go_wp2_with fail
  go_loop [5] (fun i => ∃ k : Nat, k ≤ zs.length ∧ i = .int .i64 k ∧ Hid (∀ j y, j < k → zs[j]? = some y → y < x)) (fun i => zs.length - (intOf i).toNat)
  case atStart => exact ⟨0, Nat.zero_le _, rfl, fun j y h => by omega⟩
  case round =>
    obtain ⟨k, hk, rfl, hall⟩ := hrel
    by_cases hlt : k < zs.length
    · have hltI : (k : Int) < (zs.length : Int) := by omega
      obtain ⟨y, hy⟩ : ∃ y, zs[k]? = some y := ⟨_, List.getElem?_eq_getElem hlt⟩
      obtain ⟨b, off, rfl, hbl, hcell⟩ := HR.out.at_ (ivs_some hy)
      by_cases hyx : y < x
      · have HA : Hid (∀ j z, j < k + 1 → zs[j]? = some z → z < x) := fun j z hj hz => by
          rcases Nat.lt_or_ge j k with h | h
          · exact hall.out j z h hz
          · obtain rfl : j = k := by omega
            rw [hy] at hz
            injection hz with hz
            omega
        clear hy hall
        go_wp2
        go_round
        case rel => exact ⟨k + 1, by omega, by go_num, HA.out⟩
        case measure => simp [intOf]; omega
      · have HL : Hid (Q.lead x zs = k) := Lib.hid (Q.lead_of hall.out (fun z hz => by rw [hy] at hz; injection hz with hz; omega) (by omega))
        by_cases hyE : y = x
        · subst hyE
          have HP : Hid (Q.put y zs = zs) := by show _ = _; rw [Q.put_eq, HL.out, if_pos hy]
          clear hy hall
          go_wp2
          go_ret
          rw [HP.out]
          exact ⟨_, _, rfl, HC.out, HM.out, HR.out, Below.refl _ _⟩
        · have HP : Hid (Q.put x zs = zs.take k ++ x :: zs.drop k) := by show _ = _; rw [Q.put_eq, HL.out, if_neg (by rw [hy]; simpa using hyE)]
          have hyb : (y == x) = false := by simpa using hyE
          clear hy hall
          have hkc : ¬ c = k := by have := HC.out; omega
          have hkcI : (k : Int) ≤ (c : Int) := by have := HC.out; omega
          have hlcI : (zs.length : Int) ≤ (c : Int) := by have := HC.out; omega
          have hk0 : (0 : Int) ≤ (k : Int) := by omega
          have hkl : (k : Int) ≤ (zs.length : Int) := by omega
          have HT : Hid (∀ W, Below w.heap.size w W → Law.Row W (some ⟨b, off, none⟩) (ivs (zs.take k))) := fun W h => row_take (HR.out.stays h) k
          have HD : Hid (∀ W, Below w.heap.size w W → Law.Row W (some ⟨b, off + k, none⟩) (ivs (zs.drop k))) := fun W h => by
            have h' := row_drop (HR.out.stays h) k c HC.out
            rw [if_neg hkc] at h'
            simpa [Law.add_plain] using h'
          go_wp2_with fail
          have lt : (zs.take k).length = k := by rw [List.length_take]; omega
          have ld : (zs.drop k).length = zs.length - k := List.length_drop
          have HLT := Lib.hid lt
          have HLD := Lib.hid ld
          clear lt ld
          have E1 := Lib.hid (show World.ownsRow ((w.alloc (.cells #[] 3)).drew) w.heap.size 3 1 (.slice (some ⟨w.heap.size, 0, none⟩) 0 0) 0 (ivs []) from ownsRow_nil w _)
          have E2 := Lib.hid (show World.ownsRow (((w.alloc (.cells #[] 3)).alloc (.cells #[.int .i64 x] 3)).drew) w.heap.size 3 1 (.slice (some ⟨w.heap.size, 0, none⟩) 0 0) 0 (ivs []) from (ownsRow_nil w _).alloc _)
          have E3 : Hid (World.ownsRow (((w.alloc (.cells #[.int .i64 x] 3)).alloc (.cells #[] 3)).drew) w.heap.size 3 1 (.slice (some ⟨w.heap.size + 1, 0, none⟩) 0 0) 0 (ivs [])) := by
            have h := ownsRow_nil (w.alloc (.cells #[.int .i64 x] 3)) 3
            rw [show (w.alloc (.cells #[.int .i64 x] 3)).heap.size = w.heap.size + 1 from by simp] at h
            exact Lib.hid (own_down h (Nat.le_succ _))
          have D1 := Lib.hid (show Below w.heap.size w (w.alloc (.cells #[] 3)).drew from ((Below.refl _ _).alloc (Nat.le_refl _) _).drew)
          have D2 := Lib.hid (show Below w.heap.size w ((w.alloc (.cells #[] 3)).alloc (.cells #[.int .i64 x] 3)).drew from (((Below.refl _ _).alloc (Nat.le_refl _) _).alloc (by simp) _).drew)
          have D3 := Lib.hid (show Below w.heap.size w ((w.alloc (.cells #[.int .i64 x] 3)).alloc (.cells #[] 3)).drew from (((Below.refl _ _).alloc (Nat.le_refl _) _).alloc (by simp) _).drew)
          go_region_law ((first | (refine step_app (by rfl) (.tmp 33) (.tmp 36) 22 (by rfl) Try.underlying22 hi hz0 hz1 hz2 (by rfl) (v := .slice (some ⟨w.heap.size, 0, none⟩) 0 0) (n := 0) (zs := []) (by exact E1.out) (A := some ⟨b, off, none⟩) (m := k) (c := c) (ns := zs.take k) (by rfl) HLT.out (HT.out _ D1.out) (by first | omega | (simp; done) | (simp; omega)) (by omega) ?_; intro v37 w37 ho37 hg37; have B37 := Lib.hid (D1.out.grown hg37 (by first | omega | (simp; done) | (simp; omega)) (fun k e => (E1.out.lt k e).1)); have S37 := B37.out.size) | (refine step_app (by rfl) (.tmp 33) (.tmp 36) 22 (by rfl) Try.underlying22 hi hz0 hz1 hz2 (by rfl) (v := .slice (some ⟨w.heap.size, 0, none⟩) 0 0) (n := 0) (zs := []) (by exact E2.out) (A := some ⟨b, off, none⟩) (m := k) (c := c) (ns := zs.take k) (by rfl) HLT.out (HT.out _ D2.out) (by first | omega | (simp; done) | (simp; omega)) (by omega) ?_; intro v37 w37 ho37 hg37; have B37 := Lib.hid (D2.out.grown hg37 (by first | omega | (simp; done) | (simp; omega)) (fun k e => (E2.out.lt k e).1)); have S37 := B37.out.size) | (refine step_app (by rfl) (.tmp 33) (.tmp 36) 22 (by rfl) Try.underlying22 hi hz0 hz1 hz2 (by rfl) (v := .slice (some ⟨w.heap.size + 1, 0, none⟩) 0 0) (n := 0) (zs := []) (by exact E3.out) (A := some ⟨b, off, none⟩) (m := k) (c := c) (ns := zs.take k) (by rfl) HLT.out (HT.out _ D3.out) (by first | omega | (simp; done) | (simp; omega)) (by omega) ?_; intro v37 w37 ho37 hg37; have B37 := Lib.hid (D3.out.grown hg37 (by first | omega | (simp; done) | (simp; omega)) (fun k e => (E3.out.lt k e).1)); have S37 := B37.out.size) | (refine step_app (by rfl) (.tmp 37) (.tmp 39) 22 (by rfl) Try.underlying22 hi hz0 hz1 hz2 (by rfl) (v := v37) (n := 0 + k) (zs := [] ++ zs.take k) (by exact ho37.alloc _) (A := some ⟨w37.heap.size, 0, none⟩) (m := 1) (c := 1) (ns := [x]) (by rfl) rfl (row_one_new w37 x _) (by first | omega | (simp; done) | (simp; omega)) (by omega) ?_; intro v40 w40 ho40 hg40; have B40 := Lib.hid ((B37.out.alloc S37 (.cells #[.int .i64 x] 3)).grown hg40 (by first | omega | (simp; done) | (simp; omega)) (fun k e => (ho37.lt k e).1)); have S40 := B40.out.size) | (refine step_app (by rfl) (.tmp 37) (.tmp 39) 22 (by rfl) Try.underlying22 hi hz0 hz1 hz2 (by rfl) (v := v37) (n := 0 + k) (zs := [] ++ zs.take k) (by exact ho37) (A := some ⟨w.heap.size + 1, 0, none⟩) (m := 1) (c := 1) (ns := [x]) (by rfl) rfl (row_one_far hg37 (by simp [Value.ownBlock]) (by first | omega | (simp; done) | (simp; omega)) (by simp)) (by first | omega | (simp; done) | (simp; omega)) (by omega) ?_; intro v40 w40 ho40 hg40; have B40 := Lib.hid (B37.out.grown hg40 (by first | omega | (simp; done) | (simp; omega)) (fun k e => (ho37.lt k e).1)); have S40 := B40.out.size) | (refine step_app (by rfl) (.tmp 37) (.tmp 39) 22 (by rfl) Try.underlying22 hi hz0 hz1 hz2 (by rfl) (v := v37) (n := 0 + k) (zs := [] ++ zs.take k) (by exact ho37) (A := some ⟨w.heap.size, 0, none⟩) (m := 1) (c := 1) (ns := [x]) (by rfl) rfl (row_one_far hg37 (by simp [Value.ownBlock]) (by first | omega | (simp; done) | (simp; omega)) (by simp)) (by first | omega | (simp; done) | (simp; omega)) (by omega) ?_; intro v40 w40 ho40 hg40; have B40 := Lib.hid (B37.out.grown hg40 (by first | omega | (simp; done) | (simp; omega)) (fun k e => (ho37.lt k e).1)); have S40 := B40.out.size) | (refine step_app (by rfl) (.tmp 40) (.tmp 43) 22 (by rfl) Try.underlying22 hi hz0 hz1 hz2 (by rfl) (v := v40) (n := 0 + k + 1) (zs := [] ++ zs.take k ++ [x]) (by exact ho40) (A := some ⟨b, off + k, none⟩) (m := zs.length - k) (c := c - k) (ns := zs.drop k) (by rfl) HLD.out (HD.out _ B40.out) (by first | omega | (simp; done) | (simp; omega)) (by omega) ?_; intro v44 w44 ho44 hg44; have B44 := Lib.hid (B40.out.grown hg44 (by first | omega | (simp; done) | (simp; omega)) (fun k e => (ho40.lt k e).1)))))
          all_goals
            go_simp
            go_wp2
            all_goals
              go_ret
              obtain ⟨A', c', rfl, hc1, hc2, hl'⟩ := Law.own_len ho44
              have e : [] ++ zs.take k ++ [x] ++ zs.drop k = Q.put x zs := by rw [HP.out]; simp
              rw [e] at ho44 hl'
              have hl2 : (Q.put x zs).length = 0 + k + 1 + (zs.length - k) := by simpa [ivs] using hl'
              exact ⟨A', c', by rw [hl2]; rfl, by rw [hl2]; exact hc1, hc2, Law.Row.own ho44, B44.out⟩
    · have hke : k = zs.length := by omega
      subst hke
      have HL : Hid (Q.lead x zs = zs.length) := Lib.hid (Q.lead_of hall.out (fun z hz => by rw [List.getElem?_eq_none (Nat.le_refl _)] at hz; cases hz) (Nat.le_refl _))
      have HP : Hid (Q.put x zs = zs.take zs.length ++ x :: zs.drop zs.length) := by show _ = _; rw [Q.put_eq, HL.out, if_neg (by rw [List.getElem?_eq_none (Nat.le_refl _)]; simp)]
      have hltI : ¬ (zs.length : Int) < (zs.length : Int) := by omega
      clear hall
      have hlcI : (zs.length : Int) ≤ (c : Int) := by have := HC.out; omega
      have hk0 : (0 : Int) ≤ (zs.length : Int) := by omega
      have hkl : (zs.length : Int) ≤ (zs.length : Int) := by omega
      have hkk : zs.length - zs.length = 0 := by omega
      have HT : Hid (∀ W, Below w.heap.size w W → Law.Row W A (ivs (zs.take zs.length))) := fun W h => row_take (HR.out.stays h) zs.length
      have HD : Hid (∀ W (B : Option Addr), Below w.heap.size w W → Law.Row W B (ivs (zs.drop zs.length))) := fun W B h => by
        rw [List.drop_length]
        exact fun hh => absurd rfl hh
      go_wp2_with fail
      have lt : (zs.take zs.length).length = zs.length := by rw [List.length_take]; omega
      have ld : (zs.drop zs.length).length = 0 := by rw [List.drop_length]; rfl
      have HLT := Lib.hid lt
      have HLD := Lib.hid ld
      clear lt ld
      have E1 := Lib.hid (show World.ownsRow ((w.alloc (.cells #[] 3)).drew) w.heap.size 3 1 (.slice (some ⟨w.heap.size, 0, none⟩) 0 0) 0 (ivs []) from ownsRow_nil w _)
      have E2 := Lib.hid (show World.ownsRow (((w.alloc (.cells #[] 3)).alloc (.cells #[.int .i64 x] 3)).drew) w.heap.size 3 1 (.slice (some ⟨w.heap.size, 0, none⟩) 0 0) 0 (ivs []) from (ownsRow_nil w _).alloc _)
      have E3 : Hid (World.ownsRow (((w.alloc (.cells #[.int .i64 x] 3)).alloc (.cells #[] 3)).drew) w.heap.size 3 1 (.slice (some ⟨w.heap.size + 1, 0, none⟩) 0 0) 0 (ivs [])) := by
        have h := ownsRow_nil (w.alloc (.cells #[.int .i64 x] 3)) 3
        rw [show (w.alloc (.cells #[.int .i64 x] 3)).heap.size = w.heap.size + 1 from by simp] at h
        exact Lib.hid (own_down h (Nat.le_succ _))
      have D1 := Lib.hid (show Below w.heap.size w (w.alloc (.cells #[] 3)).drew from ((Below.refl _ _).alloc (Nat.le_refl _) _).drew)
      have D2 := Lib.hid (show Below w.heap.size w ((w.alloc (.cells #[] 3)).alloc (.cells #[.int .i64 x] 3)).drew from (((Below.refl _ _).alloc (Nat.le_refl _) _).alloc (by simp) _).drew)
      have D3 := Lib.hid (show Below w.heap.size w ((w.alloc (.cells #[.int .i64 x] 3)).alloc (.cells #[] 3)).drew from (((Below.refl _ _).alloc (Nat.le_refl _) _).alloc (by simp) _).drew)
      go_region_law ((first | (refine step_app (by rfl) (.tmp 33) (.tmp 36) 22 (by rfl) Try.underlying22 hi hz0 hz1 hz2 (by rfl) (v := .slice (some ⟨w.heap.size, 0, none⟩) 0 0) (n := 0) (zs := []) (by exact E1.out) (A := A) (m := zs.length) (c := c) (ns := zs.take zs.length) (by rfl) HLT.out (HT.out _ D1.out) (by first | omega | (simp; done) | (simp; omega)) (by omega) ?_; intro v37 w37 ho37 hg37; have B37 := Lib.hid (D1.out.grown hg37 (by first | omega | (simp; done) | (simp; omega)) (fun k e => (E1.out.lt k e).1)); have S37 := B37.out.size) | (refine step_app (by rfl) (.tmp 33) (.tmp 36) 22 (by rfl) Try.underlying22 hi hz0 hz1 hz2 (by rfl) (v := .slice (some ⟨w.heap.size, 0, none⟩) 0 0) (n := 0) (zs := []) (by exact E2.out) (A := A) (m := zs.length) (c := c) (ns := zs.take zs.length) (by rfl) HLT.out (HT.out _ D2.out) (by first | omega | (simp; done) | (simp; omega)) (by omega) ?_; intro v37 w37 ho37 hg37; have B37 := Lib.hid (D2.out.grown hg37 (by first | omega | (simp; done) | (simp; omega)) (fun k e => (E2.out.lt k e).1)); have S37 := B37.out.size) | (refine step_app (by rfl) (.tmp 33) (.tmp 36) 22 (by rfl) Try.underlying22 hi hz0 hz1 hz2 (by rfl) (v := .slice (some ⟨w.heap.size + 1, 0, none⟩) 0 0) (n := 0) (zs := []) (by exact E3.out) (A := A) (m := zs.length) (c := c) (ns := zs.take zs.length) (by rfl) HLT.out (HT.out _ D3.out) (by first | omega | (simp; done) | (simp; omega)) (by omega) ?_; intro v37 w37 ho37 hg37; have B37 := Lib.hid (D3.out.grown hg37 (by first | omega | (simp; done) | (simp; omega)) (fun k e => (E3.out.lt k e).1)); have S37 := B37.out.size) | (refine step_app (by rfl) (.tmp 37) (.tmp 39) 22 (by rfl) Try.underlying22 hi hz0 hz1 hz2 (by rfl) (v := v37) (n := 0 + zs.length) (zs := [] ++ zs.take zs.length) (by exact ho37.alloc _) (A := some ⟨w37.heap.size, 0, none⟩) (m := 1) (c := 1) (ns := [x]) (by rfl) rfl (row_one_new w37 x _) (by first | omega | (simp; done) | (simp; omega)) (by omega) ?_; intro v40 w40 ho40 hg40; have B40 := Lib.hid ((B37.out.alloc S37 (.cells #[.int .i64 x] 3)).grown hg40 (by first | omega | (simp; done) | (simp; omega)) (fun k e => (ho37.lt k e).1)); have S40 := B40.out.size) | (refine step_app (by rfl) (.tmp 37) (.tmp 39) 22 (by rfl) Try.underlying22 hi hz0 hz1 hz2 (by rfl) (v := v37) (n := 0 + zs.length) (zs := [] ++ zs.take zs.length) (by exact ho37) (A := some ⟨w.heap.size + 1, 0, none⟩) (m := 1) (c := 1) (ns := [x]) (by rfl) rfl (row_one_far hg37 (by simp [Value.ownBlock]) (by first | omega | (simp; done) | (simp; omega)) (by simp)) (by first | omega | (simp; done) | (simp; omega)) (by omega) ?_; intro v40 w40 ho40 hg40; have B40 := Lib.hid (B37.out.grown hg40 (by first | omega | (simp; done) | (simp; omega)) (fun k e => (ho37.lt k e).1)); have S40 := B40.out.size) | (refine step_app (by rfl) (.tmp 37) (.tmp 39) 22 (by rfl) Try.underlying22 hi hz0 hz1 hz2 (by rfl) (v := v37) (n := 0 + zs.length) (zs := [] ++ zs.take zs.length) (by exact ho37) (A := some ⟨w.heap.size, 0, none⟩) (m := 1) (c := 1) (ns := [x]) (by rfl) rfl (row_one_far hg37 (by simp [Value.ownBlock]) (by first | omega | (simp; done) | (simp; omega)) (by simp)) (by first | omega | (simp; done) | (simp; omega)) (by omega) ?_; intro v40 w40 ho40 hg40; have B40 := Lib.hid (B37.out.grown hg40 (by first | omega | (simp; done) | (simp; omega)) (fun k e => (ho37.lt k e).1)); have S40 := B40.out.size) | (refine step_app (by rfl) (.tmp 40) (.tmp 43) 22 (by rfl) Try.underlying22 hi hz0 hz1 hz2 (by rfl) (v := v40) (n := 0 + zs.length + 1) (zs := [] ++ zs.take zs.length ++ [x]) (by exact ho40) (A := (if c = zs.length then A else Option.map (fun x => x.add zs.length) A)) (m := 0) (c := c - zs.length) (ns := zs.drop zs.length) (by rfl) HLD.out (HD.out _ _ B40.out) (by first | omega | (simp; done) | (simp; omega)) (by omega) ?_; intro v44 w44 ho44 hg44; have B44 := Lib.hid (B40.out.grown hg44 (by first | omega | (simp; done) | (simp; omega)) (fun k e => (ho40.lt k e).1)))))
      all_goals
        go_simp
        go_wp2
        all_goals
          go_ret
          obtain ⟨A', c', rfl, hc1, hc2, hl'⟩ := Law.own_len ho44
          have e : [] ++ zs.take zs.length ++ [x] ++ zs.drop zs.length = Q.put x zs := by rw [HP.out]; simp
          rw [e] at ho44 hl'
          have hl2 : (Q.put x zs).length = 0 + zs.length + 1 + 0 := by simpa [ivs] using hl'
          exact ⟨A', c', by rw [hl2]; rfl, by rw [hl2]; exact hc1, hc2, Law.Row.own ho44, B44.out⟩
set_option maxHeartbeats 1600000 in
theorem l3Dif_any (A : Option Addr) (c : Nat) (zs : List Int) (w : World) (h3 : zs.length ≤ 60) (hr : Law.Row w A (ivs zs)) :
    Calls Try.prog 89 #[.slice A zs.length c] w (listSays (Q.diffs zs) w) := by
  have HR := Lib.hid hr
  clear hr
  go_enter Try.func89, Try.ntmps89
  go_wp2
  go_loopw [3, 4] (fun v i wr => ∃ k : Nat, k ≤ zs.length ∧ i = .int .i64 k ∧ Hid (∃ B d, v = .slice B (Q.diffs (zs.take k)).length d ∧ (Q.diffs (zs.take k)).length ≤ d ∧ d ≤ maxLen ∧ Law.Row wr B (ivs (Q.diffs (zs.take k)))) ∧ Hid (Below w.heap.size w wr)) (fun _ i _ => zs.length - (intOf i).toNat)
  case atStart => exact ⟨0, Nat.zero_le _, rfl, ⟨_, _, rfl, Nat.le_refl _, Nat.zero_le _, fun h => absurd rfl h⟩, (Below.refl _ _).alloc (Nat.le_refl _) _⟩
  case round =>
    obtain ⟨k, hk, rfl, hv, hb⟩ := hrel
    obtain ⟨B, d, rfl, hd1, hd2, hB⟩ := hv.out
    clear hv
    have hdl : (Q.diffs (zs.take k)).length ≤ 60 := by rw [(Q.diffs_ok _).2.2]; exact Nat.le_trans (Q.dif_le _) (by rw [List.length_take]; omega)
    by_cases hlt : k < zs.length
    · have hltI : (k : Int) < (zs.length : Int) := by omega
      obtain ⟨x, hx⟩ : ∃ x, zs[k]? = some x := ⟨_, List.getElem?_eq_getElem hlt⟩
      obtain ⟨b, off, rfl, hbl, hc⟩ := (HR.out.stays hb.out).at_ (ivs_some hx)
      have HT : Hid (Q.diffs (zs.take (k + 1)) = Q.put x (Q.diffs (zs.take k))) := by show _ = _; rw [Q.take_snoc hx]; exact Q.diffs_snoc _ _
      have HP := Lib.hid (l1Put_any B d (Q.diffs (zs.take k)) x wr hdl hd1 hd2 hB)
      generalize Q.diffs (zs.take k) = ds at *
      clear hx hB
      go_wp2_with fail
      go_at_call 125
      refine HP.out.mono ?_
      rintro e w1 ⟨B1, d1, rfl, h1, h2, hr1, hb1⟩
      have HB1 : Hid (Below w.heap.size w w1) := Law.then_ hb.out hb1
      have HR1 := Lib.hid hr1
      have H1 := Lib.hid h1
      have H2 := Lib.hid h2
      clear hr1 hb1 h1 h2 hd1 hd2
      go_wp2
      go_roundw
      case rel => exact ⟨k + 1, by omega, by go_num, ⟨B1, d1, by rw [HT.out], by rw [HT.out]; exact H1.out, H2.out, by rw [HT.out]; exact HR1.out⟩, HB1.out⟩
      case measure => simp [intOf]; omega
    · have hke : k = zs.length := by omega
      have hltI : ¬ (k : Int) < (zs.length : Int) := by omega
      have HF : Hid (zs.take k = zs) := by show _ = _; rw [hke, List.take_length]
      have HB := Lib.hid hB
      have H1 := Lib.hid hd1
      have H2 := Lib.hid hd2
      clear hke hB hd1 hd2
      go_wp2
      go_ret
      have h := HB.out
      have h1 := H1.out
      rw [HF.out] at h h1
      exact ⟨B, d, by rw [HF.out]; rfl, h1, H2.out, h, hb.out⟩
end Go.Proofs.Ytdjafooabpcbmaa
