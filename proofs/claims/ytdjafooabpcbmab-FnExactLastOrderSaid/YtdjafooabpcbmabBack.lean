/-
  The library's slices.Backward at a row of ints: its iterator hands its loop body the last place first.
-/
import Derived.Test.YtdjafooabpcbmabOrdM
import Derived.Test.YtdjafooabpcbmabRowS
import Derived.Test.YtdjafooabpcbmabOwn
import Derived.Test.YtdjafooabpcbmabShelf
import Derived.RangeFuncBox
import Derived.RangeFuncLeaves
import Derived.RangeFuncNested
import Derived.RangeFuncCalls
import Derived.Shelf.Abstract
import Derived.WalkKit
import Derived.OwnWalkIn
import Derived.TacticsInMore
import Derived.LoopNIn
import Derived.LoopIn
import Derived.RegionIn
import Derived.Maps.AppendAt
import Derived.Scope
import Derived.Outline
namespace Go.Proofs.Ytdjafooabpcbmab
open Go.RowKit Go.Shelf
set_option linter.unusedVariables false
attribute [local go_sem] Oper.semAt_some
theorem has_row {w : World} {A : Option Addr} {c : Nat} {zs : List Int} (hr : Law.Row w A (ivs zs)) (hn : zs.length ≤ 1048576) (x : Int) :
    Calls Try.prog 83 #[.slice A zs.length c, .int .i64 x] w fun e w' => e = .returned (.bool (decide (x ∈ zs))) ∧ w' = w := by
  by_cases h0 : zs = []
  · subst h0
    have h := Try.slices_Contains_int_empty A c x w
    simpa using h
  · obtain ⟨b, off, rfl, _, hc⟩ := hr (by simpa [ivs] using h0)
    have h := Try.slices_Contains_int b off zs.length c zs x w (Nat.le_refl _) (by omega) (fun j hj => hc j _ (by rw [ivs, List.getElem?_map, List.getElem?_eq_getElem hj, List.getD_eq_getElem?_getD, List.getElem?_eq_getElem hj]; rfl))
    rw [List.take_length, show zs.contains x = decide (x ∈ zs) by simp] at h
    exact h
theorem back_in (F : Fence) (n : Nat) (h5 : F.fn 86) (hro : F.round = none) (A : Option Addr) (m c : Nat) (w : World) :
    CallsIn F n Try.prog 86 #[.slice A m c] w fun e w' => e = .returned (.func (.func 115) #[] #[.pointer (some ⟨w.heap.size, 0, none⟩)]) ∧
      w' = w.alloc (.cells #[.slice A m c] 22) := by
  refine callsIn_of_wp Try.func86 rfl h5 ?_ hro
  simp only [Try.ntmps86, List.size_toArray, List.length_cons, List.length_nil, Nat.reduceAdd, Nat.reduceSub, Array.replicate_succ, Array.replicate_zero, List.push_toArray, List.append_toArray, List.nil_append, List.cons_append]
  gi_wp2
  go_ret
  exact ⟨rfl, rfl⟩
/-- The places from the last down to j, each with its number. -/
def bkR (zs : List Int) (j : Nat) : List (Nat × Int) := (List.range' j (zs.length - j)).reverse.map fun i => (i, zs.getD i 0)
theorem bkR_end (zs : List Int) : bkR zs zs.length = [] := by unfold bkR; simp
theorem bkR_step {zs : List Int} {j : Nat} {x : Int} (h : zs[j]? = some x) : bkR zs j = bkR zs (j + 1) ++ [(j, x)] := by
  have hl := (List.getElem?_eq_some_iff.1 h).1
  unfold bkR
  rw [show zs.length - j = (zs.length - (j + 1)) + 1 by omega, List.range'_succ, List.reverse_cons, List.map_append]
  simp [h]
theorem bkR_len (zs : List Int) (j : Nat) : (bkR zs j).length = zs.length - j := by unfold bkR; simp
theorem bkR_pre (zs : List Int) : ∀ j, j ≤ zs.length → bkR zs j <+: bkR zs 0
  | 0, _ => List.prefix_rfl
  | j + 1, h => by
    have hx : zs[j]? = some zs[j] := List.getElem?_eq_getElem (by omega)
    refine List.IsPrefix.trans ?_ (bkR_pre zs j (by omega))
    rw [bkR_step hx]
    exact List.prefix_append _ _
theorem bkR_ord {zs : List Int} : ∀ m j, m + j = zs.length → ((bkR zs j).map (·.2)).foldl Q.stepO [] = Q.ordD zs j
  | 0, j, h => by
    obtain rfl : j = zs.length := by omega
    rw [bkR_end, Q.ordD_all]; rfl
  | m + 1, j, h => by
    have hx : zs[j]? = some zs[j] := List.getElem?_eq_getElem (by omega)
    rw [bkR_step hx, List.map_append, Q.ordD_step hx, ← bkR_ord m (j + 1) (by omega)]
    exact Q.fold_stepO _ _
/-- What the iterator asks of a round: its captured row's header stays, and whatever lay below N. -/
def KeepsB (N B : Nat) (W W' : World) : Prop := (∀ v, W.cell? ⟨B, 0, none⟩ = some v → W'.cell? ⟨B, 0, none⟩ = some v) ∧ ∀ (a : Addr) v, a.block < N → W.cell? a = some v → W'.cell? a = some v
theorem keepsB_t {N B : Nat} {X Y Z : World} (h : KeepsB N B X Y) (k : KeepsB N B Y Z) : KeepsB N B X Z := ⟨fun v hv => k.1 v (h.1 v hv), fun a v ha hv => k.2 a v ha (h.2 a v ha hv)⟩
theorem keepsB_b (N B : Nat) (W : World) (l : Nat) (o o' : Obj) (hl : W.heap[l]? = some o) (ho : o.isCells = false) : KeepsB N B W (W.putObj l o') :=
  ⟨fun v hv => cell_kept hv (grownBy_putObj' W l o') (fun r e => by cases e; exact ⟨o, hl, ho⟩), fun a v _ hv => cell_kept hv (grownBy_putObj' W l o') (fun r e => by cases e; exact ⟨o, hl, ho⟩)⟩
/-- A row that lies below N. -/
def RowB (N : Nat) (W : World) (A : Option Addr) (xs : List Value) : Prop := ∀ j u, xs[j]? = some u → ∃ b off, A = some ⟨b, off, none⟩ ∧ b < N ∧ W.cell? ⟨b, off + j, none⟩ = some u
theorem RowB.of {N : Nat} {W w : World} {A : Option Addr} {xs : List Value} (h : Law.Row w A xs) (hN : w.heap.size ≤ N) (hb : Below w.heap.size w W) : RowB N W A xs := fun j u hu => by
  obtain ⟨b, off, rfl, hlt, hc⟩ := h (fun e => by rw [e] at hu; simp at hu)
  exact ⟨b, off, rfl, by omega, (hb.cell (p := ⟨b, off + j, none⟩) hlt).trans (hc j u hu)⟩
theorem RowB.keeps {N B : Nat} {W W' : World} {A : Option Addr} {xs : List Value} (h : RowB N W A xs) (k : KeepsB N B W W') : RowB N W' A xs := fun j u hu => by
  obtain ⟨b, off, rfl, hlt, hc⟩ := h j u hu
  exact ⟨b, off, rfl, hlt, k.2 ⟨b, off + j, none⟩ u hlt hc⟩
set_option maxRecDepth 100000 in
set_option maxHeartbeats 2000000 in
theorem back1_in (F : Fence) (n : Nat) (h6 : F.fn 115) (hro : F.round = none) (hn : 1 ≤ n) (l B N : Nat) (A : Option Addr) (c : Nat) (zs : List Int) (hs : zs.length ≤ 60) (J Jx : List (Nat × Int) → World → Prop)
    (hJ : ∀ pre W, J pre W → ∀ m, J pre (W.drewN m))
    (hY : ∀ pre x W, J pre W → pre.length < zs.length → YieldAt F (n - 1) Try.prog l #[.int .i64 ((x.1 : Nat) : Int), .int .i64 x.2] W fun e W' =>
      (e = .returned (.bool true) ∧ J (pre ++ [x]) W' ∧ KeepsB N B W W') ∨ (e = .returned (.bool false) ∧ Jx (pre ++ [x]) W'))
    (W : World) (hc0 : W.cell? ⟨B, 0, none⟩ = some (.slice A zs.length c)) (hr : RowB N W A (ivs zs)) (h0 : J [] W) :
    CallsIn F n Try.prog 115 #[.func (.yield l) #[] #[], .pointer (some ⟨B, 0, none⟩)] W fun e W' => (∃ v, e = .returned v) ∧
      ((∃ ys, ys = bkR zs 0 ∧ J ys W') ∨ (∃ pre, pre <+: bkR zs 0 ∧ Jx pre W')) := by
  have HJ := Lib.hid hJ
  have HY := Lib.hid hY
  have HR := Lib.hid hr
  clear hJ hY hr
  refine callsIn_of_wp Try.func115 rfl h6 ?_ hro
  simp only [Try.ntmps115, List.size_toArray, List.length_cons, List.length_nil, Nat.reduceAdd, Nat.reduceSub, Array.replicate_succ, Array.replicate_zero, List.push_toArray, List.append_toArray, List.nil_append, List.cons_append]
  gi_wp2
  gi_loopw [3] (fun i wr => ∃ j : Nat, j ≤ zs.length ∧ i = .int .i64 ((j : Int) - 1) ∧ Hid (J (bkR zs j) wr) ∧ wr.cell? ⟨B, 0, none⟩ = some (.slice A zs.length c) ∧ Hid (RowB N wr A (ivs zs))) (fun i _ => (intOf i + 1).toNat)
  case atStart => exact ⟨zs.length, Nat.le_refl _, by go_num, by rw [bkR_end]; exact Lib.hid h0, hc0, HR⟩
  case round =>
    obtain ⟨j, hj, rfl, hJs, hcb, hrw⟩ := hrel
    rcases Nat.eq_zero_or_pos j with hj0 | hj0
    · subst hj0
      rw [show ((0 : Nat) : Int) - 1 = -1 from rfl]
      gi_wp2
      exact bodyPost_end (results_none rfl _ _ _) rfl ⟨⟨_, rfl⟩, .inl ⟨_, rfl, hJs.out⟩⟩
    · obtain ⟨k, rfl⟩ : ∃ k, j = k + 1 := ⟨j - 1, by omega⟩
      rw [show ((k + 1 : Nat) : Int) - 1 = (k : Int) from by omega]
      have hlt : k < zs.length := by omega
      have hltI : (k : Int) < (zs.length : Int) := by omega
      obtain ⟨x, hx⟩ : ∃ x, zs[k]? = some x := ⟨_, List.getElem?_eq_getElem hlt⟩
      obtain ⟨b, off, rfl, hbl, hc⟩ := hrw.out k (.int .i64 x) (ivs_some hx)
      have HT := Lib.hid (bkR_step hx)
      have hpl : (bkR zs (k + 1)).length < zs.length := by rw [bkR_len]; omega
      clear hx
      have hy1 := HY.out (bkR zs (k + 1)) (k, x) wr hJs.out hpl
      rw [← HT.out] at hy1
      obtain ⟨fn, tmps, assign, body, hy, hRd⟩ := hy1
      have HRd := Lib.hid hRd
      clear hRd
      simp only [] at hy
      gi_wp2
      refine HRd.out.mono ?_
      rintro e W3 (⟨rfl, hJ3, hk3⟩ | ⟨rfl, hJx3⟩)
      · have hcb3 : W3.cell? ⟨B, 0, none⟩ = some (.slice (some ⟨b, off, none⟩) zs.length c) := hk3.1 _ hcb
        have HJ3 := Lib.hid hJ3
        have HR3 := Lib.hid (hrw.out.keeps hk3)
        clear hJ3 hy HRd hk3 hc
        gi_wp2
        go_roundw
        case rel => exact ⟨k, by omega, by go_num, HJ3.out, hcb3, HR3.out⟩
        case measure => simp [intOf]
      · have HJ3 := Lib.hid hJx3
        clear hJx3 hy HRd hc
        gi_wp2
        refine bodyPost_ret (results_none rfl _ _ _) rfl ?_
        exact ⟨⟨_, rfl⟩, .inr ⟨_, bkR_pre zs k (by omega), HJ3.out⟩⟩
/-- What slices.Backward hands back gives its loop body all places from the last down, or a part of them where a round has said 'no more'. -/
theorem back_stops (F : Fence) (n : Nat) (h6 : F.fn 115) (hro : F.round = none) (hn : 1 ≤ n) (B N : Nat) (A : Option Addr) (c : Nat) (zs : List Int) (hs : zs.length ≤ 60) (w : World) (hB : B < w.heap.size)
    (hc : w.cell? ⟨B, 0, none⟩ = some (.slice A zs.length c)) (hr : RowB N w A (ivs zs)) (hN : N ≤ w.heap.size) :
    SeqStopsK F n Try.prog 115 #[.pointer (some ⟨B, 0, none⟩)] (fun x : Nat × Int => #[Value.int .i64 ((x.1 : Nat) : Int), Value.int .i64 x.2]) (KeepsB N B) (fun ys => ys = bkR zs 0) (fun pre => pre <+: bkR zs 0) zs.length w := fun l J Jx W hW hJ _ hY h0 =>
  back1_in F n h6 hro hn l B N A c zs hs J Jx (fun pre W1 h m => hJ pre W1 _ none h ⟨rfl, rfl, rfl, Nat.le_refl _, fun _ _ _ => rfl⟩ (fun r e => by cases e)) hY W ((hW.cell (p := ⟨B, 0, none⟩) hB).trans hc)
    (fun j u hu => by
      obtain ⟨b, off, rfl, hlt, hcc⟩ := hr j u hu
      exact ⟨b, off, rfl, hlt, (hW.cell (p := ⟨b, off + j, none⟩) (by show b < _; omega)).trans hcc⟩) h0
end Go.Proofs.Ytdjafooabpcbmab
