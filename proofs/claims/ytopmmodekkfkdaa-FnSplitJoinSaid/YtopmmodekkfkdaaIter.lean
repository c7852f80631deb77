/-
  The program's iterator 'partsOf': it hands its loop body the parts between the bytes, in order.
-/
import Derived.Test.YtopmmodekkfkdaaSplit
import Derived.RangeFuncBox
import Derived.RangeFuncLeaves
import Derived.Shelf.Abstract
import Derived.WalkKit
import Derived.OwnWalkIn
import Derived.TacticsInMore
import Derived.LoopNIn
import Derived.LoopIn
import Derived.RegionIn
import Derived.Maps.AppendAt
import Derived.Scope
import Derived.Outline
namespace Go.Proofs.Ytopmmodekkfkdaa
open Go.RowKit Go.Shelf
attribute [local go_sem] Oper.semAt_some
section
variable {F : Fence} {n : Nat} {P : Program} {Q : Exit → Act → World → Prop} {a : Act} {w : World}
theorem stepR_scope_ {b : Frame} {k : List Item} {cs : List Frame} {c : Code} : step P (lone (b.atR a (.code (.scope c) :: k)) cs w) = .next (lone (b.atR a (.code c :: .inScope c :: k)) cs w) :=
  step_lone_go (by simp [stepG, stepG.exec, Frame.atR])
theorem stepR_inScope_ {b : Frame} {k : List Item} {cs : List Frame} {c : Code} : step P (lone (b.atR a (.inScope c :: k)) cs w) = .next (lone (b.atR a k) cs w) :=
  step_lone_go (by simp [stepG, stepG.exec, Frame.atR])
/-- A scope whose code never jumps by goto, inside a fence. -/
theorem wpIn_scope_plain {c : Code} (h : c.wpIn F n P (Exit.noGoto Q) a w) : (Code.scope c).wpIn F n P Q a w := by
  intro b k cs hro hb hr
  have h0 : (lone (b.atR a (.code (.scope c) :: k)) cs w).fenced P F := fenced_calm hb hr rfl
  obtain ⟨e, a₁, w₁, hq, harr⟩ := h b (.inScope c :: k) cs hro hb hr
  cases e with
  | normal => exact ⟨.normal, a₁, w₁, hq, .head h0 stepR_scope_ (StepsIn.trans harr (.one (fenced_calm hb hr rfl) stepR_inScope_))⟩
  | exit id =>
    have hx : exitTo id (.inScope c :: k) = exitTo id k := by simp [exitTo]
    exact ⟨.exit id, a₁, w₁, hq, fun k' hk => .head h0 stepR_scope_ (harr.1 k' (by rw [hx]; exact hk)),
      fun hr' hk => let ⟨k₁, h1, h2⟩ := harr.2 hr' (by rw [hx]; exact hk); ⟨k₁, h1, .head h0 stepR_scope_ h2⟩⟩
  | goto l => exact hq.elim
  | ret => exact ⟨_, a₁, w₁, hq, .of_steps (.one h0 stepR_scope_) harr⟩
  | panic ch => exact ⟨_, a₁, w₁, hq, .of_steps (.one h0 stepR_scope_) harr⟩
  | outgrown => exact ⟨_, a₁, w₁, hq, .of_steps (.one h0 stepR_scope_) harr⟩
end
set_option maxHeartbeats 1000000 in
theorem partsOf_in (F : Fence) (n : Nat) (h5 : F.fn 27) (hro : F.round = none) (s : ByteArray) (b : UInt8) (w : World) :
    CallsIn F n Try.prog 27 #[.string s, .int .u8 (b.toNat : Int)] w fun e w' => e = .returned (.func (.func 36) #[] #[.pointer (some ⟨w.heap.size, 0, none⟩), .pointer (some ⟨w.heap.size + 1, 0, none⟩)]) ∧
      w' = (w.alloc (.cells #[.string s] 9)).alloc (.cells #[.int .u8 (b.toNat : Int)] 5) := by
  refine callsIn_of_wp Try.func27 rfl h5 ?_ hro
  simp only [Try.ntmps27, List.size_toArray, List.length_cons, List.length_nil, Nat.reduceAdd, Nat.reduceSub, Array.replicate_succ, Array.replicate_zero, List.push_toArray, List.append_toArray, List.nil_append, List.cons_append]
  gi_wp2
  go_ret
  exact ⟨rfl, rfl⟩
theorem sp_more (s : ByteArray) (b : UInt8) (k : Nat) : ∀ j, (sp s b k).1 <+: (sp s b (k + j)).1
  | 0 => List.prefix_rfl
  | j + 1 => by
    have ih := sp_more s b k j
    show _ <+: (sp s b (k + j + 1)).1
    simp only [sp]
    split
    · exact ih.trans (List.prefix_append _ _)
    · exact ih
theorem sp_prefix {s : ByteArray} {b : UInt8} {k f : Nat} {ps : List ByteArray} (h : sp s b k = (ps, f)) (hk : k ≤ s.size) : ps <+: splitS s b ∧ ps.length < (splitS s b).length := by
  have h1 := sp_more s b k (s.size - k)
  rw [h, show k + (s.size - k) = s.size by omega] at h1
  refine ⟨h1.trans (List.prefix_append _ _), ?_⟩
  have := h1.length_le
  unfold splitS
  rw [List.length_append, List.length_singleton]
  have e : (ps, f).1 = ps := rfl
  rw [e] at this
  omega
theorem sp_last {s : ByteArray} {b : UInt8} {f : Nat} {ps : List ByteArray} (h : sp s b s.size = (ps, f)) : splitS s b = ps ++ [s.extract f s.size] := by unfold splitS; rw [h]
theorem ext_of {x y : ByteArray} (h : x.data.toList = y.data.toList) : x = y := ByteArray.ext (Array.toList_inj.1 h)
theorem rest_head (s : ByteArray) (f k : Nat) (hk : f + k ≤ s.size) : (s.extract f s.size).extract 0 k = s.extract f (f + k) := by
  apply ext_of
  rw [Lib.extract_data, Lib.extract_data, Lib.extract_data]
  simp only [List.drop_zero, Nat.sub_zero]
  rw [List.take_take, Nat.min_eq_left (by omega)]
  congr 1; omega
theorem rest_tail (s : ByteArray) (f k : Nat) : (s.extract f s.size).extract k (s.extract f s.size).size = s.extract (f + k) s.size := by
  apply ext_of
  rw [Lib.extract_to_end, Lib.extract_to_end, Lib.extract_to_end, List.drop_drop]
theorem rest_size (s : ByteArray) (f : Nat) : (s.extract f s.size).size = s.size - f := by rw [ByteArray.size_extract]; omega
theorem rest_byte (s R : ByteArray) (f k : Nat) (e : R = s.extract f s.size) (hk : k < R.size) (hk' : f + k < s.size) : R[k] = s[f + k] := by
  subst e
  rw [ByteArray.getElem_extract]
theorem tail_hid {s R : ByteArray} {f k : Nat} (h : R = s.extract f s.size) (hk : k < R.size) : Hid (R.extract (k + 1) R.size = s.extract (f + k + 1) s.size) := by
  show _ = _
  subst h
  rw [rest_tail]; rfl
/-- What the iterator asks of a round: its captured separator stays. -/
def KeepsCell (B : Nat) (W W' : World) : Prop := ∀ v, W.cell? ⟨B, 0, none⟩ = some v → W'.cell? ⟨B, 0, none⟩ = some v
theorem keepsCell_t {B : Nat} {X Y Z : World} (h : KeepsCell B X Y) (k : KeepsCell B Y Z) : KeepsCell B X Z := fun v hv => k v (h v hv)
theorem keepsCell_b (B : Nat) (W : World) (l : Nat) (o o' : Obj) (hl : W.heap[l]? = some o) (ho : o.isCells = false) : KeepsCell B W (W.putObj l o') := fun v hv =>
  cell_kept hv (grownBy_putObj' W l o') (fun r e => by cases e; exact ⟨o, hl, ho⟩)
def strLen : Value → Nat | .string r => r.size | _ => 0
set_option maxRecDepth 100000 in
set_option maxHeartbeats 2000000 in
theorem parts1_in (F : Fence) (n : Nat) (h6 : F.fn 36) (hro : F.round = none) (hn : 1 ≤ n) (l B0 B1 : Nat) (s : ByteArray) (b : UInt8) (hs : s.size ≤ 4000) (J Jx : List ByteArray → World → Prop)
    (hJ : ∀ pre W, J pre W → ∀ m, J pre (W.drewN m)) 
    (hY : ∀ pre x W, J pre W → pre.length < (splitS s b).length → YieldAt F (n - 1) Try.prog l #[.string x] W fun e W' =>
      (e = .returned (.bool true) ∧ J (pre ++ [x]) W' ∧ KeepsCell B1 W W') ∨ (e = .returned (.bool false) ∧ Jx (pre ++ [x]) W'))
    (W : World) (hc0 : W.cell? ⟨B0, 0, none⟩ = some (.string s)) (hc1 : W.cell? ⟨B1, 0, none⟩ = some (.int .u8 (b.toNat : Int))) (h0 : J [] W) :
    CallsIn F n Try.prog 36 #[.func (.yield l) #[] #[], .pointer (some ⟨B0, 0, none⟩), .pointer (some ⟨B1, 0, none⟩)] W fun e W' => (∃ v, e = .returned v) ∧
      ((∃ ys, ys = splitS s b ∧ J ys W') ∨ (∃ pre, pre <+: splitS s b ∧ Jx pre W')) := by
  have HJ := Lib.hid hJ
  have HY := Lib.hid hY
  clear hJ hY
  refine callsIn_of_wp Try.func36 rfl h6 ?_ hro
  simp only [Try.ntmps36, List.size_toArray, List.length_cons, List.length_nil, Nat.reduceAdd, Nat.reduceSub, Array.replicate_succ, Array.replicate_zero, List.push_toArray, List.append_toArray, List.nil_append, List.cons_append]
  gi_wp2
  refine wpIn_scope_plain ?_
  gi_wp2
  refine wpIn_label ?_
  gi_wp2
  gi_loopw [4] (fun v wr => ∃ (f : Nat) (pre : List ByteArray) (R : ByteArray), v = .string R ∧ Hid (R = s.extract f s.size) ∧ f ≤ s.size ∧ R.size + f ≤ s.size ∧ s.size ≤ R.size + f ∧ Hid (sp s b f = (pre, f)) ∧ Hid (J pre wr) ∧
      wr.cell? ⟨B1, 0, none⟩ = some (.int .u8 (b.toNat : Int)))
    (fun v _ => strLen v)
  case atStart =>
    exact ⟨0, [], s, rfl, (by show s = _; apply ext_of; rw [Lib.extract_to_end, List.drop_zero]), Nat.zero_le _, Nat.le_refl _, Nat.le_refl _, rfl, h0, hc1⟩
  case round =>
    obtain ⟨f, pre, R, rfl, hR, hf, hz1, hz2, hsp, hJs, hcb⟩ := hrel
    gi_wp2
    gi_loopw [4, 9] (fun v i wx => ∃ k m : Nat, v = .string R ∧ i = .int .i64 k ∧ k ≤ R.size ∧ Hid (sp s b (f + k) = (pre, f)) ∧ wx = wr.drewN m) (fun _ i _ => R.size - (intOf i).toNat)
    case atStart => exact ⟨0, 0, rfl, rfl, Nat.zero_le _, hsp, rfl⟩
    case round =>
      obtain ⟨k, m, rfl, rfl, hk, hspk, rfl⟩ := hrel
      by_cases hlt : k < R.size
      · have hltI : (k : Int) < (R.size : Int) := by omega
        by_cases hc : R[k] = b
        · have hcb' : ((R[k].toNat : Int) != (b.toNat : Int)) = false := by rw [hc]; simp
          have HB : Hid (s[f + k]'(by omega) = b) := by show _ = _; rw [← rest_byte s R f k hR.out hlt (by omega)]; exact hc
          clear hc
          have HE := Lib.hid (rest_head s f k (by omega))
          have HE2 : Hid (R.extract 0 k = s.extract f (f + k)) := by show _ = _; rw [hR.out, HE.out]
          have HP := Lib.hid (sp_prefix hspk.out (by omega))
          have HN := Lib.hid (sp_hit (by omega) HB.out hspk.out)
          have HP2 := Lib.hid (sp_prefix HN.out (by omega))
          gi_wp2
          gi_region
          all_goals
            have hy1 := HY.out pre (s.extract f (f + k)) (wr.drewN (m + 1)) (HJ.out _ _ hJs.out _) HP.out.2
            rw [← HE.out, ← hR.out] at hy1
            obtain ⟨fn, tmps, assign, body, hy, hRd⟩ := hy1
            have hkR : k ≤ R.size := by omega
            gi_wp2
            refine hRd.mono ?_
            rintro e W3 (⟨rfl, hJ3, hk3⟩ | ⟨rfl, hJx3⟩)
            · have hcb3 : W3.cell? ⟨B1, 0, none⟩ = some (.int .u8 (b.toNat : Int)) := hk3 _ hcb
              have HJ3 := Lib.hid hJ3
              clear hJ3 hy hRd
              gi_wp2
              exact ⟨⟨f + k + 1, pre ++ [s.extract f (f + k)], R.extract (k + 1) R.size, rfl, tail_hid hR.out (by omega), by omega, (by rw [ByteArray.size_extract]; omega), (by rw [ByteArray.size_extract]; omega), HN.out, (by rw [HE2.out] at HJ3; exact HJ3), hcb3⟩, by simp [strLen]; omega⟩
            · gi_wp2
              rw [Exit.noGoto_ret]
              refine bodyPost_ret (results_none rfl _ _ _) rfl ?_
              rw [HE2.out] at hJx3
              exact ⟨⟨_, rfl⟩, .inr ⟨_, HP2.out.1, hJx3⟩⟩
        · have hcb' : ((R[k].toNat : Int) != (b.toNat : Int)) = true := by
            rw [bne_iff_ne]; intro e; apply hc; apply UInt8.toNat_inj.1; omega
          have HB : Hid (s[f + k]'(by omega) ≠ b) := by show _ ≠ _; rw [← rest_byte s R f k hR.out hlt (by omega)]; exact hc
          clear hc
          have HN := Lib.hid (sp_miss (by omega) HB.out hspk.out)
          gi_wp2
          gi_region
          all_goals
            gi_wp2
            go_roundw
            case rel => exact ⟨k + 1, m + 1, rfl, by go_num, by omega, HN.out, rfl⟩
            case measure => simp [intOf]; omega
      · have hke : f + k = s.size := by omega
        have HL : Hid (splitS s b = pre ++ [R]) := by
          have h1 := hspk.out
          rw [hke] at h1
          show splitS s b = _
          rw [sp_last h1, hR.out]
        have HP := Lib.hid (sp_prefix hspk.out (by omega))
        clear hke
        have hy1 := HY.out pre R (wr.drewN m) (HJ.out _ _ hJs.out _) HP.out.2
        obtain ⟨fn, tmps, assign, body, hy, hRd⟩ := hy1
        gi_wp2
        refine hRd.mono ?_
        rintro e W3 (⟨rfl, hJ3, hk3⟩ | ⟨rfl, hJx3⟩)
        · have HJ3 := Lib.hid hJ3
          clear hJ3 hy hRd
          gi_wp2
          rw [Exit.noGoto_ret]
          refine bodyPost_ret (results_none rfl _ _ _) rfl ?_
          exact ⟨⟨_, rfl⟩, .inl ⟨_, HL.out.symm, HJ3.out⟩⟩
        · have HJ3 := Lib.hid hJx3
          clear hJx3 hy hRd
          gi_wp2
          rw [Exit.noGoto_ret]
          refine bodyPost_ret (results_none rfl _ _ _) rfl ?_
          exact ⟨⟨_, rfl⟩, .inr ⟨_, (by rw [HL.out]; exact List.prefix_rfl), HJ3.out⟩⟩
/-- What 'partsOf' hands back gives its loop body all parts in order, or a prefix of them where a round has said 'no more'. -/
theorem parts_stops (F : Fence) (n : Nat) (h6 : F.fn 36) (hro : F.round = none) (hn : 1 ≤ n) (B0 B1 : Nat) (s : ByteArray) (b : UInt8) (hs : s.size ≤ 4000) (w : World) (hB0 : B0 < w.heap.size) (hB1 : B1 < w.heap.size)
    (hc0 : w.cell? ⟨B0, 0, none⟩ = some (.string s)) (hc1 : w.cell? ⟨B1, 0, none⟩ = some (.int .u8 (b.toNat : Int))) :
    SeqStopsK F n Try.prog 36 #[.pointer (some ⟨B0, 0, none⟩), .pointer (some ⟨B1, 0, none⟩)] (fun x : ByteArray => #[Value.string x]) (KeepsCell B1) (fun ys => ys = splitS s b) (fun pre => pre <+: splitS s b) (splitS s b).length w := fun l J Jx W hW hJ _ hY h0 =>
  parts1_in F n h6 hro hn l B0 B1 s b hs J Jx (fun pre W1 h m => hJ pre W1 _ none h ⟨rfl, rfl, rfl, Nat.le_refl _, fun _ _ _ => rfl⟩ (fun r e => by cases e)) hY W ((hW.cell (p := ⟨B0, 0, none⟩) hB0).trans hc0) ((hW.cell (p := ⟨B1, 0, none⟩) hB1).trans hc1) h0
end Go.Proofs.Ytopmmodekkfkdaa
