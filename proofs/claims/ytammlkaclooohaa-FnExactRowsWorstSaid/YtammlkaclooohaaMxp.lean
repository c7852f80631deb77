/-
  Sums of columns: l11Products of the model, columnSums of the code.
-/
import Derived.Test.YtammlkaclooohaaMxs
import Derived.StillTailTactics
import Derived.Deep.RegionHeld3
namespace Go.Proofs.Ytammlkaclooohaa
open Go.RowKit
set_option linter.unusedVariables false
namespace Q
/-- The sums behind i rows, and of the row i the first k products. -/
def pK (M : List (List Int)) (ws : List Int) (m i k : Nat) : List Int := (List.range m).map fun j => sfK ws (fun i => dst M i j) (if j < k then i + 1 else i)
theorem pK_zero (M : List (List Int)) (ws : List Int) (m : Nat) : pK M ws m 0 0 = List.replicate m 0 := by simp [pK, sfK, List.map_const']
theorem pK_row (M : List (List Int)) (ws : List Int) (m i : Nat) : pK M ws m i m = pK M ws m (i + 1) 0 := by
  unfold pK
  refine List.map_congr_left fun j hj => ?_
  rw [if_pos (List.mem_range.1 hj), if_neg (by omega)]
theorem pK_end (M : List (List Int)) (ws : List Int) (m : Nat) : pK M ws m M.length 0 = colS M ws m := by
  unfold pK colS colF
  refine List.map_congr_left fun j hj => ?_
  rw [if_neg (by omega)]
theorem pK_at {M : List (List Int)} {ws : List Int} {m i k : Nat} (hk : k < m) : (pK M ws m i k)[k]? = some (sfK ws (fun i => dst M i k) i) := by simp [pK, hk]
theorem pK_len (M : List (List Int)) (ws : List Int) (m i k : Nat) : (pK M ws m i k).length = m := by simp [pK]
theorem pK_set {M : List (List Int)} {ws : List Int} {m i k : Nat} : (pK M ws m i k).set k (sfK ws (fun i => dst M i k) (i + 1)) = pK M ws m i (k + 1) := by
  apply List.ext_getElem (by simp [pK])
  intro j h1 h2
  simp [pK] at h1
  rw [List.getElem_set]
  simp only [pK, List.getElem_map, List.getElem_range]
  by_cases e : k = j
  · subst e; simp
  · rw [if_neg e]
    by_cases hj : j < k
    · rw [if_pos hj, if_pos (by omega)]
    · rw [if_neg hj, if_neg (by omega)]
end Q
/-- What the literal of columnSums captures. -/
structure CoE (W : World) (bc j : Nat) : Prop where
  c0 : W.cell? ⟨bc, 0, none⟩ = some (.int .i64 (j : Int))
  lt : bc < W.heap.size
theorem CoE.on {W W' : World} {bc j : Nat} (h : CoE W bc j) (hb : Below W.heap.size W W') : CoE W' bc j := ⟨(hb.cell (p := ⟨bc, 0, none⟩) h.lt).trans h.c0, Nat.lt_of_lt_of_le h.lt hb.size⟩
theorem CoE.new (W : World) (j : Nat) (t : TypeId) : CoE (W.alloc (.cells #[.int .i64 (j : Int)] t)) W.heap.size j := ⟨by simp, by simp⟩
theorem colit_any (bc j : Nat) (l : List Int) (X : Option Addr) (dX : Nat) (w : World) (hl : l.length ≤ 1048576) (hj : j < l.length) (h : CoE w bc j) (hX : Law.Row w X (ivs l)) :
    Calls Try.prog 168 #[.slice X l.length dX, .pointer (some ⟨bc, 0, none⟩)] w fun e w' => e = .returned (.int .i64 (l.getD j 0)) ∧ w' = w := by
  obtain ⟨z, hz⟩ : ∃ z, l[j]? = some z := ⟨_, List.getElem?_eq_getElem hj⟩
  obtain ⟨b, off, rfl, hb, hc⟩ := hX.at_ (ivs_some hz)
  have e : l.getD j 0 = z := by rw [List.getD_eq_getElem?_getD, hz]; rfl
  have p0 := h.c0
  have hjI : (j : Int) < (l.length : Int) := by omega
  rw [e]
  clear h hX hz e hb
  generalize l.length = n at *
  go_enter Try.func168, Try.ntmps168
  go_wp2
  go_ret
  exact ⟨rfl, rfl⟩
section
variable (A : Option Addr) (c : Nat) (xs : List Value) (M : List (List Int)) (V : Option Addr) (dv : Nat) (ws : List Int) (w : World)
set_option maxRecDepth 100000 in
set_option maxHeartbeats 1600000 in
theorem l11Products_any (m : Nat) (h : Q.Mx M m) (hw : Q.within 0 9 ws = true) (hl : ws.length = M.length) (hM : NRow w A xs M) (hV : Law.Row w V (ivs ws)) :
    Calls Try.prog 120 #[.slice A M.length c, .slice V ws.length dv] w (rowSays1 (Q.colS M ws m) w) := by
  obtain ⟨i0, hi, hz0, hz1, hz2⟩ := info_parts infoInts
  obtain ⟨bA, oA, rfl⟩ := hM.some_ h.n1
  have HMd := Lib.hid fun (W : World) (hb : Below w.heap.size w W) => hM.stays hb
  have HTd := Lib.hid fun (W : World) (hb : Below w.heap.size w W) => (hM.stays hb).tab (n := m) (fun l hl => (h.row l hl).1) h.m1
  have HVd := Lib.hid fun (W : World) (hb : Below w.heap.size w W) => hV.stays hb
  have HP0 := Lib.hid (Q.pK_zero M ws m)
  have HPr := Lib.hid (Q.pK_row M ws m)
  have HPe := Lib.hid (Q.pK_end M ws m)
  have HPa := Lib.hid fun i k (hk : k < m) => Q.pK_at (M := M) (ws := ws) (i := i) hk
  have HPs := Lib.hid fun i k => Q.pK_set (M := M) (ws := ws) (m := m) (i := i) (k := k)
  have HBd := Lib.hid fun i j (hi : i ≤ M.length) (hj : j < m) => Q.colF_bd h hw hl hj hi
  have HS := Lib.hid fun i j z (hz : ws[i]? = some z) => Q.sfK_succ (g := fun i => Q.dst M i j) hz
  have HD := Lib.hid fun i j (hi : i < M.length) (hj : j < m) => h.dst hi hj
  have HWs : Hid (∀ i, i < M.length → ∃ z, ws[i]? = some z ∧ 0 ≤ z ∧ z ≤ 9) := fun i hi => Q.within_at hw (by omega)
  have hm3 := h.m3
  have hm1 := h.m1
  have hn3 := h.n3
  have hlM := h.n1
  have hn1I : (0 : Int) < (M.length : Int) := by omega
  obtain ⟨l0, hl0⟩ : ∃ l0, M[0]? = some l0 := ⟨_, List.getElem?_eq_getElem (by omega)⟩
  obtain ⟨b1, o1, X0, d0, e1, hbb, hc0, _⟩ := hM.row_at hl0
  cases e1
  rw [Nat.add_zero, (h.row l0 (List.mem_of_getElem? hl0)).1] at hc0
  have hln := Q.colS_len M ws m
  show Calls _ _ _ _ (rowSays1 _ _)
  unfold rowSays1
  rw [hln]
  generalize Q.colS M ws m = R at HPe ⊢
  generalize Q.pK M ws m = P at *
  have hwl : M.length ≤ ws.length := by omega
  have hwI : (M.length : Int) ≤ (ws.length : Int) := by omega
  obtain ⟨F, hF⟩ : ∃ F : Nat → Nat → Int, ∀ j i, Q.sfK ws (fun i => Q.dst M i j) i = F j i := ⟨_, fun _ _ => rfl⟩
  simp only [hF] at HPa HPs HBd HS
  generalize ws.length = wn at *
  clear h hw hl hM hV hl0 hln hF hbb
  go_enter Try.func120, Try.ntmps120
  go_wp2_with (at_make; refine wpList_make_full _ rfl _ _ 25 rfl w.heap.size 3 i0 (.int .i64 0) 1 Try.underlying25 hi hz0 hz1 .i64 .i64 _ _ m rfl rfl rfl rfl ?cm1a ?cm1b ?cm1c ?_)
  case cm1a => rw [hz2]; omega
  case cm1b => unfold maxLen; omega
  case cm1c => first | exact Nat.le_refl _ | omega | (simp; done) | (simp; omega)
  intro w1 hm1 hg1
  replace hm1 := made_own (w := w1) hm1
  have HB1 : Hid (Below w.heap.size w w1) := Lib.hid ((Below.refl _ _).grown hg1 (Nat.le_refl _) (fun k e => by cases e))
  clear hg1
  have HO1 : Hid (w1.ownsRow w.heap.size 3 1 (.slice (some ⟨w.heap.size, 0, none⟩) m m) m (ivs (P 0 0))) := by show World.ownsRow _ _ _ _ _ _ _; rw [HP0.out]; exact hm1
  clear hm1
  go_wp2_with fail
  go_loopw [6] (fun i wr => ∃ k : Nat, k ≤ M.length ∧ i = .int .i64 (k : Int) ∧ Hid (wr.ownsRow w.heap.size 3 1 (.slice (some ⟨w.heap.size, 0, none⟩) m m) m (ivs (P k 0))) ∧ Hid (Below w.heap.size w wr)) (fun i _ => M.length - (intOf i).toNat)
  case atStart => exact ⟨0, Nat.zero_le _, rfl, HO1.out, HB1.out⟩
  case round =>
    obtain ⟨k, hk, rfl, ho, hb⟩ := hrel
    obtain ⟨wo, hwo⟩ : ∃ wo, wo = wr := ⟨_, rfl⟩
    rw [← hwo] at ho hb ⊢
    clear hwo
    by_cases hlt : k < M.length
    · have hltI : (k : Int) < (M.length : Int) := by omega
      obtain ⟨z, hz, z0, z9⟩ := HWs.out k hlt
      have HZ := Lib.hid hz
      clear hz
      go_wp2_with fail
      go_loopw [7] (fun i wq => ∃ q : Nat, q ≤ m ∧ i = .int .i64 (q : Int) ∧ Hid (wq.ownsRow w.heap.size 3 1 (.slice (some ⟨w.heap.size, 0, none⟩) m m) m (ivs (P k q))) ∧ Hid (Below w.heap.size w wq)) (fun i _ => m - (intOf i).toNat)
      case atStart => exact ⟨0, Nat.zero_le _, rfl, ho.out, hb.out⟩
      case round =>
        obtain ⟨q, hq, rfl, hoq, hbq⟩ := hrel
        by_cases hltq : q < m
        · have hltqI : (q : Int) < (m : Int) := by omega
          obtain ⟨bV, oV, rfl, hbV, hcV⟩ := (HVd.out wr hbq.out).at_ (ivs_some HZ.out)
          obtain ⟨b2, o2, d2, hc2, hcs2⟩ := HTd.out wr hbq.out k hlt
          have hv2 := hcs2 q hltq
          obtain ⟨D0, D9⟩ := HD.out k q hlt hltq
          have hcO := own_cell hoq.out (HPa.out k q hltq)
          have hfO := hoq.out.frozenAt q
          obtain ⟨f0, f9⟩ := HBd.out k q hk hltq
          have hSS := HS.out k q z HZ.out
          have hp := Q.prod_bd z0 z9 D0 D9
          generalize hY : Q.dst M k q = Y at hv2 D0 D9 hSS hp
          generalize hZY : z * Y = ZY at hSS hp
          obtain ⟨hp0, hp9⟩ := hp
          have hw1 : IntKind.i64.wrap ZY = ZY := IntWalk.i64_in _ (by omega)
          have hw2 : IntKind.i64.wrap (F q k + ZY) = F q k + ZY := IntWalk.i64_in _ (by omega)
          have hkw : (k : Int) < (wn : Int) := by omega
          have HSn := Lib.hid (own_put hoq.out q (F q k + ZY))
          have HT : Hid ((P k q).set q (F q k + ZY) = P k (q + 1)) := by show _ = _; rw [← hSS]; exact HPs.out k q
          have HB' := Lib.hid (hbq.out.setCell (p := ⟨w.heap.size, q, none⟩) (Nat.le_refl _) (.int .i64 (F q k + ZY)))
          have HH : Hid (wr.drew.cell? ⟨w.heap.size, q, none⟩ = some (.int .i64 (F q k)) ∧ wr.drew.frozen? ⟨w.heap.size, q, none⟩ = false) := ⟨hcO, hfO⟩
          clear hoq hbq hSS hY hcs2 ho hb
          go_wp2_with fail
          go_still_tail 19, (by kernel_rfl)
          change wpList _ _ _ _ _ wr.drew
          obtain ⟨hcO', hfO'⟩ := HH.out
          go_wp2
          go_roundw
          case rel => exact ⟨q + 1, by omega, by go_num, (by show World.ownsRow _ _ _ _ _ _ _; rw [← HT.out]; exact HSn.out), HB'.out.drew⟩
          case measure => simp [intOf]; omega
        · have hqe : q = m := by omega
          have hltqI : ¬ (q : Int) < (m : Int) := by omega
          have HN : Hid (P k q = P (k + 1) 0) := by show _ = _; rw [hqe]; exact HPr.out k
          have HOq : Hid (wr.ownsRow w.heap.size 3 1 (.slice (some ⟨w.heap.size, 0, none⟩) m m) m (ivs (P (k + 1) 0))) := by show World.ownsRow _ _ _ _ _ _ _; rw [← HN.out]; exact hoq.out
          clear hqe ho hb hoq
          go_wp2
          go_roundw
          case rel => exact ⟨k + 1, by omega, by go_num, HOq.out, hbq.out⟩
          case measure => simp [intOf]; omega
    · have hke : k = M.length := by omega
      have hltI : ¬ (k : Int) < (M.length : Int) := by omega
      have HN : Hid (P k 0 = R) := by show _ = _; rw [hke]; exact HPe.out
      clear hke
      go_wp2
      go_ret
      refine ⟨_, rfl, ?_, hb.out⟩
      have h := ho.out
      rw [HN.out] at h
      exact h
set_option maxRecDepth 100000 in
set_option maxHeartbeats 1600000 in
theorem columnSums_any (m : Nat) (h : Q.Mx M m) (hw : Q.within 0 9 ws = true) (hl : ws.length = M.length) (hM : NRow w A xs M) (hV : Law.Row w V (ivs ws)) :
    Calls Try.prog 123 #[.slice A M.length c, .slice V ws.length dv] w (rowSays1 (Q.colS M ws m) w) := by
  obtain ⟨i0, hi, hz0, hz1, hz2⟩ := info_parts infoInts
  obtain ⟨bA, oA, rfl⟩ := hM.some_ h.n1
  have hlM := h.n1
  have hm3 := h.m3
  have hm1 := h.m1
  have hn3 := h.n3
  have hrl : ∀ l ∈ M, l.length ≤ 1048576 := fun l hl => by have := (h.row l hl).1; omega
  have HC := Lib.hid fun (j bc : Nat) (W : World) (hj : j < m) (hb : Below w.heap.size w W) (he : CoE W bc j) => SumScs.sumOf_any (.pointer (some ⟨bc, 0, none⟩)) (fun W => CoE W bc j) (fun l => l.getD j 0) V dv ws (some ⟨bA, oA, none⟩) c xs M W (fun W W' h hb => h.on hb) (fun l X dX W hm he hX => colit_any bc j l X dX W (hrl l hm) (by rw [(h.row l hm).1]; exact hj) he hX) hl (by omega) (fun k hk => by
    have := Q.colF_bd h hw hl hj hk
    show _ ≤ Q.sfK ws (fun i => Q.dst M i j) k ∧ Q.sfK ws (fun i => Q.dst M i j) k ≤ _
    omega) (fun k z hk hz => by
    obtain ⟨z', hz', z0, z9⟩ := Q.within_at hw (k := k) (by omega)
    rw [hz] at hz'
    cases hz'
    have d := h.dst hk hj
    have := Q.prod_bd z0 z9 d.1 d.2
    show _ ≤ z * Q.dst M k j ∧ z * Q.dst M k j ≤ _
    omega) he (hV.stays hb) (hM.stays hb)
  have HFz := Lib.hid (Q.fill_zero (Q.colF M ws) m)
  have HFs := Lib.hid fun k => Q.fill_set (f := Q.colF M ws) (n := m) (k := k)
  have HF0 := Lib.hid fun k (hk : k < m) => Q.fill_at (f := Q.colF M ws) hk
  have HFe : Hid (Q.fillK (Q.colF M ws) m m = Q.colS M ws m) := Q.fill_end _ _
  generalize Q.fillK (Q.colF M ws) m = FK at HFz HFs HF0 HFe
  have hn1I : (0 : Int) < (M.length : Int) := by omega
  obtain ⟨l0, hl0⟩ : ∃ l0, M[0]? = some l0 := ⟨_, List.getElem?_eq_getElem (by omega)⟩
  obtain ⟨b1, o1, X0, d0, e1, hbb, hc0, _⟩ := hM.row_at hl0
  cases e1
  rw [Nat.add_zero, (h.row l0 (List.mem_of_getElem? hl0)).1] at hc0
  have hln := Q.colS_len M ws m
  show Calls _ _ _ _ (rowSays1 _ _)
  unfold rowSays1
  rw [hln]
  generalize Q.colS M ws m = R at HFe ⊢
  have hb0 : Below w.heap.size w (w.alloc (.cells #[.slice V ws.length dv, .slice (some ⟨bA, oA, none⟩) M.length c] 110)) := (Below.refl _ _).alloc (Nat.le_refl _) _
  have hc0' := (hb0.cell (p := ⟨bA, oA, none⟩) hbb).trans hc0
  have HK := Lib.hid (Bk2.new w (.slice V ws.length dv) (.slice (some ⟨bA, oA, none⟩) M.length c) 110)
  have HB0 := Lib.hid hb0
  have HFf : Hid (∀ j, Q.sfK ws (fun i => (fun l : List Int => l.getD j 0) (M.getD i [])) M.length = Q.colF M ws j) := fun j => rfl
  obtain ⟨F, hF⟩ : ∃ F : Nat → Int, F = Q.colF M ws := ⟨_, rfl⟩
  simp only [HFf.out] at HC
  rw [← hF] at HFs
  simp only [← hF] at HC
  clear h hw hl hM hV hl0 hln hF hbb hb0 hrl HFf hc0
  generalize ws.length = wn at *
  go_enter Try.func123, Try.ntmps123
  go_wp2_with (at_make; refine wpList_make_full _ rfl _ _ 25 rfl (w.heap.size + 1) 3 i0 (.int .i64 0) 1 Try.underlying25 hi hz0 hz1 .i64 .i64 _ _ m rfl rfl rfl rfl ?cm1a ?cm1b ?cm1c ?_)
  case cm1a => rw [hz2]; omega
  case cm1b => unfold maxLen; omega
  case cm1c => first | exact Nat.le_refl _ | omega | (simp; done) | (simp; omega)
  intro w1 hm1 hg1
  replace hm1 := made_own (w := w1) hm1
  have HB1 : Hid (Below (w.alloc (.cells #[.slice V wn dv, .slice (some ⟨bA, oA, none⟩) M.length c] 110)).heap.size (w.alloc (.cells #[.slice V wn dv, .slice (some ⟨bA, oA, none⟩) M.length c] 110)) w1) := Lib.hid ((Below.refl _ _).grown hg1 (Nat.le_refl _) (fun k e => by cases e))
  have hsa0 : (w.alloc (.cells #[.slice V wn dv, .slice (some ⟨bA, oA, none⟩) M.length c] 110)).heap.size = w.heap.size + 1 := by simp
  clear hg1
  generalize w.alloc (.cells #[.slice V wn dv, .slice (some ⟨bA, oA, none⟩) M.length c] 110) = wa at HK HB0 hc0' HB1 hsa0 hm1 ⊢
  try rw [← hsa0] at hm1
  try rw [← hsa0]
  have HO1 : Hid (w1.ownsRow wa.heap.size 3 1 (.slice (some ⟨wa.heap.size, 0, none⟩) m m) m (ivs (FK 0))) := by show World.ownsRow _ _ _ _ _ _ _; rw [HFz.out]; exact hm1
  have HK1 := Lib.hid (HK.out.on HB1.out)
  have HBw := Lib.hid (Law.then_ HB0.out HB1.out)
  have hwa : w.heap.size < wa.heap.size := by omega
  clear hm1 hc0' hsa0
  go_wp2_with fail
  go_loopw [18] (fun i wr => ∃ k : Nat, k ≤ m ∧ i = .int .i64 (k : Int) ∧ Hid (wr.ownsRow wa.heap.size 3 1 (.slice (some ⟨wa.heap.size, 0, none⟩) m m) m (ivs (FK k))) ∧ Hid (Below w.heap.size w wr) ∧ Hid (Bk2 wr w.heap.size (.slice V wn dv) (.slice (some ⟨bA, oA, none⟩) M.length c))) (fun i _ => m - (intOf i).toNat)
  case atStart => exact ⟨0, Nat.zero_le _, rfl, HO1.out, HBw.out, HK1.out⟩
  case round =>
    obtain ⟨k, hk, rfl, ho, hb, hbk⟩ := hrel
    by_cases hlt : k < m
    · have hltI : (k : Int) < (m : Int) := by omega
      have HE := Lib.hid (CoE.new wr k 3)
      have hb1 : Below wr.heap.size wr (wr.alloc (.cells #[.int .i64 (k : Int)] 3)) := (Below.refl _ _).alloc (Nat.le_refl _) _
      have HO2 := Lib.hid (own_past ho.out hb1)
      have HB2 := Lib.hid (Law.then_ hb.out hb1)
      have HBk := Lib.hid (hbk.out.on hb1)
      have HCk := Lib.hid fun bc W h1 h2 => HC.out k bc W hlt h1 h2
      have HFk := Lib.hid (HFs.out k)
      generalize F k = z at HCk HFk
      have HFa := Lib.hid (HF0.out k hlt)
      clear ho hb hbk hb1
      go_wp2_with fail
      obtain ⟨bc, hbc⟩ : ∃ bc, bc = wr.heap.size := ⟨_, rfl⟩
      generalize wr.alloc (.cells #[.int .i64 (k : Int)] 3) = wq at HE HO2 HB2 HBk ⊢
      rw [← hbc] at HE ⊢
      clear hbc
      obtain ⟨q0, q1, _, _, _⟩ := HBk.out
      have e0 := HE.out.c0
      have hcO := own_cell HO2.out HFa.out
      have hfO := HO2.out.frozenAt k
      have HCq : Hid (∀ W, Below wq.heap.size wq W → Calls Try.prog 158 #[.agg #[.slice V wn dv, .slice (some ⟨bA, oA, none⟩) M.length c], SumScs.lit (.pointer (some ⟨bc, 0, none⟩))] W fun e w' => e = .returned (.int .i64 z) ∧ Below W.heap.size W w') := fun W h => (HCk.out bc W (Law.then_ HB2.out h) (HE.out.on h)).mono fun e w' h2 => by
        obtain ⟨he, mq, hw⟩ := h2
        exact ⟨he, by rw [hw]; exact Law.up ((Below.refl _ _).alloc (Nat.le_refl _) _) mq⟩
      clear HCk
      go_region_law ((go_simp; go_at_call 158; refine (HCq.out _ ((Below.refl _ _).drew)).mono ?_; rintro e w10 ⟨rfl, hb10⟩; have hb11 := ((Below.refl wq.heap.size wq).drew).trans hb10; have HB11 := Lib.hid hb11; clear hb10 q0 q1 e0 hcO hfO; obtain ⟨q0, q1, _, _, _⟩ := HBk.out.on hb11; have e0 := (HE.out.on hb11).c0; have hcO := own_cell (own_past HO2.out hb11) HFa.out; have hfO := (own_past HO2.out hb11).frozenAt k; clear hb11))
      all_goals
        have ho2 := own_past HO2.out HB11.out
        have HSn := Lib.hid (own_put ho2 k z)
        rw [HFk.out] at HSn
        have hb2 := Law.then_ HB2.out HB11.out
        have HBn := Lib.hid (hb2.setCell (p := ⟨wa.heap.size, k, none⟩) (by show w.heap.size ≤ wa.heap.size; omega) (.int .i64 z))
        have HKn := Lib.hid ((HBk.out.on HB11.out).below (Below.setCell (p := ⟨wa.heap.size, k, none⟩) (Below.refl wa.heap.size w10) (Nat.le_refl _) (.int .i64 z)) (by omega))
        clear ho2 hb2
        go_wp2
        go_roundw
        case rel => exact ⟨k + 1, by omega, by go_num, HSn.out, HBn.out, HKn.out⟩
        case measure => simp [intOf]; omega
    · have hke : k = m := by omega
      have hltI : ¬ (k : Int) < (m : Int) := by omega
      have HN : Hid (FK k = R) := by show _ = _; rw [hke]; exact HFe.out
      clear hke
      go_wp2
      go_ret
      refine ⟨_, rfl, ?_, hb.out⟩
      have h := ho.out
      rw [HN.out] at h
      exact own_down h (by omega)
end
end Go.Proofs.Ytammlkaclooohaa
