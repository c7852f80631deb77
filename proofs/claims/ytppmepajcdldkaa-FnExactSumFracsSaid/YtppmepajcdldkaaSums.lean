/-
  Sums of lists of fractions: the fold that both ways make, and the code's way (sumOfTerms over the function literal of SumFracs, SumFracs).
-/
import Derived.Test.YtppmepajcdldkaaLoc
import Derived.Test.YtppmepajcdldkaaAdd
import Derived.Test.YtppmepajcdldkaaLaw2
import Derived.Deep.RegionHeld3
import Derived.Deep.DeepCutAuto
namespace Go.Proofs.Ytppmepajcdldkaa
open Go.RowKit
set_option linter.unusedVariables false
namespace F
def step (x : Int × Int × Bool) (z : Int × Int) : Int × Int × Bool := if x.2.2 = true then gate x.1 x.2.1 z.1 z.2 (mk (x.1 * z.2 + z.1 * x.2.1) (x.2.1 * z.2)) else (0, 0, false)
def fold (zs : List (Int × Int)) (k : Nat) : Int × Int × Bool := (zs.take k).foldl step (0, 1, true)
def sum (zs : List (Int × Int)) : Int × Int × Bool := if zs.length ≤ 100 then fold zs zs.length else (0, 0, false)
theorem fold_succ {zs : List (Int × Int)} {k : Nat} {z : Int × Int} (h : zs[k]? = some z) : fold zs (k + 1) = step (fold zs k) z := by
  obtain ⟨hk, e⟩ := List.getElem?_eq_some_iff.1 h
  unfold fold
  rw [List.take_succ_eq_append_getElem hk, List.foldl_append, e]
  rfl
theorem mk_good {n d : Int} (h : (mk n d).2.2 = true) : good (mk n d).1 (mk n d).2.1 = true := by
  unfold mk at h ⊢
  split at h
  · rename_i hg
    rw [if_pos hg]
    exact hg
  · exact Bool.noConfusion h
theorem mk_zero {n d : Int} (h : (mk n d).2.2 = false) : mk n d = (0, 0, false) := by
  unfold mk at h ⊢
  split at h
  · exact Bool.noConfusion h
  · rename_i hg
    rw [if_neg hg]
theorem step_good {x : Int × Int × Bool} {z : Int × Int} (h : (step x z).2.2 = true) : good (step x z).1 (step x z).2.1 = true := by
  unfold step gate at h ⊢
  split at h
  · rename_i h1
    rw [if_pos h1]
    split at h
    · rename_i h2
      rw [if_pos h2]
      exact mk_good h
    · exact Bool.noConfusion h
  · exact Bool.noConfusion h
theorem step_zero {x : Int × Int × Bool} {z : Int × Int} (h : (step x z).2.2 = false) : step x z = (0, 0, false) := by
  unfold step gate at h ⊢
  split at h
  · rename_i h1
    rw [if_pos h1]
    split at h
    · rename_i h2
      rw [if_pos h2]
      exact mk_zero h
    · rename_i h2
      rw [if_neg h2]
  · rename_i h1
    rw [if_neg h1]
theorem fold_good (zs : List (Int × Int)) : ∀ k, k ≤ zs.length → (fold zs k).2.2 = true → good (fold zs k).1 (fold zs k).2.1 = true
  | 0, _, _ => (by decide : good 0 1 = true)
  | k + 1, hk, h => by
    rw [fold_succ (List.getElem?_eq_getElem (by omega : k < zs.length))] at h ⊢
    exact step_good h
theorem fold_dead {zs : List (Int × Int)} {k : Nat} (h : (fold zs k).2.2 = false) : ∀ j, k + j ≤ zs.length → 0 < k + j → fold zs (k + j) = (0, 0, false)
  | 0, hj, h0 => by
    obtain ⟨i, rfl⟩ : ∃ i, k = i + 1 := ⟨k - 1, by omega⟩
    rw [Nat.add_zero, fold_succ (List.getElem?_eq_getElem (by omega : i < zs.length))] at *
    exact step_zero h
  | j + 1, hj, h0 => by
    rw [show k + (j + 1) = (k + j) + 1 from rfl, fold_succ (List.getElem?_eq_getElem (by omega : k + j < zs.length))]
    rcases Nat.eq_zero_or_pos (k + j) with h' | h'
    · exfalso
      obtain rfl : k = 0 := by omega
      exact Bool.noConfusion h
    · rw [fold_dead h j (by omega) h']
      rfl
/-- Once it has failed it stays so. -/
theorem fold_end {zs : List (Int × Int)} {k : Nat} (hk : k ≤ zs.length) (h0 : 0 < k) (h : (fold zs k).2.2 = false) : fold zs zs.length = (0, 0, false) := by
  have := fold_dead h (zs.length - k) (by omega) (by omega)
  rwa [show k + (zs.length - k) = zs.length from by omega] at this
/-- A number that is no fraction makes the whole sum fail. -/
theorem fold_bad {zs : List (Int × Int)} {k : Nat} {z : Int × Int} (hz : zs[k]? = some z) (hg : good z.1 z.2 = false) : fold zs zs.length = (0, 0, false) := by
  obtain ⟨hk, _⟩ := List.getElem?_eq_some_iff.1 hz
  refine fold_end (k := k + 1) (by omega) (by omega) ?_
  rw [fold_succ hz]
  unfold step
  split
  · rw [gate_no2 _ hg]
  · rfl
end F
theorem sumTerm_any (zs : List (Int × Int)) (A : Option Addr) (c k : Nat) (bx : Nat) (z : Int × Int) (w : World) (hk : zs[k]? = some z) (hn : zs.length ≤ 1048576) (hbx : w.cell? ⟨bx, 0, none⟩ = some (.slice A zs.length c)) (hlx : bx < w.heap.size) (hr : Law.Row2 w A zs) :
    Calls Try.prog 53 #[.int .i64 (k : Int), .pointer (some ⟨bx, 0, none⟩)] w fun e w' => e = .returned (fr z.1 z.2) ∧ Below w.heap.size w w' := by
  obtain ⟨b, off, rfl, hbl, hc0, hc1⟩ := hr.at_ hk
  obtain ⟨hlt, _⟩ := List.getElem?_eq_some_iff.1 hk
  have hltI : (k : Int) < (zs.length : Int) := by omega
  clear hr hk
  go_enter Try.func53, Try.ntmps53
  go_wp2
  refine ret_frac1 rfl rfl rfl (b := w.heap.size) (x := .int .i64 z.1) (y := .int .i64 z.2) ⟨by go_simp, by go_simp, by go_simp, by go_simp⟩ ⟨rfl, ?_⟩
  (repeat (first | exact Below.refl _ _ | refine Below.setCell ?_ (by first | omega | (simp; omega) | (simp; done)) _ | refine Below.drew ?_ | refine Law.up ?_ _ | refine Below.alloc ?_ (by first | omega | (simp; omega) | (simp; done)) _ | refine Law.then_ ?_ (Hid.out (by assumption))))
set_option maxHeartbeats 1600000 in
theorem sumTerms_any (zs : List (Int × Int)) (A : Option Addr) (c : Nat) (bx : Nat) (w : World) (hn : zs.length ≤ 100) (hwf : ∀ z ∈ zs, (Lit.int .i64 z.1).wf = true ∧ (Lit.int .i64 z.2).wf = true) (hbx : w.cell? ⟨bx, 0, none⟩ = some (.slice A zs.length c)) (hlx : bx < w.heap.size) (hr : Law.Row2 w A zs) :
    Calls Try.prog 52 #[.int .i64 (zs.length : Int), .func (.func 53) #[] #[.pointer (some ⟨bx, 0, none⟩)]] w fun e w' => e = .returned (res (F.fold zs zs.length)) ∧ Below w.heap.size w w' := by
  have HT : Hid (∀ (k : Nat) (z : Int × Int) (W : World), zs[k]? = some z → Below w.heap.size w W → Calls Try.prog 53 #[.int .i64 (k : Int), .pointer (some ⟨bx, 0, none⟩)] W fun e w' => e = .returned (fr z.1 z.2) ∧ Below W.heap.size W w') := Lib.hid fun k z W hz hW =>
    sumTerm_any zs A c k bx z W hz (by omega) ((hW.cell (p := ⟨bx, 0, none⟩) hlx).trans hbx) (Nat.lt_of_lt_of_le hlx hW.size) (hr.stays hW)
  have HW := Lib.hid hwf
  clear hwf hbx hr
  go_enter Try.func52, Try.ntmps52
  go_wp2
  go_loopw [12] (fun i wr => ∃ (k : Nat) (N D : Int), k ≤ zs.length ∧ i = .int .i64 (k : Int) ∧ Hid (F.fold zs k = (N, D, true)) ∧ Hid (Loc w N D wr)) (fun i _ => zs.length - (intOf i).toNat)
  case atStart => exact ⟨0, 0, 1, Nat.zero_le _, rfl, rfl, ⟨⟨by go_simp, by go_simp, by go_simp, by go_simp⟩, ⟨by go_simp, by go_simp, by go_simp, by go_simp⟩, ((Below.refl _ _).alloc (Nat.le_refl _) _).alloc (by simp) _, by simp⟩⟩
  case round =>
    obtain ⟨k, N, D, hk, rfl, hfold, hloc⟩ := hrel
    by_cases hlt : k < zs.length
    · have hzk : zs[k]? = some zs[k] := List.getElem?_eq_getElem hlt
      have hltI : (k : Int) < (zs.length : Int) := by omega
      have hm := HW.out zs[k] (List.getElem_mem hlt)
      obtain ⟨z, hz⟩ : ∃ z, z = zs[k] := ⟨_, rfl⟩
      rw [← hz] at hzk hm
      obtain ⟨z1, z2⟩ := z
      have HTk := Lib.hid fun (W : World) (hW : Below w.heap.size w W) => HT.out k (z1, z2) W hzk hW
      have hg : F.good N D = true := by
        have := F.fold_good zs k hk (by rw [hfold.out])
        rw [hfold.out] at this
        exact this
      have gb := F.good_iff.1 hg
      have HA := Lib.hid fun W => implAdd_any N D z1 z2 W (wf_small (by omega) (by omega)) (wf_small (by omega) (by omega)) hm.1 hm.2
      have HS : Hid (F.fold zs (k + 1) = F.gate N D z1 z2 (F.mk (N * z2 + z1 * D) (D * z2))) := by
        show _ = _
        rw [F.fold_succ hzk, hfold.out]
        rfl
      generalize F.gate N D z1 z2 (F.mk (N * z2 + z1 * D) (D * z2)) = X at HA HS
      obtain ⟨N', D', ok⟩ := X
      replace HA : Hid (∀ W, Calls Try.prog 20 #[fr N D, fr z1 z2] W fun e w' => e = .returned (.tuple #[.agg #[.int .i64 N', .int .i64 D'], .bool ok]) ∧ Below W.heap.size W w') := HA
      replace HTk : Hid (∀ W : World, Below w.heap.size w W → Calls Try.prog 53 #[.int .i64 (k : Int), .pointer (some ⟨bx, 0, none⟩)] W fun e w' => e = .returned (fr z1 z2) ∧ Below W.heap.size W w') := HTk
      have h0 := hloc.out
      clear hz hzk hm gb hg hloc
      go_upto_region 5 with fail
      have hsz := h0.sz
      go_cut [8, 9] (fun s8 s9 wx => ∃ b, s8 = .pointer (some ⟨b, 0, none⟩) ∧ s9 = .bool ok ∧ Blk wx b (.int .i64 N') (.int .i64 D') ∧ Hid (Loc w N D wx))
      case first =>
        have hs0 : wr.drew.cell? ⟨w.heap.size + 1, 0, none⟩ = some (.int .i64 N) ∧ wr.drew.cell? ⟨w.heap.size + 1, 1, none⟩ = some (.int .i64 D) ∧ Loc w N D wr.drew := ⟨h0.tot.c0, h0.tot.c1, ⟨⟨h0.tot.c0, h0.tot.c1, h0.tot.f0, h0.tot.f1⟩, ⟨h0.res.c0, h0.res.c1, h0.res.f0, h0.res.f1⟩, h0.bel.drew, h0.sz⟩⟩
        go_region_held3 (fun w' => w'.cell? ⟨w.heap.size + 1, 0, none⟩ = some (.int .i64 N) ∧ w'.cell? ⟨w.heap.size + 1, 1, none⟩ = some (.int .i64 D) ∧ Loc w N D w') ((first | exact hs0 | exact seen_call (by assumption) (by assumption) | exact seen_alloc (by assumption) _ | exact seen_store (seen_store (by assumption) (by first | omega | (simp; omega) | (simp; done)) _) (by first | omega | (simp; omega) | (simp; done)) _ | exact seen_realloc _ _ (by assumption) (by first | omega | (simp; omega) | (simp; done)))) (first
          | (go_at_call 53; refine (HTk.out _ (by first | exact hs0.2.2.bel | exact (by assumption : _ ∧ _ ∧ Loc w N D _).2.2.bel)).mono ?_; rintro e w1 ⟨rfl, hb1⟩; have sz1 := hb1.size; (try simp at sz1); (try (refine Blk.carry (b := wr.heap.size) (x := .int .i64 0) (y := .int .i64 0) hb1 ?_ ?_ ?_ ?_ ?_ ?_; (focus (go_simp; done)); (focus (go_simp; done)); (focus (go_simp; done)); (focus (go_simp; done)); (focus (first | omega | (simp; omega) | (simp; done))); rintro ⟨ce100, ce101, fe100, fe101⟩)))
          | (go_at_call 20; refine (HA.out _).mono ?_; rintro e w2 ⟨rfl, hb2⟩; have sz2 := hb2.size; (try simp at sz2); (try (refine Blk.carry (b := wr.heap.size) (x := .int .i64 0) (y := .int .i64 0) hb2 ?_ ?_ ?_ ?_ ?_ ?_; (focus (go_simp; done)); (focus (go_simp; done)); (focus (go_simp; done)); (focus (go_simp; done)); (focus (first | omega | (simp; omega) | (simp; done))); rintro ⟨ce200, ce201, fe200, fe201⟩)); (try (refine Blk.carry (b := w1.heap.size) (x := .int .i64 0) (y := .int .i64 0) hb2 ?_ ?_ ?_ ?_ ?_ ?_; (focus (go_simp; done)); (focus (go_simp; done)); (focus (go_simp; done)); (focus (go_simp; done)); (focus (first | omega | (simp; omega) | (simp; done))); rintro ⟨ce210, ce211, fe210, fe211⟩))))
        all_goals (go_wp2_with fail; go_meet; refine ⟨_, rfl, rfl, ?_, (by assumption : _ ∧ _ ∧ Loc w N D _).2.2⟩)
        all_goals first | exact Blk.set2 ⟨by assumption, by assumption, by assumption, by assumption⟩ _ _ | exact ⟨by go_simp, by go_simp, by go_simp, by go_simp⟩
      case rest =>
      obtain ⟨b, rfl, rfl, ⟨k0, k1, k2, k3⟩, hl⟩ := hcut
      have h5 := hl.out
      obtain ⟨t0, t1, t2, t3⟩ := h5.tot
      obtain ⟨r0, r1, r2, r3⟩ := h5.res
      have B0 := Lib.hid h5.bel
      have HP := Lib.hid (h5.put N' D')
      clear h5 hl h0 HTk HA
      cases ok
      · have HE := Lib.hid (F.fold_end (zs := zs) (k := k + 1) (by omega) (by omega) (by rw [HS.out]))
        go_wp2
        refine ret_frac rfl rfl rfl (Blk.set2 ⟨r0, r1, r2, r3⟩ _ _) rfl ⟨by rw [HE.out]; rfl, ?_⟩
        (repeat (first | exact Below.refl _ _ | refine Below.setCell ?_ (by first | omega | (simp; omega) | (simp; done)) _ | refine Below.drew ?_ | refine Law.up ?_ _ | refine Below.alloc ?_ (by first | omega | (simp; omega) | (simp; done)) _ | refine Law.then_ ?_ (Hid.out (by assumption))))
      · go_wp2
        go_roundw
        case rel => exact ⟨k + 1, N', D', by omega, by go_num, HS.out, HP.out⟩
        case measure => simp [intOf]; omega
    · have hke : k = zs.length := by omega
      have hltI : ¬ (k : Int) < (zs.length : Int) := by omega
      have h0 := hloc.out
      obtain ⟨t0, t1, t2, t3⟩ := h0.tot
      obtain ⟨r0, r1, r2, r3⟩ := h0.res
      have B0 := Lib.hid h0.bel
      have HE : Hid (F.fold zs zs.length = (N, D, true)) := by show _ = _; rw [← hke]; exact hfold.out
      clear h0 hloc hke
      go_wp2
      refine ret_frac rfl rfl rfl (Blk.set2 ⟨r0, r1, r2, r3⟩ _ _) rfl ⟨by rw [HE.out]; rfl, ?_⟩
      (repeat (first | exact Below.refl _ _ | refine Below.setCell ?_ (by first | omega | (simp; omega) | (simp; done)) _ | refine Below.drew ?_ | refine Law.up ?_ _ | refine Below.alloc ?_ (by first | omega | (simp; omega) | (simp; done)) _ | refine Law.then_ ?_ (Hid.out (by assumption))))
end Go.Proofs.Ytppmepajcdldkaa
