/-
  Harmonic numbers: the model's (l2Harmonic, Harmonic) and the code's (sumOfTerms over a function literal, Harmonic).
-/
import Derived.Test.YtppmepajcdldkabAdb
import Derived.Deep.RegionHeld3
import Derived.Deep.DeepCutAuto
namespace Go.Proofs.Ytppmepajcdldkab
open Go.RowKit
set_option linter.unusedVariables false
namespace F
def harm : Nat → Int × Int
  | 0 => (0, 1)
  | k + 1 => ((mk ((harm k).1 * ((k : Int) + 1) + 1 * (harm k).2) ((harm k).2 * ((k : Int) + 1))).1, (mk ((harm k).1 * ((k : Int) + 1) + 1 * (harm k).2) ((harm k).2 * ((k : Int) + 1))).2.1)
theorem harm_step : ∀ k, k < 12 → good (harm k).1 (harm k).2 = true ∧ good 1 ((k : Int) + 1) = true ∧ mk ((harm k).1 * ((k : Int) + 1) + 1 * (harm k).2) ((harm k).2 * ((k : Int) + 1)) = ((harm (k + 1)).1, (harm (k + 1)).2, true) := by decide +kernel
end F
/-- What a sum's loop keeps: the total, the result's block, all that is older. -/
structure Loc (w : World) (N D : Int) (W : World) : Prop where
  tot : Blk W (w.heap.size + 1) (.int .i64 N) (.int .i64 D)
  res : Blk W w.heap.size (.int .i64 0) (.int .i64 0)
  bel : Below w.heap.size w W
  sz : w.heap.size + 2 ≤ W.heap.size
section
variable {w W w' : World} {N D : Int}
theorem Loc.past {B : Nat} (h : Loc w N D W) (hb : Below B W w') (hB : w.heap.size + 2 ≤ B) : Loc w N D w' := ⟨h.tot.below hb (by omega), h.res.below hb (by omega), h.bel.trans (hb.mono (by omega)), Nat.le_trans h.sz hb.size⟩
theorem Loc.call (h : Loc w N D W) (hb : Below W.heap.size W w') : Loc w N D w' := h.past hb h.sz
theorem Loc.put (h : Loc w N D W) (N' D' : Int) : Loc w N' D' ((W.setCell ⟨w.heap.size + 1, 0, none⟩ (.int .i64 N')).setCell ⟨w.heap.size + 1, 1, none⟩ (.int .i64 D')) := by
  have hb : Below (w.heap.size + 1) W ((W.setCell ⟨w.heap.size + 1, 0, none⟩ (.int .i64 N')).setCell ⟨w.heap.size + 1, 1, none⟩ (.int .i64 D')) := Below.setCell (p := ⟨w.heap.size + 1, 1, none⟩) (Below.setCell (p := ⟨w.heap.size + 1, 0, none⟩) (Below.refl _ _) (Nat.le_refl _) _) (Nat.le_refl _) _
  exact ⟨h.tot.set2 _ _, h.res.below hb (by omega), h.bel.trans (hb.mono (by omega)), Nat.le_trans h.sz hb.size⟩
/-- .. in the form that a drawn region wants: the loaded cells in sight. -/
abbrev Seen (w : World) (N D : Int) (W : World) : Prop := W.cell? ⟨w.heap.size + 1, 0, none⟩ = some (.int .i64 N) ∧ W.cell? ⟨w.heap.size + 1, 1, none⟩ = some (.int .i64 D) ∧ Loc w N D W
theorem Loc.seen (h : Loc w N D W) : W.cell? ⟨w.heap.size + 1, 0, none⟩ = some (.int .i64 N) ∧ W.cell? ⟨w.heap.size + 1, 1, none⟩ = some (.int .i64 D) ∧ Loc w N D W := ⟨h.tot.c0, h.tot.c1, h⟩
theorem seen_call (h : W.cell? ⟨w.heap.size + 1, 0, none⟩ = some (.int .i64 N) ∧ W.cell? ⟨w.heap.size + 1, 1, none⟩ = some (.int .i64 D) ∧ Loc w N D W) (hb : Below W.heap.size W w') : w'.cell? ⟨w.heap.size + 1, 0, none⟩ = some (.int .i64 N) ∧ w'.cell? ⟨w.heap.size + 1, 1, none⟩ = some (.int .i64 D) ∧ Loc w N D w' := (h.2.2.call hb).seen
theorem seen_alloc (h : W.cell? ⟨w.heap.size + 1, 0, none⟩ = some (.int .i64 N) ∧ W.cell? ⟨w.heap.size + 1, 1, none⟩ = some (.int .i64 D) ∧ Loc w N D W) (o : Obj) : (W.alloc o).cell? ⟨w.heap.size + 1, 0, none⟩ = some (.int .i64 N) ∧ (W.alloc o).cell? ⟨w.heap.size + 1, 1, none⟩ = some (.int .i64 D) ∧ Loc w N D (W.alloc o) := seen_call h ((Below.refl _ _).alloc (Nat.le_refl _) o)
theorem seen_store (h : W.cell? ⟨w.heap.size + 1, 0, none⟩ = some (.int .i64 N) ∧ W.cell? ⟨w.heap.size + 1, 1, none⟩ = some (.int .i64 D) ∧ Loc w N D W) {p : Addr} (hp : w.heap.size + 2 ≤ p.block) (v : Value) : (W.setCell p v).cell? ⟨w.heap.size + 1, 0, none⟩ = some (.int .i64 N) ∧ (W.setCell p v).cell? ⟨w.heap.size + 1, 1, none⟩ = some (.int .i64 D) ∧ Loc w N D (W.setCell p v) :=
  (h.2.2.past ((Below.refl _ _).setCell hp v) (Nat.le_refl _)).seen
theorem seen_realloc (o o' : Obj) (h : (W.alloc o).cell? ⟨w.heap.size + 1, 0, none⟩ = some (.int .i64 N) ∧ (W.alloc o).cell? ⟨w.heap.size + 1, 1, none⟩ = some (.int .i64 D) ∧ Loc w N D (W.alloc o)) (hW : w.heap.size + 2 ≤ W.heap.size) :
    (W.alloc o').cell? ⟨w.heap.size + 1, 0, none⟩ = some (.int .i64 N) ∧ (W.alloc o').cell? ⟨w.heap.size + 1, 1, none⟩ = some (.int .i64 D) ∧ Loc w N D (W.alloc o') := by
  obtain ⟨_, _, h⟩ := h
  have hb : Below W.heap.size (W.alloc o) (W.alloc o') := ⟨rfl, rfl, rfl, by simp, fun k hk => by rw [Below.heap_alloc W o' k hk, Below.heap_alloc W o k hk]⟩
  exact (h.past hb hW).seen
end
theorem harmTerm_any (k : Int) (w : World) (h1 : 0 ≤ k) (h2 : k ≤ 1000) : Calls Try.prog 21 #[.int .i64 k] w fun e w' => e = .returned (fr 1 (k + 1)) ∧ Below w.heap.size w w' := by
  go_enter Try.func21, Try.ntmps21
  go_wp2
  refine ret_frac1 rfl rfl rfl (b := w.heap.size) (x := .int .i64 1) (y := .int .i64 (k + 1)) ⟨by go_simp, by go_simp, by go_simp, by go_simp⟩ ⟨rfl, ?_⟩
  (repeat (first | exact Below.refl _ _ | refine Below.setCell ?_ (by first | omega | (simp; omega) | (simp; done)) _ | refine Below.drew ?_ | refine Law.up ?_ _ | refine Below.alloc ?_ (by first | omega | (simp; omega) | (simp; done)) _ | refine Law.then_ ?_ (Hid.out (by assumption))))
set_option maxHeartbeats 800000 in
theorem sumHarm_any (n : Nat) (w : World) (hn : n ≤ 12) : Calls Try.prog 20 #[.int .i64 (n : Int), .func (.func 21) #[] #[]] w fun e w' => e = .returned (.tuple #[fr (F.harm n).1 (F.harm n).2, .bool true]) ∧ Below w.heap.size w w' := by
  go_enter Try.func20, Try.ntmps20
  go_wp2
  go_loopw [12] (fun i wr => ∃ k : Nat, k ≤ n ∧ i = .int .i64 (k : Int) ∧ Hid (Loc w (F.harm k).1 (F.harm k).2 wr)) (fun i _ => n - (intOf i).toNat)
  case atStart => exact ⟨0, Nat.zero_le _, rfl, ⟨⟨by go_simp; rfl, by go_simp; rfl, by go_simp, by go_simp⟩, ⟨by go_simp, by go_simp, by go_simp, by go_simp⟩, ((Below.refl _ _).alloc (Nat.le_refl _) _).alloc (by simp) _, by simp⟩⟩
  case round =>
    obtain ⟨k, hk, rfl, hloc⟩ := hrel
    by_cases hlt : k < n
    · obtain ⟨g1, g2, g3⟩ := F.harm_step k (by omega)
      have hltI : (k : Int) < (n : Int) := by omega
      have HT := Lib.hid fun W => harmTerm_any (k : Int) W (by omega) (by omega)
      have HA := Lib.hid fun W => implAdd_any (F.harm k).1 (F.harm k).2 1 ((k : Int) + 1) W (wf_small (by have := F.good_iff.1 g1; omega) (by have := F.good_iff.1 g1; omega)) (wf_small (by have := F.good_iff.1 g1; omega) (by have := F.good_iff.1 g1; omega)) (wf_small (by omega) (by omega)) (wf_small (by omega) (by omega))
      rw [F.gate_yes _ g1 g2, g3] at HA
      have h0 := hloc.out
      generalize hN' : (F.harm (k + 1)).1 = N' at HA
      generalize hD' : (F.harm (k + 1)).2 = D' at HA
      have HN' := Lib.hid hN'
      have HD' := Lib.hid hD'
      generalize (F.harm k).1 = N at HA h0
      generalize (F.harm k).2 = D at HA h0
      replace HA : Hid (∀ W, Calls Try.prog 33 #[fr N D, fr 1 ((k : Int) + 1)] W fun e w' => e = .returned (.tuple #[.agg #[.int .i64 N', .int .i64 D'], .bool true]) ∧ Below W.heap.size W w') := HA
      clear g1 g2 g3 hN' hD' hloc
      go_upto_region 5 with fail
      have hsz := h0.sz
      go_cut [8, 9] (fun s8 s9 wx => ∃ b, s8 = .pointer (some ⟨b, 0, none⟩) ∧ s9 = .bool true ∧ Blk wx b (.int .i64 N') (.int .i64 D') ∧ Hid (Loc w N D wx))
      case first =>
        have hs0 : wr.drew.cell? ⟨w.heap.size + 1, 0, none⟩ = some (.int .i64 N) ∧ wr.drew.cell? ⟨w.heap.size + 1, 1, none⟩ = some (.int .i64 D) ∧ Loc w N D wr.drew := ⟨h0.tot.c0, h0.tot.c1, ⟨⟨h0.tot.c0, h0.tot.c1, h0.tot.f0, h0.tot.f1⟩, ⟨h0.res.c0, h0.res.c1, h0.res.f0, h0.res.f1⟩, h0.bel.drew, h0.sz⟩⟩
        go_region_held3 (fun w' => w'.cell? ⟨w.heap.size + 1, 0, none⟩ = some (.int .i64 N) ∧ w'.cell? ⟨w.heap.size + 1, 1, none⟩ = some (.int .i64 D) ∧ Loc w N D w') ((first | exact hs0 | exact seen_call (by assumption) (by assumption) | exact seen_alloc (by assumption) _ | exact seen_store (seen_store (by assumption) (by first | omega | (simp; omega) | (simp; done)) _) (by first | omega | (simp; omega) | (simp; done)) _ | exact seen_realloc _ _ (by assumption) (by first | omega | (simp; omega) | (simp; done)))) (first
          | (go_at_call 21; refine (HT.out _).mono ?_; rintro e w1 ⟨rfl, hb1⟩; have sz1 := hb1.size; (try simp at sz1); (try (refine Blk.carry (b := wr.heap.size) (x := .int .i64 0) (y := .int .i64 0) hb1 ?_ ?_ ?_ ?_ ?_ ?_; (focus (go_simp; done)); (focus (go_simp; done)); (focus (go_simp; done)); (focus (go_simp; done)); (focus (first | omega | (simp; omega) | (simp; done))); rintro ⟨ce100, ce101, fe100, fe101⟩)))
          | (go_at_call 33; refine (HA.out _).mono ?_; rintro e w2 ⟨rfl, hb2⟩; have sz2 := hb2.size; (try simp at sz2); (try (refine Blk.carry (b := wr.heap.size) (x := .int .i64 0) (y := .int .i64 0) hb2 ?_ ?_ ?_ ?_ ?_ ?_; (focus (go_simp; done)); (focus (go_simp; done)); (focus (go_simp; done)); (focus (go_simp; done)); (focus (first | omega | (simp; omega) | (simp; done))); rintro ⟨ce200, ce201, fe200, fe201⟩)); (try (refine Blk.carry (b := w1.heap.size) (x := .int .i64 0) (y := .int .i64 0) hb2 ?_ ?_ ?_ ?_ ?_ ?_; (focus (go_simp; done)); (focus (go_simp; done)); (focus (go_simp; done)); (focus (go_simp; done)); (focus (first | omega | (simp; omega) | (simp; done))); rintro ⟨ce210, ce211, fe210, fe211⟩))))
        all_goals (go_wp2_with fail; go_meet; refine ⟨_, rfl, rfl, ?_, (by assumption : _ ∧ _ ∧ Loc w N D _).2.2⟩)
        all_goals first | exact Blk.set2 ⟨by assumption, by assumption, by assumption, by assumption⟩ _ _ | exact ⟨by go_simp, by go_simp, by go_simp, by go_simp⟩
      case rest =>
      obtain ⟨b, rfl, rfl, ⟨k0, k1, k2, k3⟩, hl⟩ := hcut
      have h5 := hl.out
      obtain ⟨t0, t1, t2, t3⟩ := h5.tot
      have HP := Lib.hid (h5.put N' D')
      clear h5 hl h0 HT HA
      go_wp2
      go_roundw
      case rel => exact ⟨k + 1, by omega, by go_num, by show Loc _ _ _ _; rw [HN'.out, HD'.out]; exact HP.out⟩
      case measure => simp [intOf]; omega
    · have hke : k = n := by omega
      have hltI : ¬ (k : Int) < (n : Int) := by omega
      have h0 := hloc.out
      obtain ⟨t0, t1, t2, t3⟩ := h0.tot
      obtain ⟨r0, r1, r2, r3⟩ := h0.res
      have B0 := Lib.hid h0.bel
      have HK := Lib.hid hke
      clear h0 hloc hke
      go_wp2
      refine ret_frac rfl rfl rfl (Blk.set2 ⟨r0, r1, r2, r3⟩ _ _) rfl ⟨by rw [HK.out]; rfl, ?_⟩
      (repeat (first | exact Below.refl _ _ | refine Below.setCell ?_ (by first | omega | (simp; omega) | (simp; done)) _ | refine Below.drew ?_ | refine Law.up ?_ _ | refine Below.alloc ?_ (by first | omega | (simp; omega) | (simp; done)) _ | refine Law.then_ ?_ (Hid.out (by assumption))))
end Go.Proofs.Ytppmepajcdldkab
