/-
  SumFracs, the code's and the model's: both hand back the fold.
-/
import Derived.Test.YtppmepajcdldkaaSums
namespace Go.Proofs.Ytppmepajcdldkaa
open Go.RowKit
set_option linter.unusedVariables false
section
variable {w W w' : World} {N D : Int}
theorem Loc.drew (h : Loc w N D W) : Loc w N D W.drew := ⟨⟨h.tot.c0, h.tot.c1, h.tot.f0, h.tot.f1⟩, ⟨h.res.c0, h.res.c1, h.res.f0, h.res.f1⟩, h.bel.drew, h.sz⟩
theorem Loc.alloc (h : Loc w N D W) (o : Obj) : Loc w N D (W.alloc o) := h.call ((Below.refl _ _).alloc (Nat.le_refl _) o)
theorem Loc.store (h : Loc w N D W) {p : Addr} (hp : w.heap.size + 2 ≤ p.block) (v : Value) : Loc w N D (W.setCell p v) := h.past ((Below.refl _ _).setCell hp v) (Nat.le_refl _)
theorem Loc.realloc (o o' : Obj) (h : Loc w N D (W.alloc o)) (hW : w.heap.size + 2 ≤ W.heap.size) : Loc w N D (W.alloc o') := (seen_realloc o o' h.seen hW).2.2
end
set_option maxHeartbeats 800000 in
theorem implSum_any (zs : List (Int × Int)) (A : Option Addr) (c : Nat) (w : World) (hn : zs.length ≤ 1048576) (hwf : ∀ z ∈ zs, (Lit.int .i64 z.1).wf = true ∧ (Lit.int .i64 z.2).wf = true) (hr : Law.Row2 w A zs) :
    Calls Try.prog 36 #[.slice A zs.length c] w fun e w' => e = .returned (res (F.sum zs)) ∧ Below w.heap.size w w' := by
  have HR := Lib.hid hr
  have HW := Lib.hid hwf
  clear hr hwf
  have hmf : ∀ (fn : Fn) (first cap : Array Value) (w : World), (Instr.makeFunc fn first cap).run Try.prog w = .ok (.func fn first cap) w := fun _ _ _ _ => rfl
  by_cases h : zs.length ≤ 100
  · rw [show F.sum zs = F.fold zs zs.length from if_pos h]
    have HC := Lib.hid fun (W : World) h1 h2 h3 => sumTerms_any zs A c w.heap.size W h HW.out h1 h2 h3
    generalize F.fold zs zs.length = X at HC ⊢
    obtain ⟨N, D, ok⟩ := X
    replace HC : Hid (∀ W : World, W.cell? ⟨w.heap.size, 0, none⟩ = some (.slice A zs.length c) → w.heap.size < W.heap.size → Law.Row2 W A zs → Calls Try.prog 52 #[.int .i64 (zs.length : Int), .func (.func 53) #[] #[.pointer (some ⟨w.heap.size, 0, none⟩)]] W fun e w' => e = .returned (.tuple #[.agg #[.int .i64 N, .int .i64 D], .bool ok]) ∧ Below W.heap.size W w') := HC
    have hI : ¬ (100 : Int) < (zs.length : Int) := by omega
    clear h
    go_enter Try.func36, Try.ntmps36
    go_wp2_with fail
    go_at_call 52
    refine (HC.out _ (by go_simp) (by first | omega | (simp; omega) | (simp; done)) (HR.out.stays (by (repeat (first | exact Below.refl _ _ | refine Below.setCell ?_ (by first | omega | (simp; omega) | (simp; done)) _ | refine Below.drew ?_ | refine Law.up ?_ _ | refine Below.alloc ?_ (by first | omega | (simp; omega) | (simp; done)) _ | refine Law.then_ ?_ (Hid.out (by assumption))))))).mono ?_
    rintro e w1 ⟨rfl, hb1⟩
    have B1 : Hid (Below w.heap.size w w1) := Lib.hid (Law.then_ (by (repeat (first | exact Below.refl _ _ | refine Below.setCell ?_ (by first | omega | (simp; omega) | (simp; done)) _ | refine Below.drew ?_ | refine Law.up ?_ _ | refine Below.alloc ?_ (by first | omega | (simp; omega) | (simp; done)) _ | refine Law.then_ ?_ (Hid.out (by assumption))))) hb1)
    have sz1 := hb1.size; (try simp at sz1)
    obtain ⟨c10, c11, f10, f11⟩ := Blk.below (b := w.heap.size + 1) (x := .int .i64 0) (y := .int .i64 0) ⟨by go_simp, by go_simp, by go_simp, by go_simp⟩ hb1 (by first | omega | (simp; omega) | (simp; done))
    clear hb1
    go_wp2
    refine ret_frac rfl rfl rfl (Blk.set2 ⟨c10, c11, f10, f11⟩ _ _) rfl ⟨rfl, ?_⟩
    (repeat (first | exact Below.refl _ _ | refine Below.setCell ?_ (by first | omega | (simp; omega) | (simp; done)) _ | refine Below.drew ?_ | refine Law.up ?_ _ | refine Below.alloc ?_ (by first | omega | (simp; omega) | (simp; done)) _ | refine Law.then_ ?_ (Hid.out (by assumption))))
  · rw [show F.sum zs = (0, 0, false) from if_neg h]
    have hI : (100 : Int) < (zs.length : Int) := by omega
    clear h
    go_enter Try.func36, Try.ntmps36
    go_wp2
    refine ret_frac rfl rfl rfl (b := w.heap.size + 1) (x := .int .i64 0) (y := .int .i64 0) ⟨by go_simp, by go_simp, by go_simp, by go_simp⟩ rfl ⟨rfl, ?_⟩
    (repeat (first | exact Below.refl _ _ | refine Below.setCell ?_ (by first | omega | (simp; omega) | (simp; done)) _ | refine Below.drew ?_ | refine Law.up ?_ _ | refine Below.alloc ?_ (by first | omega | (simp; omega) | (simp; done)) _ | refine Law.then_ ?_ (Hid.out (by assumption))))
set_option maxHeartbeats 3200000 in
theorem specSum_any (zs : List (Int × Int)) (A : Option Addr) (c : Nat) (w : World) (hn : zs.length ≤ 1048576) (hr : Law.Row2 w A zs) :
    Calls Try.prog 34 #[.slice A zs.length c] w fun e w' => e = .returned (res (F.sum zs)) ∧ Below w.heap.size w w' := by
  have HR := Lib.hid hr
  clear hr
  by_cases h : zs.length ≤ 100
  · rw [show F.sum zs = F.fold zs zs.length from if_pos h]
    have hI : ¬ (100 : Int) < (zs.length : Int) := by omega
    clear h
    go_enter Try.func34, Try.ntmps34
    go_wp2
    go_loopw [5] (fun i wr => ∃ k : Nat, k ≤ zs.length ∧ i = .int .i64 (k : Int) ∧ Hid (∀ (j : Nat) (z : Int × Int), j < k → zs[j]? = some z → F.good z.1 z.2 = true) ∧ Hid (Loc w 0 1 wr)) (fun i _ => zs.length - (intOf i).toNat)
    case atStart => exact ⟨0, Nat.zero_le _, rfl, fun j z hj => by omega, ⟨⟨by go_simp, by go_simp, by go_simp, by go_simp⟩, ⟨by go_simp, by go_simp, by go_simp, by go_simp⟩, ((Below.refl _ _).alloc (Nat.le_refl _) _).alloc (by simp) _, by simp⟩⟩
    case round =>
      obtain ⟨k, hk, rfl, hall, hloc⟩ := hrel
      by_cases hlt : k < zs.length
      · have hzk : zs[k]? = some zs[k] := List.getElem?_eq_getElem hlt
        have hltI : (k : Int) < (zs.length : Int) := by omega
        obtain ⟨b, off, rfl, hbl, hc0, hc1⟩ := (HR.out.stays hloc.out.bel).at_ hzk
        obtain ⟨z, hz⟩ : ∃ z, z = zs[k] := ⟨_, rfl⟩
        rw [← hz] at hzk hc0 hc1
        obtain ⟨z1, z2⟩ := z
        have HG := Lib.hid fun W => l2Good_any z1 z2 W
        have HZ := Lib.hid hzk
        have h0 := hloc.out
        have B0 := Lib.hid h0.bel
        have H0 := Lib.hid h0
        dsimp only at hc0 hc1
        clear hz hzk hloc h0
        by_cases hg : F.good z1 z2 = true
        · rw [hg] at HG
          have HGG := Lib.hid hg
          clear hg
          go_wp2_with fail
          go_at_call 38
          refine (HG.out _).mono ?_
          rintro e w1 ⟨rfl, hb1⟩
          have B1 : Hid (Below w.heap.size w w1) := Lib.hid (Law.then_ (by (repeat (first | exact Below.refl _ _ | refine Below.setCell ?_ (by first | omega | (simp; omega) | (simp; done)) _ | refine Below.drew ?_ | refine Law.up ?_ _ | refine Below.alloc ?_ (by first | omega | (simp; omega) | (simp; done)) _ | refine Law.then_ ?_ (Hid.out (by assumption))))) hb1)
          have sz1 := hb1.size; (try simp at sz1)
          have HP := Lib.hid (H0.out.call hb1)
          clear hb1 HG
          go_wp2
          go_roundw
          case rel => exact ⟨k + 1, by omega, by go_num, fun j z hj hz => by
            rcases Nat.lt_or_ge j k with h' | h'
            · exact hall.out j z h' hz
            · obtain rfl : j = k := by omega
              have e := HZ.out
              rw [hz] at e
              injection e with e
              subst e
              exact HGG.out, HP.out⟩
          case measure => simp [intOf]; omega
        · replace hg := Bool.eq_false_iff.2 hg
          rw [hg] at HG
          have HE := Lib.hid (F.fold_bad HZ.out hg)
          clear hg
          go_wp2_with fail
          go_at_call 38
          refine (HG.out _).mono ?_
          rintro e w1 ⟨rfl, hb1⟩
          have B1 : Hid (Below w.heap.size w w1) := Lib.hid (Law.then_ (by (repeat (first | exact Below.refl _ _ | refine Below.setCell ?_ (by first | omega | (simp; omega) | (simp; done)) _ | refine Below.drew ?_ | refine Law.up ?_ _ | refine Below.alloc ?_ (by first | omega | (simp; omega) | (simp; done)) _ | refine Law.then_ ?_ (Hid.out (by assumption))))) hb1)
          have sz1 := hb1.size; (try simp at sz1)
          obtain ⟨r0, r1, r2, r3⟩ := (H0.out.call hb1).res
          clear hb1 HG
          go_wp2
          refine ret_frac rfl rfl rfl (Blk.set2 ⟨r0, r1, r2, r3⟩ _ _) rfl ⟨by rw [HE.out]; rfl, ?_⟩
          (repeat (first | exact Below.refl _ _ | refine Below.setCell ?_ (by first | omega | (simp; omega) | (simp; done)) _ | refine Below.drew ?_ | refine Law.up ?_ _ | refine Below.alloc ?_ (by first | omega | (simp; omega) | (simp; done)) _ | refine Law.then_ ?_ (Hid.out (by assumption))))
      · have hke : k = zs.length := by omega
        have hltI : ¬ (k : Int) < (zs.length : Int) := by omega
        have HALL : Hid (∀ (j : Nat) (z : Int × Int), zs[j]? = some z → F.good z.1 z.2 = true) := fun j z hz => hall.out j z (by have := (List.getElem?_eq_some_iff.1 hz).1; omega) hz
        clear hke hall
        have L0 := hloc
        clear hloc
        go_wp2
        go_loopw [6] (fun i wr => ∃ (k : Nat) (N D : Int), k ≤ zs.length ∧ i = .int .i64 (k : Int) ∧ Hid (F.fold zs k = (N, D, true)) ∧ Hid (Loc w N D wr)) (fun i _ => zs.length - (intOf i).toNat)
        case atStart => exact ⟨0, 0, 1, Nat.zero_le _, rfl, rfl, L0.out⟩
        case round =>
          clear hlt hk hltI L0
          rename_i wr _
          obtain ⟨k, N, D, hk, rfl, hfold, hloc⟩ := hrel
          by_cases hlt : k < zs.length
          · have hzk : zs[k]? = some zs[k] := List.getElem?_eq_getElem hlt
            have hltI : (k : Int) < (zs.length : Int) := by omega
            obtain ⟨b, off, rfl, hbl, hc0, hc1⟩ := HR.out.at_ hzk
            obtain ⟨z, hz⟩ : ∃ z, z = zs[k] := ⟨_, rfl⟩
            rw [← hz] at hzk hc0 hc1
            obtain ⟨z1, z2⟩ := z
            have hgz : F.good z1 z2 = true := HALL.out k (z1, z2) hzk
            have hg : F.good N D = true := by
              have := F.fold_good zs k hk (by rw [hfold.out])
              rw [hfold.out] at this
              exact this
            have HA := Lib.hid fun W => l2Add_any N D z1 z2 W hg hgz
            have HS : Hid (F.fold zs (k + 1) = F.mk (N * z2 + z1 * D) (D * z2)) := by
              show _ = _
              rw [F.fold_succ hzk, hfold.out, ← F.gate_yes (F.mk (N * z2 + z1 * D) (D * z2)) hg hgz]
              rfl
            generalize F.mk (N * z2 + z1 * D) (D * z2) = X at HA HS
            obtain ⟨N', D', ok⟩ := X
            replace HA : Hid (∀ W, Calls Try.prog 44 #[fr N D, fr z1 z2] W fun e w' => e = .returned (.tuple #[.agg #[.int .i64 N', .int .i64 D'], .bool ok]) ∧ Below W.heap.size W w') := HA
            have HM : Hid (∀ w' : World, Loc w N D w' → w'.cell? ⟨w.heap.size + 1, 0, none⟩ = some (.int .i64 N) ∧ w'.cell? ⟨w.heap.size + 1, 1, none⟩ = some (.int .i64 D) ∧ w'.cell? ⟨b, off + k * 2, none⟩ = some (.int .i64 z1) ∧ w'.cell? ⟨b, off + k * 2 + 1, none⟩ = some (.int .i64 z2) ∧ Loc w N D w') := Lib.hid fun w' h => ⟨h.tot.c0, h.tot.c1, (h.bel.cell (p := ⟨b, off + k * 2, none⟩) hbl).trans hc0, (h.bel.cell (p := ⟨b, off + k * 2 + 1, none⟩) hbl).trans hc1, h⟩
            have h0 := hloc.out
            have hsz := h0.sz
            clear hz hzk hg hgz hc0 hc1 hloc
            go_upto_region 12 with fail
            go_cut [7, 8] (fun s8 s9 wx => ∃ b, s8 = .pointer (some ⟨b, 0, none⟩) ∧ s9 = .bool ok ∧ Blk wx b (.int .i64 N') (.int .i64 D') ∧ Hid (Loc w N D wx))
            case first =>
              have hs0 := HM.out wr.drew h0.drew
              go_region_held3 (fun w' => w'.cell? ⟨w.heap.size + 1, 0, none⟩ = some (.int .i64 N) ∧ w'.cell? ⟨w.heap.size + 1, 1, none⟩ = some (.int .i64 D) ∧ w'.cell? ⟨b, off + k * 2, none⟩ = some (.int .i64 z1) ∧ w'.cell? ⟨b, off + k * 2 + 1, none⟩ = some (.int .i64 z2) ∧ Loc w N D w') ((first | exact hs0 | exact HM.out _ ((h0.alloc _).drew) | exact HM.out _ ((by assumption : _ ∧ _ ∧ _ ∧ _ ∧ Loc w N D _).2.2.2.2.call (by assumption)) | exact HM.out _ ((by assumption : _ ∧ _ ∧ _ ∧ _ ∧ Loc w N D _).2.2.2.2.alloc _) | exact HM.out _ (((by assumption : _ ∧ _ ∧ _ ∧ _ ∧ Loc w N D _).2.2.2.2.store (by first | omega | (simp; omega) | (simp; done)) _).store (by first | omega | (simp; omega) | (simp; done)) _) | exact HM.out _ (Loc.realloc _ _ (by assumption : _ ∧ _ ∧ _ ∧ _ ∧ Loc w N D _).2.2.2.2 (by first | omega | (simp; omega) | (simp; done))))) (first
                | (go_at_call 44; refine (HA.out _).mono ?_; rintro e w2 ⟨rfl, hb2⟩; have sz2 := hb2.size; (try simp at sz2); (try (refine Blk.carry (b := wr.heap.size) (x := .int .i64 0) (y := .int .i64 0) hb2 ?_ ?_ ?_ ?_ ?_ ?_; (focus (go_simp; done)); (focus (go_simp; done)); (focus (go_simp; done)); (focus (go_simp; done)); (focus (first | omega | (simp; omega) | (simp; done))); rintro ⟨ce200, ce201, fe200, fe201⟩))))
              all_goals (go_wp2_with fail; go_meet; refine ⟨_, rfl, rfl, ?_, (by assumption : _ ∧ _ ∧ _ ∧ _ ∧ Loc w N D _).2.2.2.2⟩)
              all_goals first | exact Blk.set2 ⟨by assumption, by assumption, by assumption, by assumption⟩ _ _ | exact ⟨by go_simp, by go_simp, by go_simp, by go_simp⟩
            case rest =>
            obtain ⟨b7, rfl, rfl, ⟨k0, k1, k2, k3⟩, hl⟩ := hcut
            have h5 := hl.out
            obtain ⟨t0, t1, t2, t3⟩ := h5.tot
            obtain ⟨r0, r1, r2, r3⟩ := h5.res
            have B0 := Lib.hid h5.bel
            have HP := Lib.hid (h5.put N' D')
            clear h5 hl h0 HA HM
            cases ok
            · have HE := Lib.hid (F.fold_end (zs := zs) (k := k + 1) (by omega) (by omega) (by rw [HS.out]))
              go_wp2
              refine ret_frac rfl rfl rfl (Blk.set2 ⟨r0, r1, r2, r3⟩ _ _) rfl ⟨by rw [HE.out]; rfl, ?_⟩
              (repeat (first | exact Below.refl _ _ | refine Below.setCell ?_ (by first | omega | (simp; omega) | (simp; done)) _ | refine Below.drew ?_ | refine Law.up ?_ _ | refine Below.alloc ?_ (by first | omega | (simp; omega) | (simp; done)) _ | refine Law.then_ ?_ (Hid.out (by assumption))))
            · go_wp2
              go_roundw
              case rel => exact ⟨k + 1, N', D', by omega, by go_num, HS.out, HP.out⟩
              case measure => simp [intOf]; omega
          · have hke : k = zs.length := by omega
            have hltI : ¬ (k : Int) < (zs.length : Int) := by omega
            have h0 := hloc.out
            obtain ⟨t0, t1, t2, t3⟩ := h0.tot
            obtain ⟨r0, r1, r2, r3⟩ := h0.res
            have B0 := Lib.hid h0.bel
            have HE : Hid (F.fold zs zs.length = (N, D, true)) := by show _ = _; rw [← hke]; exact hfold.out
            clear h0 hloc hke
            go_wp2
            refine ret_frac rfl rfl rfl (Blk.set2 ⟨r0, r1, r2, r3⟩ _ _) rfl ⟨by rw [HE.out]; rfl, ?_⟩
            (repeat (first | exact Below.refl _ _ | refine Below.setCell ?_ (by first | omega | (simp; omega) | (simp; done)) _ | refine Below.drew ?_ | refine Law.up ?_ _ | refine Below.alloc ?_ (by first | omega | (simp; omega) | (simp; done)) _ | refine Law.then_ ?_ (Hid.out (by assumption))))
  · rw [show F.sum zs = (0, 0, false) from if_neg h]
    have hI : (100 : Int) < (zs.length : Int) := by omega
    clear h
    go_enter Try.func34, Try.ntmps34
    go_wp2
    refine ret_frac rfl rfl rfl (b := w.heap.size) (x := .int .i64 0) (y := .int .i64 0) ⟨by go_simp, by go_simp, by go_simp, by go_simp⟩ rfl ⟨rfl, ?_⟩
    (repeat (first | exact Below.refl _ _ | refine Below.setCell ?_ (by first | omega | (simp; omega) | (simp; done)) _ | refine Below.drew ?_ | refine Law.up ?_ _ | refine Below.alloc ?_ (by first | omega | (simp; omega) | (simp; done)) _ | refine Law.then_ ?_ (Hid.out (by assumption))))
end Go.Proofs.Ytppmepajcdldkaa
