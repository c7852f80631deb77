/-
  The code's runPlan: the sets behind all places.
-/
import Derived.Test.YtklpdfilhgjllaaPln
import Derived.Test.YtklpdfilhgjllaaBits
namespace Go.Proofs.Ytklpdfilhgjllaa
open Go.RowKit
set_option linter.unusedVariables false
theorem infoSet : (Try.prog.info? 57).map (fun i => (i.zero, i.size, i.bytes)) = some (some (.int .u64 0), 1, 8) := by kernel_rfl
abbrev uvs (us : List Nat) : List Value := us.map fun (u : Nat) => Value.int .u64 (u : Int)
theorem uvs_at {us : List Nat} {k u : Nat} (h : us[k]? = some u) : (uvs us)[k]? = some (.int .u64 (u : Int)) := by rw [List.getElem?_map, h]; rfl
/-- What runPlan says. -/
def runSays (X : Option (List Nat × Nat)) (w : World) (e : Ending) (w' : World) : Prop :=
  match X with
  | none => e = .returned (.tuple #[.slice none 0 0, .int .i64 0, .bool false]) ∧ Below w.heap.size w w'
  | some x => ∃ v, e = .returned (.tuple #[v, .int .i64 (x.2 : Nat), .bool true]) ∧ w'.ownsRow w.heap.size 57 1 v x.1.length (uvs x.1) ∧ Below w.heap.size w w'
set_option maxRecDepth 100000 in
set_option maxHeartbeats 6400000 in
theorem runPlan_good (k : Int) (N : Nat) (A : Option Addr) (c : Nat) (zs : List Int) (B : Option Addr) (d : Nat) (ps : List Int) (w : World) (hok : Q.planOk k N zs ps = true) (h1 : 1 ≤ N) (h8 : N ≤ 8) (h3 : zs.length ≤ 60) (hk1 : 1 ≤ k) (hk6 : k ≤ 6) (hx : ∀ k, k < zs.length → ∃ x : Nat, zs[k]? = some (x : Int) ∧ x < N) (hln : ps.length = zs.length) (hall : ps.all (Q.okL N) = true) (hr : Law.Row w A (ivs zs)) (hp : Law.Row w B (ivs ps)) :
    Calls Try.prog 53 #[.int .i64 k, .int .i64 N, .slice A zs.length c, .slice B ps.length d] w (runSays ((Q.stB k zs ps zs.length).map fun x => (Q.sets k zs ps zs.length, x.2)) w) := by
  obtain ⟨i0, hi, hz0, hz1, hz2⟩ := info_parts infoSet
  have HP := Lib.hid (isPlanList_any k N zs ps A B c d (by omega) (by omega) w hr hp)
  rw [hok] at HP
  have HR := Lib.hid hr
  have HQ := Lib.hid hp
  have HX := Lib.hid hx
  have HAll : Hid (∀ i l, ps[i]? = some l → -1 ≤ l ∧ l ≤ (N : Int) - 1) := fun i l h => (Q.okL_iff (by omega)).1 (Q.all_at hall h)
  have HBD : Hid (∀ i x, Q.stB k zs ps i = some x → x.1 < 256 ∧ x.2 ≤ i) := Lib.hid (Q.stB_bd (fun z hz => by
    obtain ⟨i, hi, rfl⟩ := List.mem_iff_getElem.1 hz
    obtain ⟨x, hx1, hx2⟩ := hx i hi
    rw [List.getElem?_eq_getElem hi] at hx1
    injection hx1 with hx1
    omega) (fun l hl => by
    have := (Q.okL_iff (n := (N : Int)) (by omega)).1 (List.all_eq_true.1 hall l hl)
    omega))
  have hlnI : (ps.length : Int) = (zs.length : Int) := by omega
  have HLN := Lib.hid hln
  have HSL := Lib.hid (Q.sets_len k zs ps zs.length)
  clear hr hp hx hall hok hln
  go_enter Try.func53, Try.ntmps53
  go_wp2_with fail
  go_at_call 52
  refine (HP.out).mono ?_
  rintro e w' ⟨rfl, hw'⟩
  obtain rfl := hw'.symm
  clear hw'
  go_wp2_with (at_make; refine wpList_make_full _ rfl _ _ 53 rfl w.heap.size 57 i0 (.int .u64 0) 1 Try.underlying53 hi hz0 hz1 .i64 .i64 _ _ zs.length rfl rfl rfl rfl ?c1 ?c2 ?c3 ?_)
  case c1 => rw [hz2]; omega
  case c2 => unfold maxLen; omega
  case c3 => exact Nat.le_refl _
  intro w1 hown hg
  have HB1 : Hid (Below w.heap.size w w1) := Lib.hid ((Below.refl _ _).grown hg (Nat.le_refl _) (fun k e => by cases e))
  obtain ⟨zr, hzr⟩ : ∃ zr, zr = (madeCells #[Value.int .u64 0] zs.length).toList := ⟨_, rfl⟩
  have HZ : Hid (zr.length = zs.length) := by show _ = _; rw [hzr, Array.length_toList, size_madeCells]
  rw [← hzr] at hown
  have HO := Lib.hid hown
  clear hown hg hzr
  go_wp2_with fail
  go_loopw [12, 13, 29] (fun q s i wr => ∃ j S f : Nat, j ≤ zs.length ∧ i = .int .i64 j ∧ q = .int .i64 f ∧ s = .int .u64 S ∧ Hid (Q.stB k zs ps j = some (S, f)) ∧ Hid (wr.ownsRow w.heap.size 57 1 (.slice (some ⟨w.heap.size, 0, none⟩) zs.length zs.length) zs.length (fillS (uvs (Q.sets k zs ps zs.length)) zr j)) ∧ Hid (Below w.heap.size w wr)) (fun _ _ i _ => zs.length - (intOf i).toNat)
  case atStart => exact ⟨0, 0, 0, Nat.zero_le _, rfl, rfl, rfl, rfl, HO.out, HB1.out⟩
  case round =>
    obtain ⟨j, S, f, hj, rfl, rfl, rfl, hst, ho, hb⟩ := hrel
    have hbd := HBD.out j _ hst.out
    simp only [] at hbd
    obtain ⟨hS, hf⟩ := hbd
    by_cases hlt : j < zs.length
    · obtain ⟨p, hpz, hpN⟩ := HX.out j hlt
      obtain ⟨l, hl⟩ : ∃ l, ps[j]? = some l := ⟨_, List.getElem?_eq_getElem (by have := HLN.out; omega)⟩
      have hlb := HAll.out j l hl
      have HST := Lib.hid (Q.stB_succ hst.out hpz hl)
      have hltI : (j : Int) < (zs.length : Int) := by omega
      have hp8 : p < 8 := by omega
      have HH := Lib.hid fun W => has_any S p W hS hp8
      have HE := Lib.hid fun W => exch_any S p l W hS hp8 hlb.1 (by omega)
      have hS2 : Q.exB S l p < 256 := Q.ex_lt hS hp8 (by omega)
      have HC := Lib.hid fun W => count_any (Q.exB S l p) W hS2
      have hpop := (Q.len_pl hS2).2
      have HStep : Hid (Q.step k S f p l = if 0 ≤ l ∧ (S.testBit p = true ∨ S.testBit l.toNat = false) then none else if k < (Q.popB (Q.exB S l p) : Int) then none else some (Q.exB S l p, f + if S.testBit p then 0 else 1)) := rfl
      have HFail : Hid (Q.stB k zs ps (j + 1) = none → Q.stB k zs ps zs.length = none) := fun h => Q.stB_fail h (by omega)
      have HL : 0 ≤ l → Hid (∀ W, Calls Try.prog 91 #[.int .u64 S, .int .i64 l] W fun e w' => e = .returned (.bool (S.testBit l.toNat)) ∧ w' = W) := fun h => Lib.hid fun W => by
        have := has_any S l.toNat W hS (by omega)
        rwa [Int.toNat_of_nonneg h] at this
      have HN : Hid (∀ m, Law.Row (wr.drewN m) A (ivs zs) ∧ (wr.drewN m).ownsRow w.heap.size 57 1 (.slice (some ⟨w.heap.size, 0, none⟩) zs.length zs.length) zs.length (fillS (uvs (Q.sets k zs ps zs.length)) zr j) ∧ Below w.heap.size w (wr.drewN m)) := fun m => ⟨(HR.out.stays hb.out).drewN m, ho.out, Law.up hb.out m⟩
      have HSets : Hid (∀ S' f', Q.stB k zs ps (j + 1) = some (S', f') → (Q.sets k zs ps zs.length)[j]? = some S') := fun S' f' h => Q.sets_at hlt h
      obtain ⟨b, off, rfl, hbl, hc⟩ := (HR.out.stays hb.out).at_ (ivs_some hpz)
      obtain ⟨b', off', rfl, hbl', hc'⟩ := (HQ.out.stays hb.out).at_ (ivs_some hl)
      generalize Q.exB S l p = S2 at HE HC HStep hS2 hpop
      obtain ⟨bp, hbp⟩ : ∃ bp, bp = S.testBit p := ⟨_, rfl⟩
      rw [← hbp] at HH HStep
      clear hbp hpz hl ho hb
      go_wp2_with fail
      go_quiet ((go_at_call 91; exact Calls.quiet_of_same (HH.out _)))
      obtain ⟨hrN, hoN, hbN⟩ := HN.out nq
      clear hc hc' HN
      generalize wr.drewN nq = wq at hrN hoN hbN ⊢
      have HoN := Lib.hid hoN
      have HbN := Lib.hid hbN
      clear hrN hoN hbN
      generalize Q.popB S2 = P at HC HStep hpop
      by_cases hl0 : 0 ≤ l
      · cases bp
        · have HL1 := HL hl0
          cases hbl : S.testBit l.toNat
          · rw [hbl] at HL1
            have HNone : Hid (Q.stB k zs ps zs.length = none) := Lib.hid (HFail.out (by rw [HST.out, HStep.out, if_pos ⟨hl0, .inr hbl⟩]))
            clear HStep HST HFail HL hbl
            go_wp2_with fail
            go_at_call 91
            refine (HL1.out _).mono ?_
            rintro e w' ⟨rfl, hw'⟩
            obtain rfl := hw'.symm
            clear hw'
            go_wp2
            go_ret3
            rw [HNone.out]
            exact ⟨rfl, HbN.out⟩
          · rw [hbl] at HL1
            have HCond : Hid (¬ (0 ≤ l ∧ (false = true ∨ S.testBit l.toNat = false))) := fun h => by rcases h.2 with h | h; cases h; rw [hbl] at h; cases h
            clear HL hbl
            go_wp2_with fail
            go_at_call 91
            refine (HL1.out _).mono ?_
            rintro e w' ⟨rfl, hw'⟩
            obtain rfl := hw'.symm
            clear hw'
            go_wp2_with fail
            go_at_call 92
            refine (HE.out _).mono ?_
            rintro e w' ⟨rfl, hw'⟩
            obtain rfl := hw'.symm
            clear hw'
            go_wp2_with fail
            go_at_call 93
            refine (HC.out _).mono ?_
            rintro e w' ⟨rfl, hw'⟩
            obtain rfl := hw'.symm
            clear hw'
            by_cases hcnt : k < (P : Int)
            · have HNone : Hid (Q.stB k zs ps zs.length = none) := Lib.hid (HFail.out (by rw [HST.out, HStep.out, if_neg HCond.out, if_pos hcnt]))
              clear HStep HCond HST HFail
              go_wp2
              go_ret3
              rw [HNone.out]
              exact ⟨rfl, HbN.out⟩
            · have HSome : Hid (Q.stB k zs ps (j + 1) = some (S2, f + 1)) := Lib.hid (by rw [HST.out, HStep.out, if_neg HCond.out, if_neg hcnt]; rfl)
              have hu := HSets.out _ _ HSome.out
              have HF := Lib.hid (fillS_set (xs := uvs (Q.sets k zs ps zs.length)) (zs := zr) (uvs_at hu) (by rw [HZ.out]; exact hlt))
              have hl1 : (fillS (uvs (Q.sets k zs ps zs.length)) zr j).length = zs.length := by rw [fillS_length (by simp [HSL.out]; omega) (by simp [HZ.out, HSL.out])]; simp [HSL.out]
              obtain ⟨u, hu2⟩ : ∃ u, (fillS (uvs (Q.sets k zs ps zs.length)) zr j)[j]? = some u := ⟨_, List.getElem?_eq_getElem (by omega)⟩
              have hcO : wq.cell? ⟨w.heap.size, j, none⟩ = some u := (HoN.out.cellAt j (by omega)).trans hu2
              have hfO := HoN.out.frozenAt j
              have HS3 := Lib.hid (HoN.out.stored j (.int .u64 (S2 : Int))).1
              have HB3 := Lib.hid (HbN.out.setCell (p := ⟨w.heap.size, j, none⟩) (Nat.le_refl _) (.int .u64 (S2 : Int)))
              clear HStep HCond HST HFail hu hu2 hl1
              go_wp2
              go_roundw
              case rel => exact ⟨j + 1, S2, f + 1, by omega, by go_num, by go_num, rfl, HSome.out, (by show World.ownsRow _ _ _ _ _ _ _; rw [← HF.out]; exact HS3.out), HB3.out⟩
              case measure => simp [intOf]; omega
        · have HNone : Hid (Q.stB k zs ps zs.length = none) := Lib.hid (HFail.out (by rw [HST.out, HStep.out, if_pos ⟨hl0, .inl rfl⟩]))
          clear HStep HST HFail HL
          go_wp2
          go_ret3
          rw [HNone.out]
          exact ⟨rfl, HbN.out⟩
      · have HCond : Hid (∀ b, ¬ (0 ≤ l ∧ (b = true ∨ S.testBit l.toNat = false))) := fun b h => hl0 h.1
        replace HCond : Hid (¬ (0 ≤ l ∧ (bp = true ∨ S.testBit l.toNat = false))) := HCond.out bp
        clear HL
        cases bp
        · skip
          go_wp2_with fail
          go_at_call 92
          refine (HE.out _).mono ?_
          rintro e w' ⟨rfl, hw'⟩
          obtain rfl := hw'.symm
          clear hw'
          go_wp2_with fail
          go_at_call 93
          refine (HC.out _).mono ?_
          rintro e w' ⟨rfl, hw'⟩
          obtain rfl := hw'.symm
          clear hw'
          by_cases hcnt : k < (P : Int)
          · have HNone : Hid (Q.stB k zs ps zs.length = none) := Lib.hid (HFail.out (by rw [HST.out, HStep.out, if_neg HCond.out, if_pos hcnt]))
            clear HStep HCond HST HFail
            go_wp2
            go_ret3
            rw [HNone.out]
            exact ⟨rfl, HbN.out⟩
          · have HSome : Hid (Q.stB k zs ps (j + 1) = some (S2, f + 1)) := Lib.hid (by rw [HST.out, HStep.out, if_neg HCond.out, if_neg hcnt]; rfl)
            have hu := HSets.out _ _ HSome.out
            have HF := Lib.hid (fillS_set (xs := uvs (Q.sets k zs ps zs.length)) (zs := zr) (uvs_at hu) (by rw [HZ.out]; exact hlt))
            have hl1 : (fillS (uvs (Q.sets k zs ps zs.length)) zr j).length = zs.length := by rw [fillS_length (by simp [HSL.out]; omega) (by simp [HZ.out, HSL.out])]; simp [HSL.out]
            obtain ⟨u, hu2⟩ : ∃ u, (fillS (uvs (Q.sets k zs ps zs.length)) zr j)[j]? = some u := ⟨_, List.getElem?_eq_getElem (by omega)⟩
            have hcO : wq.cell? ⟨w.heap.size, j, none⟩ = some u := (HoN.out.cellAt j (by omega)).trans hu2
            have hfO := HoN.out.frozenAt j
            have HS3 := Lib.hid (HoN.out.stored j (.int .u64 (S2 : Int))).1
            have HB3 := Lib.hid (HbN.out.setCell (p := ⟨w.heap.size, j, none⟩) (Nat.le_refl _) (.int .u64 (S2 : Int)))
            clear HStep HCond HST HFail hu hu2 hl1
            go_wp2
            go_roundw
            case rel => exact ⟨j + 1, S2, f + 1, by omega, by go_num, by go_num, rfl, HSome.out, (by show World.ownsRow _ _ _ _ _ _ _; rw [← HF.out]; exact HS3.out), HB3.out⟩
            case measure => simp [intOf]; omega
        · skip
          go_wp2_with fail
          go_at_call 92
          refine (HE.out _).mono ?_
          rintro e w' ⟨rfl, hw'⟩
          obtain rfl := hw'.symm
          clear hw'
          go_wp2_with fail
          go_at_call 93
          refine (HC.out _).mono ?_
          rintro e w' ⟨rfl, hw'⟩
          obtain rfl := hw'.symm
          clear hw'
          by_cases hcnt : k < (P : Int)
          · have HNone : Hid (Q.stB k zs ps zs.length = none) := Lib.hid (HFail.out (by rw [HST.out, HStep.out, if_neg HCond.out, if_pos hcnt]))
            clear HStep HCond HST HFail
            go_wp2
            go_ret3
            rw [HNone.out]
            exact ⟨rfl, HbN.out⟩
          · have HSome : Hid (Q.stB k zs ps (j + 1) = some (S2, f)) := Lib.hid (by rw [HST.out, HStep.out, if_neg HCond.out, if_neg hcnt]; rfl)
            have hu := HSets.out _ _ HSome.out
            have HF := Lib.hid (fillS_set (xs := uvs (Q.sets k zs ps zs.length)) (zs := zr) (uvs_at hu) (by rw [HZ.out]; exact hlt))
            have hl1 : (fillS (uvs (Q.sets k zs ps zs.length)) zr j).length = zs.length := by rw [fillS_length (by simp [HSL.out]; omega) (by simp [HZ.out, HSL.out])]; simp [HSL.out]
            obtain ⟨u, hu2⟩ : ∃ u, (fillS (uvs (Q.sets k zs ps zs.length)) zr j)[j]? = some u := ⟨_, List.getElem?_eq_getElem (by omega)⟩
            have hcO : wq.cell? ⟨w.heap.size, j, none⟩ = some u := (HoN.out.cellAt j (by omega)).trans hu2
            have hfO := HoN.out.frozenAt j
            have HS3 := Lib.hid (HoN.out.stored j (.int .u64 (S2 : Int))).1
            have HB3 := Lib.hid (HbN.out.setCell (p := ⟨w.heap.size, j, none⟩) (Nat.le_refl _) (.int .u64 (S2 : Int)))
            clear HStep HCond HST HFail hu hu2 hl1
            go_wp2
            go_roundw
            case rel => exact ⟨j + 1, S2, f, by omega, by go_num, by go_num, rfl, HSome.out, (by show World.ownsRow _ _ _ _ _ _ _; rw [← HF.out]; exact HS3.out), HB3.out⟩
            case measure => simp [intOf]; omega
    · have hje : j = zs.length := by omega
      have hltI : ¬ (j : Int) < (zs.length : Int) := by omega
      have HF : Hid (fillS (uvs (Q.sets k zs ps zs.length)) zr j = uvs (Q.sets k zs ps zs.length)) := by show fillS _ _ _ = _; rw [hje]; exact fillS_all (by simp [HSL.out]) (Nat.le_of_eq HZ.out)
      have HEnd : Hid (Q.stB k zs ps zs.length = some (S, f)) := by show _ = _; rw [← hje]; exact hst.out
      clear hje
      go_wp2
      go_ret3
      rw [HEnd.out]
      refine ⟨_, rfl, ?_, hb.out⟩
      have h := ho.out
      rw [HF.out] at h
      show World.ownsRow _ _ _ _ _ (Q.sets k zs ps zs.length).length _
      rw [HSL.out]
      exact h
theorem runPlan_any (k n : Int) (zs ps : List Int) (A B : Option Addr) (c d : Nat) (hl : zs.length ≤ 1048576) (hl' : ps.length ≤ 1048576) (w : World) (hr : Law.Row w A (ivs zs)) (hp : Law.Row w B (ivs ps)) :
    Calls Try.prog 53 #[.int .i64 k, .int .i64 n, .slice A zs.length c, .slice B ps.length d] w (runSays (Q.runX k n zs ps) w) := by
  cases hok : Q.planOk k n zs ps
  · have HP := Lib.hid (isPlanList_any k n zs ps A B c d hl hl' w hr hp)
    rw [hok] at HP
    rw [show Q.runX k n zs ps = none by simp [Q.runX, hok]]
    clear hok hr hp
    go_enter Try.func53, Try.ntmps53
    go_wp2_with fail
    go_at_call 52
    refine (HP.out).mono ?_
    rintro e w' ⟨rfl, hw'⟩
    obtain rfl := hw'.symm
    clear hw'
    go_wp2
    go_ret3
    exact ⟨rfl, Below.refl _ _⟩
  · rw [show Q.runX k n zs ps = (Q.stB k zs ps zs.length).map fun x => (Q.sets k zs ps zs.length, x.2) by simp [Q.runX, hok]]
    have hok2 := hok
    simp only [Q.planOk, Q.planL, Bool.and_eq_true, decide_eq_true_eq] at hok2
    obtain ⟨⟨hk, hg⟩, hln, hall⟩ := hok2
    obtain ⟨N, rfl, h1, h2, h3, hx⟩ := Q.good_nat hg
    have hk' := Q.okS_iff.1 hk
    exact runPlan_good k N A c zs B d ps w hok h1 h2 h3 hk'.1 hk'.2 hx hln hall hr hp
end Go.Proofs.Ytklpdfilhgjllaa
