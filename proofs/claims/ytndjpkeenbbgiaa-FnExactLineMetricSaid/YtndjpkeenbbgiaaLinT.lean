/-
  LineMetric: the model's, whole.
-/
import Derived.Test.YtndjpkeenbbgiaaLinS
namespace Go.Proofs.Ytndjpkeenbbgiaa
open Go.RowKit
set_option linter.unusedVariables false
namespace Q
theorem dis_next {l : List Int} {k : Nat} {a : Int} (h : dis l k) (ha : l[k]? = some a) (hn : ¬ a ∈ l.take k) : dis l (k + 1) := fun i hi j hj e => by
  by_cases hik : i < k
  · exact h i hik j hj e
  · obtain rfl : i = k := by omega
    have hl : i < l.length := (List.getElem?_eq_some_iff.1 ha).1
    rw [getD_of ha] at e
    refine hn (List.mem_of_getElem? (i := j) ?_)
    rw [List.getElem?_take_of_lt hj, ← e, List.getD_eq_getElem?_getD, List.getElem?_eq_getElem (show j < l.length by omega)]
    rfl
theorem dis_not {l : List Int} {k : Nat} {a : Int} (ha : l[k]? = some a) (hm : a ∈ l.take k) : ¬ dis l l.length := fun h => by
  have hl : k < l.length := (List.getElem?_eq_some_iff.1 ha).1
  obtain ⟨j, hj, e⟩ := List.mem_iff_getElem.1 hm
  have hjk : j < k := by rw [List.length_take] at hj; omega
  refine h k hl j hjk ?_
  rw [getD_of ha, ← e, List.getElem_take, List.getD_eq_getElem?_getD, List.getElem?_eq_getElem (show j < l.length by omega)]
  rfl
end Q
set_option maxHeartbeats 3200000 in
theorem specLin_any (l : List Int) (A : Option Addr) (c : Nat) (w : World) (hcap : l.length ≤ c) (hr : Law.Row w A (ivs l)) :
    Calls Try.prog 34 #[.slice A l.length c] w (mrSays (Q.linQ l) w) := by
  have HM0 := Lib.hid (MBox.new w (.slice none 0 0))
  have HB0 : Hid (Below w.heap.size w (w.alloc (.cells #[.slice none 0 0] 43))) := (Below.refl _ _).alloc (Nat.le_refl _) _
  have HI := Lib.hid fun W => l1In_any (l.length : Int) 1 6 W
  have HJ := Lib.hid fun (a : Int) W => l1In_any a 0 99 W
  have HR := Lib.hid hr
  clear hr
  by_cases hn : 1 ≤ l.length ∧ l.length ≤ 6
  · rw [show (decide ((1 : Int) ≤ (l.length : Int)) && decide ((l.length : Int) ≤ 6)) = true by simp; omega] at HI
    have HQ0 : Hid (∀ k (a : Int), l[k]? = some a → ¬ (0 ≤ a ∧ a ≤ 99) ∨ a ∈ l.take k → Q.linQ l = ([], false)) := fun k a ha h => if_neg (fun e => by
      rcases h with h | h
      · obtain ⟨b, hb, b1, b2⟩ := Q.within_at e.2.1 (k := k) (List.getElem?_eq_some_iff.1 ha).1
        rw [ha] at hb
        injection hb with hb
        omega
      · exact Q.dis_not ha h e.2.2)
    have HQ1 : Hid ((∀ k, k < l.length → ∃ x, l[k]? = some x ∧ 0 ≤ x ∧ x ≤ 99) → Q.dis l l.length → Q.linQ l = (Q.tabK (Q.linG l) l.length l.length, true)) := fun h hd => if_pos ⟨hn, Q.withinL_of h, hd⟩
    generalize Q.linQ l = X at HQ0 HQ1 ⊢
    obtain ⟨n1, n6⟩ := hn
    have n6I : (l.length : Int) ≤ 6 := by omega
    go_enter Try.func34, Try.ntmps34
    go_wp2_with fail
    go_at_call 59
    refine (HI.out _).mono ?_
    rintro e w' ⟨rfl, hw'⟩
    obtain rfl := hw'.symm
    clear hw'
    go_wp2_with fail
    generalize w.alloc (.cells #[.slice none 0 0] 43) = wa at HM0 HB0 ⊢
    go_loopw [4] (fun i wr => ∃ k : Nat, k ≤ l.length ∧ i = .int .i64 (k : Int) ∧ Hid (∀ j, j < k → ∃ x, l[j]? = some x ∧ 0 ≤ x ∧ x ≤ 99) ∧ Hid (Q.dis l k) ∧ Hid (MBox wr w.heap.size (.slice none 0 0)) ∧ Hid (Below w.heap.size w wr)) (fun i _ => l.length - (intOf i).toNat)
    case atStart => exact ⟨0, Nat.zero_le _, rfl, (fun j hj => by omega), (fun i hi => by omega), HM0.out, HB0.out⟩
    case round =>
      obtain ⟨k, hk, rfl, hall, hdis, hm, hb⟩ := hrel
      clear HM0 HB0
      by_cases hlt : k < l.length
      · have hltI : (k : Int) < (l.length : Int) := by omega
        obtain ⟨a, ha⟩ : ∃ a, l[k]? = some a := ⟨_, List.getElem?_eq_getElem hlt⟩
        have HRk := Lib.hid (HR.out.stays hb.out)
        obtain ⟨b, off, rfl, hbl, hc⟩ := HRk.out.at_ (ivs_some ha)
        have hkc : (k : Int) ≤ (c : Int) := by omega
        have hkc2 : k ≤ c := by omega
        have HJ1 := Lib.hid fun W => HJ.out a W
        have HHs : Hid (∀ W, Law.Row W (some ⟨b, off, none⟩) (ivs l) → Calls Try.prog 68 #[.slice (some ⟨b, off, none⟩) k c, .int .i64 a] W fun e w' => e = .returned (.bool (decide (a ∈ l.take k))) ∧ w' = W) := fun W h => by
          have h2 := l1Has_any (some ⟨b, off, none⟩) c (l.take k) a W (by rw [List.length_take]; omega) (row_take h k)
          rwa [show (l.take k).length = k by rw [List.length_take]; omega] at h2
        by_cases hok : 0 ≤ a ∧ a ≤ 99
        · rw [show (decide ((0 : Int) ≤ a) && decide (a ≤ 99)) = true by simp; omega] at HJ1
          by_cases hmem : a ∈ l.take k
          · rw [show decide (a ∈ l.take k) = true from decide_eq_true hmem] at HHs
            have hq := HQ0.out k a ha (.inr hmem)
            clear HQ0 HQ1
            subst hq
            clear hall hdis ha hok hmem
            go_wp2_with fail
            go_quiet ((first | (go_at_call 59; exact Calls.quiet_of_same (HJ1.out _)) | (go_at_call 68; exact Calls.quiet_of_same (HHs.out _ (by first | exact HRk.out | exact Law.Row.drewN HRk.out _)))))
            have hk0 := hm.out.cell
            have hkf := hm.out.frozen
            have hkl := hm.out.lt
            have E2 := Lib.hid (hm.out.set (.slice none 0 0)).cell
            have HB' := Lib.hid (hb.out.setCell (p := ⟨w.heap.size, 0, none⟩) (Nat.le_refl _) (.slice none 0 0))
            go_wp2
            refine ret_met (b := w.heap.size) (x := .slice none 0 0) (f := .bool false) rfl rfl rfl E2.out rfl ⟨_, [], rfl, own_none _ _ _, NOwn.nil _ _, Law.up HB'.out _⟩
          · rw [show decide (a ∈ l.take k) = false from decide_eq_false hmem] at HHs
            have HN : Hid (∀ j, j < k + 1 → ∃ x, l[j]? = some x ∧ 0 ≤ x ∧ x ≤ 99) := fun j hj => by
              by_cases e : j = k
              · subst e
                exact ⟨a, ha, hok⟩
              · exact hall.out j (by omega)
            have HD := Lib.hid (Q.dis_next hdis.out ha hmem)
            clear hall hdis ha hok hmem
            go_wp2_with fail
            go_quiet ((first | (go_at_call 59; exact Calls.quiet_of_same (HJ1.out _)) | (go_at_call 68; exact Calls.quiet_of_same (HHs.out _ (by first | exact HRk.out | exact Law.Row.drewN HRk.out _)))))
            go_wp2
            go_roundw
            case rel => exact ⟨k + 1, by omega, by go_num, HN.out, HD.out, hm.out, Law.up hb.out _⟩
            case measure => simp [intOf]; omega
        · rw [show (decide ((0 : Int) ≤ a) && decide (a ≤ 99)) = false by simp; omega] at HJ1
          have hq := HQ0.out k a ha (.inl hok)
          clear HQ0 HQ1
          subst hq
          clear hall hdis ha hok HHs
          go_wp2_with fail
          go_quiet ((go_at_call 59; exact Calls.quiet_of_same (HJ1.out _)))
          have hk0 := hm.out.cell
          have hkf := hm.out.frozen
          have hkl := hm.out.lt
          have E2 := Lib.hid (hm.out.set (.slice none 0 0)).cell
          have HB' := Lib.hid (hb.out.setCell (p := ⟨w.heap.size, 0, none⟩) (Nat.le_refl _) (.slice none 0 0))
          go_wp2
          refine ret_met (b := w.heap.size) (x := .slice none 0 0) (f := .bool false) rfl rfl rfl E2.out rfl ⟨_, [], rfl, own_none _ _ _, NOwn.nil _ _, Law.up HB'.out _⟩
      · have hke : k = l.length := by omega
        have hltI : ¬ (k : Int) < (l.length : Int) := by omega
        have hX : ∀ k, k < l.length → ∃ x, l[k]? = some x ∧ 0 ≤ x ∧ x ≤ 99 := by rw [← hke]; exact hall.out
        have hq := HQ1.out hX (by rw [← hke]; exact hdis.out)
        clear HQ0 HQ1
        subst hq
        have HL := Lib.hid (l6Line_any l A c wr n1 n6 hX (HR.out.stays hb.out))
        have HTL := Lib.hid (Q.tabK_len (Q.linG l) l.length l.length)
        have HKE := Lib.hid hke
        clear hke hall hdis hX HJ HI
        go_wp2_with fail
        go_at_call 69
        refine HL.out.mono ?_
        rintro e w1 ⟨v, ys, rfl, ho, hno, hb2⟩
        obtain ⟨A1, c1, rfl, _, _, _⟩ := Law.own_len ho
        have HM1 := Lib.hid (hm.out.on hb2)
        have HB1 := Lib.hid (Law.then_ hb.out hb2)
        have hk0 := HM1.out.cell
        have hkf := HM1.out.frozen
        have hkl := HM1.out.lt
        have hs := hm.out.lt
        have E2 := Lib.hid (HM1.out.set (.slice A1 (Q.tabK (Q.linG l) l.length l.length).length c1)).cell
        have HB' := Lib.hid (HB1.out.setCell (p := ⟨w.heap.size, 0, none⟩) (Nat.le_refl _) (.slice A1 (Q.tabK (Q.linG l) l.length l.length).length c1))
        have HO' := Lib.hid (own_box ho HM1.out rows_nm (.slice A1 (Q.tabK (Q.linG l) l.length l.length).length c1))
        have HN' := Lib.hid (hno.store ⟨w.heap.size, 0, none⟩ (by show w.heap.size < _; omega) (.slice A1 (Q.tabK (Q.linG l) l.length l.length).length c1))
        clear ho hno hb2
        go_wp2
        refine ret_met (b := w.heap.size) (x := .slice A1 (Q.tabK (Q.linG l) l.length l.length).length c1) (f := .bool true) rfl rfl rfl E2.out rfl ⟨_, ys, rfl, own_down HO'.out (Nat.le_of_lt hs), HN'.out.down (Nat.le_of_lt hs), HB'.out⟩
  · rw [show (decide ((1 : Int) ≤ (l.length : Int)) && decide ((l.length : Int) ≤ 6)) = false by simp; omega] at HI
    rw [show Q.linQ l = ([], false) from if_neg (fun e => hn e.1)]
    clear hn HJ
    go_enter Try.func34, Try.ntmps34
    go_wp2_with fail
    go_at_call 59
    refine (HI.out _).mono ?_
    rintro e w' ⟨rfl, hw'⟩
    obtain rfl := hw'.symm
    clear hw'
    go_wp2
    refine ret_met (b := w.heap.size) (x := .slice none 0 0) (f := .bool false) rfl rfl rfl HM0.out.cell rfl ⟨_, [], rfl, own_none _ _ _, NOwn.nil _ _, HB0.out⟩
end Go.Proofs.Ytndjpkeenbbgiaa
