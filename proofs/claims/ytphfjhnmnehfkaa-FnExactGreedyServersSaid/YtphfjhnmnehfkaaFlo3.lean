/-
  Chain lists: what one is; the code's isChainList and the model's l7Chained.
-/
import Derived.Test.YtphfjhnmnehfkaaFlo2
import Derived.Test.YtphfjhnmnehfkaaOwnS
namespace Go.Proofs.Ytphfjhnmnehfkaa
open Go.RowKit
set_option linter.unusedVariables false
namespace Q
def okCh (k : Nat) (b : List Int) (i : Nat) : Bool := (decide (0 ≤ b.getD i 0) && decide (b.getD i 0 ≤ (k : Int) + i - 1)) && !decide (b.getD i 0 ∈ b.take i)
def chQ (k m : Nat) (b : List Int) : Bool := decide (b.length = m) && (List.range b.length).all (okCh k b)
theorem ch_iff {k m : Nat} {b : List Int} : chQ k m b = true ↔ b.length = m ∧ ∀ i, i < b.length → okCh k b i = true := by simp [chQ]
theorem ch_no {k m : Nat} {b : List Int} {i : Nat} (hi : i < b.length) (h : okCh k b i = false) : chQ k m b = false := by
  rw [Bool.eq_false_iff]
  intro h2
  have := (ch_iff.1 h2).2 i hi
  rw [h] at this
  cases this
theorem ch_in {k m : Nat} {b : List Int} (h : chQ k m b = true) : chIn k b := fun i hi => by
  have h1 := (ch_iff.1 h).2 i hi
  have h2 : b[i]? = some b[i] := List.getElem?_eq_getElem hi
  unfold okCh at h1
  rw [List.getD_eq_getElem?_getD, h2] at h1
  simp at h1
  obtain ⟨x, hx⟩ := Int.eq_ofNat_of_zero_le h1.1.1
  exact ⟨x, by rw [h2, hx], by omega⟩
theorem getD_of {b : List Int} {i : Nat} {x : Int} (h : b[i]? = some x) : b.getD i 0 = x := by simp [List.getD_eq_getElem?_getD, h]
end Q
set_option maxHeartbeats 800000 in
theorem l7Chained_any (a q b : List Int) (Ba Bq Bb : Option Addr) (da dq db : Nat) (w : World) (hla : a.length ≤ 1000) (hlq : q.length ≤ 1000) (hlb : b.length ≤ db) (hbr : Law.Row w Bb (ivs b)) :
    Calls Try.prog 74 #[.slice Ba a.length da, .slice Bq q.length dq, .slice Bb b.length db] w fun e w' => e = .returned (.bool (Q.chQ a.length q.length b)) ∧ Below w.heap.size w w' := by
  by_cases hl : b.length = q.length
  · have hbl : b.length ≤ 1000 := by omega
    have HNo := Lib.hid fun (i : Nat) (hi : i < b.length) (h : Q.okCh a.length b i = false) => Q.ch_no (m := q.length) hi h
    have HYes : Hid ((∀ i, i < b.length → Q.okCh a.length b i = true) → Q.chQ a.length q.length b = true) := fun h => Q.ch_iff.2 ⟨hl, h⟩
    have hlI : (b.length : Int) = (q.length : Int) := by omega
    generalize Q.chQ a.length q.length b = V at HNo HYes ⊢
    have HR := Lib.hid hbr
    generalize a.length = k at hla HNo HYes ⊢
    generalize q.length = m at hl hlI hlq ⊢
    subst hl
    clear hbr hlI
    go_enter Try.func74, Try.ntmps74
    go_wp2
    go_loopw [7] (fun i wr => ∃ j : Nat, j ≤ b.length ∧ i = .int .i64 (j : Int) ∧ Hid (∀ i, i < j → Q.okCh k b i = true) ∧ Hid (Below w.heap.size w wr)) (fun i _ => b.length - (intOf i).toNat)
    case atStart => exact ⟨0, Nat.zero_le _, rfl, fun i hi => by omega, Below.refl _ _⟩
    case round =>
      obtain ⟨j, hj, rfl, hall, hb⟩ := hrel
      by_cases hlt : j < b.length
      · have hltI : (j : Int) < (b.length : Int) := by omega
        obtain ⟨x, hx⟩ : ∃ x, b[j]? = some x := ⟨_, List.getElem?_eq_getElem hlt⟩
        have HRj := Lib.hid (HR.out.stays hb.out)
        obtain ⟨cb, co, rfl, _, hc⟩ := HRj.out.at_ (ivs_some hx)
        have hkc : (j : Int) ≤ (db : Int) := by omega
        have hkc2 : j ≤ db := by omega
        have hjb : (j : Int) ≤ (b.length : Int) := by omega
        have HJ := Lib.hid fun W => l1In_any x 0 ((k : Int) + j - 1) W
        have hw1 : IntKind.i64.wrap ((k : Int) + (j : Int)) = (k : Int) + (j : Int) := IntWalk.i64_in _ (by omega)
        have hw2 : IntKind.i64.wrap ((k : Int) + (j : Int) - 1) = (k : Int) + (j : Int) - 1 := IntWalk.i64_in _ (by omega)
        have HH : Hid (∀ W, Law.Row W (some ⟨cb, co, none⟩) (ivs b) → Calls Try.prog 89 #[.slice (some ⟨cb, co, none⟩) j db, .int .i64 x] W fun e w' => e = .returned (.bool (decide (x ∈ b.take j))) ∧ w' = W) := fun W h => by
          have h2 := l1Has_any (some ⟨cb, co, none⟩) db (b.take j) x W (by rw [List.length_take]; omega) (row_take h j)
          rwa [show (b.take j).length = j by rw [List.length_take]; omega] at h2
        have HE : Hid (Q.okCh k b j = ((decide (0 ≤ x) && decide (x ≤ (k : Int) + j - 1)) && !decide (x ∈ b.take j))) := by show _ = _; rw [Q.okCh, Q.getD_of hx]
        have HN := Lib.hid (HNo.out j hlt)
        have HS : Hid (Q.okCh k b j = true → ∀ i, i < j + 1 → Q.okCh k b i = true) := fun h i hi => by
          by_cases e : i = j
          · rw [e]; exact h
          · exact hall.out i (by omega)
        generalize (decide (0 ≤ x) && decide (x ≤ (k : Int) + j - 1)) = t at HJ HE
        generalize decide (x ∈ b.take j) = u at HH HE
        generalize Q.okCh k b j = o at HE HN HS
        clear hall hx HNo
        cases t
        · have hN := Lib.hid (HN.out (by rw [HE.out]; rfl))
          clear HN HS HE HH
          go_wp2_with fail
          go_quiet ((go_at_call 100; exact Calls.quiet_of_same (HJ.out _)))
          go_wp2
          go_ret
          exact ⟨by rw [hN.out]; rfl, Law.up hb.out _⟩
        · cases u
          · have hS := Lib.hid (HS.out (by rw [HE.out]; rfl))
            clear HN HS HE
            go_wp2_with fail
            go_quiet ((first | (go_at_call 100; exact Calls.quiet_of_same (HJ.out _)) | (go_at_call 89; exact Calls.quiet_of_same (HH.out _ (by first | exact HRj.out | exact Law.Row.drewN HRj.out _)))))
            go_wp2
            go_roundw
            case rel => exact ⟨j + 1, by omega, by go_num, hS.out, Law.up hb.out _⟩
            case measure => simp [intOf]; omega
          · have hN := Lib.hid (HN.out (by rw [HE.out]; rfl))
            clear HN HS HE
            go_wp2_with fail
            go_quiet ((first | (go_at_call 100; exact Calls.quiet_of_same (HJ.out _)) | (go_at_call 89; exact Calls.quiet_of_same (HH.out _ (by first | exact HRj.out | exact Law.Row.drewN HRj.out _)))))
            go_wp2
            go_ret
            exact ⟨by rw [hN.out]; rfl, Law.up hb.out _⟩
      · have hje : j = b.length := by omega
        have hltI : ¬ (j : Int) < (b.length : Int) := by omega
        have hN := Lib.hid (HYes.out (by rw [← hje]; exact hall.out))
        clear hje hall
        go_wp2
        go_ret
        exact ⟨by rw [hN.out]; rfl, hb.out⟩
  · have hlI : ¬ (b.length : Int) = (q.length : Int) := by omega
    have HN : Hid (Q.chQ a.length q.length b = false) := by show _ = _; simp [Q.chQ, hl]
    generalize Q.chQ a.length q.length b = V at HN ⊢
    clear hl hbr
    go_enter Try.func74, Try.ntmps74
    go_wp2
    go_ret
    exact ⟨by rw [HN.out]; rfl, Below.refl _ _⟩
set_option maxHeartbeats 800000 in
theorem isChain_any (A : Option Addr) (c : Nat) (xs : List Value) (L : List (List Int)) (k m : Nat) (C : Option Addr) (d : Nat) (P b : List Int) (Bb : Option Addr) (db : Nat) (w : World) (hk : k ≤ 1000) (hmm : m ≤ 1000) (hl0 : b.length ≤ 1048576) (hPm : P.length = k + m) (hlb : b.length ≤ db) (hr : NRow w A xs L) (hp : Law.Row w C (ivs P)) (hbr : Law.Row w Bb (ivs b)) :
    Calls Try.prog 77 #[fv A L.length c k C P.length d, .slice Bb b.length db] w fun e w' => e = .returned (.bool (Q.chQ k m b)) ∧ Below w.heap.size w w' := by
  have HF := Lib.hid (FloIn.start (c := c) (k := k) (d := d) hr hp 88)
  have HRb := Lib.hid fun (W : World) (h : Below w.heap.size w W) => hbr.stays h
  have hw0 : IntKind.i64.wrap ((k : Int) + (b.length : Int)) = (k : Int) + (b.length : Int) := IntWalk.i64_in _ (by omega)
  by_cases hl : b.length = m
  · have hbl : b.length ≤ 1000 := by omega
    have HNo := Lib.hid fun (i : Nat) (hi : i < b.length) (h : Q.okCh k b i = false) => Q.ch_no (m := m) hi h
    have HYes : Hid ((∀ i, i < b.length → Q.okCh k b i = true) → Q.chQ k m b = true) := fun h => Q.ch_iff.2 ⟨hl, h⟩
    have hlI : (k : Int) + (b.length : Int) = (P.length : Int) := by omega
    generalize Q.chQ k m b = V at HNo HYes ⊢
    clear hr hp hbr hl hPm hmm
    go_enter Try.func77, Try.ntmps77
    go_wp2_with fail
    generalize w.alloc (.cells #[.slice A L.length c, .int .i64 (k : Int), .slice C P.length d] 88) = wa at HF ⊢
    obtain ⟨p0, p1, p2, _, _, _, _⟩ := HF.out.bk
    have HR := Lib.hid (HRb.out wa HF.out.bl)
    have HB := Lib.hid HF.out.bl
    go_wp2
    clear hlI
    go_loop [18] (fun i => ∃ j : Nat, j ≤ b.length ∧ i = .int .i64 (j : Int) ∧ Hid (∀ i, i < j → Q.okCh k b i = true)) (fun i => b.length - (intOf i).toNat)
    case atStart => exact ⟨0, Nat.zero_le _, rfl, fun i hi => by omega⟩
    case round =>
      obtain ⟨j, hj, rfl, hall⟩ := hrel
      by_cases hlt : j < b.length
      · have hltI : (j : Int) < (b.length : Int) := by omega
        obtain ⟨x, hx⟩ : ∃ x, b[j]? = some x := ⟨_, List.getElem?_eq_getElem hlt⟩
        obtain ⟨cb, co, rfl, _, hc⟩ := HR.out.at_ (ivs_some hx)
        have hkc : (j : Int) ≤ (db : Int) := by omega
        have hkc2 : j ≤ db := by omega
        have hjb : (j : Int) ≤ (b.length : Int) := by omega
        have hw1 : IntKind.i64.wrap ((k : Int) + (j : Int)) = (k : Int) + (j : Int) := IntWalk.i64_in _ (by omega)
        have HH : Hid (∀ W, Law.Row W (some ⟨cb, co, none⟩) (ivs b) → Calls Try.prog 91 #[.slice (some ⟨cb, co, none⟩) j db, .int .i64 x] W fun e w' => e = .returned (.bool (decide (x ∈ b.take j))) ∧ w' = W) := fun W h => by
          have h2 := has_row (c := db) (row_take h j) (by rw [List.length_take]; omega) x
          rwa [show (b.take j).length = j by rw [List.length_take]; omega] at h2
        have HE : Hid (Q.okCh k b j = ((decide (0 ≤ x) && decide (x ≤ (k : Int) + j - 1)) && !decide (x ∈ b.take j))) := by show _ = _; rw [Q.okCh, Q.getD_of hx]
        have HN := Lib.hid (HNo.out j hlt)
        have HS : Hid (Q.okCh k b j = true → ∀ i, i < j + 1 → Q.okCh k b i = true) := fun h i hi => by
          by_cases e : i = j
          · rw [e]; exact h
          · exact hall.out i (by omega)
        generalize decide (x ∈ b.take j) = u at HH HE
        generalize Q.okCh k b j = o at HE HN HS
        clear hall hx HNo
        by_cases hx0 : x < 0
        · have hN := Lib.hid (HN.out (by rw [HE.out]; simp; omega))
          clear HN HS HE HH
          go_wp2
          go_ret
          exact ⟨by rw [hN.out]; rfl, HB.out⟩
        · by_cases hx1 : (k : Int) + (j : Int) ≤ x
          · have hN := Lib.hid (HN.out (by rw [HE.out]; simp; omega))
            clear HN HS HE HH
            go_wp2
            go_ret
            exact ⟨by rw [hN.out]; rfl, HB.out⟩
          · have hx2 : (decide (0 ≤ x) && decide (x ≤ (k : Int) + j - 1)) = true := by simp; omega
            rw [hx2] at HE
            clear hx2
            cases u
            · have hS := Lib.hid (HS.out (by rw [HE.out]; rfl))
              clear HN HS HE
              go_wp2_with fail
              go_at_call 91
              refine (HH.out _ HR.out).mono ?_
              rintro e w' ⟨rfl, hw'⟩
              obtain rfl := hw'.symm
              clear hw'
              go_wp2
              go_round
              case rel => exact ⟨j + 1, by omega, by go_num, hS.out⟩
              case measure => simp [intOf]; omega
            · have hN := Lib.hid (HN.out (by rw [HE.out]; rfl))
              clear HN HS HE
              go_wp2_with fail
              go_at_call 91
              refine (HH.out _ HR.out).mono ?_
              rintro e w' ⟨rfl, hw'⟩
              obtain rfl := hw'.symm
              clear hw'
              go_wp2
              go_ret
              exact ⟨by rw [hN.out]; rfl, HB.out⟩
      · have hje : j = b.length := by omega
        have hltI : ¬ (j : Int) < (b.length : Int) := by omega
        have hN := Lib.hid (HYes.out (by rw [← hje]; exact hall.out))
        clear hje hall
        go_wp2
        go_ret
        exact ⟨by rw [hN.out]; rfl, HB.out⟩
  · have hlI : ¬ (k : Int) + (b.length : Int) = (P.length : Int) := by omega
    have HN : Hid (Q.chQ k m b = false) := by show _ = _; simp [Q.chQ, hl]
    generalize Q.chQ k m b = V at HN ⊢
    clear hr hp hbr hl hPm
    go_enter Try.func77, Try.ntmps77
    go_wp2_with fail
    generalize w.alloc (.cells #[.slice A L.length c, .int .i64 (k : Int), .slice C P.length d] 88) = wa at HF ⊢
    obtain ⟨p0, p1, p2, _, _, _, _⟩ := HF.out.bk
    have HB := Lib.hid HF.out.bl
    go_wp2
    go_ret
    exact ⟨by rw [HN.out]; rfl, HB.out⟩
end Go.Proofs.Ytphfjhnmnehfkaa
