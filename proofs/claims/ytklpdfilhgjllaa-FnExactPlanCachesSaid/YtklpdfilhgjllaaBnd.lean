/-
  The bound of marks: the mathematics; the small functions of both sides (l5Has, marksIn, hasPlace, isOpen, l5Takes, isPaging).
-/
import Derived.Test.YtklpdfilhgjllaaIvl
import Derived.Test.YtklpdfilhgjllaaRis
namespace Go.Proofs.Ytklpdfilhgjllaa
open Go.RowKit
set_option linter.unusedVariables false
namespace Q
def okS (s : Int) : Bool := decide (1 ≤ s) && decide (s ≤ 6)
theorem okS_iff {s : Int} : okS s = true ↔ 1 ≤ s ∧ s ≤ 6 := by simp [okS]
/-- An interval from a to b (open if b is below 0) has the place m. -/
def hasP (a b m : Int) : Bool := decide (a < m) && (decide (b < 0) || decide (m < b))
def cnt (a b : Int) (ms : List Int) : Nat := ms.countP (hasP a b)
theorem cnt_le (a b : Int) (ms : List Int) : cnt a b ms ≤ ms.length := List.countP_le_length
theorem cnt_take {a b : Int} {ms : List Int} {k : Nat} {m : Int} (h : ms[k]? = some m) : cnt a b (ms.take (k + 1)) = cnt a b (ms.take k) + if hasP a b m then 1 else 0 := by
  rw [take_snoc h, cnt, List.countP_append]
  simp [List.countP_cons, cnt]
def cost (a b : Int) (ms : List Int) : Int := if b < 0 then (cnt a b ms : Int) else max 0 ((cnt a b ms : Int) - 1)
theorem cost_bd (a b : Int) (ms : List Int) : 0 ≤ cost a b ms ∧ cost a b ms ≤ ms.length := by
  have := cnt_le a b ms
  unfold cost
  split <;> omega
/-- The bound after the first marks. -/
def bm (k : Int) (zs ms : List Int) : Nat → Int
  | 0 => (dif zs : Nat)
  | j + 1 => bm k zs ms j + (((dif (zs.take ((ms.getD j 0).toNat + 1)) : Nat) : Int) - k)
theorem bm_bd {k : Int} {zs : List Int} (ms : List Int) (h1 : 1 ≤ k) (h2 : k ≤ 6) (h3 : zs.length ≤ 60) : ∀ j : Nat, -6 * (j : Int) ≤ bm k zs ms j ∧ bm k zs ms j ≤ 60 + 60 * (j : Int)
  | 0 => by
    have := dif_le zs
    simp only [bm]
    omega
  | j + 1 => by
    have ih := bm_bd ms h1 h2 h3 j
    have := dif_le (zs.take ((ms.getD j 0).toNat + 1))
    rw [List.length_take] at this
    simp only [bm]
    omega
/-- The bound after all marks and the first intervals. -/
def bi (k : Int) (zs ms : List Int) : Nat → Int
  | 0 => bm k zs ms ms.length
  | i + 1 => bi k zs ms i - cost i (nextOf zs i) ms
theorem bi_bd {k : Int} {zs : List Int} {ms : List Int} (h1 : 1 ≤ k) (h2 : k ≤ 6) (h3 : zs.length ≤ 60) (h4 : ms.length ≤ 60) : ∀ i : Nat, -360 - 60 * (i : Int) ≤ bi k zs ms i ∧ bi k zs ms i ≤ 3660
  | 0 => by
    have := bm_bd ms h1 h2 h3 ms.length
    simp only [bi]
    omega
  | i + 1 => by
    have ih := bi_bd h1 h2 h3 h4 i
    have := cost_bd i (nextOf zs i) ms
    simp only [bi]
    omega
def bnd (k : Int) (zs ms : List Int) : Int := bi k zs ms zs.length
def bndOk (k n : Int) (zs ms : List Int) : Bool := (okS k && good n zs) && rises zs.length ms
def bndQ (k n : Int) (zs ms : List Int) : Int × Bool := if bndOk k n zs ms then (bnd k zs ms, true) else (0, false)
end Q
theorem isSize_any (n : Int) (w : World) : Calls Try.prog 81 #[.int .i64 n] w fun e w' => e = .returned (.bool (Q.okS n)) ∧ w' = w := by
  have HE : Hid (Q.okS n = (decide (1 ≤ n) && decide (n ≤ 6))) := rfl
  by_cases h1 : 1 ≤ n
  · go_enter Try.func81, Try.ntmps81
    go_wp2
    go_ret
    exact ⟨by rw [HE.out]; simp [h1], rfl⟩
  · go_enter Try.func81, Try.ntmps81
    go_wp2
    go_ret
    exact ⟨by rw [HE.out]; simp [show ¬ 1 ≤ n from by omega], rfl⟩
theorem isPaging_any (k n : Int) (A : Option Addr) (c : Nat) (zs : List Int) (w : World) (hn : zs.length ≤ 1048576) (hr : Law.Row w A (ivs zs)) :
    Calls Try.prog 56 #[.int .i64 k, .int .i64 n, .slice A zs.length c] w fun e w' => e = .returned (.bool (Q.okS k && Q.good n zs)) ∧ w' = w := by
  have HP : Hid (∀ W, Calls Try.prog 81 #[.int .i64 k] W fun e w' => e = .returned (.bool (Q.okS k)) ∧ w' = W) := fun W => isSize_any k W
  have HS := Lib.hid (impIsReq_any n A c zs w hn hr)
  clear hr
  cases hp : Q.okS k
  · rw [hp] at HP
    clear hp HS
    go_enter Try.func56, Try.ntmps56
    go_wp2_with fail
    go_at_call 81
    refine (HP.out _).mono ?_
    rintro e w' ⟨rfl, hw'⟩
    obtain rfl := hw'.symm
    clear hw'
    go_wp2
    go_ret
    exact ⟨rfl, rfl⟩
  · rw [hp] at HP
    clear hp
    generalize Q.good n zs = b at HS ⊢
    go_enter Try.func56, Try.ntmps56
    go_wp2_with fail
    go_at_call 81
    refine (HP.out _).mono ?_
    rintro e w' ⟨rfl, hw'⟩
    obtain rfl := hw'.symm
    clear hw'
    go_wp2_with fail
    go_at_call 70
    refine (HS.out).mono ?_
    rintro e w' ⟨rfl, hw'⟩
    obtain rfl := hw'.symm
    clear hw'
    go_wp2
    go_ret
    exact ⟨rfl, rfl⟩
theorem l5Takes_any (k n : Int) (A : Option Addr) (c : Nat) (zs : List Int) (w : World) (hn : zs.length ≤ 1048576) (hr : Law.Row w A (ivs zs)) :
    Calls Try.prog 49 #[.int .i64 k, .int .i64 n, .slice A zs.length c] w fun e w' => e = .returned (.bool (Q.okS k && Q.good n zs)) ∧ w' = w := by
  have HP : Hid (∀ W, Calls Try.prog 85 #[.int .i64 k, .int .i64 1, .int .i64 6] W fun e w' => e = .returned (.bool (Q.okS k)) ∧ w' = W) := fun W => l1In_any k 1 6 W
  have HS := Lib.hid (l3Good_any n A c zs w hn hr)
  clear hr
  cases hp : Q.okS k
  · rw [hp] at HP
    clear hp HS
    go_enter Try.func49, Try.ntmps49
    go_wp2_with fail
    go_at_call 85
    refine (HP.out _).mono ?_
    rintro e w' ⟨rfl, hw'⟩
    obtain rfl := hw'.symm
    clear hw'
    go_wp2
    go_ret
    exact ⟨rfl, rfl⟩
  · rw [hp] at HP
    clear hp
    generalize Q.good n zs = b at HS ⊢
    go_enter Try.func49, Try.ntmps49
    go_wp2_with fail
    go_at_call 85
    refine (HP.out _).mono ?_
    rintro e w' ⟨rfl, hw'⟩
    obtain rfl := hw'.symm
    clear hw'
    go_wp2_with fail
    go_at_call 69
    refine (HS.out).mono ?_
    rintro e w' ⟨rfl, hw'⟩
    obtain rfl := hw'.symm
    clear hw'
    go_wp2
    go_ret
    exact ⟨rfl, rfl⟩
theorem isOpen_any (a b : Int) (w : World) : Calls Try.prog 79 #[av a b] w fun e w' => e = .returned (.bool (decide (b < 0))) ∧ Below w.heap.size w w' := by
  go_enter Try.func79, Try.ntmps79
  go_wp2
  go_ret
  exact ⟨rfl, (Below.refl _ _).alloc (Nat.le_refl _) _⟩
set_option maxHeartbeats 800000 in
theorem hasPlace_any (a b m : Int) (w : World) : Calls Try.prog 106 #[av a b, .int .i64 m] w fun e w' => e = .returned (.bool (Q.hasP a b m)) ∧ Below w.heap.size w w' := by
  have HH : Hid (Q.hasP a b m = (decide (a < m) && (decide (b < 0) || decide (m < b)))) := rfl
  by_cases h1 : a < m
  · have HO := Lib.hid (isOpen_any a b (w.alloc (.cells #[.int .i64 a, .int .i64 b] 76)))
    by_cases h2 : b < 0
    · go_enter Try.func106, Try.ntmps106
      go_wp2_with fail
      go_at_call 79
      refine HO.out.mono ?_
      rintro e w1 ⟨rfl, hb⟩
      have HB : Hid (Below w.heap.size w w1) := Lib.hid (Law.then_ ((Below.refl _ _).alloc (Nat.le_refl _) _) hb)
      clear hb
      go_wp2
      go_ret
      exact ⟨by rw [HH.out]; simp [h1, h2], HB.out⟩
    · go_enter Try.func106, Try.ntmps106
      go_wp2_with fail
      go_at_call 79
      refine HO.out.mono ?_
      rintro e w1 ⟨rfl, hb⟩
      have HB : Hid (Below w.heap.size w w1) := Lib.hid (Law.then_ ((Below.refl _ _).alloc (Nat.le_refl _) _) hb)
      have hc1 : w1.cell? ⟨w.heap.size, 1, none⟩ = some (.int .i64 b) := (hb.cell (p := ⟨w.heap.size, 1, none⟩) (by simp)).trans (by simp)
      clear hb
      go_wp2
      go_ret
      exact ⟨by rw [HH.out]; simp [h1], HB.out⟩
  · go_enter Try.func106, Try.ntmps106
    go_wp2
    go_ret
    exact ⟨by rw [HH.out, show decide (a < m) = false from decide_eq_false (by omega)]; rfl, (Below.refl _ _).alloc (Nat.le_refl _) _⟩
set_option maxHeartbeats 1600000 in
theorem marksIn_any (a b : Int) (A : Option Addr) (c : Nat) (ms : List Int) (w : World) (h3 : ms.length ≤ 60) (hr : Law.Row w A (ivs ms)) :
    Calls Try.prog 78 #[av a b, .slice A ms.length c] w fun e w' => e = .returned (.int .i64 ((Q.cnt a b ms : Nat) : Int)) ∧ Below w.heap.size w w' := by
  have HR := Lib.hid hr
  clear hr
  go_enter Try.func78, Try.ntmps78
  go_wp2
  go_loopw [5, 10] (fun q i wr => ∃ k : Nat, k ≤ ms.length ∧ i = .int .i64 k ∧ q = .int .i64 ((Q.cnt a b (ms.take k) : Nat) : Int) ∧ Hid (Blk wr w.heap.size (.int .i64 a) (.int .i64 b)) ∧ Hid (w.heap.size < wr.heap.size) ∧ Hid (Below w.heap.size w wr)) (fun _ i _ => ms.length - (intOf i).toNat)
  case atStart => exact ⟨0, Nat.zero_le _, rfl, rfl, ⟨by go_simp, by go_simp, by go_simp, by go_simp⟩, (by show _ < _; simp), (Below.refl _ _).alloc (Nat.le_refl _) _⟩
  case round =>
    obtain ⟨k, hk, rfl, rfl, hB, hs, hb⟩ := hrel
    by_cases hlt : k < ms.length
    · obtain ⟨m, hm⟩ : ∃ m, ms[k]? = some m := ⟨_, List.getElem?_eq_getElem hlt⟩
      obtain ⟨b', off, rfl, hbl, hc⟩ := (HR.out.stays hb.out).at_ (ivs_some hm)
      have hltI : (k : Int) < (ms.length : Int) := by omega
      have HT := Lib.hid (Q.cnt_take (a := a) (b := b) hm)
      have hcl : Q.cnt a b (ms.take k) ≤ 60 := Nat.le_trans (Q.cnt_le _ _ _) (by rw [List.length_take]; omega)
      obtain ⟨hc0, hc1, _, _⟩ := hB.out
      have HP := Lib.hid (hasPlace_any a b m wr)
      generalize Q.cnt a b (ms.take k) = q at hcl HT ⊢
      clear hm
      cases hh : Q.hasP a b m
      · rw [hh] at HP HT
        clear hh
        go_wp2_with fail
        go_at_call 106
        refine HP.out.mono ?_
        rintro e w1 ⟨rfl, hb1⟩
        have HB1 := Lib.hid (Law.then_ hb.out hb1)
        have HK := Lib.hid (hB.out.below hb1 hs.out)
        have HS := Lib.hid (Nat.lt_of_lt_of_le hs.out hb1.size)
        clear hb hB hs hb1 hc0 hc1
        go_wp2
        go_roundw
        case rel => exact ⟨k + 1, by omega, by go_num, by rw [HT.out]; rfl, HK.out, HS.out, HB1.out⟩
        case measure => simp [intOf]; omega
      · rw [hh] at HP HT
        clear hh
        go_wp2_with fail
        go_at_call 106
        refine HP.out.mono ?_
        rintro e w1 ⟨rfl, hb1⟩
        have HB1 := Lib.hid (Law.then_ hb.out hb1)
        have HK := Lib.hid (hB.out.below hb1 hs.out)
        have HS := Lib.hid (Nat.lt_of_lt_of_le hs.out hb1.size)
        clear hb hB hs hb1 hc0 hc1
        go_wp2
        go_roundw
        case rel => exact ⟨k + 1, by omega, by go_num, by rw [HT.out]; go_num, HK.out, HS.out, HB1.out⟩
        case measure => simp [intOf]; omega
    · have hke : k = ms.length := by omega
      have hltI : ¬ (k : Int) < (ms.length : Int) := by omega
      have HT : Hid (Q.cnt a b (ms.take k) = Q.cnt a b ms) := by show _ = _; rw [hke, List.take_length]
      clear hke
      go_wp2
      go_ret
      exact ⟨by rw [← HT.out]; rfl, hb.out⟩
set_option maxRecDepth 100000 in
set_option maxHeartbeats 3200000 in
theorem l5Has_any (a b : Int) (A : Option Addr) (c : Nat) (ms : List Int) (w : World) (h3 : ms.length ≤ 60) (hr : Law.Row w A (ivs ms)) :
    Calls Try.prog 104 #[av a b, .slice A ms.length c] w fun e w' => e = .returned (.int .i64 ((Q.cnt a b ms : Nat) : Int)) ∧ Below w.heap.size w w' := by
  have HR := Lib.hid hr
  clear hr
  go_enter Try.func104, Try.ntmps104
  go_wp2
  go_loopw [5, 6] (fun q i wr => ∃ k : Nat, k ≤ ms.length ∧ i = .int .i64 k ∧ q = .int .i64 ((Q.cnt a b (ms.take k) : Nat) : Int) ∧ Hid (Blk wr w.heap.size (.int .i64 a) (.int .i64 b)) ∧ Hid (Below w.heap.size w wr)) (fun _ i _ => ms.length - (intOf i).toNat)
  case atStart => exact ⟨0, Nat.zero_le _, rfl, rfl, ⟨by go_simp, by go_simp, by go_simp, by go_simp⟩, (Below.refl _ _).alloc (Nat.le_refl _) _⟩
  case round =>
    obtain ⟨k, hk, rfl, rfl, hK, hb⟩ := hrel
    have HN : Hid (∀ n, Blk (wr.drewN n) w.heap.size (.int .i64 a) (.int .i64 b) ∧ Below w.heap.size w (wr.drewN n)) := fun n => ⟨hK.out.drewN n, Law.up hb.out n⟩
    by_cases hlt : k < ms.length
    · obtain ⟨m, hm⟩ : ∃ m, ms[k]? = some m := ⟨_, List.getElem?_eq_getElem hlt⟩
      obtain ⟨b', off, rfl, hbl, hc⟩ := (HR.out.stays hb.out).at_ (ivs_some hm)
      have hltI : (k : Int) < (ms.length : Int) := by omega
      have HT := Lib.hid (Q.cnt_take (a := a) (b := b) hm)
      have hcl : Q.cnt a b (ms.take k) ≤ 60 := Nat.le_trans (Q.cnt_le _ _ _) (by rw [List.length_take]; omega)
      obtain ⟨hc0, hc1, _, _⟩ := hK.out
      clear hK hb
      generalize Q.cnt a b (ms.take k) = q at hcl HT ⊢
      clear hm
      have hor : (¬ a < m) ∨ (a < m ∧ b < 0) ∨ (a < m ∧ ¬ b < 0 ∧ m < b) ∨ (a < m ∧ ¬ b < 0 ∧ ¬ m < b) := by omega
      rcases hor with h1 | ⟨h1, h2⟩ | ⟨h1, h2, h4⟩ | ⟨h1, h2, h4⟩
      · have HH : Hid (Q.hasP a b m = false) := by show _ = _; simp [Q.hasP, h1]
        have d1 : decide (a < m) = false := decide_eq_false h1
        go_wp2_with fail
        go_quiet (fail)
        go_wp2
        go_roundw
        case rel => exact ⟨k + 1, by omega, by go_num, by rw [HT.out, HH.out]; rfl, (HN.out _).1, (HN.out _).2⟩
        case measure => simp [intOf]; omega
      · have HH : Hid (Q.hasP a b m = true) := by show _ = _; simp [Q.hasP, h1, h2]
        have d1 : decide (a < m) = true := decide_eq_true h1
        have d2 : decide (b < 0) = true := decide_eq_true h2
        go_wp2_with fail
        go_quiet (fail)
        go_wp2
        go_roundw
        case rel => exact ⟨k + 1, by omega, by go_num, by rw [HT.out, HH.out]; go_num, (HN.out _).1, (HN.out _).2⟩
        case measure => simp [intOf]; omega
      · have HH : Hid (Q.hasP a b m = true) := by show _ = _; simp [Q.hasP, h1, h2, h4]
        have d1 : decide (a < m) = true := decide_eq_true h1
        have d2 : decide (b < 0) = false := decide_eq_false h2
        have d4 : decide (m < b) = true := decide_eq_true h4
        go_wp2_with fail
        go_quiet (fail)
        go_wp2
        go_roundw
        case rel => exact ⟨k + 1, by omega, by go_num, by rw [HT.out, HH.out]; go_num, (HN.out _).1, (HN.out _).2⟩
        case measure => simp [intOf]; omega
      · have HH : Hid (Q.hasP a b m = false) := by show _ = _; simp [Q.hasP, h1, h2, h4]
        have d1 : decide (a < m) = true := decide_eq_true h1
        have d2 : decide (b < 0) = false := decide_eq_false h2
        have d4 : decide (m < b) = false := decide_eq_false h4
        go_wp2_with fail
        go_quiet (fail)
        go_wp2
        go_roundw
        case rel => exact ⟨k + 1, by omega, by go_num, by rw [HT.out, HH.out]; rfl, (HN.out _).1, (HN.out _).2⟩
        case measure => simp [intOf]; omega
    · have hke : k = ms.length := by omega
      have hltI : ¬ (k : Int) < (ms.length : Int) := by omega
      have HT : Hid (Q.cnt a b (ms.take k) = Q.cnt a b ms) := by show _ = _; rw [hke, List.take_length]
      clear hke
      go_wp2
      go_ret
      exact ⟨by rw [← HT.out]; rfl, hb.out⟩
end Go.Proofs.Ytklpdfilhgjllaa
