/-
  Plans: the mathematics of a plan's run over sets; both sides' tests of a list (isPlanList, l5Plan).
-/
import Derived.Test.YtklpdfilhgjllaaBnd
import Derived.Test.YtklpdfilhgjllaaSet
namespace Go.Proofs.Ytklpdfilhgjllaa
open Go.RowKit
set_option linter.unusedVariables false
namespace Q
def okL (n l : Int) : Bool := decide (l = -1) || okItem n l
theorem okL_iff {n l : Int} (hn : 0 ≤ n) : okL n l = true ↔ -1 ≤ l ∧ l ≤ n - 1 := by simp [okL, okItem]; omega
def planL (n : Int) (zs ps : List Int) : Bool := decide (ps.length = zs.length) && ps.all (okL n)
def planOk (k n : Int) (zs ps : List Int) : Bool := (okS k && good n zs) && planL n zs ps
/-- One place of a plan: set, faults; page, what leaves. -/
def step (k : Int) (S f p : Nat) (l : Int) : Option (Nat × Nat) :=
  if 0 ≤ l ∧ (S.testBit p = true ∨ S.testBit l.toNat = false) then none
  else if k < (popB (exB S l p) : Int) then none else some (exB S l p, f + if S.testBit p then 0 else 1)
def stB (k : Int) (zs ps : List Int) : Nat → Option (Nat × Nat)
  | 0 => some (0, 0)
  | i + 1 => (stB k zs ps i).bind fun x => step k x.1 x.2 (zs.getD i 0).toNat (ps.getD i 0)
theorem stB_none {k : Int} {zs ps : List Int} {i : Nat} (h : stB k zs ps i = none) : ∀ j, stB k zs ps (i + j) = none
  | 0 => h
  | j + 1 => by rw [← Nat.add_assoc, stB, stB_none h j]; rfl
theorem stB_fail {k : Int} {zs ps : List Int} {i n : Nat} (h : stB k zs ps i = none) (hi : i ≤ n) : stB k zs ps n = none := by
  have := stB_none h (n - i)
  rwa [show i + (n - i) = n by omega] at this
/-- The set behind place j. -/
def setAt (k : Int) (zs ps : List Int) (j : Nat) : Nat := ((stB k zs ps (j + 1)).getD (0, 0)).1
def sets (k : Int) (zs ps : List Int) (n : Nat) : List Nat := (List.range n).map (setAt k zs ps)
theorem sets_len (k : Int) (zs ps : List Int) (n : Nat) : (sets k zs ps n).length = n := by simp [sets]
theorem sets_at {k : Int} {zs ps : List Int} {n j S f : Nat} (hj : j < n) (h : stB k zs ps (j + 1) = some (S, f)) : (sets k zs ps n)[j]? = some S := by simp [sets, hj, setAt, h]
theorem sets_snoc {k : Int} {zs ps : List Int} {j S f : Nat} (h : stB k zs ps (j + 1) = some (S, f)) : sets k zs ps (j + 1) = sets k zs ps j ++ [S] := by simp [sets, List.range_succ, setAt, h]
/-- What a plan's run gives: the sets behind all places, and the faults. -/
def runX (k n : Int) (zs ps : List Int) : Option (List Nat × Nat) :=
  if planOk k n zs ps then (stB k zs ps zs.length).map fun x => (sets k zs ps zs.length, x.2) else none
theorem stB_succ {k : Int} {zs ps : List Int} {i S f p : Nat} {l : Int} (h : stB k zs ps i = some (S, f)) (hz : zs[i]? = some (p : Int)) (hp : ps[i]? = some l) : stB k zs ps (i + 1) = step k S f p l := by
  rw [stB, h, List.getD_eq_getElem?_getD, List.getD_eq_getElem?_getD, hz, hp]
  rfl
theorem step_bd {k : Int} {S f p : Nat} {l : Int} {x : Nat × Nat} (hS : S < 256) (hp : p < 8) (hl : l < 8) (h : step k S f p l = some x) : x.1 < 256 ∧ x.2 ≤ f + 1 := by
  unfold step at h
  split at h
  · cases h
  · split at h
    · cases h
    · injection h with h
      subst h
      refine ⟨ex_lt hS hp hl, ?_⟩
      simp only []
      split <;> omega
theorem stB_bd {k : Int} {zs ps : List Int} (hz : ∀ z ∈ zs, z < 8) (hp : ∀ l ∈ ps, l < 8) : ∀ i x, stB k zs ps i = some x → x.1 < 256 ∧ x.2 ≤ i
  | 0, x, h => by
    injection h with h
    subst h
    simp
  | i + 1, x, h => by
    rw [stB] at h
    cases hs : stB k zs ps i
    · rw [hs] at h; cases h
    · rename_i y
      rw [hs] at h
      have ih := stB_bd hz hp i y hs
      have h1 : (zs.getD i 0).toNat < 8 := by
        rw [List.getD_eq_getElem?_getD]
        cases e : zs[i]?
        · simp
        · have := hz _ (List.mem_of_getElem? e); simp; omega
      have h2 : ps.getD i 0 < 8 := by
        rw [List.getD_eq_getElem?_getD]
        cases e : ps[i]?
        · simp
        · exact hp _ (List.mem_of_getElem? e)
      have := step_bd ih.1 h1 h2 (show step k y.1 y.2 _ _ = some x from h)
      omega
theorem all_at {n : Int} {ps : List Int} (h : ps.all (okL n) = true) {i : Nat} {l : Int} (hi : ps[i]? = some l) : okL n l = true := List.all_eq_true.1 h l (List.mem_of_getElem? hi)
theorem all_no {n : Int} {ps : List Int} {l : Int} (hm : l ∈ ps) (h : okL n l = false) : ps.all (okL n) = false := by
  rw [Bool.eq_false_iff]
  intro e
  have := List.all_eq_true.1 e l hm
  rw [h] at this
  cases this
end Q
set_option maxRecDepth 100000 in
set_option maxHeartbeats 1600000 in
theorem isPlanList_any (k n : Int) (zs ps : List Int) (A B : Option Addr) (c d : Nat) (hl : zs.length ≤ 1048576) (hl' : ps.length ≤ 1048576) (w : World) (hr : Law.Row w A (ivs zs)) (hp : Law.Row w B (ivs ps)) :
    Calls Try.prog 52 #[.int .i64 k, .int .i64 n, .slice A zs.length c, .slice B ps.length d] w fun e w' => e = .returned (.bool (Q.planOk k n zs ps)) ∧ w' = w := by
  have HT := Lib.hid (isPaging_any k n A c zs w hl hr)
  have HP := Lib.hid hp
  clear hr hp
  cases ht : (Q.okS k && Q.good n zs)
  · have HF : Hid (Q.planOk k n zs ps = false) := by show _ = _; simp only [Q.planOk, ht]; rfl
    rw [ht] at HT
    clear ht
    go_enter Try.func52, Try.ntmps52
    go_wp2_with fail
    go_at_call 56
    refine (HT.out).mono ?_
    rintro e w' ⟨rfl, hw'⟩
    obtain rfl := hw'.symm
    clear hw'
    go_wp2
    go_ret
    exact ⟨by rw [HF.out]; rfl, rfl⟩
  · rw [ht] at HT
    have HE : Hid (Q.planOk k n zs ps = Q.planL n zs ps) := by show _ = _; simp only [Q.planOk, ht]; rfl
    obtain ⟨hk, hg⟩ : Q.okS k = true ∧ Q.good n zs = true := by simpa using ht
    obtain ⟨N, rfl, h1, h2, h3, hx⟩ := Q.good_nat hg
    clear ht hk hg hx
    by_cases hln : ps.length = zs.length
    · have HL : Hid (Q.planL N zs ps = ps.all (Q.okL N)) := by show _ = _; simp only [Q.planL, hln]; simp
      have hlnI : (ps.length : Int) = (zs.length : Int) := by omega
      have HLN := Lib.hid hln
      clear hln
      go_enter Try.func52, Try.ntmps52
      go_wp2_with fail
      go_at_call 56
      refine (HT.out).mono ?_
      rintro e w' ⟨rfl, hw'⟩
      obtain rfl := hw'.symm
      clear hw'
      go_wp2_with fail
      go_loop [25] (fun i => ∃ k : Nat, k ≤ ps.length ∧ i = .int .i64 (k : Int) ∧ Hid (∀ z ∈ ps.take k, Q.okL N z = true)) (fun i => ps.length - (intOf i).toNat)
      case atStart => exact ⟨0, Nat.zero_le _, rfl, fun z hz => by simp at hz⟩
      case round =>
        obtain ⟨k, hk, rfl, hall⟩ := hrel
        by_cases hlt : k < ps.length
        · obtain ⟨z, hz⟩ : ∃ z, ps[k]? = some z := ⟨_, List.getElem?_eq_getElem hlt⟩
          obtain ⟨b, off, rfl, hbl, hc⟩ := HP.out.at_ (ivs_some hz)
          have hltI : (k : Int) < (ps.length : Int) := by omega
          have HI := Lib.hid fun W => isItem_any N z W
          rw [Q.okItem_lt] at HI
          have hm : z ∈ ps := List.mem_of_getElem? hz
          have HT2 := Lib.hid (Q.take_snoc hz)
          have HN1 : Q.okL N z = true → Hid (∀ y ∈ ps.take (k + 1), Q.okL N y = true) := fun hok y hy => by
            rw [HT2.out] at hy
            rcases List.mem_append.1 hy with h | h
            · exact hall.out y h
            · obtain rfl := List.mem_singleton.1 h
              exact hok
          clear hz
          by_cases hz1 : z = -1
          · have HN := HN1 (by simp [Q.okL, hz1])
            clear HN1 HI hm hall HT2
            subst hz1
            go_wp2
            go_round
            case rel => exact ⟨k + 1, by omega, by go_num, HN.out⟩
            case measure => simp [intOf]; omega
          · cases hok : Q.okItem N z
            · rw [hok] at HI
              have HN : Hid (ps.all (Q.okL N) = false) := Lib.hid (Q.all_no hm (by simp [Q.okL, hz1, hok]))
              clear HN1 hm hall HT2 hok
              go_wp2_with fail
              go_at_call 90
              refine (HI.out _).mono ?_
              rintro e w' ⟨rfl, hw'⟩
              obtain rfl := hw'.symm
              clear hw'
              go_wp2
              go_ret
              exact ⟨by rw [HE.out, HL.out, HN.out]; rfl, rfl⟩
            · rw [hok] at HI
              have HN := HN1 (by simp [Q.okL, hok])
              clear HN1 hm hall HT2 hok
              go_wp2_with fail
              go_at_call 90
              refine (HI.out _).mono ?_
              rintro e w' ⟨rfl, hw'⟩
              obtain rfl := hw'.symm
              clear hw'
              go_wp2
              go_round
              case rel => exact ⟨k + 1, by omega, by go_num, HN.out⟩
              case measure => simp [intOf]; omega
        · have hke : k = ps.length := by omega
          have hltI : ¬ (k : Int) < (ps.length : Int) := by omega
          have HN : Hid (ps.all (Q.okL N) = true) := by
            show _ = _
            refine List.all_eq_true.2 fun z hz => hall.out z ?_
            rw [hke, List.take_length]
            exact hz
          clear hke hall
          go_wp2
          go_ret
          exact ⟨by rw [HE.out, HL.out, HN.out]; rfl, rfl⟩
    · have hlnI : ¬ (ps.length : Int) = (zs.length : Int) := by omega
      have HF : Hid (Q.planL N zs ps = false) := by show _ = _; simp only [Q.planL, hln]; simp
      clear hln
      go_enter Try.func52, Try.ntmps52
      go_wp2_with fail
      go_at_call 56
      refine (HT.out).mono ?_
      rintro e w' ⟨rfl, hw'⟩
      obtain rfl := hw'.symm
      clear hw'
      go_wp2
      go_ret
      exact ⟨by rw [HE.out, HF.out]; rfl, rfl⟩
set_option maxRecDepth 100000 in
set_option maxHeartbeats 1600000 in
theorem l5Plan_any (N : Nat) (zs ps : List Int) (A B : Option Addr) (c d : Nat) (h2 : N ≤ 8) (hl : zs.length ≤ 1048576) (hl' : ps.length ≤ 1048576) (w : World) (hp : Law.Row w B (ivs ps)) :
    Calls Try.prog 50 #[.int .i64 N, .slice A zs.length c, .slice B ps.length d] w fun e w' => e = .returned (.bool (Q.planL N zs ps)) ∧ w' = w := by
  have HP := Lib.hid hp
  clear hp
  by_cases hln : ps.length = zs.length
  · have HL : Hid (Q.planL N zs ps = ps.all (Q.okL N)) := by show _ = _; simp only [Q.planL, hln]; simp
    have hlnI : (ps.length : Int) = (zs.length : Int) := by omega
    clear hln
    go_enter Try.func50, Try.ntmps50
    go_wp2_with fail
    go_loop [7] (fun i => ∃ k : Nat, k ≤ ps.length ∧ i = .int .i64 (k : Int) ∧ Hid (∀ z ∈ ps.take k, Q.okL N z = true)) (fun i => ps.length - (intOf i).toNat)
    case atStart => exact ⟨0, Nat.zero_le _, rfl, fun z hz => by simp at hz⟩
    case round =>
      obtain ⟨k, hk, rfl, hall⟩ := hrel
      by_cases hlt : k < ps.length
      · obtain ⟨z, hz⟩ : ∃ z, ps[k]? = some z := ⟨_, List.getElem?_eq_getElem hlt⟩
        obtain ⟨b, off, rfl, hbl, hc⟩ := HP.out.at_ (ivs_some hz)
        have hltI : (k : Int) < (ps.length : Int) := by omega
        have HI := Lib.hid fun W => l1In_any z (-1) ((N : Int) - 1) W
        have hd : (decide (-1 ≤ z) && decide (z ≤ (N : Int) - 1)) = Q.okL N z := by
          rw [Bool.eq_iff_iff, Q.okL_iff (by omega)]
          simp
        rw [hd] at HI
        have hm : z ∈ ps := List.mem_of_getElem? hz
        have HT2 := Lib.hid (Q.take_snoc hz)
        clear hz hd
        cases hok : Q.okL N z
        · rw [hok] at HI
          have HN : Hid (ps.all (Q.okL N) = false) := Lib.hid (Q.all_no hm hok)
          clear hm hall HT2 hok
          go_wp2_with fail
          go_at_call 85
          refine (HI.out _).mono ?_
          rintro e w' ⟨rfl, hw'⟩
          obtain rfl := hw'.symm
          clear hw'
          go_wp2
          go_ret
          exact ⟨by rw [HL.out, HN.out]; rfl, rfl⟩
        · rw [hok] at HI
          have HN : Hid (∀ y ∈ ps.take (k + 1), Q.okL N y = true) := fun y hy => by
            rw [HT2.out] at hy
            rcases List.mem_append.1 hy with h | h
            · exact hall.out y h
            · obtain rfl := List.mem_singleton.1 h
              exact hok
          clear hm hall HT2 hok
          go_wp2_with fail
          go_at_call 85
          refine (HI.out _).mono ?_
          rintro e w' ⟨rfl, hw'⟩
          obtain rfl := hw'.symm
          clear hw'
          go_wp2
          go_round
          case rel => exact ⟨k + 1, by omega, by go_num, HN.out⟩
          case measure => simp [intOf]; omega
      · have hke : k = ps.length := by omega
        have hltI : ¬ (k : Int) < (ps.length : Int) := by omega
        have HN : Hid (ps.all (Q.okL N) = true) := by
          show _ = _
          refine List.all_eq_true.2 fun z hz => hall.out z ?_
          rw [hke, List.take_length]
          exact hz
        clear hke hall
        go_wp2
        go_ret
        exact ⟨by rw [HL.out, HN.out]; rfl, rfl⟩
  · have hlnI : ¬ (ps.length : Int) = (zs.length : Int) := by omega
    have HF : Hid (Q.planL N zs ps = false) := by show _ = _; simp only [Q.planL, hln]; simp
    clear hln
    go_enter Try.func50, Try.ntmps50
    go_wp2
    go_ret
    exact ⟨by rw [HF.out]; rfl, rfl⟩
end Go.Proofs.Ytklpdfilhgjllaa
