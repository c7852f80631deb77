/-
  The contract of the model's l2Number: the number of an optional sign and at most nine digits.
-/
import Derived.Test.YtppmepajcdldkabDoorDec9
import Derived.Test.YtppmepajcdldkabDoorFrac
import Derived.LoopTactic
namespace Go.Proofs.YtppmepajcdldkabDoor
open Go.RowKit
set_option linter.unusedVariables false
/-- What the digits from f up to k spell. -/
def dvF (s : ByteArray) (f k : Nat) : Int := dval ((s.data.toList.take k).drop f)
theorem dvF_zero (s : ByteArray) (f : Nat) : dvF s f f = 0 := by
  unfold dvF
  rw [List.drop_of_length_le (by rw [List.length_take]; omega)]
  rfl
theorem dvF_succ (s : ByteArray) {f k : Nat} (h : k < s.size) (hf : f ≤ k) : dvF s f (k + 1) = dvF s f k * 10 + ((s[k].toNat : Int) - 48) := by
  have hl : s.data.toList.length = s.size := Array.length_toList
  unfold dvF
  rw [List.take_succ_eq_append_getElem (by omega), List.drop_append_of_le_length (by rw [List.length_take]; omega), dval_snoc]
  have : s.data.toList[k]'(by omega) = s[k] := rfl
  rw [this]
  omega
def digAt (s : ByteArray) (f k : Nat) : Prop := ∀ i (h : i < s.size), f ≤ i → i < k → 48 ≤ s[i].toNat ∧ s[i].toNat ≤ 57
theorem dvF_bd (s : ByteArray) {f : Nat} : ∀ k, f ≤ k → k ≤ s.size → digAt s f k → 0 ≤ dvF s f k ∧ dvF s f k + 1 ≤ ((10 ^ (k - f) : Nat) : Int)
  | 0, hf, _, _ => by
    obtain rfl : f = 0 := by omega
    rw [dvF_zero]
    simp
  | k + 1, hf, hk, hd => by
    rcases Nat.lt_or_ge k f with h | h
    · obtain rfl : f = k + 1 := by omega
      rw [dvF_zero]
      simp
    · obtain ⟨a, b⟩ := dvF_bd s k h (by omega) (fun i hi h1 h2 => hd i hi h1 (by omega))
      have hc := hd k (by omega) h (by omega)
      rw [dvF_succ s (by omega) h, show k + 1 - f = (k - f) + 1 from by omega, Nat.pow_succ]
      omega
theorem dvF_in (s : ByteArray) {f k m : Nat} (hf : f ≤ k) (hk : k ≤ s.size) (hd : digAt s f k) (hm : k - f ≤ m) : 0 ≤ dvF s f k ∧ dvF s f k + 1 ≤ ((10 ^ m : Nat) : Int) := by
  obtain ⟨a, b⟩ := dvF_bd s k hf hk hd
  have := Nat.pow_le_pow_right (show 10 > 0 by decide) hm
  exact ⟨a, by omega⟩
open Classical in
/-- How the reading ends, the digits standing from f on. -/
noncomputable def lnF (s : ByteArray) (f : Nat) : Int × Bool := if (f + 1 ≤ s.size ∧ s.size ≤ f + 9) ∧ digAt s f s.size then (if f = 1 then -dvF s f s.size else dvF s f s.size, true) else (0, false)
set_option maxHeartbeats 1600000 in
theorem lnWalk (s : ByteArray) (f : Nat) (w : World) (hs : s.size ≤ 1048576) (hf : f = 0 ∧ (∀ h : 0 < s.size, ¬ (s[0].toNat : Int) = 45) ∨ f = 1 ∧ ∃ h : 0 < s.size, (s[0].toNat : Int) = 45) :
    Calls Tryd.prog 15 #[.string s] w fun e w' => e = .returned (.tuple #[.int .i64 (lnF s f).1, .bool (lnF s f).2]) ∧ w' = w := by
  have HI := Lib.hid fun W => l1In_any ((s.size : Int) - (f : Int)) 1 9 W
  by_cases hl : (decide ((1 : Int) ≤ (s.size : Int) - (f : Int)) && decide ((s.size : Int) - (f : Int) ≤ 9)) = true
  · rw [hl] at HI
    simp only [Bool.and_eq_true, decide_eq_true_eq] at hl
    obtain ⟨hl1, hl2⟩ := hl
    rcases hf with ⟨rfl, hno⟩ | ⟨rfl, hp, hyes⟩
    · have hp : 0 < s.size := by omega
      have hn0 := hno hp
      have hpI : (0 : Int) < (s.size : Int) := by omega
      have hs9 : s.size ≤ 9 := by omega
      clear hno
      go_enter Tryd.func15, Tryd.ntmps15
      go_wp2_with (go_at_call 18; refine (HI.out _).mono ?_; rintro e w' ⟨rfl, rfl⟩)
      go_loop [4, 6] (fun n i => ∃ k : Nat, 0 ≤ k ∧ k ≤ s.size ∧ i = .int .i64 (k : Int) ∧ n = .int .i64 (dvF s 0 k) ∧ Hid (digAt s 0 k)) (fun _ i => s.size - (intOf i).toNat)
      case atStart => exact ⟨0, Nat.le_refl _, by omega, rfl, by rw [dvF_zero], fun i _ h1 h2 => by omega⟩
      case round =>
        obtain ⟨k, hfk, hk, rfl, rfl, hall⟩ := hrel
        by_cases hlt : k < s.size
        · have hltI : (k : Int) < (s.size : Int) := by omega
          obtain ⟨a1, a2⟩ := dvF_in s hfk hk hall.out (show k - 0 ≤ 8 by omega)
          have HS := Lib.hid (dvF_succ s hlt hfk)
          have a3 : dvF s 0 k ≤ 99999999 := by omega
          clear a2
          by_cases hd : 48 ≤ s[k].toNat ∧ s[k].toNat ≤ 57
          · have HD := Lib.hid hd
            have c1 : (48 : Int) ≤ (s[k].toNat : Int) := by omega
            have c2 : (s[k].toNat : Int) ≤ 57 := by omega
            clear hd
            generalize dvF s 0 k = S at *
            go_wp2
            go_round
            case rel => exact ⟨k + 1, by omega, by omega, by go_num, by rw [HS.out], fun i hi h1 h2 => by
              rcases Nat.lt_or_ge i k with h' | h'
              · exact hall.out i hi h1 h'
              · obtain rfl : i = k := by omega
                exact HD.out⟩
            case measure => simp [intOf]; omega
          · have HR : Hid (lnF s 0 = (0, false)) := if_neg fun h => hd (h.2 k hlt hfk hlt)
            have HD := Lib.hid hd
            clear hd HS
            by_cases hlo : (s[k].toNat : Int) < 48
            · go_wp2
              go_ret2
              exact ⟨by rw [HR.out]; rfl, rfl⟩
            · have hhi : (57 : Int) < (s[k].toNat : Int) := by have := HD.out; omega
              go_wp2
              go_ret2
              exact ⟨by rw [HR.out]; rfl, rfl⟩
        · have hke : k = s.size := by omega
          have hltI : ¬ (k : Int) < (s.size : Int) := by omega
          obtain ⟨a1, a2⟩ := dvF_in s hfk hk hall.out (show k - 0 ≤ 9 by omega)
          have HR : Hid (lnF s 0 = (dvF s 0 k, true)) := by
            show _ = _
            rw [hke]
            exact if_pos ⟨⟨by omega, by omega⟩, by rw [← hke]; exact hall.out⟩
          have a3 : dvF s 0 k ≤ 999999999 := by omega
          clear a2 hke
          generalize dvF s 0 k = S at *
          go_wp2
          go_ret2
          exact ⟨by rw [HR.out]; rfl, rfl⟩
    · have hpI : (0 : Int) < (s.size : Int) := by omega
      have hs9 : s.size ≤ 10 := by omega
      have hs2 : 2 ≤ s.size := by omega
      go_enter Tryd.func15, Tryd.ntmps15
      go_wp2_with (go_at_call 18; refine (HI.out _).mono ?_; rintro e w' ⟨rfl, rfl⟩)
      go_loop [4, 6] (fun n i => ∃ k : Nat, 1 ≤ k ∧ k ≤ s.size ∧ i = .int .i64 (k : Int) ∧ n = .int .i64 (dvF s 1 k) ∧ Hid (digAt s 1 k)) (fun _ i => s.size - (intOf i).toNat)
      case atStart => exact ⟨1, Nat.le_refl _, by omega, rfl, by rw [dvF_zero], fun i _ h1 h2 => by omega⟩
      case round =>
        obtain ⟨k, hfk, hk, rfl, rfl, hall⟩ := hrel
        by_cases hlt : k < s.size
        · have hltI : (k : Int) < (s.size : Int) := by omega
          obtain ⟨a1, a2⟩ := dvF_in s hfk hk hall.out (show k - 1 ≤ 8 by omega)
          have HS := Lib.hid (dvF_succ s hlt hfk)
          have a3 : dvF s 1 k ≤ 99999999 := by omega
          clear a2
          by_cases hd : 48 ≤ s[k].toNat ∧ s[k].toNat ≤ 57
          · have HD := Lib.hid hd
            have c1 : (48 : Int) ≤ (s[k].toNat : Int) := by omega
            have c2 : (s[k].toNat : Int) ≤ 57 := by omega
            clear hd
            generalize dvF s 1 k = S at *
            go_wp2
            go_round
            case rel => exact ⟨k + 1, by omega, by omega, by go_num, by rw [HS.out], fun i hi h1 h2 => by
              rcases Nat.lt_or_ge i k with h' | h'
              · exact hall.out i hi h1 h'
              · obtain rfl : i = k := by omega
                exact HD.out⟩
            case measure => simp [intOf]; omega
          · have HR : Hid (lnF s 1 = (0, false)) := if_neg fun h => hd (h.2 k hlt hfk hlt)
            have HD := Lib.hid hd
            clear hd HS
            by_cases hlo : (s[k].toNat : Int) < 48
            · go_wp2
              go_ret2
              exact ⟨by rw [HR.out]; rfl, rfl⟩
            · have hhi : (57 : Int) < (s[k].toNat : Int) := by have := HD.out; omega
              go_wp2
              go_ret2
              exact ⟨by rw [HR.out]; rfl, rfl⟩
        · have hke : k = s.size := by omega
          have hltI : ¬ (k : Int) < (s.size : Int) := by omega
          obtain ⟨a1, a2⟩ := dvF_in s hfk hk hall.out (show k - 1 ≤ 9 by omega)
          have HR : Hid (lnF s 1 = (-dvF s 1 k, true)) := by
            show _ = _
            rw [hke]
            exact if_pos ⟨⟨by omega, by omega⟩, by rw [← hke]; exact hall.out⟩
          have a3 : dvF s 1 k ≤ 999999999 := by omega
          clear a2 hke
          generalize dvF s 1 k = S at *
          go_wp2
          go_ret2
          exact ⟨by rw [HR.out]; rfl, rfl⟩
  · have HR : Hid (lnF s f = (0, false)) := if_neg fun h => hl (by simp only [Bool.and_eq_true, decide_eq_true_eq]; omega)
    rw [Bool.eq_false_iff.2 hl] at HI
    clear hl
    rcases hf with ⟨rfl, hno⟩ | ⟨rfl, hp, hyes⟩
    · by_cases hp : 0 < s.size
      · have hn0 := hno hp
        have hpI : (0 : Int) < (s.size : Int) := by omega
        clear hno
        go_enter Tryd.func15, Tryd.ntmps15
        go_wp2_with (go_at_call 18; refine (HI.out _).mono ?_; rintro e w' ⟨rfl, rfl⟩)
        go_ret2
        exact ⟨by rw [HR.out]; rfl, rfl⟩
      · have hpI : ¬ (0 : Int) < (s.size : Int) := by omega
        clear hno
        go_enter Tryd.func15, Tryd.ntmps15
        go_wp2_with (go_at_call 18; refine (HI.out _).mono ?_; rintro e w' ⟨rfl, rfl⟩)
        go_ret2
        exact ⟨by rw [HR.out]; rfl, rfl⟩
    · have hpI : (0 : Int) < (s.size : Int) := by omega
      go_enter Tryd.func15, Tryd.ntmps15
      go_wp2_with (go_at_call 18; refine (HI.out _).mono ?_; rintro e w' ⟨rfl, rfl⟩)
      go_ret2
      exact ⟨by rw [HR.out]; rfl, rfl⟩
end Go.Proofs.YtppmepajcdldkabDoor
