/-
  The laws' own helpers on marks in slices of arrays of two ints: 'markIntA2S', 'heldIntA2S'.
-/
import Derived.Test.YtklpdfilhgjllaaArr2
import Derived.Test.YtklpdfilhgjllaaMarkI
namespace Go.Proofs.Ytklpdfilhgjllaa
open Go.RowKit
set_option linter.unusedVariables false
set_option maxHeartbeats 1600000 in
theorem markA2_by (base k n : Nat) (A : Option Addr) (c : Nat) (xs : List Value) (w : World) (hk : 0 < k) (hn : n ≤ 1048576) (hkk : k ≤ 10) (ho : w.ownsRow base 76 2 (.slice A n c) n xs) :
    Calls Try.prog 39 #[.slice A n c, .int .i64 (k : Int)] w fun e w' => e = .returned (.int .i64 ((k + n * 2 : Nat) : Int)) ∧ w'.ownsRow base 76 2 (.slice A n c) n (ivs (mki k (n * 2))) ∧ w.grownBy w' (Value.slice A n c).ownBlock := by
  have HO := Lib.hid ho
  have HX := Lib.hid ho.1
  clear ho
  go_enter Try.func39, Try.ntmps39
  go_wp2
  go_loopw [1, 5] (fun q i wr => ∃ t : Nat, t ≤ n ∧ i = .int .i64 t ∧ q = .int .i64 ((k + t * 2 : Nat) : Int) ∧ Hid (wr.ownsRow base 76 2 (.slice A n c) n (fillS (ivs (mki k (n * 2))) xs (t * 2))) ∧ Hid (w.grownBy wr (Value.slice A n c).ownBlock)) (fun _ i _ => n - (intOf i).toNat)
  case atStart => exact ⟨0, Nat.zero_le _, rfl, rfl, HO.out, by_refl _ _⟩
  case round =>
    obtain ⟨t, ht, rfl, rfl, how, hbw⟩ := hrel
    by_cases hlt : t < n
    · obtain ⟨g, hA⟩ : ∃ g, A = some ⟨g, 0, none⟩ := by
        rcases how.out.2 with ⟨h, h0⟩ | ⟨g, cap, cur, h, _⟩
        · omega
        · injection h with h; exact ⟨g, h⟩
      subst hA
      have hltI : (t : Int) < (n : Int) := by omega
      obtain ⟨wo, hwo⟩ : ∃ wo, wo = wr := ⟨_, rfl⟩
      rw [← hwo] at how hbw
      rw [← hwo]
      clear hwo
      go_wp2_with fail
      go_loopw [1, 6] (fun q j wi => ∃ u : Nat, u ≤ 2 ∧ j = .int .i64 u ∧ q = .int .i64 ((k + (t * 2 + u) : Nat) : Int) ∧ Hid (wi.ownsRow base 76 2 (.slice (some ⟨g, 0, none⟩) n c) n (fillS (ivs (mki k (n * 2))) xs (t * 2 + u))) ∧ Hid (w.grownBy wi (Value.slice (some ⟨g, 0, none⟩) n c).ownBlock)) (fun _ j _ => 2 - (intOf j).toNat)
      case atStart => exact ⟨0, Nat.zero_le _, rfl, rfl, how.out, hbw.out⟩
      case round =>
        obtain ⟨u, hu, rfl, rfl, how, hbw⟩ := hrel
        by_cases hlu : u < 2
        · have hluI : (u : Int) < 2 := by omega
          have hml : (ivs (mki k (n * 2))).length = n * 2 := by simp [mki]
          have hl : (fillS (ivs (mki k (n * 2))) xs (t * 2 + u)).length = n * 2 := by rw [fillS_length (by omega) (by rw [HX.out, hml])]; exact hml
          obtain ⟨y, hy⟩ : ∃ y, (fillS (ivs (mki k (n * 2))) xs (t * 2 + u))[t * 2 + u]? = some y := ⟨_, List.getElem?_eq_getElem (by omega)⟩
          have HF := Lib.hid (fillS_set (xs := ivs (mki k (n * 2))) (zs := xs) (mki_at (k := k) (show t * 2 + u < n * 2 by omega)) (by rw [HX.out]; omega))
          have hcO : wr.cell? ⟨g, t * 2 + u, none⟩ = some y := (how.out.cellAt (t * 2 + u) (by omega)).trans hy
          have hfO := how.out.frozenAt (t * 2 + u)
          have HS := Lib.hid (how.out.stored (t * 2 + u) (.int .i64 ((k + (t * 2 + u) : Nat) : Int))).1
          have HB : Hid (w.grownBy (wr.setCell ⟨g, t * 2 + u, none⟩ (.int .i64 ((k + (t * 2 + u) : Nat) : Int))) (Value.slice (some ⟨g, 0, none⟩) n c).ownBlock) := by_trans hbw.out (how.out.stored (t * 2 + u) (.int .i64 ((k + (t * 2 + u) : Nat) : Int))).2
          clear hy hl hml how hbw
          go_wp2
          go_roundw
          case rel => exact ⟨u + 1, by omega, by go_num, by go_num, (by show World.ownsRow _ _ _ _ _ _ _; rw [← Nat.add_assoc, ← HF.out]; exact HS.out), HB.out⟩
          case measure => simp [intOf]; omega
        · have hue : u = 2 := by omega
          subst hue
          go_wp2
          go_roundw
          case rel => exact ⟨t + 1, by omega, by go_num, by go_num, (by show World.ownsRow _ _ _ _ _ _ _; rw [Nat.succ_mul]; exact how.out), hbw.out⟩
          case measure => simp [intOf]; omega
    · have hte : t = n := by omega
      have hltI : ¬ (t : Int) < (n : Int) := by omega
      have HF : Hid (fillS (ivs (mki k (n * 2))) xs (t * 2) = ivs (mki k (n * 2))) := by show fillS _ _ _ = _; rw [hte]; exact fillS_all (by simp [mki]) (Nat.le_of_eq HX.out)
      have HJ := Lib.hid hte
      clear hte
      go_wp2
      go_ret
      refine ⟨by rw [HJ.out]; rfl, ?_, hbw.out⟩
      rw [← HF.out]
      exact how.out
set_option maxHeartbeats 1600000 in
theorem heldA2_any (k n c : Nat) (A : Option Addr) (w : World) (hk : 0 < k) (hn : n ≤ 1048576) (hkk : k ≤ 10) (hr : Law.Row w A (ivs (mki k (n * 2)))) :
    Calls Try.prog 40 #[.slice A n c, .int .i64 (k : Int)] w fun e w' => e = .returned (.int .i64 ((k + n * 2 : Nat) : Int)) ∧ ∃ m, w' = w.drewN m := by
  have HR := Lib.hid hr
  clear hr
  go_enter Try.func40, Try.ntmps40
  go_wp2
  go_loopw [1, 5] (fun q i wr => ∃ t m : Nat, t ≤ n ∧ i = .int .i64 t ∧ q = .int .i64 ((k + t * 2 : Nat) : Int) ∧ wr = w.drewN m) (fun _ i _ => n - (intOf i).toNat)
  case atStart => exact ⟨0, 0, Nat.zero_le _, rfl, rfl, rfl⟩
  case round =>
    obtain ⟨t, m, ht, rfl, rfl, rfl⟩ := hrel
    by_cases hlt : t < n
    · have hltI : (t : Int) < (n : Int) := by omega
      go_wp2_with fail
      go_loopw [1, 6] (fun q j wi => ∃ u m : Nat, u ≤ 2 ∧ j = .int .i64 u ∧ q = .int .i64 ((k + (t * 2 + u) : Nat) : Int) ∧ wi = w.drewN m) (fun _ j _ => 2 - (intOf j).toNat)
      case atStart => exact ⟨0, m, Nat.zero_le _, rfl, rfl, rfl⟩
      case round =>
        obtain ⟨u, m, hu, rfl, rfl, rfl⟩ := hrel
        by_cases hlu : u < 2
        · have hluI : (u : Int) < 2 := by omega
          obtain ⟨b, off, rfl, hbl, hc⟩ := HR.out.at_ (mki_at (show t * 2 + u < n * 2 by omega))
          rw [← Nat.add_assoc] at hc
          go_wp2
          go_roundw
          case rel => exact ⟨u + 1, m, by omega, by go_num, by go_num, rfl⟩
          case measure => simp [intOf]; omega
        · have hue : u = 2 := by omega
          subst hue
          go_wp2
          go_roundw
          case rel => exact ⟨t + 1, m, by omega, by go_num, by go_num, rfl⟩
          case measure => simp [intOf]; omega
    · have hte : t = n := by omega
      have hltI : ¬ (t : Int) < (n : Int) := by omega
      have HJ := Lib.hid hte
      clear hte
      go_wp2
      go_ret
      exact ⟨by rw [HJ.out]; rfl, m, rfl⟩
end Go.Proofs.Ytklpdfilhgjllaa
