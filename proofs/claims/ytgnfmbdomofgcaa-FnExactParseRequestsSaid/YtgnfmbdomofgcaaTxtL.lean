/-
  The text of a list: the model's l3Text.
-/
import Derived.Test.YtgnfmbdomofgcaaJp
import Derived.Test.YtgnfmbdomofgcaaOwn
import Derived.Test.YtgnfmbdomofgcaaGood
namespace Go.Proofs.Ytgnfmbdomofgcaa
open Go.RowKit
set_option linter.unusedVariables false
theorem none_app (X : ByteArray) : ({ data := #[] } : ByteArray) ++ X = X := by apply ByteArray.ext; simp
set_option maxRecDepth 100000 in
set_option maxHeartbeats 1600000 in
theorem l3Text_any (A : Option Addr) (c : Nat) (zs : List Int) (w : World) (h3 : zs.length ≤ 60) (hx : ∀ k, k < zs.length → ∃ x : Nat, zs[k]? = some (x : Int) ∧ x < 8) (hr : Law.Row w A (ivs zs)) :
    Calls Try.prog 90 #[.slice A zs.length c] w fun e w' => e = .returned (.string (txtS zs)) ∧ ∃ m, w' = w.drewN m := by
  have HR := Lib.hid hr
  have HX := Lib.hid hx
  clear hr hx
  rcases Nat.eq_zero_or_pos zs.length with h0 | h0
  · have HT : Hid (txtS zs = ⟨#[110, 111, 110, 101]⟩) := if_pos h0
    have hb : ((zs.length : Int) == 0) = true := by rw [h0]; rfl
    clear h0
    go_enter Try.func90, Try.ntmps90
    go_wp2
    all_goals
      go_ret
      exact ⟨by rw [HT.out]; rfl, 0, rfl⟩
  · have HT : Hid (txtS zs = jp (numsS zs) spc zs.length) := if_neg (by omega)
    have hb : ((zs.length : Int) == 0) = false := by simp; intro e; rw [e] at h0; simp at h0
    obtain ⟨x0, hx0, hx08⟩ := HX.out 0 h0
    obtain ⟨b0, off0, rfl, hbl0, hc0⟩ := HR.out.at_ (ivs_some hx0)
    rw [Nat.add_zero] at hc0
    have h0I : (0 : Int) < (zs.length : Int) := by omega
    have HN := Lib.hid fun W => l1Num_any (x0 : Int) W (by omega) (by omega)
    have HJ0 : Hid (numS (x0 : Int) = jp (numsS zs) spc (0 + 1)) := by show _ = _; rw [jp_at (numsS_at hx0), if_neg (by omega)]; exact (none_app _).symm
    clear hx0
    go_enter Try.func90, Try.ntmps90
    go_wp2_with fail
    go_at_call 101
    refine (HN.out _).mono ?_
    rintro e w1 ⟨rfl, m0, rfl⟩
    rw [HJ0.out]
    go_wp2_with fail
    go_loopw [3, 4] (fun t i wr => ∃ k : Nat, 0 < k ∧ k ≤ zs.length ∧ i = .int .i64 k ∧ Hid (∃ m, wr = w.drewN m) ∧ t = .string (jp (numsS zs) spc k)) (fun _ i _ => zs.length - (intOf i).toNat)
    case atStart => exact ⟨1, Nat.one_pos, h0, rfl, ⟨_, rfl⟩, rfl⟩
    case round =>
      obtain ⟨k, hk0, hk, rfl, hw, rfl⟩ := hrel
      by_cases hlt : k < zs.length
      · obtain ⟨x, hx, hx8⟩ := HX.out k hlt
        have HRr : Hid (Law.Row wr (some ⟨b0, off0, none⟩) (ivs zs)) := by obtain ⟨m, e⟩ := hw.out; rw [e]; exact Lib.hid (HR.out.drewN m)
        obtain ⟨b1, off1, hbb, hbl, hc⟩ := HRr.out.at_ (ivs_some hx)
        injection hbb with hbb
        injection hbb with e1 e2 _
        subst e1 e2
        have HWn : Hid (∀ n, ∃ m, wr.drewN n = w.drewN m) := fun n => by obtain ⟨m, e⟩ := hw.out; rw [e]; exact ⟨m + n, by simp⟩
        have hltI : (k : Int) < (zs.length : Int) := by omega
        have HN := Lib.hid fun W => l1Num_any (x : Int) W (by omega) (by omega)
        have hn1 := numS_one (x := x) (by omega)
        have hle := jp_le HX.out k hk
        have HJ : Hid (jp (numsS zs) spc k ++ spc ++ numS (x : Int) = jp (numsS zs) spc (k + 1)) := by show _ = _; rw [jp_at (numsS_at hx), if_pos hk0]
        obtain ⟨t, ht⟩ : ∃ t, t = jp (numsS zs) spc k := ⟨_, rfl⟩
        obtain ⟨N, hN⟩ : ∃ N, N = numS (x : Int) := ⟨_, rfl⟩
        rw [← ht] at HJ hle
        rw [← hN] at HJ hn1 HN
        rw [← ht]
        have hts : t.size ≤ 200 := by omega
        have hNs : N.size ≤ 20 := by omega
        have hsp : (t ++ spc).size ≤ 201 := by rw [ByteArray.size_append]; show t.size + 1 ≤ 201; omega
        clear hx ht hN hn1 hle
        have HJ' : Hid (t ++ ({ data := #[32] } : ByteArray) ++ N = jp (numsS zs) spc (k + 1)) := HJ
        have hsp' : (t ++ ({ data := #[32] } : ByteArray)).size ≤ 201 := hsp
        clear HJ hsp
        go_wp2_with fail
        go_at_call 101
        refine (HN.out _).mono ?_
        rintro e w1 ⟨rfl, m0, rfl⟩
        go_wp2
        go_roundw
        case rel => exact ⟨k + 1, by omega, by omega, by go_num, HWn.out _, by rw [← HJ'.out]⟩
        case measure => simp [intOf]; omega
      · have hke : k = zs.length := by omega
        have hltI : ¬ (k : Int) < (zs.length : Int) := by omega
        have HK : Hid (jp (numsS zs) spc k = txtS zs) := by show _ = _; rw [HT.out, hke]
        clear hke
        go_wp2
        go_ret
        exact ⟨by rw [← HK.out]; rfl, hw.out⟩
end Go.Proofs.Ytgnfmbdomofgcaa
