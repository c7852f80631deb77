/-
  The code's FarthestPlan.
-/
import Derived.Test.YtklpdfilhgjllaaPloF
namespace Go.Proofs.Ytklpdfilhgjllaa
open Go.RowKit
set_option linter.unusedVariables false
namespace Q
set_option maxRecDepth 100000 in
theorem pl_bd_fin : ∀ S : Fin 256, ∀ z ∈ pl S.val, 0 ≤ z ∧ z < 8 := by decide +kernel
theorem pl_bd {S : Nat} (hS : S < 256) {z : Int} (h : z ∈ pl S) : 0 ≤ z ∧ z < 8 := pl_bd_fin ⟨S, hS⟩ z h
theorem pl_ne {S : Nat} (hS : S < 256) {k : Int} (h1 : 1 ≤ k) (h : (popB S : Int) = k) : pl S ≠ [] := fun e => by
  have := (len_pl hS).1
  rw [e] at this
  simp at this
  omega
theorem far_ok (k : Int) (h1 : 1 ≤ k) (zs : List Int) : ChOk k zs (farAt zs) := fun i S p hi hS hb hP => pl_bd hS (farL_mem _ (pl_ne hS h1 hP))
def farQ (k n : Int) (zs : List Int) : List Int × Bool := if okS k && good n zs then (planC k zs (farAt zs), true) else ([], false)
end Q
set_option maxHeartbeats 800000 in
theorem farCh_any (bx : Nat) (A : Option Addr) (c : Nat) (zs : List Int) (i S : Nat) (w : World) (h3 : zs.length ≤ 60) (hcap : zs.length ≤ c) (hi : i < zs.length) (hS : S < 256) (hbx : w.cell? ⟨bx, 0, none⟩ = some (.slice A zs.length c)) (hr : Law.Row w A (ivs zs)) :
    Calls Try.prog 58 #[.int .i64 i, .int .u64 S, .pointer (some ⟨bx, 0, none⟩)] w fun e w' => e = .returned (.int .i64 (Q.farGo (zs.drop (i + 1)) (Q.pl S) (-1) (-1))) ∧ Below w.heap.size w w' := by
  have hd : (zs.drop (i + 1)).length = zs.length - (i + 1) := List.length_drop
  have HF := Lib.hid fun (B : Option Addr) (d : Nat) (hB : Law.Row w B (ivs (zs.drop (i + 1)))) => farthestPage_any S B d (zs.drop (i + 1)) w hS (by rw [hd]; omega) hB
  rw [hd] at HF
  have HD := Lib.hid (row_drop hr (i + 1) c hcap)
  obtain ⟨b, off, rfl, hbl, _⟩ := hr.at_ (ivs_at hi)
  have hiI : (i : Int) + 1 ≤ (zs.length : Int) := by omega
  have hi0 : (0 : Int) ≤ (i : Int) + 1 := by omega
  have hlc : (zs.length : Int) ≤ (c : Int) := by omega
  generalize Q.farGo (zs.drop (i + 1)) (Q.pl S) (-1) (-1) = V at HF ⊢
  clear hr hd
  by_cases hce : c = i + 1
  · have HD1 : Hid (Law.Row w (some ⟨b, off, none⟩) (ivs (zs.drop (i + 1)))) := by have h := HD.out; rw [if_pos hce] at h; exact Lib.hid h
    have HF1 := Lib.hid fun (d : Nat) => HF.out _ d HD1.out
    clear HD HF HD1
    go_enter Try.func58, Try.ntmps58
    go_wp2_with fail
    go_at_call 59
    refine (HF1.out _).mono ?_
    rintro e w1 ⟨rfl, hb⟩
    have HB := Lib.hid hb
    clear hb
    go_wp2
    go_ret
    exact ⟨rfl, HB.out⟩
  · have HD1 : Hid (Law.Row w (some ⟨b, off + (i + 1), none⟩) (ivs (zs.drop (i + 1)))) := by
      have h := HD.out
      rw [if_neg hce] at h
      simpa [Law.add_plain] using Lib.hid h
    have HF1 := Lib.hid fun (d : Nat) => HF.out _ d HD1.out
    clear HD HF HD1
    go_enter Try.func58, Try.ntmps58
    go_wp2_with fail
    go_at_call 59
    refine (HF1.out _).mono ?_
    rintro e w1 ⟨rfl, hb⟩
    have HB := Lib.hid hb
    clear hb
    go_wp2
    go_ret
    exact ⟨rfl, HB.out⟩
set_option maxHeartbeats 800000 in
theorem impFar_any (k n : Int) (zs : List Int) (A : Option Addr) (c : Nat) (hl : zs.length ≤ 1048576) (w : World) (hcap : zs.length ≤ c) (hr : Law.Row w A (ivs zs)) :
    Calls Try.prog 28 #[.int .i64 k, .int .i64 n, .slice A zs.length c] w (rowSays (Q.farQ k n zs) w) := by
  have b0 : Below w.heap.size w (w.alloc (.cells #[.slice A zs.length c] 22)) := (Below.refl _ _).alloc (Nat.le_refl _) _
  have HT := Lib.hid (isPaging_any k n A c zs _ hl (hr.stays b0))
  cases ht : (Q.okS k && Q.good n zs)
  · rw [show Q.farQ k n zs = ([], false) by simp only [Q.farQ, ht]; rfl]
    rw [ht] at HT
    have HB0 := Lib.hid b0
    have HN0 : Hid (((w.alloc (.cells #[.slice A zs.length c] 22)).alloc (.cells #[] 3)).ownsRow w.heap.size 3 1 (.slice (some ⟨w.heap.size + 1, 0, none⟩) 0 0) 0 []) := by
      have h := ownsRow_nil (w.alloc (.cells #[.slice A zs.length c] 22)) 3
      rw [show (w.alloc (.cells #[.slice A zs.length c] 22)).heap.size = w.heap.size + 1 from by simp] at h
      exact Lib.hid (own_down h (Nat.le_succ _))
    clear hr ht b0
    go_enter Try.func28, Try.ntmps28
    go_wp2_with fail
    go_at_call 56
    refine (HT.out).mono ?_
    rintro e w' ⟨rfl, hw'⟩
    obtain rfl := hw'.symm
    clear hw'
    go_wp2
    go_ret2
    exact ⟨_, rfl, HN0.out, HB0.out.alloc (by simp) _⟩
  · rw [show Q.farQ k n zs = (Q.planC k zs (Q.farAt zs), true) by simp only [Q.farQ, ht]; rfl]
    obtain ⟨hk, hg⟩ : Q.okS k = true ∧ Q.good n zs = true := by simpa using ht
    obtain ⟨N, rfl, h1, h2, h3, hx⟩ := Q.good_nat hg
    have hk' := Q.okS_iff.1 hk
    have HP := Lib.hid (PF.planOf_any w.heap.size (Q.farAt zs) k A c zs (w.alloc (.cells #[.slice A zs.length c] 22)) h3 (fun k hk => by obtain ⟨x, h1, h2⟩ := hx k hk; exact ⟨x, h1, by omega⟩) (Q.far_ok k hk'.1 zs) (hr.stays b0) (fun i S p W hz hS hbt hP hW => by
      have hi := (List.getElem?_eq_some_iff.1 hz).1
      have := farCh_any w.heap.size A c zs i S W h3 hcap hi hS ((hW.cell (p := ⟨w.heap.size, 0, none⟩) (by simp)).trans (by simp)) ((hr.stays b0).stays hW)
      rw [Q.farGo_at zs i (Q.pl_ne hS hk'.1 hP)] at this
      exact this))
    rw [ht] at HT
    have HB0 := Lib.hid b0
    clear hr ht b0 hk hg hx
    go_enter Try.func28, Try.ntmps28
    go_wp2_with fail
    go_at_call 56
    refine (HT.out).mono ?_
    rintro e w' ⟨rfl, hw'⟩
    obtain rfl := hw'.symm
    clear hw'
    go_wp2_with fail
    go_at_call 57
    refine HP.out.mono ?_
    rintro e w1 ⟨v1, rfl, ho, hb⟩
    have HO := Lib.hid (own_down ho HB0.out.size)
    have HB := Lib.hid (Law.then_ HB0.out hb)
    clear ho hb HB0
    go_wp2
    go_ret2
    exact ⟨_, rfl, HO.out, HB.out⟩
end Go.Proofs.Ytklpdfilhgjllaa
