/-
  IsHit: the model's and the code's.
-/
import Derived.Test.YtdjafooabpcbmabGos2
import Derived.Test.YtdjafooabpcbmabShelf
namespace Go.Proofs.Ytdjafooabpcbmab
open Go.RowKit
set_option linter.unusedVariables false
theorem contains_row {w : World} {A : Option Addr} {c : Nat} {zs : List Int} (hr : Law.Row w A (ivs zs)) (hn : zs.length ≤ 1048576) (x : Int) :
    Calls Try.prog 83 #[.slice A zs.length c, .int .i64 x] w fun e w' => e = .returned (.bool (decide (x ∈ zs))) ∧ w' = w := by
  by_cases h0 : zs = []
  · subst h0
    have h := Try.slices_Contains_int_empty A c x w
    simpa using h
  · obtain ⟨b, off, rfl, _, hc⟩ := hr (by simpa [ivs] using h0)
    have h := Try.slices_Contains_int b off zs.length c zs x w (Nat.le_refl _) (by omega) (fun j hj => hc j _ (by rw [ivs, List.getElem?_map, List.getElem?_eq_getElem hj, List.getD_eq_getElem?_getD, List.getElem?_eq_getElem hj]; rfl))
    rw [List.take_length, show zs.contains x = decide (x ∈ zs) by simp] at h
    exact h
noncomputable def ishQ (n : Int) (c : Ca) (x : Int) : Bool × Bool := if (bo (Q.okC n c) && (decide (0 ≤ x) && decide (x < n))) then (decide (x ∈ c.ps), true) else (false, false)
section
variable {W : World} {A B : Option Addr} {d e : Nat} {c : Ca}
def ishSays (X : Bool × Bool) (W : World) (r : Ending) (W' : World) : Prop := r = .returned (.tuple #[.bool X.1, .bool X.2]) ∧ Below W.heap.size W W'
set_option maxRecDepth 20000 in
set_option maxHeartbeats 1600000 in
theorem impIsh_any (n x : Int) (h : CaIn W A d B e c) (hl : c.ps.length ≤ 1048576) (hl2 : c.ms.length ≤ 1048576) : Calls Try.prog 23 #[.int .i64 n, .agg #[.int .i64 c.p, .int .i64 c.s, .slice A c.ps.length d, .slice B c.ms.length e, .int .i64 c.h], .int .i64 x] W (ishSays (ishQ n c x) W) := by
  have HC := Lib.hid fun X (hb : Below W.heap.size W X) => impIsCache_any n (h.stays hb) hl hl2
  have HIt := Lib.hid fun X => isItem_any n x X
  have HH := Lib.hid fun X (hb : Below W.heap.size W X) => contains_row (c := d) (h.1.2.2.stays hb) hl x
  have HQ : Hid (ishQ n c x = if (bo (Q.okC n c) && (decide (0 ≤ x) && decide (x < n))) then (decide (x ∈ c.ps), true) else (false, false)) := Lib.hid rfl
  have L0 : Hid (Below W.heap.size W (W.alloc (.cells #[.int .i64 c.p, .int .i64 c.s, .slice A c.ps.length d, .slice B c.ms.length e, .int .i64 c.h] 27))) := (Below.refl _ _).alloc (Nat.le_refl _) _
  have P0 := Lib.hid (blk5_of (heap_alloc_new W (.cells #[.int .i64 c.p, .int .i64 c.s, .slice A c.ps.length d, .slice B c.ms.length e, .int .i64 c.h] 27)))
  have hs0 : W.heap.size < (W.alloc (.cells #[.int .i64 c.p, .int .i64 c.s, .slice A c.ps.length d, .slice B c.ms.length e, .int .i64 c.h] 27)).heap.size := by simp
  unfold isSays at HC
  unfold caV at HC
  unfold ishSays
  clear h
  generalize bo (Q.okC n c) = y at HC HQ
  generalize (decide (0 ≤ x) && decide (x < n)) = z at HIt HQ
  generalize decide (x ∈ c.ps) = u at HH HQ
  cases y
  · go_enter Try.func23, Try.ntmps23
    go_wp2_with fail
    generalize W.alloc (.cells #[.int .i64 c.p, .int .i64 c.s, .slice A c.ps.length d, .slice B c.ms.length e, .int .i64 c.h] 27) = X at L0 P0 hs0 ⊢
    obtain ⟨p0, p1, p2, p3, p4, _, _, _, _, _⟩ := P0.out
    go_wp2_with fail
    go_at_call 16
    refine (HC.out X L0.out).mono ?_
    rintro r w1 ⟨rfl, hb⟩
    have L1 := Lib.hid (L0.out.trans (hb.mono L0.out.size))
    clear hb p0 p1 p2 p3 p4
    go_wp2
    go_ret2
    exact ⟨by rw [HQ.out]; rfl, L1.out⟩
  · cases z
    · go_enter Try.func23, Try.ntmps23
      go_wp2_with fail
      generalize W.alloc (.cells #[.int .i64 c.p, .int .i64 c.s, .slice A c.ps.length d, .slice B c.ms.length e, .int .i64 c.h] 27) = X at L0 P0 hs0 ⊢
      obtain ⟨p0, p1, p2, p3, p4, _, _, _, _, _⟩ := P0.out
      go_wp2_with fail
      go_at_call 16
      refine (HC.out X L0.out).mono ?_
      rintro r w1 ⟨rfl, hb⟩
      have L1 := Lib.hid (L0.out.trans (hb.mono L0.out.size))
      clear hb p0 p1 p2 p3 p4
      go_wp2_with fail
      go_at_call 82
      refine (HIt.out _).mono ?_
      rintro e w' ⟨rfl, hw'⟩
      obtain rfl := hw'.symm
      clear hw'
      go_wp2
      go_ret2
      exact ⟨by rw [HQ.out]; rfl, L1.out⟩
    · go_enter Try.func23, Try.ntmps23
      go_wp2_with fail
      generalize W.alloc (.cells #[.int .i64 c.p, .int .i64 c.s, .slice A c.ps.length d, .slice B c.ms.length e, .int .i64 c.h] 27) = X at L0 P0 hs0 ⊢
      obtain ⟨p0, p1, p2, p3, p4, _, _, _, _, _⟩ := P0.out
      go_wp2_with fail
      go_at_call 16
      refine (HC.out X L0.out).mono ?_
      rintro r w1 ⟨rfl, hb⟩
      have L1 := Lib.hid (L0.out.trans (hb.mono L0.out.size))
      have P1 := Lib.hid (P0.out.kept (hb.block _ hs0))
      clear hb p0 p1 p2 p3 p4
      obtain ⟨p0, p1, p2, p3, p4, _, _, _, _, _⟩ := P1.out
      go_wp2_with fail
      go_at_call 82
      refine (HIt.out _).mono ?_
      rintro e w' ⟨rfl, hw'⟩
      obtain rfl := hw'.symm
      clear hw'
      go_wp2_with fail
      go_at_call 83
      refine (HH.out w1 L1.out).mono ?_
      rintro r w' ⟨rfl, hw'⟩
      obtain rfl := hw'.symm
      clear hw'
      go_wp2
      go_ret2
      exact ⟨by rw [HQ.out]; rfl, L1.out⟩
set_option maxRecDepth 20000 in
set_option maxHeartbeats 1600000 in
theorem specIsh_any (n x : Int) (h : CaIn W A d B e c) (hl : c.ps.length ≤ 1048576) (hl2 : c.ms.length ≤ 1048576) : Calls Try.prog 22 #[.int .i64 n, .agg #[.int .i64 c.p, .int .i64 c.s, .slice A c.ps.length d, .slice B c.ms.length e, .int .i64 c.h], .int .i64 x] W (ishSays (ishQ n c x) W) := by
  have HC := Lib.hid fun X (hb : Below W.heap.size W X) => l4Good_any n (h.stays hb) hl hl2
  have HIt : Hid (1 ≤ n ∧ n ≤ 8 → ∀ X, Calls Try.prog 80 #[.int .i64 x, .int .i64 0, .int .i64 (n - 1)] X fun e w' => e = .returned (.bool (decide (0 ≤ x) && decide (x < n))) ∧ w' = X) := Lib.hid fun _ X => by
    have h := l1In_any x 0 (n - 1) X
    rw [show decide (x ≤ n - 1) = decide (x < n) by congr 1; rw [eq_iff_iff]; omega] at h
    exact h
  have HH := Lib.hid fun X (hb : Below W.heap.size W X) => l1Has_any A d c.ps x X hl (h.1.2.2.stays hb)
  have HQ : Hid (ishQ n c x = if (bo (Q.okC n c) && (decide (0 ≤ x) && decide (x < n))) then (decide (x ∈ c.ps), true) else (false, false)) := Lib.hid rfl
  have L0 : Hid (Below W.heap.size W (W.alloc (.cells #[.int .i64 c.p, .int .i64 c.s, .slice A c.ps.length d, .slice B c.ms.length e, .int .i64 c.h] 27))) := (Below.refl _ _).alloc (Nat.le_refl _) _
  have P0 := Lib.hid (blk5_of (heap_alloc_new W (.cells #[.int .i64 c.p, .int .i64 c.s, .slice A c.ps.length d, .slice B c.ms.length e, .int .i64 c.h] 27)))
  have hs0 : W.heap.size < (W.alloc (.cells #[.int .i64 c.p, .int .i64 c.s, .slice A c.ps.length d, .slice B c.ms.length e, .int .i64 c.h] 27)).heap.size := by simp
  unfold isSays at HC
  unfold caV at HC
  unfold ishSays
  clear h
  generalize decide (x ∈ c.ps) = u at HH HQ
  by_cases hk : Q.okC n c
  · have hn8 := ((okC_iff n c).1 hk).1
    have HI := Lib.hid (HIt.out hn8)
    have hw1 : IntKind.i64.wrap (n - 1) = n - 1 := by rw [IntKind.wrap_i64]; omega
    rw [bo_true hk] at HC HQ
    clear hk HIt
    generalize (decide (0 ≤ x) && decide (x < n)) = z at HI HQ
    cases z
    · go_enter Try.func22, Try.ntmps22
      go_wp2_with fail
      generalize W.alloc (.cells #[.int .i64 c.p, .int .i64 c.s, .slice A c.ps.length d, .slice B c.ms.length e, .int .i64 c.h] 27) = X at L0 P0 hs0 ⊢
      obtain ⟨p0, p1, p2, p3, p4, _, _, _, _, _⟩ := P0.out
      go_wp2_with fail
      go_at_call 70
      refine (HC.out X L0.out).mono ?_
      rintro r w1 ⟨rfl, hb⟩
      have L1 := Lib.hid (L0.out.trans (hb.mono L0.out.size))
      clear hb p0 p1 p2 p3 p4
      go_wp2_with fail
      go_at_call 80
      refine (HI.out _).mono ?_
      rintro e w' ⟨rfl, hw'⟩
      obtain rfl := hw'.symm
      clear hw'
      go_wp2
      go_ret2
      exact ⟨by rw [HQ.out]; rfl, L1.out⟩
    · go_enter Try.func22, Try.ntmps22
      go_wp2_with fail
      generalize W.alloc (.cells #[.int .i64 c.p, .int .i64 c.s, .slice A c.ps.length d, .slice B c.ms.length e, .int .i64 c.h] 27) = X at L0 P0 hs0 ⊢
      obtain ⟨p0, p1, p2, p3, p4, _, _, _, _, _⟩ := P0.out
      go_wp2_with fail
      go_at_call 70
      refine (HC.out X L0.out).mono ?_
      rintro r w1 ⟨rfl, hb⟩
      have L1 := Lib.hid (L0.out.trans (hb.mono L0.out.size))
      have P1 := Lib.hid (P0.out.kept (hb.block _ hs0))
      clear hb p0 p1 p2 p3 p4
      obtain ⟨p0, p1, p2, p3, p4, _, _, _, _, _⟩ := P1.out
      go_wp2_with fail
      go_at_call 80
      refine (HI.out _).mono ?_
      rintro e w' ⟨rfl, hw'⟩
      obtain rfl := hw'.symm
      clear hw'
      go_wp2_with fail
      go_at_call 81
      refine (HH.out w1 L1.out).mono ?_
      rintro r w' ⟨rfl, hw'⟩
      obtain rfl := hw'.symm
      clear hw'
      go_wp2
      go_ret2
      exact ⟨by rw [HQ.out]; rfl, L1.out⟩
  · rw [bo_false hk] at HC HQ
    clear hk HIt
    go_enter Try.func22, Try.ntmps22
    go_wp2_with fail
    generalize W.alloc (.cells #[.int .i64 c.p, .int .i64 c.s, .slice A c.ps.length d, .slice B c.ms.length e, .int .i64 c.h] 27) = X at L0 P0 hs0 ⊢
    obtain ⟨p0, p1, p2, p3, p4, _, _, _, _, _⟩ := P0.out
    go_wp2_with fail
    go_at_call 70
    refine (HC.out X L0.out).mono ?_
    rintro r w1 ⟨rfl, hb⟩
    have L1 := Lib.hid (L0.out.trans (hb.mono L0.out.size))
    clear hb p0 p1 p2 p3 p4
    go_wp2
    go_ret2
    exact ⟨by rw [HQ.out]; rfl, L1.out⟩
end
end Go.Proofs.Ytdjafooabpcbmab
