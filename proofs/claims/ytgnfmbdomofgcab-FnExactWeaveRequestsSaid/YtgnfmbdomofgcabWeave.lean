/-
  WeaveRequests: the model's and the code's.
-/
import Derived.Test.YtgnfmbdomofgcabApp
import Derived.Test.YtgnfmbdomofgcabGood
import Derived.Test.YtgnfmbdomofgcabImpQ
import Derived.Deep.RegionHeld3
import Derived.Deep.RegionLaw
import Derived.Deep.DeepCutAuto
namespace Go.Proofs.Ytgnfmbdomofgcab
open Go.RowKit
set_option linter.unusedVariables false
namespace Q
def weaveOk (n : Int) (a b : List Int) : Bool := good n a && (good n b && decide (a.length + b.length ≤ 60))
def weaveQ (n : Int) (a b : List Int) : List Int × Bool := if weaveOk n a b then (weave a b, true) else ([], false)
theorem weaveOk_len {n : Int} {a b : List Int} (h : weaveOk n a b = true) : a.length + b.length ≤ 60 := by simpa using ((Bool.and_eq_true _ _).mp ((Bool.and_eq_true _ _).mp h).2).2
theorem weaveK_both {a b : List Int} {k : Nat} {x y : Int} (hx : a[k]? = some x) (hy : b[k]? = some y) : weaveK a b (k + 1) = weaveK a b k ++ [x] ++ [y] := by rw [weaveK_succ, hx, hy]; rfl
theorem weaveK_left {a b : List Int} {k : Nat} {x : Int} (hx : a[k]? = some x) (hy : b[k]? = none) : weaveK a b (k + 1) = weaveK a b k ++ [x] := by rw [weaveK_succ, hx, hy]; simp
theorem weaveK_right {a b : List Int} {k : Nat} {y : Int} (hx : a[k]? = none) (hy : b[k]? = some y) : weaveK a b (k + 1) = weaveK a b k ++ [y] := by rw [weaveK_succ, hx, hy]; simp
theorem weaveK_min_le (a b : List Int) (k : Nat) : (weaveK a b k).length ≤ a.length + b.length := by
  induction k with
  | zero => simp [weaveK]
  | succ k ih =>
    rcases Nat.lt_or_ge k a.length with h | h
    · rcases Nat.lt_or_ge k b.length with h' | h'
      · have := weaveK_len a b (k + 1) (by omega) (by omega)
        omega
      · have e : weaveK a b (k + 1) = weaveK a b k ++ a[k]?.toList ++ b[k]?.toList := weaveK_succ a b k
        have := weave_rest a b b.length (.inr (Nat.le_refl _)) (k + 1 - b.length)
        rw [show b.length + (k + 1 - b.length) = k + 1 by omega] at this
        rw [this]
        simp only [List.length_append, List.length_take, List.length_drop]
        have h1 := weaveK_len a b b.length (by omega) (Nat.le_refl _)
        omega
    · have := weave_rest a b a.length (.inl (Nat.le_refl _)) (k + 1 - a.length)
      rw [show a.length + (k + 1 - a.length) = k + 1 by omega] at this
      rw [this]
      simp only [List.length_append, List.length_take, List.length_drop]
      rcases Nat.le_total a.length b.length with h2 | h2
      · have h1 := weaveK_len a b a.length (Nat.le_refl _) h2
        omega
      · have h3 := weave_rest a b b.length (.inr (Nat.le_refl _)) (a.length - b.length)
        rw [show b.length + (a.length - b.length) = a.length by omega] at h3
        rw [h3]
        simp only [List.length_append, List.length_take, List.length_drop]
        have h1 := weaveK_len a b b.length h2 (Nat.le_refl _)
        omega
end Q
/-- An item of a row that came in, in all worlds to come. -/
theorem row_ever {w : World} {B : Option Addr} {zs : List Int} (h : Law.Row w B (ivs zs)) {k : Nat} {y : Int} (hy : zs[k]? = some y) : ∃ b off, B = some ⟨b, off, none⟩ ∧ b < w.heap.size ∧ Hid (∀ W, Below w.heap.size w W → W.cell? ⟨b, off + k, none⟩ = some (.int .i64 y)) := by
  obtain ⟨b, off, rfl, hb, hc⟩ := h.at_ (ivs_some hy)
  exact ⟨b, off, rfl, hb, fun W hW => (hW.cell (p := ⟨b, off + k, none⟩) hb).trans hc⟩
set_option maxRecDepth 100000 in
set_option maxHeartbeats 3200000 in
theorem specWeave_good (n : Int) (a b : List Int) (A B : Option Addr) (c d : Nat) (w : World) (hg : Q.good n a = true) (hg' : Q.good n b = true) (hs6 : a.length + b.length ≤ 60) (hr : Law.Row w A (ivs a)) (hs : Law.Row w B (ivs b)) :
    Calls Try.prog 26 #[.int .i64 n, .slice A a.length c, .slice B b.length d] w (rowSays (Q.weave a b, true) w) := by
  obtain ⟨i0, hi, hz0, hz1, hz2⟩ := info_parts infoInts
  have b0 : Below w.heap.size w (w.alloc (.cells #[] 3)) := (Below.refl _ _).alloc (Nat.le_refl _) _
  have HQ := Lib.hid (l3Good_any n A c a _ (by omega) (hr.stays b0))
  have HQ2 := Lib.hid (l3Good_any n B d b _ (by omega) (hs.stays b0))
  rw [hg] at HQ
  rw [hg'] at HQ2
  have hsI : (a.length : Int) + (b.length : Int) ≤ 60 := by omega
  have HR := Lib.hid hr
  have HS := Lib.hid hs
  have HL := Lib.hid (Q.weave_len a b)
  clear hr hs hg hg' b0
  go_enter Try.func26, Try.ntmps26
  go_wp2_with fail
  go_at_call 28
  refine (HQ.out).mono ?_
  rintro e w' ⟨rfl, hw'⟩
  obtain rfl := hw'.symm
  clear hw'
  go_wp2_with fail
  go_at_call 28
  refine (HQ2.out).mono ?_
  rintro e w' ⟨rfl, hw'⟩
  obtain rfl := hw'.symm
  clear hw'
  go_wp2_with fail
  go_loopw [8, 9] (fun u i wr => ∃ k : Nat, k ≤ max a.length b.length ∧ i = .int .i64 k ∧ Hid (wr.ownsRow w.heap.size 3 1 u (Q.weaveK a b k).length (ivs (Q.weaveK a b k))) ∧ Hid (Below w.heap.size w wr)) (fun _ i _ => max a.length b.length - (intOf i).toNat)
  case atStart => exact ⟨0, Nat.zero_le _, rfl, ownsRow_nil _ _, (Below.refl _ _).alloc (Nat.le_refl _) _⟩
  case round =>
    obtain ⟨k, hk, rfl, ho, hb⟩ := hrel
    by_cases hla : k < a.length
    · have hlaI : (k : Int) < (a.length : Int) := by omega
      by_cases hlb : k < b.length
      · have hlbI : (k : Int) < (b.length : Int) := by omega
        obtain ⟨x, hx⟩ : ∃ x, a[k]? = some x := ⟨_, List.getElem?_eq_getElem hla⟩
        obtain ⟨b1, off1, rfl, hbl1, HC1⟩ := row_ever HR.out hx
        have hcell1 := HC1.out _ hb.out
        obtain ⟨y, hy⟩ : ∃ y, b[k]? = some y := ⟨_, List.getElem?_eq_getElem hlb⟩
        obtain ⟨b2, off2, rfl, hbl2, HC2⟩ := row_ever HS.out hy
        have HT := Lib.hid (Q.weaveK_both hx hy)
        have hle := Q.weaveK_min_le a b k
        clear hx hy
        obtain ⟨ws, hws⟩ : ∃ ws, ws = Q.weaveK a b k := ⟨_, rfl⟩
        rw [← hws] at ho HT hle
        clear hws
        have hsz8 := (hb.out).size
        go_wp2_with (at_builtin; refine wpList_append_own _ rfl _ _ 22 rfl w.heap.size 3 i0 (.int .i64 0) 1 8 Try.underlying22 hi hz0 hz1 hz2 rfl (by decide) _ _ _ rfl ((ho.out).alloc _) ⟨(wr).heap.size, 0, none⟩ 1 1 [.int .i64 (x)] rfl rfl ?ca8a ?ca8b ?ca8c ?ca8d ?ca8e ?_)
        case ca8a =>
          intro j' u hj'
          match j', hj' with
          | 0, hj' => simp at hj'; subst hj'; simp [Addr.add]
        case ca8b => intro u hu; simp at hu; subst hu; rfl
        case ca8c => unfold maxLen; omega
        case ca8d => omega
        case ca8e => simp; omega
        intro v8 w8 hm8 hg8 _
        have HB8 := Lib.hid (((hb.out).alloc hsz8 (.cells #[.int .i64 (x)] 3)).grown hg8 (by simp; omega) (fun j e => ((ho.out).lt j e).1))
        clear hg8
        have H8 := Lib.hid hm8
        have hcell2 := HC2.out _ HB8.out
        clear hm8 ho hb
        have hsz9 := (HB8.out).size
        go_wp2_with (at_builtin; refine wpList_append_own _ rfl _ _ 22 rfl w.heap.size 3 i0 (.int .i64 0) 1 8 Try.underlying22 hi hz0 hz1 hz2 rfl (by decide) _ _ _ rfl ((H8.out).alloc _) ⟨(w8).heap.size, 0, none⟩ 1 1 [.int .i64 (y)] rfl rfl ?ca9a ?ca9b ?ca9c ?ca9d ?ca9e ?_)
        case ca9a =>
          intro j' u hj'
          match j', hj' with
          | 0, hj' => simp at hj'; subst hj'; simp [Addr.add]
        case ca9b => intro u hu; simp at hu; subst hu; rfl
        case ca9c => unfold maxLen; omega
        case ca9d => omega
        case ca9e => simp; omega
        intro v9 w9 hm9 hg9 _
        have HB9 := Lib.hid (((HB8.out).alloc hsz9 (.cells #[.int .i64 (y)] 3)).grown hg9 (by simp; omega) (fun j e => ((H8.out).lt j e).1))
        clear hg9
        have HO : Hid (w9.ownsRow w.heap.size 3 1 v9 (Q.weaveK a b (k + 1)).length (ivs (Q.weaveK a b (k + 1)))) := by
          rw [HT.out, List.length_append, List.length_append]
          exact Lib.hid (by simpa [ivs] using hm9)
        clear hm9 H8
        go_wp2
        go_roundw
        case rel => exact ⟨k + 1, by omega, by go_num, HO.out, HB9.out⟩
        case measure => simp [intOf]; omega
      · have hlbI : ¬ (k : Int) < (b.length : Int) := by omega
        obtain ⟨x, hx⟩ : ∃ x, a[k]? = some x := ⟨_, List.getElem?_eq_getElem hla⟩
        obtain ⟨b1, off1, rfl, hbl1, HC1⟩ := row_ever HR.out hx
        have hcell1 := HC1.out _ hb.out
        have hy : b[k]? = none := List.getElem?_eq_none (by omega)
        have HT := Lib.hid (Q.weaveK_left hx hy)
        have hle := Q.weaveK_min_le a b k
        clear hx hy
        obtain ⟨ws, hws⟩ : ∃ ws, ws = Q.weaveK a b k := ⟨_, rfl⟩
        rw [← hws] at ho HT hle
        clear hws
        have hsz7 := (hb.out).size
        go_wp2_with (at_builtin; refine wpList_append_own _ rfl _ _ 22 rfl w.heap.size 3 i0 (.int .i64 0) 1 8 Try.underlying22 hi hz0 hz1 hz2 rfl (by decide) _ _ _ rfl ((ho.out).alloc _) ⟨(wr).heap.size, 0, none⟩ 1 1 [.int .i64 (x)] rfl rfl ?ca7a ?ca7b ?ca7c ?ca7d ?ca7e ?_)
        try (case ca7a => (intro j' u hj'; match j', hj' with | 0, hj' => (simp at hj'; subst hj'; simp [Addr.add])))
        case ca7b => first | (intro u hu; simp at hu; subst hu; rfl) | rfl
        case ca7c => unfold maxLen; omega
        case ca7d => omega
        case ca7e => first | omega | (simp; omega)
        intro v7 w7 hm7 hg7 _
        have HB7 := Lib.hid (((hb.out).alloc hsz7 (.cells #[.int .i64 (x)] 3)).grown hg7 (by simp; omega) (fun j e => ((ho.out).lt j e).1))
        clear hg7
        have HO : Hid (w7.ownsRow w.heap.size 3 1 v7 (Q.weaveK a b (k + 1)).length (ivs (Q.weaveK a b (k + 1)))) := by
          rw [HT.out, List.length_append]
          exact Lib.hid (by simpa [ivs] using hm7)
        have HB9 := HB7
        clear hm7 ho hb
        go_wp2
        go_roundw
        case rel => exact ⟨k + 1, by omega, by go_num, HO.out, HB9.out⟩
        case measure => simp [intOf]; omega
    · have hlaI : ¬ (k : Int) < (a.length : Int) := by omega
      by_cases hlb : k < b.length
      · have hlbI : (k : Int) < (b.length : Int) := by omega
        have hx : a[k]? = none := List.getElem?_eq_none (by omega)
        obtain ⟨y, hy⟩ : ∃ y, b[k]? = some y := ⟨_, List.getElem?_eq_getElem hlb⟩
        obtain ⟨b2, off2, rfl, hbl2, HC2⟩ := row_ever HS.out hy
        have hcell2 := HC2.out _ hb.out
        have HT := Lib.hid (Q.weaveK_right hx hy)
        have hle := Q.weaveK_min_le a b k
        clear hx hy
        obtain ⟨ws, hws⟩ : ∃ ws, ws = Q.weaveK a b k := ⟨_, rfl⟩
        rw [← hws] at ho HT hle
        clear hws
        have hsz6 := (hb.out).size
        go_wp2_with (at_builtin; refine wpList_append_own _ rfl _ _ 22 rfl w.heap.size 3 i0 (.int .i64 0) 1 8 Try.underlying22 hi hz0 hz1 hz2 rfl (by decide) _ _ _ rfl ((ho.out).alloc _) ⟨(wr).heap.size, 0, none⟩ 1 1 [.int .i64 (y)] rfl rfl ?ca6a ?ca6b ?ca6c ?ca6d ?ca6e ?_)
        try (case ca6a => (intro j' u hj'; match j', hj' with | 0, hj' => (simp at hj'; subst hj'; simp [Addr.add])))
        case ca6b => first | (intro u hu; simp at hu; subst hu; rfl) | rfl
        case ca6c => unfold maxLen; omega
        case ca6d => omega
        case ca6e => first | omega | (simp; omega)
        intro v6 w6 hm6 hg6 _
        have HB6 := Lib.hid (((hb.out).alloc hsz6 (.cells #[.int .i64 (y)] 3)).grown hg6 (by simp; omega) (fun j e => ((ho.out).lt j e).1))
        clear hg6
        have HO : Hid (w6.ownsRow w.heap.size 3 1 v6 (Q.weaveK a b (k + 1)).length (ivs (Q.weaveK a b (k + 1)))) := by
          rw [HT.out, List.length_append]
          exact Lib.hid (by simpa [ivs] using hm6)
        have HB9 := HB6
        clear hm6 ho hb
        go_wp2
        go_roundw
        case rel => exact ⟨k + 1, by omega, by go_num, HO.out, HB9.out⟩
        case measure => simp [intOf]; omega
      · have hlbI : ¬ (k : Int) < (b.length : Int) := by omega
        have hke : k = max a.length b.length := by omega
        have HF : Hid (Q.weaveK a b k = Q.weave a b) := by show _ = _; rw [hke]; rfl
        clear hke hk
        go_wp2
        go_ret2
        have h := ho.out
        rw [HF.out] at h
        exact ⟨_, rfl, h, hb.out⟩
set_option maxHeartbeats 1600000 in
theorem specWeave_any (n : Int) (a b : List Int) (A : Option Addr) (c : Nat) (hl : a.length ≤ 1048576) (B : Option Addr) (d : Nat) (hl' : b.length ≤ 1048576) (w : World) (hca : a.length ≤ c) (hr : Law.Row w A (ivs a)) (hcb : b.length ≤ d) (hs : Law.Row w B (ivs b)) :
    Calls Try.prog 26 #[.int .i64 n, .slice A a.length c, .slice B b.length d] w (rowSays (Q.weaveQ n a b) w) := by
  have b0 : Below w.heap.size w (w.alloc (.cells #[] 3)) := (Below.refl _ _).alloc (Nat.le_refl _) _
  have HQ := Lib.hid (l3Good_any n A c a _ hl (hr.stays b0))
  have HQ2 := Lib.hid (l3Good_any n B d b _ hl' (hs.stays b0))
  have hla : (a.length : Int) ≤ 1048576 := by omega
  have hlb : (b.length : Int) ≤ 1048576 := by omega
  cases hg : Q.good n a
  · rw [show Q.weaveQ n a b = ([], false) from if_neg (by simp [Q.weaveOk, hg])]
    rw [hg] at HQ
    clear hr hs hg
    go_enter Try.func26, Try.ntmps26
    go_wp2_with fail
    go_at_call 28
    refine (HQ.out).mono ?_
    rintro e w' ⟨rfl, hw'⟩
    obtain rfl := hw'.symm
    clear hw'
    go_wp2
    go_ret2
    exact ⟨_, rfl, ownsRow_nil _ _, (Below.refl _ _).alloc (Nat.le_refl _) _⟩
  · cases hg' : Q.good n b
    · rw [show Q.weaveQ n a b = ([], false) from if_neg (by simp [Q.weaveOk, hg'])]
      rw [hg] at HQ
      rw [hg'] at HQ2
      clear hr hs hg hg'
      go_enter Try.func26, Try.ntmps26
      go_wp2_with fail
      go_at_call 28
      refine (HQ.out).mono ?_
      rintro e w' ⟨rfl, hw'⟩
      obtain rfl := hw'.symm
      clear hw'
      go_wp2_with fail
      go_at_call 28
      refine (HQ2.out).mono ?_
      rintro e w' ⟨rfl, hw'⟩
      obtain rfl := hw'.symm
      clear hw'
      go_wp2
      go_ret2
      exact ⟨_, rfl, ownsRow_nil _ _, (Below.refl _ _).alloc (Nat.le_refl _) _⟩
    · by_cases hs6 : a.length + b.length ≤ 60
      · rw [show Q.weaveQ n a b = (Q.weave a b, true) from if_pos (by simp [Q.weaveOk, hg, hg', hs6])]
        exact specWeave_good n a b A B c d w hg hg' hs6 hr hs
      · rw [show Q.weaveQ n a b = ([], false) from if_neg (by simp [Q.weaveOk, hs6])]
        rw [hg] at HQ
        rw [hg'] at HQ2
        have hsI : ¬ (a.length : Int) + (b.length : Int) ≤ 60 := by omega
        clear hr hs hg hg'
        go_enter Try.func26, Try.ntmps26
        go_wp2_with fail
        go_at_call 28
        refine (HQ.out).mono ?_
        rintro e w' ⟨rfl, hw'⟩
        obtain rfl := hw'.symm
        clear hw'
        go_wp2_with fail
        go_at_call 28
        refine (HQ2.out).mono ?_
        rintro e w' ⟨rfl, hw'⟩
        obtain rfl := hw'.symm
        clear hw'
        go_wp2
        go_ret2
        exact ⟨_, rfl, ownsRow_nil _ _, (Below.refl _ _).alloc (Nat.le_refl _) _⟩
namespace LWeaveRequests
theorem lenX (n : Int) (a b : List Int) : (Q.weaveQ n a b).1.length ≤ 1048576 := by
  unfold Q.weaveQ
  split
  · rename_i h
    have := Q.weaveOk_len h
    rw [Q.weave_len]; omega
  · simp
end LWeaveRequests
end Go.Proofs.Ytgnfmbdomofgcab
