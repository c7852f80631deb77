/-
  The model's l5Use and l5Intervals, both sides' IntervalsOf.
-/
import Derived.Test.YtklpdfilhgjllaaArr2
import Derived.Test.YtklpdfilhgjllaaGood
import Derived.Test.YtklpdfilhgjllaaUse
namespace Go.Proofs.Ytklpdfilhgjllaa
open Go.RowKit
set_option linter.unusedVariables false
/-- What a call says that gives a new row of arrays of two ints and whether it is one. -/
def rowSays2 (X : List (Int × Int) × Bool) (w : World) (e : Ending) (w' : World) : Prop :=
  ∃ v, e = .returned (.tuple #[v, .bool X.2]) ∧ w'.ownsRow w.heap.size 76 2 v X.1.length (pvs X.1) ∧ Below w.heap.size w w'
/-- The same of a single result. -/
def rowSays21 (X : List (Int × Int)) (w : World) (e : Ending) (w' : World) : Prop :=
  ∃ v, e = .returned v ∧ w'.ownsRow w.heap.size 76 2 v X.length (pvs X) ∧ Below w.heap.size w w'
theorem own2_nil (w : World) (e : TypeId) : (w.alloc (.cells #[] e)).ownsRow w.heap.size e 2 (.slice (some ⟨w.heap.size, 0, none⟩) 0 0) 0 (pvs []) :=
  ⟨rfl, .inr ⟨w.heap.size, 0, #[], rfl, Nat.le_refl _, heap_alloc_new w _, Nat.le_refl _, Nat.zero_le _, rfl, rfl⟩⟩
theorem own_down2 {w : World} {base base' : Nat} {e : TypeId} {size : Nat} {v : Value} {n : Nat} {xs : List Value} (h : w.ownsRow base e size v n xs) (hb : base' ≤ base) : w.ownsRow base' e size v n xs := own_down h hb
namespace Q
/-- The least place of x in the list, counted from k on, or its end. -/
def us (x : Int) : List Int → Nat → Nat
  | [], k => k
  | y :: ys, k => if y = x then k else us x ys (k + 1)
def useN (zs : List Int) (i : Nat) (x : Int) : Nat := us x (zs.drop (i + 1)) (i + 1)
theorem us_bd (x : Int) : ∀ (ys : List Int) (k : Nat), k ≤ us x ys k ∧ us x ys k ≤ k + ys.length
  | [], k => by simp [us]
  | y :: ys, k => by
    have := us_bd x ys (k + 1)
    unfold us
    simp only [List.length_cons]
    split <;> omega
theorem up_us (x : Int) : ∀ (ys : List Int) (k : Nat), up x ys k = if us x ys k = k + ys.length then -1 else (us x ys k : Int)
  | [], k => by simp [us, up]
  | y :: ys, k => by
    unfold up us
    by_cases h : y = x
    · rw [if_pos h, if_pos h, List.length_cons, if_neg (by omega)]
    · rw [if_neg h, if_neg h, up_us x ys (k + 1), List.length_cons, show k + 1 + ys.length = k + (ys.length + 1) by omega]
theorem us_hit {zs : List Int} {x : Int} {j : Nat} (h : zs[j]? = some x) : us x (zs.drop j) j = j := by rw [drop_at h]; unfold us; rw [if_pos rfl]
theorem us_miss {zs : List Int} {x y : Int} {j : Nat} (h : zs[j]? = some y) (hne : ¬ y = x) : us x (zs.drop j) j = us x (zs.drop (j + 1)) (j + 1) := by rw [drop_at h, us, if_neg hne]
theorem us_end {zs : List Int} {x : Int} {j : Nat} (h : zs.length ≤ j) : us x (zs.drop j) j = j := by rw [List.drop_of_length_le h]; rfl
theorem useN_le {zs : List Int} {i : Nat} (x : Int) (h : i < zs.length) : useN zs i x ≤ zs.length := by
  have := (us_bd x (zs.drop (i + 1)) (i + 1)).2
  rw [List.length_drop] at this
  unfold useN
  omega
theorem nextOf_use {zs : List Int} {i : Nat} {x : Int} (h : zs[i]? = some x) : nextOf zs i = if useN zs i x = zs.length then -1 else (useN zs i x : Int) := by
  have hl := (List.getElem?_eq_some_iff.1 h).1
  unfold nextOf
  rw [List.getD_eq_getElem?_getD, h, up_us, List.length_drop, show i + 1 + (zs.length - (i + 1)) = zs.length by omega]
  rfl
def ivl (zs : List Int) (k : Nat) : List (Int × Int) := (List.range k).map fun (i : Nat) => ((i : Int), nextOf zs i)
theorem ivl_len (zs : List Int) (k : Nat) : (ivl zs k).length = k := by simp [ivl]
theorem ivl_succ (zs : List Int) (k : Nat) : ivl zs (k + 1) = ivl zs k ++ [((k : Int), nextOf zs k)] := by simp [ivl, List.range_succ]
theorem ivl_at {zs : List Int} {k n : Nat} (h : k < n) : (ivl zs n)[k]? = some ((k : Int), nextOf zs k) := by simp [ivl, h]
def ivlQ (n : Int) (zs : List Int) : List (Int × Int) × Bool := if good n zs then (ivl zs zs.length, true) else ([], false)
end Q
set_option maxHeartbeats 1600000 in
theorem l5Use_any (A : Option Addr) (c : Nat) (zs : List Int) (a : Nat) (x : Int) (w : World) (h3 : zs.length ≤ 60) (ha : a < zs.length) (hr : Law.Row w A (ivs zs)) :
    Calls Try.prog 100 #[.slice A zs.length c, .int .i64 a, .int .i64 x] w fun e w' => e = .returned (.int .i64 ((Q.useN zs a x : Nat) : Int)) ∧ w' = w := by
  have HR := Lib.hid hr
  have HU : Hid (Q.us x (zs.drop (a + 1)) (a + 1) = Q.useN zs a x) := rfl
  clear hr
  generalize Q.useN zs a x = U at HU ⊢
  go_enter Try.func100, Try.ntmps100
  go_wp2
  go_loop [7] (fun i => ∃ k : Nat, k ≤ zs.length ∧ a < k ∧ i = .int .i64 k ∧ Hid (Q.us x (zs.drop k) k = U)) (fun i => zs.length - (intOf i).toNat)
  case atStart => exact ⟨a + 1, by omega, by omega, by go_num, HU.out⟩
  case round =>
    obtain ⟨k, hk, hak, rfl, hu⟩ := hrel
    by_cases hlt : k < zs.length
    · have hltI : (k : Int) < (zs.length : Int) := by omega
      obtain ⟨y, hy⟩ : ∃ y, zs[k]? = some y := ⟨_, List.getElem?_eq_getElem hlt⟩
      obtain ⟨b, off, rfl, hbl, hcell⟩ := HR.out.at_ (ivs_some hy)
      by_cases hyx : y = x
      · subst hyx
        have HE : Hid (k = U) := Lib.hid ((Q.us_hit hy).symm.trans hu.out)
        clear hy hu HU
        go_wp2
        go_ret
        exact ⟨by rw [HE.out]; rfl, rfl⟩
      · have HE : Hid (Q.us x (zs.drop (k + 1)) (k + 1) = U) := Lib.hid ((Q.us_miss hy hyx).symm.trans hu.out)
        clear hy hu HU
        go_wp2
        go_round
        case rel => exact ⟨k + 1, by omega, by omega, by go_num, HE.out⟩
        case measure => simp [intOf]; omega
    · have hke : k = zs.length := by omega
      have hltI : ¬ (k : Int) < (zs.length : Int) := by omega
      have HE : Hid (k = U) := Lib.hid ((Q.us_end (x := x) (show zs.length ≤ k by omega)).symm.trans hu.out)
      clear hke hu HU
      go_wp2
      go_ret
      exact ⟨by rw [HE.out]; rfl, rfl⟩
set_option maxRecDepth 100000 in
set_option maxHeartbeats 1600000 in
theorem l5Intervals_any (A : Option Addr) (c : Nat) (zs : List Int) (w : World) (h3 : zs.length ≤ 60) (hr : Law.Row w A (ivs zs)) :
    Calls Try.prog 71 #[.slice A zs.length c] w (rowSays21 (Q.ivl zs zs.length) w) := by
  obtain ⟨i0, hi, hz0, hz1, hz2⟩ := info_parts infoA2
  have HR := Lib.hid hr
  clear hr
  go_enter Try.func71, Try.ntmps71
  go_wp2_with fail
  go_loopw [3, 4] (fun v i wr => ∃ k : Nat, k ≤ zs.length ∧ i = .int .i64 k ∧ Hid (wr.ownsRow w.heap.size 76 2 v k (pvs (Q.ivl zs k))) ∧ Hid (Below w.heap.size w wr)) (fun _ i _ => zs.length - (intOf i).toNat)
  case atStart => exact ⟨0, Nat.zero_le _, rfl, own2_nil _ _, (Below.refl _ _).alloc (Nat.le_refl _) _⟩
  case round =>
    obtain ⟨k, hk, rfl, ho, hb⟩ := hrel
    by_cases hlt : k < zs.length
    · obtain ⟨x, hx⟩ : ∃ x, zs[k]? = some x := ⟨_, List.getElem?_eq_getElem hlt⟩
      have HU := Lib.hid (l5Use_any A c zs k x wr h3 hlt (HR.out.stays hb.out))
      obtain ⟨b, off, rfl, hbl, hc⟩ := (HR.out.stays hb.out).at_ (ivs_some hx)
      have hltI : (k : Int) < (zs.length : Int) := by omega
      have HN := Lib.hid (Q.nextOf_use hx)
      have HS := Lib.hid (Q.ivl_succ zs k)
      have hule := Q.useN_le x hlt
      generalize Q.useN zs k x = U at HU HN hule
      generalize Q.nextOf zs k = F at HN HS
      clear hx
      have hbo := hb.out
      have hoo := ho.out
      by_cases hUe : U = zs.length
      · have HF : Hid (F = -1) := Lib.hid (HN.out.trans (if_pos hUe))
        clear HN
        subst hUe
        go_wp2_with fail
        go_at_call 100
        refine (HU.out).mono ?_
        rintro e w' ⟨rfl, hw'⟩
        obtain rfl := hw'.symm
        clear hw'
        have hsz9 := (hbo).size
        go_wp2_with (at_builtin; refine wpList_append_own _ rfl _ _ 42 rfl w.heap.size 76 i0 (.agg #[.int .i64 0, .int .i64 0]) 2 16 Try.underlying42 hi hz0 hz1 hz2 rfl (by decide) _ _ _ rfl ((hoo).alloc _) ⟨(wr).heap.size, 0, none⟩ 1 1 [.int .i64 ((k : Int)), .int .i64 (-1)] rfl rfl ?ca9a ?ca9b ?ca9c ?ca9d ?ca9e ?_)
        case ca9a =>
          intro j' u hj'
          match j', hj' with
          | 0, hj' => simp at hj'; subst hj'; simp [Addr.add]
          | 1, hj' => simp at hj'; subst hj'; simp [Addr.add]
        case ca9b => intro u hu; simp at hu; rcases hu with rfl | rfl <;> rfl
        case ca9c => unfold maxLen; omega
        case ca9d => omega
        case ca9e => simp; omega
        intro v9 w9 hm9 hg9 _
        have HB9 := Lib.hid (((hbo).alloc hsz9 (.cells #[.int .i64 ((k : Int)), .int .i64 (-1)] 76)).grown hg9 (by simp; omega) (fun j e => ((hoo).lt j e).1))
        clear hg9
        have HO9 : Hid (w9.ownsRow w.heap.size 76 2 v9 (k + 1) (pvs (Q.ivl zs (k + 1)))) := by show World.ownsRow _ _ _ _ _ _ _; rw [HS.out, HF.out, pvs_snoc]; exact hm9
        clear hm9 ho hb hoo hbo
        go_wp2
        go_roundw
        case rel => exact ⟨k + 1, by omega, by go_num, HO9.out, HB9.out⟩
        case measure => simp [intOf]; omega
      · have HF : Hid (F = U) := Lib.hid (HN.out.trans (if_neg hUe))
        have hUI : ¬ (U : Int) = (zs.length : Int) := by omega
        clear HN
        go_wp2_with fail
        go_at_call 100
        refine (HU.out).mono ?_
        rintro e w' ⟨rfl, hw'⟩
        obtain rfl := hw'.symm
        clear hw'
        have hsz9 := (hbo).size
        go_wp2_with (at_builtin; refine wpList_append_own _ rfl _ _ 42 rfl w.heap.size 76 i0 (.agg #[.int .i64 0, .int .i64 0]) 2 16 Try.underlying42 hi hz0 hz1 hz2 rfl (by decide) _ _ _ rfl ((hoo).alloc _) ⟨(wr).heap.size, 0, none⟩ 1 1 [.int .i64 ((k : Int)), .int .i64 ((U : Int))] rfl rfl ?ca9a ?ca9b ?ca9c ?ca9d ?ca9e ?_)
        case ca9a =>
          intro j' u hj'
          match j', hj' with
          | 0, hj' => simp at hj'; subst hj'; simp [Addr.add]
          | 1, hj' => simp at hj'; subst hj'; simp [Addr.add]
        case ca9b => intro u hu; simp at hu; rcases hu with rfl | rfl <;> rfl
        case ca9c => unfold maxLen; omega
        case ca9d => omega
        case ca9e => simp; omega
        intro v9 w9 hm9 hg9 _
        have HB9 := Lib.hid (((hbo).alloc hsz9 (.cells #[.int .i64 ((k : Int)), .int .i64 ((U : Int))] 76)).grown hg9 (by simp; omega) (fun j e => ((hoo).lt j e).1))
        clear hg9
        have HO9 : Hid (w9.ownsRow w.heap.size 76 2 v9 (k + 1) (pvs (Q.ivl zs (k + 1)))) := by show World.ownsRow _ _ _ _ _ _ _; rw [HS.out, HF.out, pvs_snoc]; exact hm9
        clear hm9 ho hb hoo hbo
        go_wp2
        go_roundw
        case rel => exact ⟨k + 1, by omega, by go_num, HO9.out, HB9.out⟩
        case measure => simp [intOf]; omega
    · have hke : k = zs.length := by omega
      have hltI : ¬ (k : Int) < (zs.length : Int) := by omega
      have HK := Lib.hid hke
      clear hke
      go_wp2
      go_ret
      have h := ho.out
      rw [HK.out] at h
      refine ⟨_, rfl, ?_, hb.out⟩
      rw [Q.ivl_len]
      exact h
theorem specIvl_any (n : Int) (zs : List Int) (A : Option Addr) (c : Nat) (hl : zs.length ≤ 1048576) (w : World) (hr : Law.Row w A (ivs zs)) :
    Calls Try.prog 36 #[.int .i64 n, .slice A zs.length c] w (rowSays2 (Q.ivlQ n zs) w) := by
  have HQ := Lib.hid (l3Good_any n A c zs w hl hr)
  cases hg : Q.good n zs
  · rw [show Q.ivlQ n zs = ([], false) by simp [Q.ivlQ, hg]]
    rw [hg] at HQ
    clear hr hg
    go_enter Try.func36, Try.ntmps36
    go_wp2_with fail
    go_at_call 69
    refine (HQ.out).mono ?_
    rintro e w' ⟨rfl, hw'⟩
    obtain rfl := hw'.symm
    clear hw'
    go_wp2
    go_ret2
    exact ⟨_, rfl, own2_nil _ _, (Below.refl _ _).alloc (Nat.le_refl _) _⟩
  · rw [show Q.ivlQ n zs = (Q.ivl zs zs.length, true) by simp [Q.ivlQ, hg]]
    obtain ⟨N, rfl, h1, h2, h3, hx⟩ := Q.good_nat hg
    have HI := Lib.hid (l5Intervals_any A c zs w h3 hr)
    rw [hg] at HQ
    clear hr hg hx
    go_enter Try.func36, Try.ntmps36
    go_wp2_with fail
    go_at_call 69
    refine (HQ.out).mono ?_
    rintro e w' ⟨rfl, hw'⟩
    obtain rfl := hw'.symm
    clear hw'
    go_wp2_with fail
    go_at_call 71
    refine HI.out.mono ?_
    rintro e w1 ⟨v1, rfl, ho, hb⟩
    have HO := Lib.hid ho
    have HB := Lib.hid hb
    clear ho hb
    go_wp2
    go_ret2
    exact ⟨_, rfl, HO.out, HB.out⟩
set_option maxHeartbeats 1600000 in
theorem impIvl_any (n : Int) (zs : List Int) (A : Option Addr) (c : Nat) (hl : zs.length ≤ 1048576) (w : World) (hr : Law.Row w A (ivs zs)) :
    Calls Try.prog 37 #[.int .i64 n, .slice A zs.length c] w (rowSays2 (Q.ivlQ n zs) w) := by
  have HQ := Lib.hid (impNext_any n zs A c hl w hr)
  cases hg : Q.good n zs
  · rw [show Q.ivlQ n zs = ([], false) by simp [Q.ivlQ, hg]]
    rw [show Q.nextQ n zs = ([], false) from Q.ifGood_no hg] at HQ
    clear hr hg
    go_enter Try.func37, Try.ntmps37
    go_wp2_with fail
    go_at_call 72
    refine HQ.out.mono ?_
    rintro e w1 ⟨v1, rfl, ho, hb⟩
    have HB := Lib.hid hb
    clear ho hb
    go_wp2
    go_ret2
    exact ⟨_, rfl, own_down2 (own2_nil _ _) HB.out.size, HB.out.alloc HB.out.size _⟩
  · rw [show Q.ivlQ n zs = (Q.ivl zs zs.length, true) by simp [Q.ivlQ, hg]]
    rw [show Q.nextQ n zs = (Q.nextL zs zs.length, true) from Q.ifGood_yes hg] at HQ
    obtain ⟨N, rfl, h1, h2, h3, hx⟩ := Q.good_nat hg
    obtain ⟨i0, hi, hz0, hz1, hz2⟩ := info_parts infoA2
    clear hr hg hx
    go_enter Try.func37, Try.ntmps37
    go_wp2_with fail
    go_at_call 72
    refine HQ.out.mono ?_
    rintro e w1 ⟨v1, rfl, ho, hb⟩
    simp only [] at ho
    have hnl : (Q.nextL zs zs.length).length = zs.length := by simp [Q.nextL]
    rw [hnl] at ho
    clear hnl
    obtain ⟨A1, c1, rfl, hc1, _, _⟩ := Law.own_len ho
    have HR1 := Lib.hid (Law.Row.own ho)
    have HB1 := Lib.hid hb
    clear ho hb
    go_wp2_with (at_make; refine wpList_make_full _ rfl _ _ 42 rfl w1.heap.size 76 i0 (.agg #[.int .i64 0, .int .i64 0]) 2 Try.underlying42 hi hz0 hz1 .i64 .i64 _ _ zs.length rfl rfl rfl rfl ?c1 ?c2 ?c3 ?_)
    case c1 => rw [hz2]; omega
    case c2 => unfold maxLen; omega
    case c3 => exact Nat.le_refl _
    intro w2 hown hg
    have hb2 : Below w1.heap.size w1 w2 := (Below.refl _ _).grown hg (Nat.le_refl _) (fun k e => by cases e)
    have HO : Hid (∃ xs, w2.ownsRow w1.heap.size 76 2 (.slice (some ⟨w1.heap.size, 0, none⟩) zs.length zs.length) zs.length xs ∧ Fill (Q.ivl zs zs.length) 0 xs) := ⟨_, hown, fun j hj => by omega⟩
    have HB := Lib.hid hb2
    clear hown hg hb2
    go_wp2_with fail
    go_loopw [24, 9] (fun i _ wr => ∃ k : Nat, k ≤ zs.length ∧ i = .int .i64 k ∧ Hid (∃ xs, wr.ownsRow w1.heap.size 76 2 (.slice (some ⟨w1.heap.size, 0, none⟩) zs.length zs.length) zs.length xs ∧ Fill (Q.ivl zs zs.length) k xs) ∧ Hid (Below w1.heap.size w1 wr)) (fun i _ _ => zs.length - (intOf i).toNat)
    case atStart => exact ⟨0, Nat.zero_le _, rfl, HO.out, HB.out⟩
    case round =>
      obtain ⟨k, hk, rfl, ho, hb⟩ := hrel
      by_cases hlt : k < zs.length
      · have hn1 : (Q.nextL zs zs.length)[k]? = some (Q.nextOf zs k) := by simp [Q.nextL, hlt]
        obtain ⟨b, off, rfl, hbl, hc⟩ := (HR1.out.stays hb.out).at_ (ivs_some hn1)
        have hltI : (k : Int) < (zs.length : Int) := by omega
        have hz := Q.ivl_at (zs := zs) hlt
        obtain ⟨F, hF⟩ : ∃ F, F = Q.nextOf zs k := ⟨_, rfl⟩
        rw [← hF] at hc hz
        obtain ⟨xs, ho1, hfill⟩ := ho.out
        have hlen : xs.length = zs.length * 2 := ho1.1
        obtain ⟨u0, hu0⟩ : ∃ u, xs[k * 2]? = some u := ⟨_, List.getElem?_eq_getElem (by omega)⟩
        obtain ⟨u1, hu1⟩ : ∃ u, xs[k * 2 + 1]? = some u := ⟨_, List.getElem?_eq_getElem (by omega)⟩
        have hcO0 : wr.cell? ⟨w1.heap.size, k * 2, none⟩ = some u0 := (ho1.cellAt (k * 2) (by omega)).trans hu0
        have hcO1 : wr.cell? ⟨w1.heap.size, k * 2 + 1, none⟩ = some u1 := (ho1.cellAt (k * 2 + 1) (by omega)).trans hu1
        have hfO0 := ho1.frozenAt (k * 2)
        have hfO1 := ho1.frozenAt (k * 2 + 1)
        have ho3 := ((ho1.stored (k * 2) (.int .i64 (k : Int))).1.stored (k * 2 + 1) (.int .i64 F)).1
        have HS := Lib.hid (And.intro ho3 (hfill.next hz (by omega)))
        have HB' := Lib.hid (Below.setCell (p := ⟨w1.heap.size, k * 2 + 1, none⟩) (Below.setCell (p := ⟨w1.heap.size, k * 2, none⟩) hb.out (Nat.le_refl _) (.int .i64 (k : Int))) (Nat.le_refl _) (.int .i64 F))
        clear ho ho1 ho3 hfill hb hu0 hu1 hlen hz hn1 hF
        go_wp2
        go_roundw
        case rel => exact ⟨k + 1, by omega, by go_num, ⟨_, HS.out⟩, HB'.out⟩
        case measure => simp [intOf]; omega
      · have hke : k = zs.length := by omega
        have hltI : ¬ (k : Int) < (zs.length : Int) := by omega
        have HK := Lib.hid hke
        clear hke
        go_wp2
        go_ret2
        obtain ⟨xs, ho1, hfill⟩ := ho.out
        have hkl : (Q.ivl zs zs.length).length = k := by rw [Q.ivl_len, HK.out]
        have e := Fill.all (zs := Q.ivl zs zs.length) (by rw [hkl]; exact hfill) (by rw [Q.ivl_len]; exact ho1.1)
        rw [e] at ho1
        refine ⟨_, rfl, ?_, (Law.then_ HB1.out hb.out)⟩
        rw [Q.ivl_len]
        exact own_down2 ho1 HB1.out.size
end Go.Proofs.Ytklpdfilhgjllaa
