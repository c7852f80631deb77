/-
  The code's LazyPlan.
-/
import Derived.Test.YtklpdfilhgjllaaPloL
import Derived.Test.YtklpdfilhgjllaaRunP
import Derived.Test.YtklpdfilhgjllaaRowS
import Derived.Test.YtklpdfilhgjllaaSubF
namespace Go.Proofs.Ytklpdfilhgjllaa
open Go.RowKit
set_option linter.unusedVariables false
namespace Q
theorem sub_bit (S T q : Nat) : (subB S T).testBit q = (S.testBit q && !T.testBit q) := by
  unfold subB
  rw [Nat.testBit_xor, Nat.testBit_and]
  cases S.testBit q <;> cases T.testBit q <;> rfl
theorem sub_pl (S : Nat) {T : Nat} (hT : T < 256) : pl (subB S T) = (pl S).filter fun z => !decide (z ∈ pl T) := by
  unfold pl
  rw [List.filter_map, List.filter_filter]
  congr 1
  refine List.filter_congr fun q hq => ?_
  have h8 : q < 8 := by simpa using hq
  have := mem_pl hT h8
  unfold pl at this
  rw [sub_bit, Function.comp, this, Bool.and_comm]
theorem count_lt {f g : Nat → Bool} : ∀ {l : List Nat} {p : Nat}, (∀ q ∈ l, f q = true → g q = true) → p ∈ l → f p = false → g p = true → l.countP f < l.countP g
  | [], p, _, hp, _, _ => by simp at hp
  | a :: l, p, h, hp, hf, hg => by
    have hm : l.countP f ≤ l.countP g := List.countP_mono_left fun x hx hfx => h x (by simp [hx]) hfx
    rcases List.mem_cons.1 hp with e | e
    · subst e
      rw [List.countP_cons, List.countP_cons, hf, hg]
      simp
      omega
    · have ih := count_lt (fun q hq => h q (by simp [hq])) e hf hg
      have ha := h a (by simp)
      rw [List.countP_cons, List.countP_cons]
      cases hfa : f a
      · simp; omega
      · rw [ha hfa]; simp; omega
/-- The first page of l that is not in m. -/
def lzL (l m : List Int) : Int := (l.filter fun z => !decide (z ∈ m)).headD (-1)
def lzAt (us : List Nat) (i S : Nat) : Int := lzL (pl S) (pl (us.getD i 0))
theorem lz_some {S T p : Nat} (hS : S < 256) (hT : T < 256) (hp : p < 8) (hSp : S.testBit p = false) (hTp : T.testBit p = true) (hc : popB T ≤ popB S) : ∃ x xs, pl (subB S T) = x :: xs ∧ lzL (pl S) (pl T) = x ∧ 0 ≤ x ∧ x < 8 := by
  have e := sub_pl S hT
  cases hl : pl (subB S T) with
  | nil =>
    exfalso
    have : popB S < popB T := count_lt (fun q hq hf => by
      cases hg : T.testBit q
      · exfalso
        have h1 : (subB S T).testBit q = true := by rw [sub_bit, hf, hg]; rfl
        have : (q : Int) ∈ pl (subB S T) := List.mem_map.2 ⟨q, List.mem_filter.2 ⟨hq, h1⟩, rfl⟩
        rw [hl] at this
        simp at this
      · rfl) (p := p) (by simpa using hp) hSp hTp
    omega
  | cons x xs =>
    refine ⟨x, xs, rfl, ?_, ?_⟩
    · unfold lzL
      rw [← e, hl]
      rfl
    · have : x ∈ pl S := by
        have : x ∈ (pl S).filter fun z => !decide (z ∈ pl T) := by rw [← e, hl]; simp
        exact (List.mem_filter.1 this).1
      obtain ⟨q, hq, rfl⟩ := List.mem_map.1 this
      have := (List.mem_filter.1 hq).1
      simp at this
      omega
set_option maxRecDepth 100000 in
theorem put_bit_fin : ∀ S : Fin 256, ∀ p : Fin 8, (putB S.val p.val).testBit p.val = true := by decide +kernel
theorem put_bit {S p : Nat} (hS : S < 256) (hp : p < 8) : (putB S p).testBit p = true := put_bit_fin ⟨S, hS⟩ ⟨p, hp⟩
/-- Behind a possible plan's place, its page is in the set, which has at most k pages. -/
theorem step_in {k : Int} {S f p : Nat} {l : Int} {x : Nat × Nat} (hS : S < 256) (hp : p < 8) (hl : l < 8) (h : step k S f p l = some x) : x.1.testBit p = true ∧ (popB x.1 : Int) ≤ k := by
  unfold step at h
  split at h
  · cases h
  · split at h
    · cases h
    · rename_i hc
      injection h with h
      subst h
      refine ⟨?_, by simp only []; omega⟩
      simp only [exB]
      split
      · exact put_bit (out_lt hS (by omega)) hp
      · exact put_bit hS hp
def lazyQ (k n : Int) (zs ps : List Int) : List Int × Bool := match runX k n zs ps with | some x => (planC k zs (lzAt x.1), true) | none => ([], false)
/-- All sets of a possible plan. -/
structure SetsOk (k : Int) (zs : List Int) (us : List Nat) : Prop where
  len : us.length = zs.length
  ok : ∀ (i p : Nat), zs[i]? = some (p : Int) → ∃ T, us[i]? = some T ∧ T < 256 ∧ T.testBit p = true ∧ (popB T : Int) ≤ k
theorem lazy_ok {k : Int} {zs : List Int} {us : List Nat} (h : SetsOk k zs us) (hz : ∀ k, k < zs.length → ∃ x : Nat, zs[k]? = some (x : Int) ∧ x < 8) : ChOk k zs (lzAt us) := fun i S p hi hS hb hP => by
  obtain ⟨T, hT, hT1, hT2, hT3⟩ := h.ok i p hi
  obtain ⟨y, hy, hy8⟩ := hz i (List.getElem?_eq_some_iff.1 hi).1
  rw [hi] at hy
  injection hy with hy
  obtain ⟨x, xs, _, h2, h3⟩ := lz_some hS hT1 (show p < 8 by omega) hb hT2 (by omega)
  unfold lzAt
  rw [List.getD_eq_getElem?_getD, hT]
  show 0 ≤ lzL (pl S) (pl T) ∧ lzL (pl S) (pl T) < 8
  rw [h2]
  exact h3
theorem stB_prev {k : Int} {zs ps : List Int} {n : Nat} (h : (stB k zs ps n).isSome = true) : ∀ i, i ≤ n → ∃ x, stB k zs ps i = some x := fun i hi => by
  cases e : stB k zs ps i
  · rw [stB_fail e hi] at h; cases h
  · exact ⟨_, rfl⟩
theorem sets_ok {k n : Int} {zs ps : List Int} {X : List Nat × Nat} (h : runX k n zs ps = some X) : SetsOk k zs X.1 := by
  unfold runX at h
  split at h
  · rename_i hok
    simp only [planOk, planL, Bool.and_eq_true, decide_eq_true_eq] at hok
    obtain ⟨⟨hk, hg⟩, hln, hall⟩ := hok
    obtain ⟨N, rfl, h1, h2, h3, hx⟩ := good_nat hg
    cases he : stB k zs ps zs.length
    · rw [he] at h; cases h
    · rw [he] at h
      injection h with h
      subst h
      refine ⟨sets_len _ _ _ _, fun i p hi => ?_⟩
      have hil := (List.getElem?_eq_some_iff.1 hi).1
      obtain ⟨x, hxi⟩ := stB_prev (n := zs.length) (by rw [he]; rfl) i (by omega)
      obtain ⟨y, hyi⟩ := stB_prev (n := zs.length) (by rw [he]; rfl) (i + 1) (by omega)
      obtain ⟨l, hl⟩ : ∃ l, ps[i]? = some l := ⟨_, List.getElem?_eq_getElem (by omega)⟩
      have hlb := (okL_iff (n := (N : Int)) (by omega)).1 (all_at hall hl)
      have hp8 : p < 8 := by
        obtain ⟨q, hq1, hq2⟩ := hx i hil
        rw [hi] at hq1
        injection hq1 with hq1
        omega
      have hbd := stB_bd (k := k) (zs := zs) (ps := ps) (fun z hz => by
        obtain ⟨j, hj, rfl⟩ := List.mem_iff_getElem.1 hz
        obtain ⟨q, hq1, hq2⟩ := hx j hj
        rw [List.getElem?_eq_getElem hj] at hq1
        injection hq1 with hq1
        omega) (fun l hl => by
        have := (okL_iff (n := (N : Int)) (by omega)).1 (List.all_eq_true.1 hall l hl)
        omega)
      have hs := stB_succ (S := x.1) (f := x.2) hxi hi hl
      rw [hyi] at hs
      have hin := step_in (hbd i _ hxi).1 hp8 (by omega) hs.symm
      exact ⟨y.1, sets_at hil hyi, (hbd (i + 1) _ hyi).1, hin.1, hin.2⟩
  · cases h
end Q
set_option maxHeartbeats 800000 in
theorem lazyCh_any (bx : Nat) (A : Option Addr) (c : Nat) (us : List Nat) (i S T : Nat) (x : Int) (xs : List Int) (w : World) (h3 : us.length ≤ 60) (hi : us[i]? = some T) (hS : S < 256) (hT : T < 256) (hp : Q.pl (Q.subB S T) = x :: xs) (hbx : w.cell? ⟨bx, 0, none⟩ = some (.slice A us.length c)) (hr : Law.Row w A (uvs us)) :
    Calls Try.prog 84 #[.int .i64 i, .int .u64 S, .pointer (some ⟨bx, 0, none⟩)] w fun e w' => e = .returned (.int .i64 x) ∧ Below w.heap.size w w' := by
  obtain ⟨he, hlt⟩ := sub_fin ⟨S, hS⟩ ⟨T, hT⟩
  simp only [] at he hlt
  have HL := Lib.hid (list_any (Q.subB S T) w hlt)
  rw [hp, ← he] at HL
  obtain ⟨b, off, rfl, hbl, hc⟩ := hr.at_ (uvs_at hi)
  have hil := (List.getElem?_eq_some_iff.1 hi).1
  have hiI : (i : Int) < (us.length : Int) := by omega
  clear hr hi he hlt hp
  go_enter Try.func84, Try.ntmps84
  go_wp2_with fail
  go_at_call 54
  refine HL.out.mono ?_
  rintro e w1 ⟨v1, rfl, ho, hb⟩
  obtain ⟨A1, c1, rfl, _, _, _⟩ := Law.own_len ho
  obtain ⟨b2, off2, rfl, hbl2, hc2⟩ := (Law.Row.own ho).at_ (k := 0) (u := .int .i64 x) rfl
  rw [Nat.add_zero] at hc2
  have hpos0 : 0 < (x :: xs).length := Nat.succ_pos xs.length
  have hposI : (0 : Int) < ((x :: xs).length : Int) := by omega
  clear hpos0
  have HB := Lib.hid hb
  generalize (x :: xs).length = n at hposI ho ⊢
  clear ho hb
  go_wp2
  go_ret
  exact ⟨rfl, HB.out⟩
set_option maxHeartbeats 1600000 in
theorem impLazy_any (k n : Int) (zs ps : List Int) (A B : Option Addr) (c d : Nat) (hl : zs.length ≤ 1048576) (hl' : ps.length ≤ 1048576) (w : World) (hr : Law.Row w A (ivs zs)) (hp : Law.Row w B (ivs ps)) :
    Calls Try.prog 48 #[.int .i64 k, .int .i64 n, .slice A zs.length c, .slice B ps.length d] w (rowSays (Q.lazyQ k n zs ps) w) := by
  have HRun := Lib.hid (runPlan_any k n zs ps A B c d hl hl' w hr hp)
  cases hR : Q.runX k n zs ps
  · rw [show Q.lazyQ k n zs ps = ([], false) by simp [Q.lazyQ, hR]]
    rw [hR] at HRun
    clear hr hp hR
    go_enter Try.func48, Try.ntmps48
    go_wp2_with fail
    go_at_call 53
    refine HRun.out.mono ?_
    rintro e w1 ⟨rfl, hb⟩
    have HB := Lib.hid hb
    have HB0 := Lib.hid (hb.alloc hb.size (.cells #[.slice none 0 0] 53))
    have HN0 : Hid (((w1.alloc (.cells #[.slice none 0 0] 53)).alloc (.cells #[] 3)).ownsRow w.heap.size 3 1 (.slice (some ⟨w1.heap.size + 1, 0, none⟩) 0 0) 0 []) := by
      have h := ownsRow_nil (w1.alloc (.cells #[.slice none 0 0] 53)) 3
      rw [show (w1.alloc (.cells #[.slice none 0 0] 53)).heap.size = w1.heap.size + 1 from by simp] at h
      exact Lib.hid (own_down h (Nat.le_trans hb.size (Nat.le_succ _)))
    have hsz := hb.size
    clear hb
    go_wp2
    go_ret2
    exact ⟨_, rfl, HN0.out, HB0.out.alloc (by simp; omega) _⟩
  · rename_i X
    have hSO := Q.sets_ok hR
    have hg : Q.good n zs = true ∧ Q.okS k = true := by
      have h := hR
      unfold Q.runX at h
      split at h
      · rename_i hok
        simp only [Q.planOk, Bool.and_eq_true] at hok
        exact ⟨hok.1.2, hok.1.1⟩
      · cases h
    rw [show Q.lazyQ k n zs ps = (Q.planC k zs (Q.lzAt X.1), true) by simp [Q.lazyQ, hR]]
    rw [hR] at HRun
    obtain ⟨us, f⟩ := X
    simp only [] at hSO
    obtain ⟨N, rfl, h1, h2, h3, hx⟩ := Q.good_nat hg.1
    have hx8 : ∀ k, k < zs.length → ∃ x : Nat, zs[k]? = some (x : Int) ∧ x < 8 := fun k hk => by obtain ⟨x, h1, h2⟩ := hx k hk; exact ⟨x, h1, by omega⟩
    have HOK := Lib.hid (Q.lazy_ok hSO hx8)
    have HSO := Lib.hid hSO
    have HX := Lib.hid hx8
    have HR := Lib.hid hr
    clear hr hp hR hg hx hx8 hSO
    go_enter Try.func48, Try.ntmps48
    go_wp2_with fail
    go_at_call 53
    refine HRun.out.mono ?_
    rintro e w1 ⟨v1, rfl, ho, hb⟩
    simp only [] at ho
    obtain ⟨A1, c1, rfl, _, _, _⟩ := Law.own_len ho
    have HU := Lib.hid (Law.Row.own ho)
    have HB0 := Lib.hid (hb.alloc hb.size (.cells #[.slice A1 us.length c1] 53))
    have b1 : Below w1.heap.size w1 (w1.alloc (.cells #[.slice A1 us.length c1] 53)) := (Below.refl _ _).alloc (Nat.le_refl _) _
    have HP := Lib.hid (PZ.planOf_any w1.heap.size (Q.lzAt us) k A c zs (w1.alloc (.cells #[.slice A1 us.length c1] 53)) h3 HX.out HOK.out (HR.out.stays HB0.out) (fun i S p W hz hS hbt hP hW => by
      obtain ⟨T, hT, hT1, hT2, hT3⟩ := HSO.out.ok i p hz
      obtain ⟨y, hy, hy8⟩ := HX.out i (List.getElem?_eq_some_iff.1 hz).1
      rw [hz] at hy
      injection hy with hy
      obtain ⟨x, xs, hx1, hx2, _⟩ := Q.lz_some hS hT1 (show p < 8 by omega) hbt hT2 (by omega)
      have e : Q.lzAt us i S = x := by
        unfold Q.lzAt
        rw [List.getD_eq_getElem?_getD, hT]
        exact hx2
      rw [e]
      exact lazyCh_any w1.heap.size A1 c1 us i S T x xs W (by rw [HSO.out.len]; exact h3) hT hS hT1 hx1 ((hW.cell (p := ⟨w1.heap.size, 0, none⟩) (by simp)).trans (by simp)) ((HU.out.stays b1).stays hW)))
    clear ho hb b1
    go_wp2_with fail
    go_at_call 57
    refine HP.out.mono ?_
    rintro e w2 ⟨v2, rfl, ho, hb⟩
    have HO := Lib.hid (own_down ho HB0.out.size)
    have HB := Lib.hid (Law.then_ HB0.out hb)
    clear ho hb HB0
    go_wp2
    go_ret2
    exact ⟨_, rfl, HO.out, HB.out⟩
end Go.Proofs.Ytklpdfilhgjllaa
