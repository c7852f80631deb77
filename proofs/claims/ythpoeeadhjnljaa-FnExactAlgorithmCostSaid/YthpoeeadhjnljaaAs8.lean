/-
  The schedule of an algorithm: statesOf and l8States.
-/
import Derived.Test.YthpoeeadhjnljaaAl8
namespace Go.Proofs.Ythpoeeadhjnljaa
open Go.RowKit
set_option linter.unusedVariables false
namespace Q
/-- The state after the first k requests. -/
def atK (next : List (List Int)) (s0 : Nat) (reqs : List Int) : Nat → Nat
  | 0 => s0
  | k + 1 => (dst next (atK next s0 reqs k) (reqs.getD k 0).toNat).toNat
def statesL (next : List (List Int)) (s0 : Nat) (reqs : List Int) (k : Nat) : List Int := (List.range k).map fun j => (atK next s0 reqs (j + 1) : Int)
theorem statesL_len (next : List (List Int)) (s0 : Nat) (reqs : List Int) (k : Nat) : (statesL next s0 reqs k).length = k := by simp [statesL]
theorem statesL_succ (next : List (List Int)) (s0 : Nat) (reqs : List Int) (k : Nat) : statesL next s0 reqs (k + 1) = statesL next s0 reqs k ++ [(atK next s0 reqs (k + 1) : Int)] := by simp [statesL, List.range_succ]
/-- A table that is an algorithm: its rows are m long, its numbers below n and served. -/
structure Alg (n : Nat) (S next : List (List Int)) : Prop where
  len : next.length = n
  row : ∀ l ∈ next, l.length = S.length
  ok : ∀ s r, s < n → r < S.length → ∃ t : Nat, dst next s r = t ∧ t < n ∧ dst S r t ≠ -1
theorem alg_iff {n : Nat} {S next : List (List Int)} (h : algQ n S next = true) : Alg n S next := by
  by_cases hl : next.length = n
  · rw [alg_all hl] at h
    have h' := of_decide_eq_true h
    refine ⟨hl, fun l hm => by rw [sch_len (h' l hm), kindsL_len], fun s r hs hr => ?_⟩
    have hsl : s < next.length := by omega
    have hm := List.getElem_mem hsl
    have hq := h' _ hm
    have hlen : next[s].length = S.length := by rw [sch_len hq, kindsL_len]
    simp only [schQ, Bool.and_eq_true, List.all_eq_true, List.mem_range] at hq
    have h2 := hq.2 r (by omega)
    have e1 : (kindsL S.length).getD r 0 = (r : Int) := by rw [List.getD_eq_getElem?_getD, kindsL_at hr]; rfl
    have e2 : next[s].getD r 0 = dst next s r := by
      unfold dst
      rw [List.getD_eq_getElem?_getD (l := next), List.getElem?_eq_getElem hsl]
      rfl
    rw [e1, e2] at h2
    simp only [okSt, Bool.and_eq_true, decide_eq_true_eq, Int.toNat_natCast] at h2
    obtain ⟨t, ht⟩ := Int.eq_ofNat_of_zero_le h2.1.1
    rw [ht] at h2
    refine ⟨t, ht, by omega, ?_⟩
    simpa using h2.2
  · rw [alg_no_len hl] at h
    cases h
theorem atK_lt {n : Nat} {S next : List (List Int)} (h : Alg n S next) {s0 : Nat} (h0 : s0 < n) {reqs : List Int} (hr : Nats S.length reqs) : ∀ k, k ≤ reqs.length → atK next s0 reqs k < n
  | 0, _ => h0
  | k + 1, hk => by
    have ih := atK_lt h h0 hr k (by omega)
    obtain ⟨x, hx, hxm⟩ := hr k (by omega)
    obtain ⟨t, h1, h2, _⟩ := h.ok _ x ih hxm
    rw [atK, List.getD_eq_getElem?_getD, hx, Option.getD_some, Int.toNat_natCast, h1, Int.toNat_natCast]
    exact h2
theorem atK_succ {n : Nat} {S next : List (List Int)} (h : Alg n S next) {s0 : Nat} (h0 : s0 < n) {reqs : List Int} (hr : Nats S.length reqs) {k x : Nat} (hk : k < reqs.length) (hx : reqs[k]? = some (x : Int)) : dst next (atK next s0 reqs k) x = (atK next s0 reqs (k + 1) : Int) := by
  obtain ⟨x', hx', hxm⟩ := hr k hk
  rw [hx] at hx'
  injection hx' with e
  have e : x = x' := by omega
  subst e
  obtain ⟨t, h1, h2, _⟩ := h.ok _ x (atK_lt h h0 hr k (by omega)) hxm
  rw [atK, List.getD_eq_getElem?_getD, hx, Option.getD_some, Int.toNat_natCast, h1, Int.toNat_natCast]
theorem states_nats {n : Nat} {S next : List (List Int)} (h : Alg n S next) {s0 : Nat} (h0 : s0 < n) {reqs : List Int} (hr : Nats S.length reqs) : Nats n (statesL next s0 reqs reqs.length) := fun k hk => by
  rw [statesL_len] at hk
  exact ⟨atK next s0 reqs (k + 1), by simp [statesL, hk], atK_lt h h0 hr (k + 1) (by omega)⟩
end Q
section
variable (N : Option Addr) (cN : Nat) (zs : List Value) (next : List (List Int)) (w : World) (s0 : Nat) (reqs : List Int) (R : Option Addr) (e : Nat)
set_option maxRecDepth 100000 in
set_option maxHeartbeats 1600000 in
theorem statesOf_any {n : Nat} {S : List (List Int)} (hn1 : 1 ≤ n) (hm1 : 1 ≤ S.length) (h : Q.Alg n S next) (h0 : s0 < n) (h60 : reqs.length ≤ 60) (hrq : Q.Nats S.length reqs) (hN : NRow w N zs next) (hR : Law.Row w R (ivs reqs)) :
    Calls Try.prog 67 #[.slice N next.length cN, .int .i64 (s0 : Int), .slice R reqs.length e] w (rowSays1 (Q.statesL next s0 reqs reqs.length) w) := by
  obtain ⟨i0, hi, hz0, hz1, hz2⟩ := info_parts infoInts
  obtain ⟨bN, oN, rfl⟩ := hN.some_ (by rw [h.len]; exact hn1)
  have HTN := Lib.hid fun (W : World) (hb : Below w.heap.size w W) => (hN.stays hb).tab h.row hm1
  have HR := Lib.hid fun (W : World) (h : Below w.heap.size w W) => hR.stays h
  have HLt := Lib.hid fun k hk => Q.atK_lt h h0 hrq k hk
  have HSc := Lib.hid fun (k x : Nat) hk hx => Q.atK_succ h h0 hrq (k := k) (x := x) hk hx
  have HRq := Lib.hid hrq
  have HLen := Lib.hid h.len
  have HFz := Lib.hid (Q.fill_zero (fun j => (Q.atK next s0 reqs (j + 1) : Int)) reqs.length)
  have HFs := Lib.hid fun k => Q.fill_set (f := fun j => (Q.atK next s0 reqs (j + 1) : Int)) (n := reqs.length) (k := k)
  have HF0 := Lib.hid fun k (hk : k < reqs.length) => Q.fill_at (f := fun j => (Q.atK next s0 reqs (j + 1) : Int)) hk
  have HFe : Hid (Q.fillK (fun j => (Q.atK next s0 reqs (j + 1) : Int)) reqs.length reqs.length = Q.statesL next s0 reqs reqs.length) := by show _ = _; rw [Q.fill_end]; rfl
  have hlX : (Q.statesL next s0 reqs reqs.length).length = reqs.length := Q.statesL_len _ _ _ _
  generalize Q.fillK (fun j => (Q.atK next s0 reqs (j + 1) : Int)) reqs.length = FK at HFz HFs HF0 HFe
  show Calls _ _ _ _ (rowSays1 _ _)
  unfold rowSays1
  rw [hlX]
  generalize Q.statesL next s0 reqs reqs.length = X at HFe ⊢
  have HZ : Hid (Q.atK next s0 reqs 0 = s0) := rfl
  generalize Q.atK next s0 reqs = at_ at HLt HSc HFs HZ
  clear hN hR hrq hlX h
  go_enter Try.func67, Try.ntmps67
  go_wp2_with (at_make; refine wpList_make_full _ rfl _ _ 35 rfl w.heap.size 3 i0 (.int .i64 0) 1 Try.underlying35 hi hz0 hz1 .i64 .i64 _ _ reqs.length rfl rfl rfl rfl ?cm1a ?cm1b ?cm1c ?_)
  case cm1a => rw [hz2]; omega
  case cm1b => unfold maxLen; omega
  case cm1c => first | exact Nat.le_refl _ | omega | (simp; done) | (simp; omega)
  intro w1 hm1 hg1
  replace hm1 := made_own (w := w1) hm1
  have HB1 : Hid (Below w.heap.size w w1) := Lib.hid ((Below.refl _ _).grown hg1 (Nat.le_refl _) (fun k e => by cases e))
  have HO1 : Hid (w1.ownsRow w.heap.size 3 1 (.slice (some ⟨w.heap.size, 0, none⟩) reqs.length reqs.length) reqs.length (ivs (FK 0))) := by show World.ownsRow _ _ _ _ _ _ _; rw [HFz.out]; exact hm1
  clear hm1 hg1
  go_wp2_with fail
  go_loopw [8, 17] (fun a i wr => ∃ k : Nat, k ≤ reqs.length ∧ i = .int .i64 (k : Int) ∧ a = .int .i64 (at_ k : Int) ∧ Hid (wr.ownsRow w.heap.size 3 1 (.slice (some ⟨w.heap.size, 0, none⟩) reqs.length reqs.length) reqs.length (ivs (FK k))) ∧ Hid (Below w.heap.size w wr)) (fun _ i _ => reqs.length - (intOf i).toNat)
  case atStart => exact ⟨0, Nat.zero_le _, rfl, by rw [HZ.out], HO1.out, HB1.out⟩
  case round =>
    obtain ⟨k, hk, rfl, rfl, ho, hb⟩ := hrel
    by_cases hlt : k < reqs.length
    · have hltI : (k : Int) < (reqs.length : Int) := by omega
      obtain ⟨x, hx, hxm⟩ := HRq.out k hlt
      obtain ⟨bR, oR, eR, hbR, hcR⟩ := (HR.out wr hb.out).at_ (ivs_some hx)
      subst eR
      have hak := HLt.out k (by omega)
      have hakl : at_ k < next.length := by have := HLen.out; omega
      have hakI : (at_ k : Int) < (next.length : Int) := by omega
      have hxI : (x : Int) < (S.length : Int) := by omega
      obtain ⟨b1, o1, d1, hc1, hcs1⟩ := HTN.out wr hb.out (at_ k) hakl
      have hv1 := hcs1 x hxm
      rw [HSc.out k x hlt hx] at hv1
      have hcO := own_cell ho.out (HF0.out k hlt)
      have hfO := ho.out.frozenAt k
      have HSn := Lib.hid (own_put ho.out k (at_ (k + 1) : Int))
      rw [HFs.out k] at HSn
      have HBn := Lib.hid (hb.out.setCell (p := ⟨w.heap.size, k, none⟩) (Nat.le_refl _) (.int .i64 (at_ (k + 1) : Int)))
      clear hcs1 hx ho hb
      generalize hq : at_ (k + 1) = q at hv1 HSn HBn
      generalize at_ k = p at hc1 hakI hak hakl ⊢
      have HQ := Lib.hid hq
      clear hq
      go_wp2
      go_roundw
      case rel => exact ⟨k + 1, by omega, by go_num, by rw [HQ.out], HSn.out, HBn.out⟩
      case measure => simp [intOf]; omega
    · have hke : k = reqs.length := by omega
      have hltI : ¬ (k : Int) < (reqs.length : Int) := by omega
      have HO := Lib.hid ho.out
      rw [hke, HFe.out] at HO
      have HB := Lib.hid hb.out
      clear hke ho hb
      go_wp2
      go_ret
      exact ⟨_, rfl, HO.out, HB.out⟩
set_option maxRecDepth 100000 in
set_option maxHeartbeats 1600000 in
theorem l8States_any {n : Nat} {S : List (List Int)} (hn1 : 1 ≤ n) (hm1 : 1 ≤ S.length) (h : Q.Alg n S next) (h0 : s0 < n) (h60 : reqs.length ≤ 60) (hrq : Q.Nats S.length reqs) (hN : NRow w N zs next) (hR : Law.Row w R (ivs reqs)) :
    Calls Try.prog 65 #[.slice N next.length cN, .int .i64 (s0 : Int), .slice R reqs.length e] w (rowSays1 (Q.statesL next s0 reqs reqs.length) w) := by
  obtain ⟨i0, hi, hz0, hz1, hz2⟩ := info_parts infoInts
  obtain ⟨bN, oN, rfl⟩ := hN.some_ (by rw [h.len]; exact hn1)
  have HTN := Lib.hid fun (W : World) (hb : Below w.heap.size w W) => (hN.stays hb).tab h.row hm1
  have HR := Lib.hid fun (W : World) (h : Below w.heap.size w W) => hR.stays h
  have HLt := Lib.hid fun k hk => Q.atK_lt h h0 hrq k hk
  have HSc := Lib.hid fun (k x : Nat) hk hx => Q.atK_succ h h0 hrq (k := k) (x := x) hk hx
  have HRq := Lib.hid hrq
  have HLen := Lib.hid h.len
  have HX0 : Hid (Q.statesL next s0 reqs 0 = []) := rfl
  have HXs := Lib.hid fun k => Q.statesL_succ next s0 reqs k
  have HXl := Lib.hid fun k => Q.statesL_len next s0 reqs k
  have HZ : Hid (Q.atK next s0 reqs 0 = s0) := rfl
  generalize Q.statesL next s0 reqs = X at HX0 HXs HXl ⊢
  generalize Q.atK next s0 reqs = at_ at HLt HSc HXs HZ
  clear hN hR hrq h
  go_enter Try.func65, Try.ntmps65
  go_wp2_with fail
  go_loopw [7, 8, 9] (fun o a i wr => ∃ k : Nat, k ≤ reqs.length ∧ i = .int .i64 (k : Int) ∧ a = .int .i64 (at_ k : Int) ∧ Hid (wr.ownsRow w.heap.size 3 1 o k (ivs (X k))) ∧ Hid (Below w.heap.size w wr)) (fun _ _ i _ => reqs.length - (intOf i).toNat)
  case atStart => exact ⟨0, Nat.zero_le _, rfl, by rw [HZ.out], by show World.ownsRow _ _ _ _ _ _ _; rw [HX0.out]; exact ownsRow_nil _ _, (Below.refl _ _).alloc (Nat.le_refl _) _⟩
  case round =>
    obtain ⟨k, hk, rfl, rfl, ho, hb⟩ := hrel
    by_cases hlt : k < reqs.length
    · have hltI : (k : Int) < (reqs.length : Int) := by omega
      obtain ⟨x, hx, hxm⟩ := HRq.out k hlt
      obtain ⟨bR, oR, eR, hbR, hcR⟩ := (HR.out wr hb.out).at_ (ivs_some hx)
      subst eR
      have hak := HLt.out k (by omega)
      have hakl : at_ k < next.length := by have := HLen.out; omega
      have hakI : (at_ k : Int) < (next.length : Int) := by omega
      have hxI : (x : Int) < (S.length : Int) := by omega
      obtain ⟨b1, o1, d1, hc1, hcs1⟩ := HTN.out wr hb.out (at_ k) hakl
      have hv1 := hcs1 x hxm
      rw [HSc.out k x hlt hx] at hv1
      have HXn := Lib.hid (HXs.out k)
      clear hcs1 hx
      generalize hq : at_ (k + 1) = q at hv1 HXn
      generalize at_ k = p at hc1 hakI hak hakl ⊢
      generalize X k = Xk at ho HXn
      have HQ := Lib.hid hq
      clear hq
      go_wp2
      go_quiet (fail)
      generalize hWW : wr.drewN _ = w8
      have hoo : w8.ownsRow w.heap.size 3 1 u7 k (ivs Xk) := by rw [← hWW]; exact ho.out
      have hbo : Below w.heap.size w w8 := by rw [← hWW]; exact Law.up hb.out _
      clear ho hb hc1 hv1 hcR hWW
      have hsz9 := (hbo).size
      go_wp2_with (at_builtin; refine wpList_append_own _ rfl _ _ 35 rfl (w.heap.size) 3 i0 (.int .i64 0) 1 8 Try.underlying35 hi hz0 hz1 hz2 rfl (by decide) _ _ _ rfl ((hoo).alloc _) ⟨(w8).heap.size, 0, none⟩ 1 1 [.int .i64 ((q : Int))] rfl rfl ?ca9a ?ca9b ?ca9c ?ca9d ?ca9e ?_)
      try (case ca9a => (intro j' u hj'; match j', hj' with | 0, hj' => (simp at hj'; subst hj'; simp [Addr.add])))
      case ca9b => first | (intro u hu; simp at hu; subst hu; rfl) | rfl
      case ca9c => unfold maxLen; omega
      case ca9d => omega
      case ca9e => first | omega | (simp; done) | (simp; omega)
      intro v9 w9 hm9 hg9 _
      have HB9 := Lib.hid (((hbo).alloc hsz9 (.cells #[.int .i64 ((q : Int))] 3)).grown hg9 (by simp; omega) (fun j e => Nat.le_trans (by omega) ((hoo).lt j e).1))
      rw [← ivs_snoc, ← HXn.out] at hm9
      have HO := Lib.hid hm9
      clear hm9 hg9 hoo hbo
      go_wp2
      go_roundw
      case rel => exact ⟨k + 1, by omega, by go_num, by rw [HQ.out], HO.out, HB9.out⟩
      case measure => simp [intOf]; omega
    · have hke : k = reqs.length := by omega
      have hltI : ¬ (k : Int) < (reqs.length : Int) := by omega
      have HO := Lib.hid ho.out
      have HB := Lib.hid hb.out
      have HK := Lib.hid hke
      have HL := Lib.hid (HXl.out k)
      clear hke ho hb
      go_wp2
      go_ret
      refine ⟨_, rfl, ?_, HB.out⟩
      rw [← HK.out, HL.out]
      exact HO.out
end
end Go.Proofs.Ythpoeeadhjnljaa
