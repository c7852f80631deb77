/-
  The schedule of an algorithm: statesOf and l8States. Algorithms: the model's l8Alg; IsAlgorithm, AlgorithmStates, AlgorithmCost, both sides.
-/
import Derived.Test.YtammlkaclooohaaAl8
import Derived.BigQuiet
/- The schedule of an algorithm: statesOf and l8States. -/
namespace Go.Proofs.Ytammlkaclooohaa
open Go.RowKit
set_option linter.unusedVariables false
namespace Q
/-- The state after the first k requests. -/
def atK (next : List (List Int)) (s0 : Nat) (reqs : List Int) : Nat → Nat
  | 0 => s0
  | k + 1 => (dst next (atK next s0 reqs k) (reqs.getD k 0).toNat).toNat
def statesL (next : List (List Int)) (s0 : Nat) (reqs : List Int) (k : Nat) : List Int := (List.range k).map fun j => (atK next s0 reqs (j + 1) : Int)
theorem statesL_len (next : List (List Int)) (s0 : Nat) (reqs : List Int) (k : Nat) : (statesL next s0 reqs k).length = k := by simp [statesL]
theorem statesL_succ (next : List (List Int)) (s0 : Nat) (reqs : List Int) (k : Nat) : statesL next s0 reqs (k + 1) = statesL next s0 reqs k ++ [(atK next s0 reqs (k + 1) : Int)] := by simp [statesL, List.range_succ]
/-- A table that is an algorithm: its rows are m long, its numbers below n and served. -/
structure Alg (n : Nat) (S next : List (List Int)) : Prop where
  len : next.length = n
  row : ∀ l ∈ next, l.length = S.length
  ok : ∀ s r, s < n → r < S.length → ∃ t : Nat, dst next s r = t ∧ t < n ∧ dst S r t ≠ -1
theorem alg_iff {n : Nat} {S next : List (List Int)} (h : algQ n S next = true) : Alg n S next := by
  by_cases hl : next.length = n
  · rw [alg_all hl] at h
    have h' := of_decide_eq_true h
    refine ⟨hl, fun l hm => by rw [sch_len (h' l hm), kindsL_len], fun s r hs hr => ?_⟩
    have hsl : s < next.length := by omega
    have hm := List.getElem_mem hsl
    have hq := h' _ hm
    have hlen : next[s].length = S.length := by rw [sch_len hq, kindsL_len]
    simp only [schQ, Bool.and_eq_true, List.all_eq_true, List.mem_range] at hq
    have h2 := hq.2 r (by omega)
    have e1 : (kindsL S.length).getD r 0 = (r : Int) := by rw [List.getD_eq_getElem?_getD, kindsL_at hr]; rfl
    have e2 : next[s].getD r 0 = dst next s r := by
      unfold dst
      rw [List.getD_eq_getElem?_getD (l := next), List.getElem?_eq_getElem hsl]
      rfl
    rw [e1, e2] at h2
    simp only [okSt, Bool.and_eq_true, decide_eq_true_eq, Int.toNat_natCast] at h2
    obtain ⟨t, ht⟩ := Int.eq_ofNat_of_zero_le h2.1.1
    rw [ht] at h2
    refine ⟨t, ht, by omega, ?_⟩
    simpa using h2.2
  · rw [alg_no_len hl] at h
    cases h
theorem atK_lt {n : Nat} {S next : List (List Int)} (h : Alg n S next) {s0 : Nat} (h0 : s0 < n) {reqs : List Int} (hr : Nats S.length reqs) : ∀ k, k ≤ reqs.length → atK next s0 reqs k < n
  | 0, _ => h0
  | k + 1, hk => by
    have ih := atK_lt h h0 hr k (by omega)
    obtain ⟨x, hx, hxm⟩ := hr k (by omega)
    obtain ⟨t, h1, h2, _⟩ := h.ok _ x ih hxm
    rw [atK, List.getD_eq_getElem?_getD, hx, Option.getD_some, Int.toNat_natCast, h1, Int.toNat_natCast]
    exact h2
theorem atK_succ {n : Nat} {S next : List (List Int)} (h : Alg n S next) {s0 : Nat} (h0 : s0 < n) {reqs : List Int} (hr : Nats S.length reqs) {k x : Nat} (hk : k < reqs.length) (hx : reqs[k]? = some (x : Int)) : dst next (atK next s0 reqs k) x = (atK next s0 reqs (k + 1) : Int) := by
  obtain ⟨x', hx', hxm⟩ := hr k hk
  rw [hx] at hx'
  injection hx' with e
  have e : x = x' := by omega
  subst e
  obtain ⟨t, h1, h2, _⟩ := h.ok _ x (atK_lt h h0 hr k (by omega)) hxm
  rw [atK, List.getD_eq_getElem?_getD, hx, Option.getD_some, Int.toNat_natCast, h1, Int.toNat_natCast]
theorem states_nats {n : Nat} {S next : List (List Int)} (h : Alg n S next) {s0 : Nat} (h0 : s0 < n) {reqs : List Int} (hr : Nats S.length reqs) : Nats n (statesL next s0 reqs reqs.length) := fun k hk => by
  rw [statesL_len] at hk
  exact ⟨atK next s0 reqs (k + 1), by simp [statesL, hk], atK_lt h h0 hr (k + 1) (by omega)⟩
end Q
section
variable (N : Option Addr) (cN : Nat) (zs : List Value) (next : List (List Int)) (w : World) (s0 : Nat) (reqs : List Int) (R : Option Addr) (e : Nat)
set_option maxRecDepth 100000 in
set_option maxHeartbeats 1600000 in
theorem statesOf_any {n : Nat} {S : List (List Int)} (hn1 : 1 ≤ n) (hm1 : 1 ≤ S.length) (h : Q.Alg n S next) (h0 : s0 < n) (h60 : reqs.length ≤ 60) (hrq : Q.Nats S.length reqs) (hN : NRow w N zs next) (hR : Law.Row w R (ivs reqs)) :
    Calls Try.prog 79 #[.slice N next.length cN, .int .i64 (s0 : Int), .slice R reqs.length e] w (rowSays1 (Q.statesL next s0 reqs reqs.length) w) := by
  obtain ⟨i0, hi, hz0, hz1, hz2⟩ := info_parts infoInts
  obtain ⟨bN, oN, rfl⟩ := hN.some_ (by rw [h.len]; exact hn1)
  have HTN := Lib.hid fun (W : World) (hb : Below w.heap.size w W) => (hN.stays hb).tab h.row hm1
  have HR := Lib.hid fun (W : World) (h : Below w.heap.size w W) => hR.stays h
  have HLt := Lib.hid fun k hk => Q.atK_lt h h0 hrq k hk
  have HSc := Lib.hid fun (k x : Nat) hk hx => Q.atK_succ h h0 hrq (k := k) (x := x) hk hx
  have HRq := Lib.hid hrq
  have HLen := Lib.hid h.len
  have HFz := Lib.hid (Q.fill_zero (fun j => (Q.atK next s0 reqs (j + 1) : Int)) reqs.length)
  have HFs := Lib.hid fun k => Q.fill_set (f := fun j => (Q.atK next s0 reqs (j + 1) : Int)) (n := reqs.length) (k := k)
  have HF0 := Lib.hid fun k (hk : k < reqs.length) => Q.fill_at (f := fun j => (Q.atK next s0 reqs (j + 1) : Int)) hk
  have HFe : Hid (Q.fillK (fun j => (Q.atK next s0 reqs (j + 1) : Int)) reqs.length reqs.length = Q.statesL next s0 reqs reqs.length) := by show _ = _; rw [Q.fill_end]; rfl
  have hlX : (Q.statesL next s0 reqs reqs.length).length = reqs.length := Q.statesL_len _ _ _ _
  generalize Q.fillK (fun j => (Q.atK next s0 reqs (j + 1) : Int)) reqs.length = FK at HFz HFs HF0 HFe
  show Calls _ _ _ _ (rowSays1 _ _)
  unfold rowSays1
  rw [hlX]
  generalize Q.statesL next s0 reqs reqs.length = X at HFe ⊢
  have HZ : Hid (Q.atK next s0 reqs 0 = s0) := rfl
  generalize Q.atK next s0 reqs = at_ at HLt HSc HFs HZ
  clear hN hR hrq hlX h
  go_enter Try.func79, Try.ntmps79
  go_wp2_with (at_make; refine wpList_make_full _ rfl _ _ 25 rfl w.heap.size 3 i0 (.int .i64 0) 1 Try.underlying25 hi hz0 hz1 .i64 .i64 _ _ reqs.length rfl rfl rfl rfl ?cm1a ?cm1b ?cm1c ?_)
  case cm1a => rw [hz2]; omega
  case cm1b => unfold maxLen; omega
  case cm1c => first | exact Nat.le_refl _ | omega | (simp; done) | (simp; omega)
  intro w1 hm1 hg1
  replace hm1 := made_own (w := w1) hm1
  have HB1 : Hid (Below w.heap.size w w1) := Lib.hid ((Below.refl _ _).grown hg1 (Nat.le_refl _) (fun k e => by cases e))
  have HO1 : Hid (w1.ownsRow w.heap.size 3 1 (.slice (some ⟨w.heap.size, 0, none⟩) reqs.length reqs.length) reqs.length (ivs (FK 0))) := by show World.ownsRow _ _ _ _ _ _ _; rw [HFz.out]; exact hm1
  clear hm1 hg1
  go_wp2_with fail
  go_loopw [8, 17] (fun a i wr => ∃ k : Nat, k ≤ reqs.length ∧ i = .int .i64 (k : Int) ∧ a = .int .i64 (at_ k : Int) ∧ Hid (wr.ownsRow w.heap.size 3 1 (.slice (some ⟨w.heap.size, 0, none⟩) reqs.length reqs.length) reqs.length (ivs (FK k))) ∧ Hid (Below w.heap.size w wr)) (fun _ i _ => reqs.length - (intOf i).toNat)
  case atStart => exact ⟨0, Nat.zero_le _, rfl, by rw [HZ.out], HO1.out, HB1.out⟩
  case round =>
    obtain ⟨k, hk, rfl, rfl, ho, hb⟩ := hrel
    by_cases hlt : k < reqs.length
    · have hltI : (k : Int) < (reqs.length : Int) := by omega
      obtain ⟨x, hx, hxm⟩ := HRq.out k hlt
      obtain ⟨bR, oR, eR, hbR, hcR⟩ := (HR.out wr hb.out).at_ (ivs_some hx)
      subst eR
      have hak := HLt.out k (by omega)
      have hakl : at_ k < next.length := by have := HLen.out; omega
      have hakI : (at_ k : Int) < (next.length : Int) := by omega
      have hxI : (x : Int) < (S.length : Int) := by omega
      obtain ⟨b1, o1, d1, hc1, hcs1⟩ := HTN.out wr hb.out (at_ k) hakl
      have hv1 := hcs1 x hxm
      rw [HSc.out k x hlt hx] at hv1
      have hcO := own_cell ho.out (HF0.out k hlt)
      have hfO := ho.out.frozenAt k
      have HSn := Lib.hid (own_put ho.out k (at_ (k + 1) : Int))
      rw [HFs.out k] at HSn
      have HBn := Lib.hid (hb.out.setCell (p := ⟨w.heap.size, k, none⟩) (Nat.le_refl _) (.int .i64 (at_ (k + 1) : Int)))
      clear hcs1 hx ho hb
      generalize hq : at_ (k + 1) = q at hv1 HSn HBn
      generalize at_ k = p at hc1 hakI hak hakl ⊢
      have HQ := Lib.hid hq
      clear hq
      go_wp2
      go_roundw
      case rel => exact ⟨k + 1, by omega, by go_num, by rw [HQ.out], HSn.out, HBn.out⟩
      case measure => simp [intOf]; omega
    · have hke : k = reqs.length := by omega
      have hltI : ¬ (k : Int) < (reqs.length : Int) := by omega
      have HO := Lib.hid ho.out
      rw [hke, HFe.out] at HO
      have HB := Lib.hid hb.out
      clear hke ho hb
      go_wp2
      go_ret
      exact ⟨_, rfl, HO.out, HB.out⟩
set_option maxRecDepth 100000 in
set_option maxHeartbeats 1600000 in
theorem l8States_any {n : Nat} {S : List (List Int)} (hn1 : 1 ≤ n) (hm1 : 1 ≤ S.length) (h : Q.Alg n S next) (h0 : s0 < n) (h60 : reqs.length ≤ 60) (hrq : Q.Nats S.length reqs) (hN : NRow w N zs next) (hR : Law.Row w R (ivs reqs)) :
    Calls Try.prog 145 #[.slice N next.length cN, .int .i64 (s0 : Int), .slice R reqs.length e] w (rowSays1 (Q.statesL next s0 reqs reqs.length) w) := by
  obtain ⟨i0, hi, hz0, hz1, hz2⟩ := info_parts infoInts
  obtain ⟨bN, oN, rfl⟩ := hN.some_ (by rw [h.len]; exact hn1)
  have HTN := Lib.hid fun (W : World) (hb : Below w.heap.size w W) => (hN.stays hb).tab h.row hm1
  have HR := Lib.hid fun (W : World) (h : Below w.heap.size w W) => hR.stays h
  have HLt := Lib.hid fun k hk => Q.atK_lt h h0 hrq k hk
  have HSc := Lib.hid fun (k x : Nat) hk hx => Q.atK_succ h h0 hrq (k := k) (x := x) hk hx
  have HRq := Lib.hid hrq
  have HLen := Lib.hid h.len
  have HX0 : Hid (Q.statesL next s0 reqs 0 = []) := rfl
  have HXs := Lib.hid fun k => Q.statesL_succ next s0 reqs k
  have HXl := Lib.hid fun k => Q.statesL_len next s0 reqs k
  have HZ : Hid (Q.atK next s0 reqs 0 = s0) := rfl
  generalize Q.statesL next s0 reqs = X at HX0 HXs HXl ⊢
  generalize Q.atK next s0 reqs = at_ at HLt HSc HXs HZ
  clear hN hR hrq h
  go_enter Try.func145, Try.ntmps145
  go_wp2_with fail
  go_loopw [7, 8, 9] (fun o a i wr => ∃ k : Nat, k ≤ reqs.length ∧ i = .int .i64 (k : Int) ∧ a = .int .i64 (at_ k : Int) ∧ Hid (wr.ownsRow w.heap.size 3 1 o k (ivs (X k))) ∧ Hid (Below w.heap.size w wr)) (fun _ _ i _ => reqs.length - (intOf i).toNat)
  case atStart => exact ⟨0, Nat.zero_le _, rfl, by rw [HZ.out], by show World.ownsRow _ _ _ _ _ _ _; rw [HX0.out]; exact ownsRow_nil _ _, (Below.refl _ _).alloc (Nat.le_refl _) _⟩
  case round =>
    obtain ⟨k, hk, rfl, rfl, ho, hb⟩ := hrel
    by_cases hlt : k < reqs.length
    · have hltI : (k : Int) < (reqs.length : Int) := by omega
      obtain ⟨x, hx, hxm⟩ := HRq.out k hlt
      obtain ⟨bR, oR, eR, hbR, hcR⟩ := (HR.out wr hb.out).at_ (ivs_some hx)
      subst eR
      have hak := HLt.out k (by omega)
      have hakl : at_ k < next.length := by have := HLen.out; omega
      have hakI : (at_ k : Int) < (next.length : Int) := by omega
      have hxI : (x : Int) < (S.length : Int) := by omega
      obtain ⟨b1, o1, d1, hc1, hcs1⟩ := HTN.out wr hb.out (at_ k) hakl
      have hv1 := hcs1 x hxm
      rw [HSc.out k x hlt hx] at hv1
      have HXn := Lib.hid (HXs.out k)
      clear hcs1 hx
      generalize hq : at_ (k + 1) = q at hv1 HXn
      generalize at_ k = p at hc1 hakI hak hakl ⊢
      generalize X k = Xk at ho HXn
      have HQ := Lib.hid hq
      clear hq
      go_wp2
      go_quiet (fail)
      generalize hWW : wr.drewN _ = w8
      have hoo : w8.ownsRow w.heap.size 3 1 u7 k (ivs Xk) := by rw [← hWW]; exact ho.out
      have hbo : Below w.heap.size w w8 := by rw [← hWW]; exact Law.up hb.out _
      clear ho hb hc1 hv1 hcR hWW
      have hsz9 := (hbo).size
      go_wp2_with (at_builtin; refine wpList_append_own _ rfl _ _ 25 rfl (w.heap.size) 3 i0 (.int .i64 0) 1 8 Try.underlying25 hi hz0 hz1 hz2 rfl (by decide) _ _ _ rfl ((hoo).alloc _) ⟨(w8).heap.size, 0, none⟩ 1 1 [.int .i64 ((q : Int))] rfl rfl ?ca9a ?ca9b ?ca9c ?ca9d ?ca9e ?_)
      try (case ca9a => (intro j' u hj'; match j', hj' with | 0, hj' => (simp at hj'; subst hj'; simp [Addr.add])))
      case ca9b => first | (intro u hu; simp at hu; subst hu; rfl) | rfl
      case ca9c => unfold maxLen; omega
      case ca9d => omega
      case ca9e => first | omega | (simp; done) | (simp; omega)
      intro v9 w9 hm9 hg9 _
      have HB9 := Lib.hid (((hbo).alloc hsz9 (.cells #[.int .i64 ((q : Int))] 3)).grown hg9 (by simp; omega) (fun j e => Nat.le_trans (by omega) ((hoo).lt j e).1))
      rw [← ivs_snoc, ← HXn.out] at hm9
      have HO := Lib.hid hm9
      clear hm9 hg9 hoo hbo
      go_wp2
      go_roundw
      case rel => exact ⟨k + 1, by omega, by go_num, by rw [HQ.out], HO.out, HB9.out⟩
      case measure => simp [intOf]; omega
    · have hke : k = reqs.length := by omega
      have hltI : ¬ (k : Int) < (reqs.length : Int) := by omega
      have HO := Lib.hid ho.out
      have HB := Lib.hid hb.out
      have HK := Lib.hid hke
      have HL := Lib.hid (HXl.out k)
      clear hke ho hb
      go_wp2
      go_ret
      refine ⟨_, rfl, ?_, HB.out⟩
      rw [← HK.out, HL.out]
      exact HO.out
end
end Go.Proofs.Ytammlkaclooohaa

/- Algorithms: the model's l8Alg; IsAlgorithm, AlgorithmStates, AlgorithmCost, both sides. -/
namespace Go.Proofs.Ytammlkaclooohaa
open Go.RowKit
set_option linter.unusedVariables false
namespace Q
noncomputable def iaQ (L S next : List (List Int)) : Bool × Bool := if prQ L S then (algQ L.length S next, true) else (false, false)
theorem ia_no {L S next : List (List Int)} (h : prQ L S = false) : iaQ L S next = (false, false) := if_neg (by simp [h])
theorem ia_yes {L S next : List (List Int)} (h : prQ L S = true) : iaQ L S next = (algQ L.length S next, true) := if_pos h
noncomputable def asQ (L S next : List (List Int)) (start : Int) (reqs : List Int) : List Int × Bool := if askQ L S start reqs && algQ L.length S next then (statesL next start.toNat reqs reqs.length, true) else ([], false)
theorem as_no1 {L S next : List (List Int)} {start : Int} {reqs : List Int} (h : askQ L S start reqs = false) : asQ L S next start reqs = ([], false) := if_neg (by simp [h])
theorem as_no2 {L S next : List (List Int)} {start : Int} {reqs : List Int} (h : algQ L.length S next = false) : asQ L S next start reqs = ([], false) := if_neg (by simp [h])
theorem as_yes {L S next : List (List Int)} {start : Int} {reqs : List Int} (h : askQ L S start reqs = true) (h2 : algQ L.length S next = true) : asQ L S next start reqs = (statesL next start.toNat reqs reqs.length, true) := if_pos (by simp [h, h2])
noncomputable def acQ (L S next : List (List Int)) (start : Int) (reqs : List Int) : Int × Bool := if askQ L S start reqs && algQ L.length S next then ((costK L S start.toNat reqs (statesL next start.toNat reqs reqs.length) reqs.length).1, true) else (0, false)
theorem ac_no1 {L S next : List (List Int)} {start : Int} {reqs : List Int} (h : askQ L S start reqs = false) : acQ L S next start reqs = (0, false) := if_neg (by simp [h])
theorem ac_no2 {L S next : List (List Int)} {start : Int} {reqs : List Int} (h : algQ L.length S next = false) : acQ L S next start reqs = (0, false) := if_neg (by simp [h])
theorem ac_yes {L S next : List (List Int)} {start : Int} {reqs : List Int} (h : askQ L S start reqs = true) (h2 : algQ L.length S next = true) : acQ L S next start reqs = ((costK L S start.toNat reqs (statesL next start.toNat reqs reqs.length) reqs.length).1, true) := if_pos (by simp [h, h2])
end Q
set_option maxRecDepth 100000 in
set_option maxHeartbeats 1600000 in
theorem l8Alg_any (A : Option Addr) (c : Nat) (xs : List Value) (L : List (List Int)) (B : Option Addr) (d : Nat) (ys : List Value) (S : List (List Int)) (w : World) (N : Option Addr) (cN : Nat) (zs : List Value) (next : List (List Int)) (hpr : Q.Pr L S) (hl : ∀ l ∈ next, l.length ≤ 1048576) (hn : next.length ≤ 1048576) (hL : NRow w A xs L) (hS : NRow w B ys S) (hN : NRow w N zs next) :
    Calls Try.prog 95 #[pv A L.length c B S.length d, .slice N next.length cN] w fun e w' => e = .returned (.bool (Q.algQ L.length S next)) ∧ Below w.heap.size w w' := by
  obtain ⟨bB, oB, rfl⟩ := hS.some_ hpr.m1
  have HP := Lib.hid (PIn.start (c := c) (d := d) hL hS 35)
  obtain ⟨p0, p1, _, _, _⟩ := HP.out.bk
  have HNx := Lib.hid fun (W : World) (h : Below w.heap.size w W) => hN.stays h
  by_cases hlen : next.length = L.length
  · have hne : ((next.length : Int) != (L.length : Int)) = false := by simp [hlen]
    have HTS := Lib.hid fun (W : World) (h : NRow W (some ⟨bB, oB, none⟩) ys S) => h.tab hpr.rows hpr.n1
    have HE := Lib.hid fun (r s : Nat) (hr : r < S.length) (hs : s < L.length) => hpr.srv hr hs
    have HIn := Lib.hid fun (z : Int) (W : World) => l1In_any z 0 ((L.length : Int) - 1) W
    have HNo : Hid (∀ s l, next[s]? = some l → Q.schQ L.length S (Q.kindsL S.length) l = false → Q.algQ L.length S next = false) := fun s l hl hb => by
      show _ = _
      rw [Q.alg_all hlen, decide_eq_false]
      intro h
      have := h l (List.mem_of_getElem? hl)
      rw [hb] at this
      cases this
    have HYes : Hid ((∀ s l, s < L.length → next[s]? = some l → Q.schQ L.length S (Q.kindsL S.length) l = true) → Q.algQ L.length S next = true) := fun h => by
      show _ = _
      rw [Q.alg_all hlen, decide_eq_true]
      intro l hl
      obtain ⟨j, hj, rfl⟩ := List.mem_iff_getElem.1 hl
      exact h j _ (by omega) (List.getElem?_eq_getElem hj)
    have HR1 : Hid (∀ l : List Int, ¬ l.length = S.length → Q.schQ L.length S (Q.kindsL S.length) l = false) := fun l h => Q.sch_no_len (by rw [Q.kindsL_len]; exact h)
    have HR2 : Hid (∀ (l : List Int) (r : Nat) (z : Int), r < S.length → l[r]? = some z → Q.okSt L.length S r z = false → Q.schQ L.length S (Q.kindsL S.length) l = false) := fun l r z hr hz hb => Q.sch_no (Q.kindsL_at hr) hz hb
    have HR3 : Hid (∀ l : List Int, l.length = S.length → (∀ (r : Nat) (z : Int), r < S.length → l[r]? = some z → Q.okSt L.length S r z = true) → Q.schQ L.length S (Q.kindsL S.length) l = true) := fun l hl h => Q.sch_yes (by rw [Q.kindsL_len]; exact hl) fun k x z h1 h2 => by
      have hk : k < S.length := by have := (List.getElem?_eq_some_iff.1 h2).1; omega
      rw [Q.kindsL_at hk] at h1
      cases h1
      exact h k z hk h2
    have HLl := Lib.hid hl
    have HSe : Hid (∀ s, s < L.length → ∃ l, next[s]? = some l) := fun s hs => ⟨_, List.getElem?_eq_getElem (by omega)⟩
    have hn4 := hpr.n4
    have hn1 := hpr.n1
    have hm4 := hpr.m4
    rw [hlen]
    generalize Q.algQ L.length S next = X at HNo HYes ⊢
    generalize Q.schQ L.length S (Q.kindsL S.length) = sc at HNo HYes HR1 HR2 HR3
    clear hL hS hN hl hlen hne hpr hn
    go_enter Try.func95, Try.ntmps95
    go_wp2
    generalize w.alloc (.cells #[.slice A L.length c, .slice (some ⟨bB, oB, none⟩) S.length d] 35) = wa at HP p0 p1 ⊢
    clear p0 p1
    go_loopw [5] (fun i wr => ∃ s : Nat, s ≤ L.length ∧ i = .int .i64 (s : Int) ∧ Hid (∃ m, wr = wa.drewN m) ∧ Hid (∀ s' l, s' < s → next[s']? = some l → sc l = true)) (fun i _ => L.length - (intOf i).toNat)
    case atStart => exact ⟨0, Nat.zero_le _, rfl, ⟨0, rfl⟩, fun s' l h => by omega⟩
    case round =>
      obtain ⟨s, hs, rfl, hw, hall⟩ := hrel
      have HPo : Hid (∀ m, PIn w (wr.drewN m) A c xs L (some ⟨bB, oB, none⟩) d ys S ∧ ∃ q, wr.drewN m = wa.drewN q) := fun m => by
        obtain ⟨q, e⟩ := hw.out
        rw [e]
        exact ⟨(HP.out.drewN q).drewN m, q + m, by simp⟩
      have hP0 := (HPo.out 0).1
      have e0 : wr.drewN 0 = wr := rfl
      rw [e0] at hP0
      have HPc := Lib.hid hP0
      clear hP0 e0
      obtain ⟨p0, p1, _, _, _⟩ := HPc.out.bk
      by_cases hls : s < L.length
      · have hlsI : (s : Int) < (L.length : Int) := by omega
        obtain ⟨l, hl⟩ := HSe.out s hls
        have hll := HLl.out l (List.mem_of_getElem? hl)
        obtain ⟨bN, oN, X1, dX, rfl, hbN, hcN, hrX⟩ := (HNx.out wr HPc.out.bl).row_at hl
        have HLs := Lib.hid hl
        by_cases hml : l.length = S.length
        · have hne : ((l.length : Int) != (S.length : Int)) = false := by simp [hml]
          have HRX := Lib.hid fun (W : World) (h : ∃ m, W = wr.drewN m) => (by obtain ⟨m, e⟩ := h; rw [e]; exact hrX.drewN m : Law.Row W X1 (ivs l))
          have HCN := Lib.hid fun (W : World) (h : ∃ m, W = wr.drewN m) => (by obtain ⟨m, e⟩ := h; rw [e]; exact hcN : W.cell? ⟨bN, oN + s, none⟩ = some (.slice X1 l.length dX))
          rw [hml] at HCN hcN hne
          have HML := Lib.hid hml
          clear hl hrX hml hll
          go_wp2
          go_quiet (fail)
          generalize hWW : wr.drewN _ = wo
          have HWo : Hid (∃ m, wo = wr.drewN m) := ⟨_, hWW.symm⟩
          clear p0 p1 hcN hne hWW
          go_wp2
          go_loopw [6] (fun i wq => ∃ r : Nat, r ≤ S.length ∧ i = .int .i64 (r : Int) ∧ Hid (∃ m, wq = wr.drewN m) ∧ Hid (∀ (r' : Nat) (z : Int), r' < r → l[r']? = some z → Q.okSt L.length S r' z = true)) (fun i _ => S.length - (intOf i).toNat)
          case atStart => exact ⟨0, Nat.zero_le _, rfl, HWo.out, fun r' z h => by omega⟩
          case round =>
            rename World => wq
            obtain ⟨r, hr, rfl, hw2, hall2⟩ := hrel
            have HPr : Hid (∀ m, PIn w (wq.drewN m) A c xs L (some ⟨bB, oB, none⟩) d ys S ∧ ∃ q, wq.drewN m = wr.drewN q) := fun m => by
              obtain ⟨q, e⟩ := hw2.out
              rw [e]
              exact ⟨(HPc.out.drewN q).drewN m, q + m, by simp⟩
            have hP0 := (HPr.out 0).1
            have e0 : wq.drewN 0 = wq := rfl
            rw [e0] at hP0
            have HPd := Lib.hid hP0
            clear hP0 e0
            obtain ⟨p0, p1, _, _, _⟩ := HPd.out.bk
            have hcN := HCN.out wq hw2.out
            by_cases hlr : r < S.length
            · have hlrI : (r : Int) < (S.length : Int) := by omega
              obtain ⟨z, hz⟩ : ∃ z, l[r]? = some z := ⟨_, List.getElem?_eq_getElem (by rw [HML.out]; exact hlr)⟩
              obtain ⟨b3, o3, e3, _, hc3⟩ := (HRX.out wq hw2.out).at_ (ivs_some hz)
              subst e3
              have HI := Lib.hid (HIn.out z)
              by_cases hst : 0 ≤ z ∧ z < L.length
              · obtain ⟨t, rfl⟩ := Int.eq_ofNat_of_zero_le hst.1
                have htn : t < L.length := by omega
                have htI : (t : Int) < (L.length : Int) := by omega
                obtain ⟨b2, o2, d2, hc2, hv2⟩ := HTS.out wq HPd.out.sv r hlr
                have hv3 := hv2 t htn
                clear hv2
                have hE := HE.out r t hlr htn
                have hok : Q.okSt L.length S (r : Int) (t : Int) = decide (Q.dst S r t ≠ -1) := by
                  rw [Q.okSt]
                  simp [htn]
                rw [show (decide (0 ≤ (t : Int)) && decide ((t : Int) ≤ (L.length : Int) - 1)) = true by simp; omega] at HI
                generalize Q.dst S r t = E at hv3 hok hE
                by_cases hE1 : E = -1
                · have HN := Lib.hid (HNo.out s l HLs.out (HR2.out l r t hlr hz (by rw [hok]; simp [hE1])))
                  have HB := Lib.hid fun m => (HPr.out m).1.bl
                  have hneg : E < 0 := by omega
                  clear hok hall hall2 HNo HYes hz hst hw hw2 hE1
                  go_wp2
                  go_quiet ((go_at_call 83; exact Calls.quiet_of_same (HI.out _)))
                  go_wp2
                  go_ret
                  exact ⟨by rw [HN.out]; first | rfl | simp, HB.out _⟩
                · have hneg : ¬ E < 0 := by omega
                  have HA : Hid (∀ (r' : Nat) (z : Int), r' < r + 1 → l[r']? = some z → Q.okSt L.length S r' z = true) := fun r' z' hr' hz' => by
                    by_cases e : r' = r
                    · subst e
                      rw [hz] at hz'
                      cases hz'
                      rw [hok]
                      simpa using hE1
                    · exact hall2.out r' z' (by omega) hz'
                  clear hok hall2 hz hst hw2 hE1
                  go_wp2
                  go_quiet ((go_at_call 83; exact Calls.quiet_of_same (HI.out _)))
                  go_wp2
                  go_roundw
                  case rel => exact ⟨r + 1, by omega, by go_num, (HPr.out _).2, HA.out⟩
                  case measure => simp [intOf]; omega
              · have HN := Lib.hid (HNo.out s l HLs.out (HR2.out l r z hlr hz (by
                  rw [Q.okSt, show (decide (0 ≤ z) && decide (z < (L.length : Int))) = false by rw [Bool.eq_false_iff]; simpa using hst]
                  rfl)))
                rw [show (decide (0 ≤ z) && decide (z ≤ (L.length : Int) - 1)) = false by rw [Bool.eq_false_iff]; simp; omega] at HI
                have HB := Lib.hid fun m => (HPr.out m).1.bl
                clear hall hall2 HNo HYes hz hst hw hw2
                go_wp2
                go_quiet ((go_at_call 83; exact Calls.quiet_of_same (HI.out _)))
                go_wp2
                go_ret
                exact ⟨by rw [HN.out]; first | rfl | simp, HB.out _⟩
            · have hre : r = S.length := by omega
              have hlrI : ¬ (r : Int) < (S.length : Int) := by omega
              have hsl := HR3.out l HML.out fun r' z' h1 h2 => hall2.out r' z' (by omega) h2
              have HA : Hid (∀ s' l, s' < s + 1 → next[s']? = some l → sc l = true) := fun s' l' hs' hl' => by
                by_cases e : s' = s
                · subst e
                  rw [HLs.out] at hl'
                  cases hl'
                  exact hsl
                · exact hall.out s' l' (by omega) hl'
              have HWm : Hid (∃ q, wq = wa.drewN q) := by
                obtain ⟨q, e⟩ := hw2.out
                obtain ⟨q2, e2⟩ := hw.out
                exact ⟨q2 + q, by rw [e, e2]; simp⟩
              clear hre hsl hall hall2 hw hw2
              go_wp2
              go_roundw
              case rel => exact ⟨s + 1, by omega, by go_num, HWm.out, HA.out⟩
              case measure => simp [intOf]; omega
        · have hne : ((l.length : Int) != (S.length : Int)) = true := by simp; omega
          have hne2 : ¬ (l.length : Int) = (S.length : Int) := by omega
          have HN := Lib.hid (HNo.out s l hl (HR1.out l hml))
          have HB := Lib.hid fun m => (HPo.out m).1.bl
          clear hl hrX hml hall HNo HYes hw
          generalize l.length = ln at hne hne2 hcN hll
          go_wp2
          go_quiet (fail)
          go_wp2
          go_ret
          exact ⟨by rw [HN.out]; first | rfl | simp, HB.out _⟩
      · have hse : s = L.length := by omega
        have hlsI : ¬ (s : Int) < (L.length : Int) := by omega
        have HN := Lib.hid (HYes.out fun s' l h1 h2 => hall.out s' l (by omega) h2)
        have HB := Lib.hid HPc.out.bl
        clear hse hall hw
        go_wp2
        go_ret
        exact ⟨by rw [HN.out]; rfl, HB.out⟩
  · have hne : ((next.length : Int) != (L.length : Int)) = true := by simp; omega
    have hne2 : ¬ (next.length : Int) = (L.length : Int) := by omega
    have HN := Lib.hid (Q.alg_no_len (S := S) hlen)
    clear hL hS hN hlen hl
    generalize next.length = n1 at hne hne2 hn ⊢
    go_enter Try.func95, Try.ntmps95
    go_wp2
    go_ret
    exact ⟨by rw [HN.out]; first | rfl | simp, HP.out.bl⟩
set_option maxRecDepth 100000 in
set_option maxHeartbeats 1600000 in
theorem l8Cost_any (A : Option Addr) (c : Nat) (xs : List Value) (L : List (List Int)) (B : Option Addr) (d : Nat) (ys : List Value) (S : List (List Int)) (w : World) (N : Option Addr) (cN : Nat) (zs : List Value) (next : List (List Int)) (s0 : Nat) (reqs : List Int) (R : Option Addr) (e : Nat) (hpr : Q.Pr L S) (ha : Q.algQ L.length S next = true) (h0 : s0 < L.length) (h60 : reqs.length ≤ 60) (hrq : Q.Nats S.length reqs) (hL : NRow w A xs L) (hS : NRow w B ys S) (hN : NRow w N zs next) (hR : Law.Row w R (ivs reqs)) :
    Calls Try.prog 96 #[pv A L.length c B S.length d, .slice N next.length cN, .int .i64 (s0 : Int), .slice R reqs.length e] w fun e w' => e = .returned (.int .i64 (Q.costK L S s0 reqs (Q.statesL next s0 reqs reqs.length) reqs.length).1) ∧ Below w.heap.size w w' := by
  have HP := Lib.hid (PIn.start (c := c) (d := d) hL hS 35)
  have hlX := Q.statesL_len next s0 reqs reqs.length
  have hnX := Q.states_nats (Q.alg_iff ha) h0 hrq
  have HSt := Lib.hid fun (W : World) (h : Below w.heap.size w W) => l8States_any N cN zs next W s0 reqs R e hpr.n1 hpr.m1 (Q.alg_iff ha) h0 h60 hrq (hN.stays h) (hR.stays h)
  have HSu := Lib.hid fun (T : Option Addr) (f : Nat) (W : World) (h : Below w.heap.size w W) (h3 : Law.Row W T (ivs (Q.statesL next s0 reqs reqs.length))) => l8Sum_any A c xs L B d ys S W s0 reqs (Q.statesL next s0 reqs reqs.length) R e T f hpr h0 hlX h60 hrq hnX (hL.stays h) (hS.stays h) (hR.stays h) h3
  generalize (Q.costK L S s0 reqs (Q.statesL next s0 reqs reqs.length) reqs.length).1 = K at HSu ⊢
  generalize Q.statesL next s0 reqs reqs.length = X at HSt HSu
  clear hL hS hN hR hlX hnX ha hpr hrq
  go_enter Try.func96, Try.ntmps96
  go_wp2_with fail
  generalize w.alloc (.cells #[.slice A L.length c, .slice B S.length d] 35) = wa at HP ⊢
  obtain ⟨p0, p1, _, _, _⟩ := HP.out.bk
  have hp0 := Law.cell_in p0
  have hb0 := HP.out.bl
  have HM : Hid (∀ w' : World, Below wa.heap.size wa w' → w'.cell? ⟨w.heap.size, 0, none⟩ = some (.slice A L.length c) ∧ w'.cell? ⟨w.heap.size, 1, none⟩ = some (.slice B S.length d) ∧ Below wa.heap.size wa w') := Lib.hid fun w' h => ⟨(h.cell (p := ⟨w.heap.size, 0, none⟩) hp0).trans p0, (h.cell (p := ⟨w.heap.size, 1, none⟩) hp0).trans p1, h⟩
  have hs0 := HM.out wa.drew (Below.refl _ _).drew
  have HB0 := Lib.hid hb0
  clear hp0 hb0
  go_wp2
  first
    | go_region_held3 (fun w' => w'.cell? ⟨w.heap.size, 0, none⟩ = some (.slice A L.length c) ∧ w'.cell? ⟨w.heap.size, 1, none⟩ = some (.slice B S.length d) ∧ Below wa.heap.size wa w') ((first | exact hs0 | assumption | exact HM.out _ (Law.then_ (by assumption : _ ∧ _ ∧ Below wa.heap.size wa _).2.2 (by assumption)))) (first
      | (go_at_call 145; refine (HSt.out _ (Law.then_ HB0.out (by assumption : _ ∧ _ ∧ Below wa.heap.size wa _).2.2)).mono ?_; rintro e w10 ⟨v10, rfl, ho10, hb10⟩; obtain ⟨T, f, rfl, _, _, _⟩ := Law.own_len ho10; have HO10 := Lib.hid ho10; clear ho10)
      | (go_at_call 156; refine (HSu.out T f _ (Law.then_ HB0.out (by assumption : _ ∧ _ ∧ Below wa.heap.size wa _).2.2) (Law.Row.own HO10.out)).mono ?_; rintro e w11 ⟨rfl, hb11⟩))
    | fail
  all_goals
    have hbl := (by assumption : _ ∧ _ ∧ Below wa.heap.size wa w11).2.2
    have HB := Lib.hid (Law.then_ HB0.out hbl)
    clear hbl hs0 HM p0 p1
    go_wp2
    go_ret
    exact ⟨rfl, HB.out⟩
end Go.Proofs.Ytammlkaclooohaa
