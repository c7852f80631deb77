/-
  What a schedule costs: costOf and l8Sum.
-/
import Derived.Test.YtammlkaclooohaaAsk8
namespace Go.Proofs.Ytammlkaclooohaa
open Go.RowKit
set_option linter.unusedVariables false
namespace Q
/-- The cost of the first k places of a schedule, and the state behind them. -/
def costK (L S : List (List Int)) (s0 : Nat) (reqs states : List Int) : Nat → Int × Nat
  | 0 => (0, s0)
  | k + 1 => ((costK L S s0 reqs states k).1 + dst L (costK L S s0 reqs states k).2 (states.getD k 0).toNat + dst S (reqs.getD k 0).toNat (states.getD k 0).toNat, (states.getD k 0).toNat)
theorem costK_succ {L S : List (List Int)} {s0 : Nat} {reqs states : List Int} {k x s : Nat} (h1 : reqs[k]? = some (x : Int)) (h2 : states[k]? = some (s : Int)) :
    costK L S s0 reqs states (k + 1) = ((costK L S s0 reqs states k).1 + dst L (costK L S s0 reqs states k).2 s + dst S x s, s) := by
  have e1 : (reqs.getD k 0).toNat = x := by rw [List.getD_eq_getElem?_getD, h1]; rfl
  have e2 : (states.getD k 0).toNat = s := by rw [List.getD_eq_getElem?_getD, h2]; rfl
  rw [costK, e1, e2]
/-- All numbers of a list are below n. -/
def Nats (n : Nat) (l : List Int) : Prop := ∀ k, k < l.length → ∃ x : Nat, l[k]? = some (x : Int) ∧ x < n
theorem costK_bd {L S : List (List Int)} (h : Pr L S) {s0 : Nat} {reqs states : List Int} (h0 : s0 < L.length) (hl : states.length = reqs.length) (hr : Nats S.length reqs) (hs : Nats L.length states) : ∀ k, k ≤ reqs.length → (costK L S s0 reqs states k).2 < L.length ∧ -(k : Int) ≤ (costK L S s0 reqs states k).1 ∧ (costK L S s0 reqs states k).1 ≤ 119 * (k : Int)
  | 0, _ => ⟨h0, by show _ ≤ (0 : Int); omega, by show (0 : Int) ≤ _; omega⟩
  | k + 1, hk => by
    obtain ⟨i1, i2, i3⟩ := costK_bd h h0 hl hr hs k (by omega)
    obtain ⟨x, hx, hxm⟩ := hr k (by omega)
    obtain ⟨s, hs', hsn⟩ := hs k (by omega)
    rw [costK_succ hx hs']
    have a := h.dst i1 hsn
    have b := h.srv hxm hsn
    refine ⟨hsn, ?_, ?_⟩ <;> (show _ ≤ _; simp only []; omega)
end Q
section
variable (A : Option Addr) (c : Nat) (xs : List Value) (L : List (List Int)) (B : Option Addr) (d : Nat) (ys : List Value) (S : List (List Int)) (w : World) (s0 : Nat) (reqs states : List Int) (R : Option Addr) (e : Nat) (T : Option Addr) (f : Nat)
theorem costOf_nil (s : Int) (hL : NRow w A xs L) (hS : NRow w B ys S) :
    Calls Try.prog 144 #[pv A L.length c B S.length d, .int .i64 s, .slice R reqs.length e, .slice T 0 f] w fun e w' => e = .returned (.int .i64 0) ∧ Below w.heap.size w w' := by
  have HP := Lib.hid (PIn.start (c := c) (d := d) hL hS 35)
  clear hL hS
  go_enter Try.func144, Try.ntmps144
  go_wp2_with fail
  generalize w.alloc (.cells #[.slice A L.length c, .slice B S.length d] 35) = wa at HP ⊢
  go_loop [9, 16] (fun q i => q = .int .i64 0 ∧ i = .int .i64 0) (fun _ _ => 0)
  case atStart => exact ⟨rfl, rfl⟩
  case round =>
    obtain ⟨rfl, rfl⟩ := hrel
    go_wp2
    go_ret
    exact ⟨rfl, HP.out.bl⟩
set_option maxHeartbeats 1600000 in
theorem costOf_any (hpr : Q.Pr L S) (h0 : s0 < L.length) (hlen : states.length = reqs.length) (h60 : reqs.length ≤ 60) (hrq : Q.Nats S.length reqs) (hst : Q.Nats L.length states) (hL : NRow w A xs L) (hS : NRow w B ys S) (hR : Law.Row w R (ivs reqs)) (hT : Law.Row w T (ivs states)) :
    Calls Try.prog 144 #[pv A L.length c B S.length d, .int .i64 (s0 : Int), .slice R reqs.length e, .slice T states.length f] w fun e w' => e = .returned (.int .i64 (Q.costK L S s0 reqs states reqs.length).1) ∧ Below w.heap.size w w' := by
  obtain ⟨bA, oA, rfl⟩ := hL.some_ hpr.n1
  obtain ⟨bB, oB, rfl⟩ := hS.some_ hpr.m1
  have HP := Lib.hid (PIn.start (c := c) (d := d) hL hS 35)
  have HTL := Lib.hid fun (W : World) (h : NRow W (some ⟨bA, oA, none⟩) xs L) => h.tab hpr.sq hpr.n1
  have HTS := Lib.hid fun (W : World) (h : NRow W (some ⟨bB, oB, none⟩) ys S) => h.tab hpr.rows hpr.n1
  have HR := Lib.hid fun (W : World) (h : Below w.heap.size w W) => hR.stays h
  have HT := Lib.hid fun (W : World) (h : Below w.heap.size w W) => hT.stays h
  have HBd := Lib.hid (Q.costK_bd hpr h0 hlen hrq hst)
  have HS := Lib.hid fun k x s h1 h2 => Q.costK_succ (L := L) (S := S) (s0 := s0) (reqs := reqs) (states := states) (k := k) (x := x) (s := s) h1 h2
  have HZ : Hid (Q.costK L S s0 reqs states 0 = (0, s0)) := rfl
  have HD := Lib.hid fun (x y : Nat) (hx : x < L.length) (hy : y < L.length) => hpr.dst hx hy
  have HE := Lib.hid fun (r s : Nat) (hr : r < S.length) (hs : s < L.length) => hpr.srv hr hs
  have HRq := Lib.hid hrq
  rw [hlen]
  have HSt2 : Hid (∀ k, k < reqs.length → ∃ x : Nat, states[k]? = some (x : Int) ∧ x < L.length) := fun k hk => hst k (by omega)
  generalize Q.costK L S s0 reqs states = K at HBd HS HZ ⊢
  clear hpr hL hS hR hT hrq hst hlen
  go_enter Try.func144, Try.ntmps144
  go_wp2_with fail
  generalize w.alloc (.cells #[.slice (some ⟨bA, oA, none⟩) L.length c, .slice (some ⟨bB, oB, none⟩) S.length d] 35) = wa at HP ⊢
  go_loopw [9, 10, 16] (fun q b i wr => ∃ k : Nat, k ≤ reqs.length ∧ i = .int .i64 (k : Int) ∧ q = .int .i64 (K k).1 ∧ b = .int .i64 ((K k).2 : Int) ∧ Hid (PIn w wr (some ⟨bA, oA, none⟩) c xs L (some ⟨bB, oB, none⟩) d ys S)) (fun _ _ i _ => reqs.length - (intOf i).toNat)
  case atStart => exact ⟨0, Nat.zero_le _, rfl, by rw [HZ.out], by rw [HZ.out], HP.out⟩
  case round =>
    obtain ⟨k, hk, rfl, rfl, rfl, hp⟩ := hrel
    obtain ⟨p0, p1, _, _, _⟩ := hp.out.bk
    by_cases hlt : k < reqs.length
    · have hltI : (k : Int) < (reqs.length : Int) := by omega
      obtain ⟨x, hx, hxm⟩ := HRq.out k hlt
      obtain ⟨s, hs, hsn⟩ := HSt2.out k hlt
      obtain ⟨bR, oR, eR, hbR, hcR⟩ := (HR.out wr hp.out.bl).at_ (ivs_some hx)
      obtain ⟨bT, oT, eT, hbT, hcT⟩ := (HT.out wr hp.out.bl).at_ (ivs_some hs)
      subst eR eT
      have HK1 := HS.out k x s hx hs
      obtain ⟨k1, k2, k3⟩ := HBd.out k hk
      obtain ⟨b1, o1, d1, hc1, hv1⟩ := HTL.out wr hp.out.mv (K k).2 k1
      obtain ⟨b2, o2, d2, hc2, hv2⟩ := HTS.out wr hp.out.sv x hxm
      have hv1' := hv1 s hsn
      have hv2' := hv2 s hsn
      clear hv1 hv2
      have hDD := HD.out _ s k1 hsn
      have D0 := hDD.1
      have D9 := hDD.2.1
      clear hDD
      obtain ⟨E0, E9⟩ := HE.out x s hxm hsn
      generalize Q.dst L (K k).2 s = D at hv1' D0 D9 HK1
      generalize Q.dst S x s = E at hv2' E0 E9 HK1
      have HK := Lib.hid HK1
      have hxI : (x : Int) < (S.length : Int) := by omega
      have hsI : (s : Int) < (L.length : Int) := by omega
      have hbI : ((K k).2 : Int) < (L.length : Int) := by omega
      have HB := Lib.hid fun m => hp.out.drewN m
      clear hx hs HK1
      generalize hC : (K k).1 = C at k2 k3 HK ⊢
      generalize hb : (K k).2 = bf at k1 hc1 hbI HK ⊢
      have hw1 : IntKind.i64.wrap (D + E) = D + E := IntWalk.i64_in _ (by omega)
      have hw2 : IntKind.i64.wrap (C + (D + E)) = C + (D + E) := IntWalk.i64_in _ (by omega)
      clear hC hb
      go_wp2
      go_quiet (fail)
      go_wp2
      go_roundw
      case rel => exact ⟨k + 1, by omega, by go_num, by rw [HK.out]; show _ = Value.int _ (C + D + E); congr 1; omega, by rw [HK.out], HB.out _⟩
      case measure => simp [intOf]; omega
    · have hke : k = reqs.length := by omega
      have hltI : ¬ (k : Int) < (reqs.length : Int) := by omega
      have HB := Lib.hid hp.out.bl
      subst hke
      go_wp2
      go_ret
      exact ⟨rfl, HB.out⟩
set_option maxHeartbeats 1600000 in
theorem l8Sum_any (hpr : Q.Pr L S) (h0 : s0 < L.length) (hlen : states.length = reqs.length) (h60 : reqs.length ≤ 60) (hrq : Q.Nats S.length reqs) (hst : Q.Nats L.length states) (hL : NRow w A xs L) (hS : NRow w B ys S) (hR : Law.Row w R (ivs reqs)) (hT : Law.Row w T (ivs states)) :
    Calls Try.prog 156 #[pv A L.length c B S.length d, .int .i64 (s0 : Int), .slice R reqs.length e, .slice T states.length f] w fun e w' => e = .returned (.int .i64 (Q.costK L S s0 reqs states reqs.length).1) ∧ Below w.heap.size w w' := by
  obtain ⟨bA, oA, rfl⟩ := hL.some_ hpr.n1
  obtain ⟨bB, oB, rfl⟩ := hS.some_ hpr.m1
  have HP := Lib.hid (PIn.start (c := c) (d := d) hL hS 35)
  have HTL := Lib.hid fun (W : World) (h : NRow W (some ⟨bA, oA, none⟩) xs L) => h.tab hpr.sq hpr.n1
  have HTS := Lib.hid fun (W : World) (h : NRow W (some ⟨bB, oB, none⟩) ys S) => h.tab hpr.rows hpr.n1
  have HR := Lib.hid fun (W : World) (h : Below w.heap.size w W) => hR.stays h
  have HT := Lib.hid fun (W : World) (h : Below w.heap.size w W) => hT.stays h
  have HBd := Lib.hid (Q.costK_bd hpr h0 hlen hrq hst)
  have HS := Lib.hid fun k x s h1 h2 => Q.costK_succ (L := L) (S := S) (s0 := s0) (reqs := reqs) (states := states) (k := k) (x := x) (s := s) h1 h2
  have HZ : Hid (Q.costK L S s0 reqs states 0 = (0, s0)) := rfl
  have HD := Lib.hid fun (x y : Nat) (hx : x < L.length) (hy : y < L.length) => hpr.dst hx hy
  have HE := Lib.hid fun (r s : Nat) (hr : r < S.length) (hs : s < L.length) => hpr.srv hr hs
  have HRq := Lib.hid hrq
  have HSt2 : Hid (∀ k, k < reqs.length → ∃ x : Nat, states[k]? = some (x : Int) ∧ x < L.length) := fun k hk => hst k (by omega)
  rw [hlen]
  generalize Q.costK L S s0 reqs states = K at HBd HS HZ ⊢
  clear hpr hL hS hR hT hrq hst hlen
  go_enter Try.func156, Try.ntmps156
  go_wp2_with fail
  generalize w.alloc (.cells #[.slice (some ⟨bA, oA, none⟩) L.length c, .slice (some ⟨bB, oB, none⟩) S.length d] 35) = wa at HP ⊢
  go_loopw [9, 10, 11] (fun q b i wr => ∃ k : Nat, k ≤ reqs.length ∧ i = .int .i64 (k : Int) ∧ q = .int .i64 (K k).1 ∧ b = .int .i64 ((K k).2 : Int) ∧ Hid (PIn w wr (some ⟨bA, oA, none⟩) c xs L (some ⟨bB, oB, none⟩) d ys S)) (fun _ _ i _ => reqs.length - (intOf i).toNat)
  case atStart => exact ⟨0, Nat.zero_le _, rfl, by rw [HZ.out], by rw [HZ.out], HP.out⟩
  case round =>
    obtain ⟨k, hk, rfl, rfl, rfl, hp⟩ := hrel
    obtain ⟨p0, p1, _, _, _⟩ := hp.out.bk
    by_cases hlt : k < reqs.length
    · have hltI : (k : Int) < (reqs.length : Int) := by omega
      obtain ⟨x, hx, hxm⟩ := HRq.out k hlt
      obtain ⟨s, hs, hsn⟩ := HSt2.out k hlt
      obtain ⟨bR, oR, eR, hbR, hcR⟩ := (HR.out wr hp.out.bl).at_ (ivs_some hx)
      obtain ⟨bT, oT, eT, hbT, hcT⟩ := (HT.out wr hp.out.bl).at_ (ivs_some hs)
      subst eR eT
      have HK1 := HS.out k x s hx hs
      obtain ⟨k1, k2, k3⟩ := HBd.out k hk
      obtain ⟨b1, o1, d1, hc1, hv1⟩ := HTL.out wr hp.out.mv (K k).2 k1
      obtain ⟨b2, o2, d2, hc2, hv2⟩ := HTS.out wr hp.out.sv x hxm
      have hv1' := hv1 s hsn
      have hv2' := hv2 s hsn
      clear hv1 hv2
      have hDD := HD.out _ s k1 hsn
      have D0 := hDD.1
      have D9 := hDD.2.1
      clear hDD
      obtain ⟨E0, E9⟩ := HE.out x s hxm hsn
      generalize Q.dst L (K k).2 s = D at hv1' D0 D9 HK1
      generalize Q.dst S x s = E at hv2' E0 E9 HK1
      have HK := Lib.hid HK1
      have hxI : (x : Int) < (S.length : Int) := by omega
      have hsI : (s : Int) < (L.length : Int) := by omega
      have hbI : ((K k).2 : Int) < (L.length : Int) := by omega
      have HB := Lib.hid fun m => hp.out.drewN m
      clear hx hs HK1
      generalize hC : (K k).1 = C at k2 k3 HK ⊢
      generalize hb : (K k).2 = bf at k1 hc1 hbI HK ⊢
      have hw1 : IntKind.i64.wrap (C + D) = C + D := IntWalk.i64_in _ (by omega)
      have hw2 : IntKind.i64.wrap (C + D + E) = C + D + E := IntWalk.i64_in _ (by omega)
      clear hC hb
      go_wp2
      go_quiet (fail)
      go_wp2
      go_roundw
      case rel => exact ⟨k + 1, by omega, by go_num, by rw [HK.out], by rw [HK.out], HB.out _⟩
      case measure => simp [intOf]; omega
    · have hke : k = reqs.length := by omega
      have hltI : ¬ (k : Int) < (reqs.length : Int) := by omega
      have HB := Lib.hid hp.out.bl
      subst hke
      go_wp2
      go_ret
      exact ⟨rfl, HB.out⟩
end
end Go.Proofs.Ytammlkaclooohaa
