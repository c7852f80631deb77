/-
  The model's greedy and lazy algorithms: l8Greedy, l8Made.
-/
import Derived.Test.YthpoeeadhjnljaaAo9
import Derived.Test.YthpoeeadhjnljaaWn8
namespace Go.Proofs.Ythpoeeadhjnljaa
open Go.RowKit
set_option linter.unusedVariables false
theorem Q.noth_getD (s : Nat) : Q.noth.getD s 0 = 0 := by
  unfold Q.noth
  match s with
  | 0 => rfl
  | 1 => rfl
  | 2 => rfl
  | 3 => rfl
  | s + 4 => rfl
section
variable (A : Option Addr) (c : Nat) (xs : List Value) (L : List (List Int)) (B : Option Addr) (d : Nat) (ys : List Value) (S : List (List Int)) (w : World)
set_option maxRecDepth 100000 in
set_option maxHeartbeats 1600000 in
theorem l8Greedy_any (hpr : Q.Pr L S) (t r : Nat) (ht : t < L.length) (hr : r < S.length) (hL : NRow w A xs L) (hS : NRow w B ys S) :
    Calls Try.prog 106 #[pv A L.length c B S.length d, .int .i64 (t : Int), .int .i64 (r : Int)] w fun e w' => e = .returned (.int .i64 (Q.grS L S t r)) ∧ Below w.heap.size w w' := by
  obtain ⟨bA, oA, rfl⟩ := hL.some_ hpr.n1
  obtain ⟨bB, oB, rfl⟩ := hS.some_ hpr.m1
  have HP := Lib.hid (PIn.start (c := c) (d := d) hL hS 29)
  have HTL := Lib.hid fun (W : World) (h : NRow W (some ⟨bA, oA, none⟩) xs L) => h.tab hpr.sq hpr.n1
  have HTS := Lib.hid fun (W : World) (h : NRow W (some ⟨bB, oB, none⟩) ys S) => h.tab hpr.rows hpr.n1
  have HBd := Lib.hid fun k (hk : k ≤ L.length) => Q.amK_bd (f := Q.bstF L S r Q.noth t) (ok := Q.okS S r) (M := 119) (by omega) k fun s hs ho => Q.bstF_bd hpr hr ht (Q.noth_vals hpr.n4) s (by omega) ho
  have HSm := Lib.hid (Q.amK_some (f := Q.bstF L S r Q.noth t) (ok := Q.okS S r) L.length (Q.okS_some hpr hr))
  have HD := Lib.hid fun (x y : Nat) (hx : x < L.length) (hy : y < L.length) => hpr.dst hx hy
  have HE := Lib.hid fun (r s : Nat) (hr : r < S.length) (hs : s < L.length) => hpr.srv hr hs
  have HF : Hid (∀ s, Q.bstF L S r Q.noth t s = Q.dst L t s + Q.dst S r s) := fun s => by show _ = _; rw [Q.bstF, Q.noth_getD]; omega
  have HO : Hid (∀ s, Q.okS S r s = decide (Q.dst S r s ≠ -1)) := fun s => rfl
  have HV : Hid (Q.grS L S t r = (Q.amK (Q.bstF L S r Q.noth t) (Q.okS S r) L.length).1) := rfl
  have hn4 := hpr.n4
  have HS : Hid (∀ k, Q.amK (Q.bstF L S r Q.noth t) (Q.okS S r) (k + 1) = if Q.okS S r k && (decide ((Q.amK (Q.bstF L S r Q.noth t) (Q.okS S r) k).1 < 0) || decide (Q.bstF L S r Q.noth t k < (Q.amK (Q.bstF L S r Q.noth t) (Q.okS S r) k).2)) then ((k : Int), Q.bstF L S r Q.noth t k) else Q.amK (Q.bstF L S r Q.noth t) (Q.okS S r) k) := fun k => rfl
  have HZ : Hid (Q.amK (Q.bstF L S r Q.noth t) (Q.okS S r) 0 = (-1, 0)) := rfl
  generalize Q.amK (Q.bstF L S r Q.noth t) (Q.okS S r) = K at HBd HS HZ HSm HV
  generalize Q.bstF L S r Q.noth t = F at HS HF
  generalize Q.okS S r = ok at HS HO
  generalize Q.grS L S t r = X at HV ⊢
  clear hpr hL hS
  have htI : (t : Int) < (L.length : Int) := by omega
  have hrI : (r : Int) < (S.length : Int) := by omega
  obtain ⟨p0, p1, _, _, _⟩ := HP.out.bk
  go_enter Try.func106, Try.ntmps106
  go_wp2
  generalize w.alloc (.cells #[.slice (some ⟨bA, oA, none⟩) L.length c, .slice (some ⟨bB, oB, none⟩) S.length d] 29) = wa at HP p0 p1 ⊢
  clear p0 p1
  go_loopw [7, 8, 9] (fun b l i wr => ∃ (k : Nat) (bv lv : Int), k ≤ L.length ∧ i = .int .i64 (k : Int) ∧ b = .int .i64 bv ∧ l = .int .i64 lv ∧ Hid (bv = if (K k).1 < 0 then 0 else (K k).1) ∧ Hid (lv = if (K k).1 < 0 then -1 else (K k).2) ∧ Hid (∃ m, wr = wa.drewN m)) (fun _ _ i _ => L.length - (intOf i).toNat)
  case atStart => exact ⟨0, 0, -1, Nat.zero_le _, rfl, rfl, rfl, by show _ = _; rw [HZ.out]; rfl, by show _ = _; rw [HZ.out]; rfl, ⟨0, rfl⟩⟩
  case round =>
    obtain ⟨k, bv, lv, hk, rfl, rfl, rfl, hbv, hlv, hw⟩ := hrel
    have HPr : Hid (∀ m, PIn w (wr.drewN m) (some ⟨bA, oA, none⟩) c xs L (some ⟨bB, oB, none⟩) d ys S ∧ ∃ q, wr.drewN m = wa.drewN q) := fun m => by
      obtain ⟨q, e⟩ := hw.out
      rw [e]
      exact ⟨(HP.out.drewN q).drewN m, q + m, by simp⟩
    have hP0 := (HPr.out 0).1
    have e0 : wr.drewN 0 = wr := rfl
    rw [e0] at hP0
    have HP0 := Lib.hid hP0
    clear hP0 e0
    obtain ⟨p0, p1, _, _, _⟩ := HP0.out.bk
    by_cases hlt : k < L.length
    · have hltI : (k : Int) < (L.length : Int) := by omega
      obtain ⟨b1, o1, d1, hc1, hcs1⟩ := HTL.out wr HP0.out.mv t ht
      have hv1 := hcs1 k hlt
      obtain ⟨b2, o2, d2, hc2, hcs2⟩ := HTS.out wr HP0.out.sv r hr
      have hv2 := hcs2 k hlt
      have hDD := HD.out t k ht hlt
      have D0 := hDD.1
      have D9 := hDD.2.1
      clear hDD hcs1 hcs2
      obtain ⟨E0, E9⟩ := HE.out r k hr hlt
      obtain ⟨k1, k2, k3, k4⟩ := HBd.out k hk
      have hF := HF.out k
      have hok := HO.out k
      have hK1 := HS.out k
      rw [hok, hF] at hK1
      generalize Q.dst L t k = D at hv1 D0 D9 hK1
      generalize Q.dst S r k = E at hv2 E0 E9 hK1
      have hw1 : IntKind.i64.wrap (D + E) = D + E := IntWalk.i64_in _ (by omega)
      clear hF hok hw
      have HKb : Hid (bv = if (K k).1 < 0 then 0 else (K k).1) := hbv
      have HKl : Hid (lv = if (K k).1 < 0 then -1 else (K k).2) := hlv
      generalize hKk : K k = P at k1 k2 k3 k4 hK1 HKb HKl
      obtain ⟨bb, ll⟩ := P
      simp only [] at k1 k2 k3 k4 hK1
      by_cases hE : E = -1
      · subst hE
        have HN : Hid (K (k + 1) = (bb, ll)) := by show _ = _; rw [hK1]; simp
        have HN1 : Hid (bv = if (K (k + 1)).1 < 0 then 0 else (K (k + 1)).1) := by show _ = _; rw [HN.out]; exact HKb.out
        have HN2 : Hid (lv = if (K (k + 1)).1 < 0 then -1 else (K (k + 1)).2) := by show _ = _; rw [HN.out]; exact HKl.out
        clear hK1 hKk hbv hlv HKb HKl HN
        go_wp2
        go_roundw
        case rel => exact ⟨k + 1, bv, lv, by omega, by go_num, rfl, rfl, HN1.out, HN2.out, (HPr.out 0).2⟩
        case measure => simp [intOf]; omega
      · have hE0 : ¬ E < 0 := by omega
        have hdE : decide (E ≠ -1) = true := by simpa using hE
        by_cases hb : bb < 0
        · have hl1 : lv = -1 := by have := HKl.out; simp only [hb, if_true] at this; exact this
          have HN : Hid (K (k + 1) = ((k : Int), D + E)) := by show _ = _; rw [hK1, hdE]; simp [hb]
          have HN1 : Hid ((k : Int) = if (K (k + 1)).1 < 0 then 0 else (K (k + 1)).1) := by show _ = _; rw [HN.out]; simp only []; rw [if_neg (by omega)]
          have HN2 : Hid (D + E = if (K (k + 1)).1 < 0 then -1 else (K (k + 1)).2) := by show _ = _; rw [HN.out]; simp only []; rw [if_neg (by omega)]
          subst hl1
          clear hK1 hKk hdE hE hbv hlv HKb HKl HN
          go_wp2
          go_quiet (fail)
          go_wp2
          go_roundw
          case rel => exact ⟨k + 1, _, _, by omega, by go_num, rfl, rfl, HN1.out, HN2.out, (HPr.out _).2⟩
          case measure => simp [intOf]; omega
        · have hl1 : lv = ll := by have := HKl.out; simp only [hb, if_false] at this; exact this
          have hb1 : bv = bb := by have := HKb.out; simp only [hb, if_false] at this; exact this
          subst hl1 hb1
          have hln : ¬ lv < 0 := by omega
          by_cases hl : D + E < lv
          · have HN : Hid (K (k + 1) = ((k : Int), D + E)) := by show _ = _; rw [hK1, hdE]; simp [hl]
            have HN1 : Hid ((k : Int) = if (K (k + 1)).1 < 0 then 0 else (K (k + 1)).1) := by show _ = _; rw [HN.out]; simp only []; rw [if_neg (by omega)]
            have HN2 : Hid (D + E = if (K (k + 1)).1 < 0 then -1 else (K (k + 1)).2) := by show _ = _; rw [HN.out]; simp only []; rw [if_neg (by omega)]
            clear hK1 hKk hdE hE hbv hlv HKb HKl HN
            go_wp2
            go_quiet (fail)
            go_wp2
            go_roundw
            case rel => exact ⟨k + 1, _, _, by omega, by go_num, rfl, rfl, HN1.out, HN2.out, (HPr.out _).2⟩
            case measure => simp [intOf]; omega
          · have HN : Hid (K (k + 1) = (bv, lv)) := by show _ = _; rw [hK1, hdE, if_neg (by first | (simp [hb, hl]; done) | (simp [hb, hl]; omega))]
            have HN1 : Hid (bv = if (K (k + 1)).1 < 0 then 0 else (K (k + 1)).1) := by show _ = _; rw [HN.out]; simp only []; rw [if_neg hb]
            have HN2 : Hid (lv = if (K (k + 1)).1 < 0 then -1 else (K (k + 1)).2) := by show _ = _; rw [HN.out]; simp only []; rw [if_neg hb]
            clear hK1 hKk hdE hE hbv hlv HKb HKl HN
            go_wp2
            go_quiet (fail)
            go_wp2
            go_roundw
            case rel => exact ⟨k + 1, _, _, by omega, by go_num, rfl, rfl, HN1.out, HN2.out, (HPr.out _).2⟩
            case measure => simp [intOf]; omega
    · have hke : k = L.length := by omega
      have hltI : ¬ (k : Int) < (L.length : Int) := by omega
      have HX : Hid (X = bv) := by
        show _ = _
        rw [HV.out, hbv.out, hke, if_neg (by have := HSm.out; omega)]
      have HB := Lib.hid HP0.out.bl
      clear hke hbv hlv hw
      go_wp2
      go_ret
      exact ⟨by rw [HX.out]; rfl, HB.out⟩
end
end Go.Proofs.Ythpoeeadhjnljaa
