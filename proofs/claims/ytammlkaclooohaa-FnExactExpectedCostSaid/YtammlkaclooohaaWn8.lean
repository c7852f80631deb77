/-
  l8Next: the model's next work function.
-/
import Derived.Test.YtammlkaclooohaaWb8
namespace Go.Proofs.Ytammlkaclooohaa
open Go.RowKit
set_option linter.unusedVariables false
theorem Q.take_at {l : List Int} {k : Nat} {x : Int} (h : l[k]? = some x) : l.take (k + 1) = l.take k ++ [x] := by
  obtain ⟨hl, e⟩ := List.getElem?_eq_some_iff.1 h
  rw [List.take_succ_eq_append_getElem hl, e]
section
variable (A : Option Addr) (c : Nat) (xs : List Value) (L : List (List Int)) (B : Option Addr) (d : Nat) (ys : List Value) (S : List (List Int)) (w : World) (v : List Int) (V : Option Addr) (e : Nat)
set_option maxRecDepth 100000 in
set_option maxHeartbeats 3200000 in
theorem l8Next_any (hpr : Q.Pr L S) {M : Int} (hM : M ≤ 1000000) (r : Nat) (hr : r < S.length) (hvl : v.length = L.length) (hv : Q.Vals L.length M v) (hL : NRow w A xs L) (hS : NRow w B ys S) (hV : Law.Row w V (ivs v)) :
    Calls Try.prog 190 #[pv A L.length c B S.length d, .slice V v.length e, .int .i64 (r : Int)] w (rowSays1 (Q.nextQ L S v r) w) := by
  obtain ⟨i0, hi, hz0, hz1, hz2⟩ := info_parts infoInts
  obtain ⟨bA, oA, rfl⟩ := hL.some_ hpr.n1
  obtain ⟨bB, oB, rfl⟩ := hS.some_ hpr.m1
  have hP := PIn.start (c := c) (d := d) hL hS 35
  have HTL := Lib.hid fun (W : World) (h : NRow W (some ⟨bA, oA, none⟩) xs L) => h.tab hpr.sq hpr.n1
  have HTS := Lib.hid fun (W : World) (h : NRow W (some ⟨bB, oB, none⟩) ys S) => h.tab hpr.rows hpr.n1
  have HV := Lib.hid fun (W : World) (h : Below w.heap.size w W) => hV.stays h
  have hM0 := hv.pos hpr.n1
  have HBd := Lib.hid fun t (ht : t < L.length) k (hk : k ≤ L.length) => Q.amK_bd (f := Q.bstF L S r v t) (ok := Q.okS S r) (M := M + 119) (by omega) k fun s hs ho => Q.bstF_bd hpr hr ht hv s (by omega) ho
  have HSm := Lib.hid fun t => Q.amK_some (f := Q.bstF L S r v t) (ok := Q.okS S r) L.length (Q.okS_some hpr hr)
  have HD := Lib.hid fun (x y : Nat) (hx : x < L.length) (hy : y < L.length) => hpr.dst hx hy
  have HE := Lib.hid fun (r s : Nat) (hr : r < S.length) (hs : s < L.length) => hpr.srv hr hs
  have HF := Lib.hid fun t s z h => Q.bstF_at (L := L) (S := S) (r := r) (v := v) (t := t) (s := s) (z := z) h
  have HO : Hid (∀ s, Q.okS S r s = decide (Q.dst S r s ≠ -1)) := fun s => rfl
  have HVs := Lib.hid hv
  have hn4 := hpr.n4
  have HS : Hid (∀ t k, Q.amK (Q.bstF L S r v t) (Q.okS S r) (k + 1) = if Q.okS S r k && (decide ((Q.amK (Q.bstF L S r v t) (Q.okS S r) k).1 < 0) || decide (Q.bstF L S r v t k < (Q.amK (Q.bstF L S r v t) (Q.okS S r) k).2)) then ((k : Int), Q.bstF L S r v t k) else Q.amK (Q.bstF L S r v t) (Q.okS S r) k) := fun t k => rfl
  have HZ : Hid (∀ t, Q.amK (Q.bstF L S r v t) (Q.okS S r) 0 = (-1, 0)) := fun t => rfl
  have HX := Lib.hid fun t (ht : t < L.length) => Q.nextQ_at (S := S) (v := v) (r := r) ht
  have hlX : (Q.nextQ L S v r).length = L.length := Q.nextQ_len _ _ _ _
  obtain ⟨K, hK⟩ : ∃ K : Nat → Nat → Int × Int, ∀ t, Q.amK (Q.bstF L S r v t) (Q.okS S r) = K t := ⟨_, fun t => rfl⟩
  simp only [hK] at HBd HSm HS HZ HX
  obtain ⟨F, hF⟩ : ∃ F : Nat → Nat → Int, ∀ t, Q.bstF L S r v t = F t := ⟨_, fun t => rfl⟩
  simp only [hF] at HS HF
  generalize Q.okS S r = ok at HS HO
  clear hpr hL hS hV hv hK hF
  have hrI : (r : Int) < (S.length : Int) := by omega
  rw [hvl]
  show Calls _ _ _ _ (rowSays1 _ _)
  unfold rowSays1
  rw [hlX]
  have HXt : Hid (∀ t, t < L.length → (Q.nextQ L S v r).take (t + 1) = (Q.nextQ L S v r).take t ++ [(K t L.length).2]) := fun t ht => Q.take_at (HX.out t ht)
  have HXl : Hid ((Q.nextQ L S v r).take L.length = Q.nextQ L S v r) := by show _ = _; rw [← hlX, List.take_length]
  have HX0 : Hid ((Q.nextQ L S v r).take 0 = []) := List.take_zero
  generalize Q.nextQ L S v r = X at HXt HXl HX0 ⊢
  clear hvl hlX HX
  go_enter Try.func190, Try.ntmps190
  have HP0 := Lib.hid hP
  have hsa0 : (w.alloc (.cells #[.slice (some ⟨bA, oA, none⟩) L.length c, .slice (some ⟨bB, oB, none⟩) S.length d] 35)).heap.size = w.heap.size + 1 := by simp
  clear hP
  go_wp2_with fail
  generalize w.alloc (.cells #[.slice (some ⟨bA, oA, none⟩) L.length c, .slice (some ⟨bB, oB, none⟩) S.length d] 35) = wa at HP0 hsa0 ⊢
  rw [← hsa0]
  clear hsa0
  go_loopw [7, 8] (fun o i wr => ∃ t : Nat, t ≤ L.length ∧ i = .int .i64 (t : Int) ∧ Hid (wr.ownsRow wa.heap.size 3 1 o t (ivs (X.take t))) ∧ Hid (Below wa.heap.size wa wr)) (fun _ i _ => L.length - (intOf i).toNat)
  case atStart => exact ⟨0, Nat.zero_le _, rfl, by show World.ownsRow _ _ _ _ _ _ _; rw [HX0.out]; exact ownsRow_nil _ _, (Below.refl _ _).alloc (Nat.le_refl _) _⟩
  case round =>
    obtain ⟨t, ht, rfl, ho, hb⟩ := hrel
    by_cases hltt : t < L.length
    · have hlttI : (t : Int) < (L.length : Int) := by omega
      obtain ⟨wo, hwo⟩ : ∃ wo, wo = wr := ⟨_, rfl⟩
      rw [← hwo] at ho hb ⊢
      clear hwo
      go_wp2
      go_loopw [9, 10] (fun b i wr => ∃ (k : Nat) (bv : Int), k ≤ L.length ∧ i = .int .i64 (k : Int) ∧ b = .int .i64 bv ∧ Hid (bv = if (K t k).1 < 0 then -1 else (K t k).2) ∧ Hid (∃ m, wr = wo.drewN m)) (fun _ i _ => L.length - (intOf i).toNat)
      case atStart => exact ⟨0, -1, Nat.zero_le _, rfl, rfl, by show _ = _; rw [HZ.out]; rfl, ⟨0, rfl⟩⟩
      case round =>
        obtain ⟨k, bv, hk, rfl, rfl, hbv, hw⟩ := hrel
        have HPr : Hid (∀ m, PIn w (wr.drewN m) (some ⟨bA, oA, none⟩) c xs L (some ⟨bB, oB, none⟩) d ys S ∧ ∃ q, wr.drewN m = wo.drewN q) := fun m => by
          obtain ⟨q, e⟩ := hw.out
          rw [e]
          exact ⟨((HP0.out.on hb.out).drewN q).drewN m, q + m, by simp⟩
        have hP0 := (HPr.out 0).1
        have e0 : wr.drewN 0 = wr := rfl
        rw [e0] at hP0
        have HP1 := Lib.hid hP0
        clear hP0 e0
        obtain ⟨p0, p1, _, _, _⟩ := HP1.out.bk
        by_cases hlt : k < L.length
        · have hltI : (k : Int) < (L.length : Int) := by omega
          obtain ⟨z, hz, z0, z9⟩ := HVs.out k hlt
          obtain ⟨bV, oV, eV, hbV, hcV⟩ := (HV.out wr HP1.out.bl).at_ (ivs_some hz)
          subst eV
          obtain ⟨b1, o1, d1, hc1, hcs1⟩ := HTL.out wr HP1.out.mv k hlt
          have hv1 := hcs1 t hltt
          obtain ⟨b2, o2, d2, hc2, hcs2⟩ := HTS.out wr HP1.out.sv r hr
          have hv2 := hcs2 k hlt
          obtain ⟨D0, D9, hDs⟩ := HD.out t k hltt hlt
          obtain ⟨E0, E9⟩ := HE.out r k hr hlt
          obtain ⟨k1, k2, k3, k4⟩ := HBd.out t hltt k hk
          have hF := HF.out t k z hz
          have hok := HO.out k
          have hK1 := HS.out t k
          rw [hok, hF] at hK1
          rw [← hDs] at hv1
          clear hDs
          generalize Q.dst L t k = D at hv1 D0 D9 hK1
          generalize Q.dst S r k = E at hv2 E0 E9 hK1
          have hw1 : IntKind.i64.wrap (z + E) = z + E := IntWalk.i64_in _ (by omega)
          have hw2 : IntKind.i64.wrap (z + E + D) = z + E + D := IntWalk.i64_in _ (by omega)
          clear hcs1 hcs2 hz hF hok hw
          have HKk : Hid (bv = if (K t k).1 < 0 then -1 else (K t k).2) := hbv
          generalize hKk : K t k = P at k1 k2 k3 k4 hK1 HKk
          obtain ⟨bb, ll⟩ := P
          simp only [] at k1 k2 k3 k4 hK1
          by_cases hE : E = -1
          · subst hE
            have HN : Hid (K t (k + 1) = (bb, ll)) := by show _ = _; rw [hK1]; simp
            have HN2 : Hid (bv = if (K t (k + 1)).1 < 0 then -1 else (K t (k + 1)).2) := by show _ = _; rw [HN.out]; exact HKk.out
            clear hK1 hKk hbv HKk HN
            go_wp2
            go_roundw
            case rel => exact ⟨k + 1, bv, by omega, by go_num, rfl, HN2.out, (HPr.out 0).2⟩
            case measure => simp [intOf]; omega
          · have hE0 : ¬ E < 0 := by omega
            have hdE : decide (E ≠ -1) = true := by simpa using hE
            by_cases hb : bb < 0
            · have hbv1 : bv = -1 := by have := HKk.out; simp only [hb, if_true] at this; exact this
              have HN : Hid (K t (k + 1) = ((k : Int), D + E + z)) := by show _ = _; rw [hK1, hdE]; simp [hb]
              have HN2 : Hid (z + E + D = if (K t (k + 1)).1 < 0 then -1 else (K t (k + 1)).2) := by show _ = _; rw [HN.out]; simp only []; rw [if_neg (by omega)]; omega
              subst hbv1
              clear hK1 hKk hdE hE hbv HKk HN
              go_wp2
              go_quiet (fail)
              go_wp2
              go_roundw
              case rel => exact ⟨k + 1, _, by omega, by go_num, rfl, HN2.out, (HPr.out _).2⟩
              case measure => simp [intOf]; omega
            · have hbv1 : bv = ll := by have := HKk.out; simp only [hb, if_false] at this; exact this
              subst hbv1
              have hbn : ¬ bv < 0 := by omega
              by_cases hl : z + E + D < bv
              · have HN : Hid (K t (k + 1) = ((k : Int), D + E + z)) := by show _ = _; rw [hK1, hdE]; simp [show D + E + z < bv by omega]
                have HN2 : Hid (z + E + D = if (K t (k + 1)).1 < 0 then -1 else (K t (k + 1)).2) := by show _ = _; rw [HN.out]; simp only []; rw [if_neg (by omega)]; omega
                clear hK1 hKk hdE hE hbv HKk HN
                go_wp2
                go_quiet (fail)
                go_wp2
                go_roundw
                case rel => exact ⟨k + 1, _, by omega, by go_num, rfl, HN2.out, (HPr.out _).2⟩
                case measure => simp [intOf]; omega
              · have HN : Hid (K t (k + 1) = (bb, bv)) := by show _ = _; rw [hK1, hdE, if_neg (by first | (simp [hb]; done) | (simp [hb]; omega))]
                have HN2 : Hid (bv = if (K t (k + 1)).1 < 0 then -1 else (K t (k + 1)).2) := by show _ = _; rw [HN.out]; simp only []; rw [if_neg hb]
                clear hK1 hKk hdE hE hbv HKk HN
                go_wp2
                go_quiet (fail)
                go_wp2
                go_roundw
                case rel => exact ⟨k + 1, _, by omega, by go_num, rfl, HN2.out, (HPr.out _).2⟩
                case measure => simp [intOf]; omega
        · have hke : k = L.length := by omega
          have hltI : ¬ (k : Int) < (L.length : Int) := by omega
          have HbX : Hid (bv = (K t L.length).2) := by
            have h1 := hbv.out
            rw [hke, if_neg (by have := HSm.out t; omega)] at h1
            exact h1
          have hob : wr.ownsRow wa.heap.size 3 1 u7 t (ivs (X.take t)) ∧ Below wa.heap.size wa wr := by
            obtain ⟨q, e⟩ := hw.out
            rw [e]
            exact ⟨ho.out, Law.up hb.out q⟩
          obtain ⟨hoo, hbo⟩ := hob
          have HXn := HXt.out t hltt
          rw [← HbX.out] at HXn
          clear hke hbv hw ho hb HbX
          generalize X.take t = Xt at hoo HXn
          have HXN := Lib.hid HXn
          clear HXn
          have hsz9 := (hbo).size
          go_wp2_with (at_builtin; refine wpList_append_own _ rfl _ _ 25 rfl (wa.heap.size) 3 i0 (.int .i64 0) 1 8 Try.underlying25 hi hz0 hz1 hz2 rfl (by decide) _ _ _ rfl ((hoo).alloc _) ⟨(wr).heap.size, 0, none⟩ 1 1 [.int .i64 (bv)] rfl rfl ?ca9a ?ca9b ?ca9c ?ca9d ?ca9e ?_)
          try (case ca9a => (intro j' u hj'; match j', hj' with | 0, hj' => (simp at hj'; subst hj'; simp [Addr.add])))
          case ca9b => first | (intro u hu; simp at hu; subst hu; rfl) | rfl
          case ca9c => unfold maxLen; omega
          case ca9d => omega
          case ca9e => first | omega | (simp; done) | (simp; omega)
          intro v9 w9 hm9 hg9 _
          have HB9 := Lib.hid (((hbo).alloc hsz9 (.cells #[.int .i64 (bv)] 3)).grown hg9 (by simp; omega) (fun j e => Nat.le_trans (by omega) ((hoo).lt j e).1))
          rw [← ivs_snoc, ← HXN.out] at hm9
          have HO := Lib.hid hm9
          clear hm9 hg9 hoo hbo
          go_wp2
          go_roundw
          case rel => exact ⟨t + 1, by omega, by go_num, HO.out, HB9.out⟩
          case measure => simp [intOf]; omega
    · have hte : t = L.length := by omega
      have hltI : ¬ (t : Int) < (L.length : Int) := by omega
      have HK := Lib.hid hte
      have HB := Lib.hid (HP0.out.on hb.out).bl
      clear hte
      go_wp2
      go_ret
      refine ⟨_, rfl, ?_, HB.out⟩
      have h := ho.out
      rw [HK.out, HXl.out] at h
      exact own_down h HP0.out.bl.size
end
end Go.Proofs.Ytammlkaclooohaa
