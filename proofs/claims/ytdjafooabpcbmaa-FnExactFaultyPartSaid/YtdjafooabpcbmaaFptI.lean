/-
  FaultyPart: the code's.
-/
import Derived.Test.YtdjafooabpcbmaaFplI
import Derived.Test.YtdjafooabpcbmaaHmake
import Derived.Test.YtdjafooabpcbmaaFptM
import Derived.Test.YtdjafooabpcbmaaWinR
import Derived.Test.YtdjafooabpcbmaaIs
namespace Go.Proofs.Ytdjafooabpcbmaa
open Go.RowKit
set_option linter.unusedVariables false
namespace Q
theorem flt_asc (c : Ca) (zs : List Int) : ∀ k, (fltK c zs k).Pairwise (· < ·) ∧ ∀ f ∈ fltK c zs k, 0 ≤ f ∧ f < (k : Int)
  | 0 => ⟨List.Pairwise.nil, fun f h => by cases h⟩
  | k + 1 => by
    obtain ⟨h1, h2⟩ := flt_asc c zs k
    rw [fltK]
    split
    · exact ⟨h1, fun f hf => by have := h2 f hf; omega⟩
    · refine ⟨List.pairwise_append.2 ⟨h1, by simp, fun x hx y hy => ?_⟩, fun f hf => ?_⟩
      · simp at hy
        subst hy
        exact (h2 x hx).2
      · rcases List.mem_append.1 hf with h | h
        · have := h2 f h; omega
        · simp at h
          subst h
          omega
noncomputable def fptQ (n p s : Int) (zs : List Int) : (Int × Int) × Bool := if good n zs && sizes p s then fptX zs (flt (newC p s) zs) s.toNat else ((0, 0), false)
end Q
theorem ret_a2 {fn : Func} {R : Ending → World → Prop} {a : Act} {w : World} {pt u : Tmp} {b : Nat} {x y f : Value}
    (h : fn.results = #[.cell pt 58, .tmp u]) (hd : a.defers = []) (hp : a.tmps.getD pt undef = .pointer (some ⟨b, 0, none⟩)) (hB : Blk w b x y) (hf : a.tmps.getD u undef = f)
    (hR : R (.returned (.tuple #[.agg #[x, y], f])) w) : bodyPost Try.prog fn R .ret a w := by
  refine bodyPost_ret_by (v := .tuple #[.agg #[x, y], f]) ?_ hd hR
  rw [results_cell_tmp h, hp, hf]
  obtain ⟨c0, c1, _, _⟩ := hB
  go_simp
def fptSays (X : (Int × Int) × Bool) (w : World) (e : Ending) (w' : World) : Prop := e = .returned (.tuple #[.agg #[.int .i64 X.1.1, .int .i64 X.1.2], .bool X.2]) ∧ Below w.heap.size w w'
set_option maxHeartbeats 1600000 in
theorem impFpt_any (n p s : Int) (zs : List Int) (R : Option Addr) (q : Nat) (hcap : zs.length ≤ q) (hl : zs.length ≤ 1048576) (w : World) (hr : Law.Row w R (ivs zs)) :
    Calls Try.prog 49 #[.int .i64 n, .int .i64 p, .int .i64 s, .slice R zs.length q] w (fptSays (Q.fptQ n p s zs) w) := by
  have hF := fun X (hb : Below w.heap.size w X) => impFpl_any n p s zs R q hl X (hr.stays hb)
  unfold fptSays
  cases hg : (Q.good n zs && Q.sizes p s)
  · rw [show Q.fptQ n p s zs = ((0, 0), false) from if_neg (by simp [hg])]
    rw [show Q.fpl n p s zs = ([], false) from if_neg (by simp [hg])] at hF
    have HF := Lib.hid hF
    clear hr hF hg
    go_enter Try.func49, Try.ntmps49
    go_wp2_with fail
    go_at_call 31
    refine (HF.out _ ((Below.refl _ _).alloc (Nat.le_refl _) _)).mono ?_
    rintro e w1 ⟨v1, rfl, ho, hb1⟩
    have B1 : Hid (Below w.heap.size w w1) := Lib.hid (((Below.refl w.heap.size w).alloc (Nat.le_refl _) _).trans (hb1.mono (by simp)))
    obtain ⟨c10, c11, f10, f11⟩ := Blk.below (b := w.heap.size) (x := .int .i64 0) (y := .int .i64 0) ⟨by go_simp, by go_simp, by go_simp, by go_simp⟩ hb1 (by first | omega | (simp; omega) | (simp; done))
    have hs1 := hb1.size
    simp at hs1
    clear ho hb1
    go_wp2
    refine ret_a2 rfl rfl rfl (Blk.set2 ⟨c10, c11, f10, f11⟩ _ _) rfl ⟨rfl, ?_⟩
    (repeat (first | exact Below.refl _ _ | refine Below.setCell ?_ (by first | omega | (simp; omega) | (simp; done)) _ | refine Below.drew ?_ | refine Law.up ?_ _ | refine Below.alloc ?_ (by first | omega | (simp; omega) | (simp; done)) _ | refine Law.then_ ?_ (Hid.out (by assumption))))
  · have hg2 := (Bool.and_eq_true _ _).mp hg
    have hgi := Q.good_iff.1 hg2.1
    have hsi : (1 ≤ p ∧ p ≤ 7) ∧ 1 ≤ s ∧ s ≤ 6 := by simpa [Q.sizes] using hg2.2
    have hz60 := hgi.2.1
    have HX : Hid (∀ k, k < zs.length → ∃ x : Nat, zs[k]? = some (x : Int) ∧ x < 8) := Lib.hid fun k hk => by
      have hm := hgi.2.2 zs[k] (List.getElem_mem hk)
      exact ⟨zs[k].toNat, by rw [List.getElem?_eq_getElem hk]; congr 1; omega, by omega⟩
    rw [show Q.fptQ n p s zs = Q.fptX zs (Q.flt (Q.newC p s) zs) s.toNat from if_pos hg]
    rw [show Q.fpl n p s zs = (Q.flt (Q.newC p s) zs, true) from if_pos hg] at hF
    have hfl := Q.fltK_len (Q.newC p s) zs zs.length
    rw [show Q.fltK (Q.newC p s) zs zs.length = Q.flt (Q.newC p s) zs from rfl] at hfl
    have hasc := Q.flt_asc (Q.newC p s) zs zs.length
    rw [show Q.fltK (Q.newC p s) zs zs.length = Q.flt (Q.newC p s) zs from rfl] at hasc
    generalize Q.flt (Q.newC p s) zs = fs at hF hfl hasc ⊢
    have HF := Lib.hid hF
    obtain ⟨S, rfl⟩ : ∃ S : Nat, s = (S : Int) := ⟨s.toNat, by omega⟩
    rw [show ((S : Int)).toNat = S by omega]
    have hS1 : 1 ≤ S := by omega
    have hS6 : S ≤ 6 := by omega
    have HP := Lib.hid hasc.1
    have H0 : Hid (∀ f ∈ fs, 0 ≤ f) := Lib.hid fun f hf => (hasc.2 f hf).1
    have HU := Lib.hid hasc.2
    have HR := Lib.hid hr
    have HC := Lib.hid hcap
    clear hF hg hg2 hgi hsi hasc hr hcap
    go_enter Try.func49, Try.ntmps49
    go_wp2_with fail
    go_at_call 31
    refine (HF.out _ ((Below.refl _ _).alloc (Nat.le_refl _) _)).mono ?_
    rintro e w1 ⟨v1, rfl, ho, hb1⟩
    simp only [] at ho
    obtain ⟨A1, n1, rfl, _, _, _⟩ := Law.own_len ho
    have B1 : Hid (Below w.heap.size w w1) := Lib.hid (((Below.refl w.heap.size w).alloc (Nat.le_refl _) _).trans (hb1.mono (by simp)))
    obtain ⟨c10, c11, f10, f11⟩ := Blk.below (b := w.heap.size) (x := .int .i64 0) (y := .int .i64 0) ⟨by go_simp, by go_simp, by go_simp, by go_simp⟩ hb1 (by first | omega | (simp; omega) | (simp; done))
    have hs1 := hb1.size
    simp at hs1
    have K1 : Hid (Blk w1 w.heap.size (.int .i64 0) (.int .i64 0)) := Lib.hid ⟨c10, c11, f10, f11⟩
    have HO := Lib.hid (Law.Row.own ho)
    clear ho hb1 c10 c11 f10 f11 HF
    go_wp2_with fail
    go_loopw [12] (fun i wr => ∃ k : Nat, S ≤ k ∧ k ≤ 66 ∧ i = .int .i64 (k : Int) ∧ Hid (Q.Past zs fs S k) ∧ Hid (Below w1.heap.size w1 wr)) (fun i _ => 66 - (intOf i).toNat)
    case atStart => exact ⟨S, Nat.le_refl _, by omega, rfl, Q.Past.start, Below.refl _ _⟩
    case round =>
      obtain ⟨k, hSk, hk, rfl, hp, hb⟩ := hrel
      have K2 := K1.out.below hb.out hs1
      obtain ⟨c10, c11, f10, f11⟩ := K2
      by_cases hlt : k < fs.length
      · obtain ⟨j, hj⟩ : ∃ j, j = k - S := ⟨_, rfl⟩
        obtain ⟨x, hx⟩ : ∃ x, fs[j]? = some x := ⟨_, List.getElem?_eq_getElem (by omega)⟩
        obtain ⟨y, hy⟩ : ∃ y, fs[k]? = some y := ⟨_, List.getElem?_eq_getElem hlt⟩
        have hxb := HU.out x (List.mem_iff_getElem?.2 ⟨_, hx⟩)
        have hyb := HU.out y (List.mem_iff_getElem?.2 ⟨_, hy⟩)
        have hxy := Q.asc_le HP.out hx hy (by omega)
        obtain ⟨a, rfl⟩ : ∃ a : Nat, x = (a : Int) := ⟨x.toNat, by omega⟩
        obtain ⟨t, rfl⟩ : ∃ t : Nat, y = (t : Int) := ⟨y.toNat, by omega⟩
        have hat : a ≤ t := by omega
        have htl : t < zs.length := by omega
        have hal : a < zs.length := by omega
        obtain ⟨z, hz, hz8⟩ := HX.out a hal
        have hR2 := HR.out.stays (Law.then_ B1.out hb.out)
        obtain ⟨b, off, rfl, hbl, _⟩ := hR2.at_ (ivs_some hz)
        have HW := row_win hR2 a (t + 1) (by omega) (by omega)
        have HD := Lib.hid fun (m : Nat) => (difItems_any (some ⟨b, off + a, none⟩) (q - a) (Q.win zs a (t + 1)) (wr.drewN m) (by rw [Q.win_len _ _ _ (by omega)]; omega) (fun j hj => by
          rw [Q.win_len _ _ _ (by omega)] at hj
          obtain ⟨y, hy, hy8⟩ := HX.out (a + j) (by omega)
          exact ⟨y, by rw [Q.win_at _ _ _ _ hj]; exact hy, hy8⟩) (Law.Row.drewN HW m))
        rw [Q.win_len _ _ _ (by omega)] at HD
        have hO2 := HO.out.stays hb.out
        obtain ⟨b1, o1, rfl, hb1, hc1⟩ := hO2.at_ (ivs_some hx)
        obtain ⟨b2, o2, he, hb2, hc2⟩ := hO2.at_ (ivs_some hy)
        cases he
        have hcI : (zs.length : Int) ≤ (q : Int) := by have := HC.out; omega
        have hatI : (a : Int) ≤ (t : Int) := by omega
        have hatJ : (a : Int) ≤ (t : Int) + 1 := by omega
        have htq : (t : Int) + 1 ≤ (q : Int) := by have := HC.out; omega
        have hltI : (k : Int) < (fs.length : Int) := by omega
        have hw1 : IntKind.i64.wrap ((k : Int) - (S : Int)) = (j : Int) := by rw [IntKind.wrap_i64]; omega
        have hw2 : IntKind.i64.wrap ((t : Int) + 1) = (t : Int) + 1 := by rw [IntKind.wrap_i64]; omega
        have hkj : (k : Int) - (S : Int) = (j : Int) := by omega
        have hjI : (j : Int) < (fs.length : Int) := by omega
        have htt : ((t : Int) + 1).toNat = t + 1 := by omega
        have ht0 : (0 : Int) ≤ (t : Int) + 1 := by omega
        have hqa : ¬ (q = a) := by have := HC.out; omega
        have HIX := Lib.hid (And.intro hx hy)
        have HJ := Lib.hid hj
        have HT := Lib.hid (And.intro hat htl)
        clear hx hy hxb hyb hxy hR2 hz hz8 hO2 hj hal
        by_cases hD : Q.dif (Q.win zs a (t + 1)) ≤ S
        · have HE : Hid (Q.fptX zs fs S = (((a : Int), (t : Int)), true)) := Lib.hid (Q.code_yes HP.out H0.out hSk (by rw [← HJ.out]; exact HIX.out.1) HIX.out.2 HT.out.2 hD hp.out)
          have hDI : ((Q.dif (Q.win zs a (t + 1)) : Nat) : Int) ≤ (S : Int) := by omega
          generalize Q.dif (Q.win zs a (t + 1)) = D at HD hDI
          clear hD hp
          go_wp2
          go_quiet (fail)
          go_wp2_with fail
          go_at_call 91
          refine (HD.out _).mono ?_
          rintro e w3 ⟨rfl, hb3⟩
          have hb3 := Law.undraw hb3
          have K3 := K1.out.below (Law.then_ hb.out hb3) hs1
          obtain ⟨c30, c31, f30, f31⟩ := K3
          have B3 : Hid (Below w.heap.size w w3) := Lib.hid (Law.then_ B1.out (Law.then_ hb.out hb3))
          have hs3 : w.heap.size < w3.heap.size := by have := hb.out.size; have := hb3.size; omega
          clear hb3 hb c10 c11 f10 f11 hc1 hc2
          go_wp2
          refine ret_a2 rfl rfl rfl (Blk.set2 ⟨c30, c31, f30, f31⟩ _ _) rfl ⟨by rw [HE.out]; rfl, ?_⟩
          exact (B3.out.setCell (p := ⟨w.heap.size, 0, none⟩) (Nat.le_refl _) _).setCell (p := ⟨w.heap.size, 1, none⟩) (Nat.le_refl _) _
        · have HE : Hid (Q.Past zs fs S (k + 1)) := Lib.hid (hp.out.next (by rw [← HJ.out]; exact HIX.out.1) HIX.out.2 hD)
          have hDI : ¬ ((Q.dif (Q.win zs a (t + 1)) : Nat) : Int) ≤ (S : Int) := by omega
          generalize Q.dif (Q.win zs a (t + 1)) = D at HD hDI
          clear hD hp
          go_wp2
          go_quiet (fail)
          go_wp2_with fail
          go_at_call 91
          refine (HD.out _).mono ?_
          rintro e w3 ⟨rfl, hb3⟩
          have hb3 := Law.undraw hb3
          have B3 : Hid (Below w1.heap.size w1 w3) := Lib.hid (Law.then_ hb.out hb3)
          clear hb3 hb c10 c11 f10 f11 hc1 hc2
          go_wp2
          go_roundw
          case rel => exact ⟨k + 1, by omega, by omega, by go_num, HE.out, B3.out⟩
          case measure => simp [intOf]; omega
      · have hltI : ¬ (k : Int) < (fs.length : Int) := by omega
        have HE : Hid (Q.fptX zs fs S = ((0, 0), false)) := Lib.hid (Q.code_no HP.out H0.out (by omega) hp.out)
        have HBw : Hid (Below w.heap.size w wr) := Lib.hid (Law.then_ B1.out hb.out)
        clear hp hb
        go_wp2
        refine ret_a2 rfl rfl rfl (Blk.set2 ⟨c10, c11, f10, f11⟩ _ _) rfl ⟨by rw [HE.out]; rfl, ?_⟩
        exact (HBw.out.setCell (p := ⟨w.heap.size, 0, none⟩) (Nat.le_refl _) _).setCell (p := ⟨w.heap.size, 1, none⟩) (Nat.le_refl _) _
end Go.Proofs.Ytdjafooabpcbmaa
