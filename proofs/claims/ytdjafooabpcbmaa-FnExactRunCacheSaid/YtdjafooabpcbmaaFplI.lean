/-
  The code's FaultPlaces.
-/
import Derived.Test.YtdjafooabpcbmaaRqd
import Derived.Test.YtdjafooabpcbmaaIs
namespace Go.Proofs.Ytdjafooabpcbmaa
open Go.RowKit
set_option linter.unusedVariables false
theorem own_nil0 (w : World) (base : Nat) (e : TypeId) : w.ownsRow base e 1 (.slice none 0 0) 0 [] := ⟨rfl, .inl ⟨rfl, rfl⟩⟩
theorem nil_at {X : World} {k base : Nat} (hk : k = X.heap.size) (hb : base ≤ k) : (X.alloc (.cells #[] 3)).ownsRow base 3 1 (.slice (some ⟨k, 0, none⟩) 0 0) 0 (ivs []) := by
  subst hk
  exact own_down (ownsRow_nil X _) hb
/-- The block of an empty cache. -/
theorem cb_new {X : World} {b : Nat} {p s : Int} (hB : Blk5 X b (.int .i64 p) (.int .i64 s) (.slice none 0 0) (.slice none 0 0) (.int .i64 0)) (hb : b < X.heap.size) : CB X b b { Q.newC p s with z := fun _ => none } (.slice none 0 0) (.slice none 0 0) :=
  ⟨hB, Nat.le_refl _, hb, own_nil0 _ _ _, own_nil0 _ _ _, (fun e => by cases e), (fun e => by cases e), (fun g e => by cases e), fun k o e => by cases e⟩
set_option maxRecDepth 100000 in
set_option maxHeartbeats 3200000 in
theorem impFpl_any (n p s : Int) (zs : List Int) (R : Option Addr) (q : Nat) (hl : zs.length ≤ 1048576) (w : World) (hr : Law.Row w R (ivs zs)) :
    Calls Try.prog 31 #[.int .i64 n, .int .i64 p, .int .i64 s, .slice R zs.length q] w (rowSays (Q.fpl n p s zs) w) := by
  obtain ⟨i0, hi, hz0, hz1, hz2⟩ := info_parts infoInts
  have HQ := Lib.hid (startOf_any n p s zs R q w hl hr)
  cases hg : (Q.good n zs && Q.sizes p s)
  · rw [show Q.fpl n p s zs = ([], false) from if_neg (by simp [hg])]
    rw [hg] at HQ
    clear hr hg
    unfold newTup at HQ
    go_enter Try.func31, Try.ntmps31
    go_wp2_with fail
    go_at_call 75
    refine HQ.out.mono ?_
    rintro r w1 ⟨rfl, hb1⟩
    have HB1 := Lib.hid hb1
    have HS1 := Lib.hid hb1.size
    clear hb1
    go_wp2
    go_ret2
    exact ⟨_, rfl, nil_at (by simp) (by have := HS1.out; omega), (HB1.out.alloc HS1.out _).alloc (by have := HS1.out; simp; omega) _⟩
  · rw [show Q.fpl n p s zs = (Q.flt (Q.newC p s) zs, true) from if_pos hg]
    rw [hg] at HQ
    have hg2 := (Bool.and_eq_true _ _).mp hg
    have hgi := Q.good_iff.1 hg2.1
    have hsi : (1 ≤ p ∧ p ≤ 7) ∧ 1 ≤ s ∧ s ≤ 6 := by simpa [Q.sizes] using hg2.2
    have HOK := Lib.hid fun k => Q.run_ok (Q.new_ok hgi.1 hsi.1 hsi.2) hgi.2.2 k
    have h3 := hgi.2.1
    have HR := Lib.hid hr
    have HF : Hid (Q.flt (Q.newC p s) zs = Q.fltK (Q.newC p s) zs zs.length) := Lib.hid rfl
    obtain ⟨c0, hc0⟩ : ∃ c0, c0 = Q.newC p s := ⟨_, rfl⟩
    rw [← hc0] at HOK HF ⊢
    have HC0 := Lib.hid hc0
    clear hr hg hg2 hgi hsi hc0
    unfold newTup at HQ
    go_enter Try.func31, Try.ntmps31
    go_wp2_with fail
    go_at_call 75
    refine HQ.out.mono ?_
    rintro r w1 ⟨rfl, hb1⟩
    have HB1 := Lib.hid hb1
    have HS1 := Lib.hid hb1.size
    clear hb1
    go_wp2_with fail
    go_loopw [12, 29] (fun v i wr => ∃ k : Nat, k ≤ zs.length ∧ i = .int .i64 k ∧ Hid (FB w1.heap.size wr v (Q.runK c0 zs k)) ∧ Hid (wr.ownsRow (w1.heap.size + 1) 3 1 v (Q.fltK c0 zs k).length (ivs (Q.fltK c0 zs k))) ∧ Hid (Below w.heap.size w wr)) (fun _ i _ => zs.length - (intOf i).toNat)
    case atStart =>
      have hs1 := HS1.out
      have h2 := al2 w1 (.cells #[.int .i64 p, .int .i64 s, .slice none 0 0, .slice none 0 0, .int .i64 0] 26) (.cells #[] 3)
      exact ⟨0, Nat.zero_le _, rfl, ⟨⟨_, _, _, (by rw [Q.runK_zero, HC0.out]; exact cb_new (blk5_of h2.1) (by rw [h2.2.2.1]; omega)), fun g e => by injection e with e; subst e; exact ⟨(by first | omega | simp), (by intro e; cases e), (by intro e; cases e)⟩⟩⟩, nil_at (by simp) (by omega), HB1.out.trans (h2.2.2.2.mono hs1)⟩
    case round =>
      obtain ⟨k, hk, rfl, hfb, ho, hb⟩ := hrel
      by_cases hlt : k < zs.length
      · have hltI : (k : Int) < (zs.length : Int) := by omega
        obtain ⟨x, hx⟩ : ∃ x, zs[k]? = some x := ⟨_, List.getElem?_eq_getElem hlt⟩
        obtain ⟨b, off, rfl, hbl, hc⟩ := (HR.out.stays hb.out).at_ (ivs_some hx)
        have hrk := Q.runK_succ c0 hx
        have hf1 := Q.fltK_hit c0 hx
        have hf2 := Q.fltK_no c0 hx
        have hfl := Q.fltK_len c0 zs k
        have hReq := hfb.out.request (x := x) (HOK.out k) ho.out
        generalize Q.runK c0 zs k = ck at *
        generalize Q.fltK c0 zs k = fk at *
        have HRK : Hid (Q.runK c0 zs (k + 1) = Q.stepC ck x) := Lib.hid hrk
        clear hx hrk hfb ho
        by_cases hm : x ∈ ck.ps
        · have HFk := Lib.hid (hf1 hm)
          rw [show decide (x ∉ ck.ps) = false by simpa using hm] at hReq
          have HRq := Lib.hid hReq
          clear hf1 hf2 hm hReq
          go_wp2_with fail
          go_at_call 69
          refine HRq.out.mono ?_
          rintro r w2 ⟨rfl, hfb2, ho2, hb2⟩
          have HFB := Lib.hid hfb2
          have HO := Lib.hid ho2
          have HB2 := Lib.hid (hb.out.trans (hb2.mono HS1.out))
          clear hfb2 ho2 hb2
          go_wp2
          go_roundw
          case rel => exact ⟨k + 1, by omega, by go_num, (by rw [HRK.out]; exact HFB), (by rw [HFk.out]; exact HO), HB2⟩
          case measure => simp [intOf]; omega
        · have HFk := Lib.hid (hf2 hm)
          rw [show decide (x ∉ ck.ps) = true by simpa using hm] at hReq
          have HRq := Lib.hid hReq
          clear hf1 hf2 hm hReq
          go_wp2_with fail
          go_at_call 69
          refine HRq.out.mono ?_
          rintro r w2 ⟨rfl, hfb2, ho2, hb2⟩
          have HFB := Lib.hid hfb2
          have HO := Lib.hid ho2
          have HB2 := Lib.hid (hb.out.trans (hb2.mono HS1.out))
          have hlo2 := hfb2.hi
          have hs1 := HS1.out
          clear hfb2 ho2 hb2
          have hsz9 := (HB2.out).size
          go_wp2_with (at_builtin; refine list_app1 rfl _ _ 22 rfl Try.underlying22 hi hz0 hz1 hz2 rfl ((HO.out).alloc _) rfl (new_cell (w2) (.int .i64 ((k : Int))) 3) ?ca9a ?ca9b ?_)
          case ca9a => omega
          case ca9b => (show (w1.heap.size + 1) ≤ _; first | omega | (simp; omega))
          intro v9 w9 hm9 hg9 ha9
          have HB9 := Lib.hid (((HB2.out).alloc hsz9 (.cells #[.int .i64 ((k : Int))] 3)).grown hg9 (by simp; omega) (fun j e => Nat.le_trans (by omega) ((HO.out).lt j e).1))
          rw [← ivs_snoc] at hm9
          have HFB9 := Lib.hid ((HFB.out.far ((Below.refl _ _).alloc (Nat.le_refl _) _)).app hg9 ha9)
          have HO9 : Hid (w9.ownsRow (w1.heap.size + 1) 3 1 v9 (fk ++ [(k : Int)]).length (ivs (fk ++ [(k : Int)]))) := by rw [List.length_append]; exact Lib.hid hm9
          clear hm9 hg9 ha9 HFB HO
          go_wp2
          go_roundw
          case rel => exact ⟨k + 1, by omega, by go_num, (by rw [HRK.out]; exact HFB9), (by rw [HFk.out]; exact HO9), HB9⟩
          case measure => simp [intOf]; omega
      · have hke : k = zs.length := by omega
        have hltI : ¬ (k : Int) < (zs.length : Int) := by omega
        rw [hke] at ho
        have HO := Lib.hid ho.out
        clear hke ho
        go_wp2
        go_ret2
        rw [HF.out]
        exact ⟨_, rfl, own_down HO.out (by have := HS1.out; omega), hb.out⟩
end Go.Proofs.Ytdjafooabpcbmaa
