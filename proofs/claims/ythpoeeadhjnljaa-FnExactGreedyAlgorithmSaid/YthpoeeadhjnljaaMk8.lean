/-
  The model's l8Made: the greedy or the lazy algorithm, row by row.
-/
import Derived.Test.YthpoeeadhjnljaaMd8
namespace Go.Proofs.Ythpoeeadhjnljaa
open Go.RowKit
set_option linter.unusedVariables false
namespace Q
def gmS (lz : Bool) (L S : List (List Int)) (t r : Nat) : Int := if lz = true ∧ dst S r t ≠ -1 then (t : Int) else grS L S t r
theorem mdRow_succ (g : Nat → Nat → Int) (m x : Nat) : mdRow g (m + 1) x = mdRow g m x ++ [g x m] := by
  simp [mdRow, List.range_succ]
end Q
section
variable (A : Option Addr) (c : Nat) (xs0 : List Value) (L : List (List Int)) (B : Option Addr) (d : Nat) (ys : List Value) (S : List (List Int)) (w : World)
set_option maxRecDepth 100000 in
set_option maxHeartbeats 3200000 in
theorem l8Made_any (hpr : Q.Pr L S) (lz : Bool) (hL : NRow w A xs0 L) (hS : NRow w B ys S) :
    Calls Try.prog 80 #[pv A L.length c B S.length d, .bool lz] w (nrSays (Q.mdK (Q.gmS lz L S) S.length L.length) w) := by
  obtain ⟨i0, hi, hz0, hz1, hz2⟩ := info_parts infoInts
  obtain ⟨i1, hj', hq0, hq1, hq2⟩ := info_parts infoII
  obtain ⟨bA, oA, rfl⟩ := hL.some_ hpr.n1
  obtain ⟨bB, oB, rfl⟩ := hS.some_ hpr.m1
  have HP := Lib.hid (PIn.start (c := c) (d := d) hL hS 29)
  have HGr := Lib.hid fun (W : World) (t r : Nat) (ht : t < L.length) (hr : r < S.length) (h1 : NRow W (some ⟨bA, oA, none⟩) xs0 L) (h2 : NRow W (some ⟨bB, oB, none⟩) ys S) => l8Greedy_any (some ⟨bA, oA, none⟩) c xs0 L (some ⟨bB, oB, none⟩) d ys S W hpr t r ht hr h1 h2
  have HTS := Lib.hid fun (W : World) (h : NRow W (some ⟨bB, oB, none⟩) ys S) => h.tab hpr.rows hpr.n1
  have HE := Lib.hid fun (r s : Nat) (hr : r < S.length) (hs : s < L.length) => hpr.srv hr hs
  have HGV : Hid (∀ t r, Q.gmS lz L S t r = if lz = true ∧ Q.dst S r t ≠ -1 then (t : Int) else Q.grS L S t r) := fun t r => rfl
  have hn4 := hpr.n4
  have hm4 := hpr.m4
  generalize Q.gmS lz L S = g at HGV ⊢
  clear hpr hL hS
  obtain ⟨p0, p1, _, _, _⟩ := HP.out.bk
  have hsa0 : (w.alloc (.cells #[.slice (some ⟨bA, oA, none⟩) L.length c, .slice (some ⟨bB, oB, none⟩) S.length d] 29)).heap.size = w.heap.size + 1 := by simp
  go_enter Try.func80, Try.ntmps80
  go_wp2_with fail
  generalize w.alloc (.cells #[.slice (some ⟨bA, oA, none⟩) L.length c, .slice (some ⟨bB, oB, none⟩) S.length d] 29) = wa at HP hsa0 p0 p1 ⊢
  rw [← hsa0]
  clear hsa0 p0 p1
  have HO0 := Lib.hid (ownsRow_nil wa 35)
  have HB0 : Hid (Below wa.heap.size wa (wa.alloc (.cells #[] 35))) := (Below.refl _ _).alloc (Nat.le_refl _) _
  go_loopw [5, 6] (fun u i wr => ∃ s : Nat, s ≤ L.length ∧ i = .int .i64 (s : Int) ∧ Hid (∃ xs, wr.ownsRow wa.heap.size 35 1 u s xs ∧ NOwn wr wa.heap.size xs (Q.mdK g S.length s)) ∧ Hid (Below wa.heap.size wa wr)) (fun _ i _ => L.length - (intOf i).toNat)
  case atStart => exact ⟨0, Nat.zero_le _, rfl, ⟨[], HO0.out, NOwn.nil _ _⟩, HB0.out⟩
  case round =>
    obtain ⟨s, hs, rfl, hv, hb⟩ := hrel
    clear HO0 HB0
    have HPr := Lib.hid (HP.out.on hb.out)
    obtain ⟨p0, p1, _, _, _⟩ := HPr.out.bk
    by_cases hlts : s < L.length
    · have hltsI : (s : Int) < (L.length : Int) := by omega
      obtain ⟨w2, hw2⟩ : ∃ w2, w2 = wr := ⟨_, rfl⟩
      rw [← hw2] at hv hb HPr p0 p1 ⊢
      clear hw2
      have HR0 : Hid ((w2.alloc (.cells #[] 3)).ownsRow w2.heap.size 3 1 (.slice (some ⟨w2.heap.size, 0, none⟩) 0 0) 0 (ivs (Q.mdRow g 0 s))) := ownsRow_nil w2 3
      have HB2 : Hid (Below w2.heap.size w2 (w2.alloc (.cells #[] 3))) := (Below.refl _ _).alloc (Nat.le_refl _) _
      go_wp2
      clear p0 p1
      go_loopw [7, 8] (fun o i wq => ∃ r : Nat, r ≤ S.length ∧ i = .int .i64 (r : Int) ∧ Hid (wq.ownsRow w2.heap.size 3 1 o r (ivs (Q.mdRow g r s))) ∧ Hid (Below w2.heap.size w2 wq)) (fun _ i _ => S.length - (intOf i).toNat)
      case atStart => exact ⟨0, Nat.zero_le _, rfl, HR0.out, HB2.out⟩
      case round =>
        obtain ⟨r, hr, rfl, hro, hrb⟩ := hrel
        clear HR0 HB2
        have HPI := Lib.hid (HPr.out.on hrb.out)
        obtain ⟨p0, p1, _, _, _⟩ := HPI.out.bk
        by_cases hltr : r < S.length
        · have hltrI : (r : Int) < (S.length : Int) := by omega
          obtain ⟨w3, hw3⟩ : ∃ w3, w3 = wr := ⟨_, rfl⟩
          rw [← hw3] at hro hrb HPI p0 p1 ⊢
          clear hw3
          obtain ⟨b2, o2, d2, hc2, hcs2⟩ := HTS.out w3 HPI.out.sv r hltr
          have hv2 := hcs2 s hlts
          obtain ⟨E0, E9⟩ := HE.out r s hltr hlts
          have HRR := Lib.hid (Q.mdRow_succ g r s)
          have HC := Lib.hid fun (W : World) (h : PIn w W (some ⟨bA, oA, none⟩) c xs0 L (some ⟨bB, oB, none⟩) d ys S) => HGr.out W s r hlts hltr h.mv h.sv
          have hgv := HGV.out s r
          clear hcs2
          generalize Q.dst S r s = E at hv2 E0 E9 hgv
          generalize Q.grS L S s r = V at HC hgv
          generalize g s r = z at hgv HRR
          by_cases hE : E = -1
          · have hzV : z = V := by rw [hgv, if_neg (by simp [hE])]
            subst hzV hE
            clear hgv
            cases lz
            · have hoo := hro.out
              have hbo := hrb.out
              clear hro hrb
              have HCW := Lib.hid (HC.out w3 HPI.out)
              clear HC
              go_wp2_with fail
              go_at_call 106
              refine HCW.out.mono ?_
              rintro e w5 ⟨rfl, hb5⟩
              have hoo5 := own_past hoo hb5
              have hbo5 := Law.then_ hbo hb5
              clear p0 p1 hb5 HCW HPI hoo hbo hc2 hv2
              generalize Q.mdRow g r s = lr at hoo5 HRR
              have hsz9 := (hbo5).size
              go_wp2_with (at_builtin; refine wpList_append_own _ rfl _ _ 35 rfl (w2.heap.size) 3 i0 (.int .i64 0) 1 8 Try.underlying35 hi hz0 hz1 hz2 rfl (by decide) _ _ _ rfl ((hoo5).alloc _) ⟨(w5).heap.size, 0, none⟩ 1 1 [.int .i64 (z)] rfl rfl ?ca9a ?ca9b ?ca9c ?ca9d ?ca9e ?_)
              try (case ca9a => (intro j' u hj'; match j', hj' with | 0, hj' => (simp at hj'; subst hj'; simp [Addr.add])))
              case ca9b => first | (intro u hu; simp at hu; subst hu; rfl) | rfl
              case ca9c => unfold maxLen; omega
              case ca9d => omega
              case ca9e => first | omega | (simp; done) | (simp; omega)
              intro v9 w9 hm9 hg9 _
              have HB9 := Lib.hid (((hbo5).alloc hsz9 (.cells #[.int .i64 (z)] 3)).grown hg9 (by simp; omega) (fun j e => Nat.le_trans (by omega) ((hoo5).lt j e).1))
              rw [← ivs_snoc, ← HRR.out] at hm9
              have HO := Lib.hid hm9
              clear hm9 hg9 hoo5 hbo5
              go_wp2
              go_roundw
              case rel => exact ⟨r + 1, by omega, by go_num, HO.out, HB9.out⟩
              case measure => simp [intOf]; omega
            · have hoo := hro.out
              have hbo := hrb.out
              clear hro hrb
              have HCW := Lib.hid (HC.out w3 HPI.out)
              clear HC
              go_wp2_with fail
              go_at_call 106
              refine HCW.out.mono ?_
              rintro e w5 ⟨rfl, hb5⟩
              have hoo5 := own_past hoo hb5
              have hbo5 := Law.then_ hbo hb5
              clear p0 p1 hb5 HCW HPI hoo hbo hc2 hv2
              generalize Q.mdRow g r s = lr at hoo5 HRR
              have hsz9 := (hbo5).size
              go_wp2_with (at_builtin; refine wpList_append_own _ rfl _ _ 35 rfl (w2.heap.size) 3 i0 (.int .i64 0) 1 8 Try.underlying35 hi hz0 hz1 hz2 rfl (by decide) _ _ _ rfl ((hoo5).alloc _) ⟨(w5).heap.size, 0, none⟩ 1 1 [.int .i64 (z)] rfl rfl ?ca9a ?ca9b ?ca9c ?ca9d ?ca9e ?_)
              try (case ca9a => (intro j' u hj'; match j', hj' with | 0, hj' => (simp at hj'; subst hj'; simp [Addr.add])))
              case ca9b => first | (intro u hu; simp at hu; subst hu; rfl) | rfl
              case ca9c => unfold maxLen; omega
              case ca9d => omega
              case ca9e => first | omega | (simp; done) | (simp; omega)
              intro v9 w9 hm9 hg9 _
              have HB9 := Lib.hid (((hbo5).alloc hsz9 (.cells #[.int .i64 (z)] 3)).grown hg9 (by simp; omega) (fun j e => Nat.le_trans (by omega) ((hoo5).lt j e).1))
              rw [← ivs_snoc, ← HRR.out] at hm9
              have HO := Lib.hid hm9
              clear hm9 hg9 hoo5 hbo5
              go_wp2
              go_roundw
              case rel => exact ⟨r + 1, by omega, by go_num, HO.out, HB9.out⟩
              case measure => simp [intOf]; omega
          · have hE0 : ¬ E < 0 := by omega
            cases lz
            · have hzV : z = V := by rw [hgv, if_neg (by simp)]
              subst hzV
              clear hgv
              have hoo := hro.out
              have hbo := hrb.out
              clear hro hrb
              have HCW := Lib.hid (HC.out w3 HPI.out)
              clear HC
              go_wp2_with fail
              go_at_call 106
              refine HCW.out.mono ?_
              rintro e w5 ⟨rfl, hb5⟩
              have hoo5 := own_past hoo hb5
              have hbo5 := Law.then_ hbo hb5
              clear p0 p1 hb5 HCW HPI hoo hbo hc2 hv2
              generalize Q.mdRow g r s = lr at hoo5 HRR
              have hsz9 := (hbo5).size
              go_wp2_with (at_builtin; refine wpList_append_own _ rfl _ _ 35 rfl (w2.heap.size) 3 i0 (.int .i64 0) 1 8 Try.underlying35 hi hz0 hz1 hz2 rfl (by decide) _ _ _ rfl ((hoo5).alloc _) ⟨(w5).heap.size, 0, none⟩ 1 1 [.int .i64 (z)] rfl rfl ?ca9a ?ca9b ?ca9c ?ca9d ?ca9e ?_)
              try (case ca9a => (intro j' u hj'; match j', hj' with | 0, hj' => (simp at hj'; subst hj'; simp [Addr.add])))
              case ca9b => first | (intro u hu; simp at hu; subst hu; rfl) | rfl
              case ca9c => unfold maxLen; omega
              case ca9d => omega
              case ca9e => first | omega | (simp; done) | (simp; omega)
              intro v9 w9 hm9 hg9 _
              have HB9 := Lib.hid (((hbo5).alloc hsz9 (.cells #[.int .i64 (z)] 3)).grown hg9 (by simp; omega) (fun j e => Nat.le_trans (by omega) ((hoo5).lt j e).1))
              rw [← ivs_snoc, ← HRR.out] at hm9
              have HO := Lib.hid hm9
              clear hm9 hg9 hoo5 hbo5
              go_wp2
              go_roundw
              case rel => exact ⟨r + 1, by omega, by go_num, HO.out, HB9.out⟩
              case measure => simp [intOf]; omega
            · have hzV : z = (s : Int) := by rw [hgv, if_pos ⟨rfl, hE⟩]
              subst hzV
              clear hgv
              have hoo := hro.out
              have hbo := hrb.out
              clear hro hrb HC
              generalize Q.mdRow g r s = lr at hoo HRR
              have hsz9 := (hbo).size
              go_wp2_with (at_builtin; refine wpList_append_own _ rfl _ _ 35 rfl (w2.heap.size) 3 i0 (.int .i64 0) 1 8 Try.underlying35 hi hz0 hz1 hz2 rfl (by decide) _ _ _ rfl ((hoo).alloc _) ⟨(w3).heap.size, 0, none⟩ 1 1 [.int .i64 ((s : Int))] rfl rfl ?ca9a ?ca9b ?ca9c ?ca9d ?ca9e ?_)
              try (case ca9a => (intro j' u hj'; match j', hj' with | 0, hj' => (simp at hj'; subst hj'; simp [Addr.add])))
              case ca9b => first | (intro u hu; simp at hu; subst hu; rfl) | rfl
              case ca9c => unfold maxLen; omega
              case ca9d => omega
              case ca9e => first | omega | (simp; done) | (simp; omega)
              intro v9 w9 hm9 hg9 _
              have HB9 := Lib.hid (((hbo).alloc hsz9 (.cells #[.int .i64 ((s : Int))] 3)).grown hg9 (by simp; omega) (fun j e => Nat.le_trans (by omega) ((hoo).lt j e).1))
              rw [← ivs_snoc, ← HRR.out] at hm9
              have HO := Lib.hid hm9
              clear hm9 hg9 hoo hbo p0 p1 hc2 hv2
              go_wp2
              go_roundw
              case rel => exact ⟨r + 1, by omega, by go_num, HO.out, HB9.out⟩
              case measure => simp [intOf]; omega
        · have hre : r = S.length := by omega
          have hltrI : ¬ (r : Int) < (S.length : Int) := by omega
          obtain ⟨ys2, hy1, hy2⟩ := hv.out
          have hX9 : wr.ownsRow w2.heap.size 3 1 u7 S.length (ivs (Q.mdRow g S.length s)) := by
            rw [← hre]
            exact hro.out
          have HTT : Hid (Q.mdK g S.length (s + 1) = Q.mdK g S.length s ++ [Q.mdRow g S.length s]) := rfl
          have HO9 := Lib.hid (own_past hy1 hrb.out)
          have HN9 := Lib.hid (NOwn.snoc hy2 (hy2.past hrb.out) (l := Q.mdRow g S.length s) (x := u7) (by rw [Q.mdRow_len]; exact hX9) hb.out.size)
          rw [← HTT.out] at HN9
          have HBW := Lib.hid (Law.then_ hb.out hrb.out)
          have hszw := HBW.out.size
          obtain ⟨A9, c9, rfl, _, _, _⟩ := Law.own_len hX9
          have hyl : ys2.length = s := by have := hy1.1; omega
          clear HTT hX9 hy1 hy2 hv hro hrb hre
          go_wp2_with (at_builtin; refine wpList_append_own _ rfl _ _ 22 rfl wa.heap.size 35 i1 (.slice none 0 0) 1 24 Try.underlying22 hj' hq0 hq1 hq2 rfl (by decide) _ _ _ rfl (HO9.out.alloc _) ⟨wr.heap.size, 0, none⟩ 1 1 [.slice A9 S.length c9] rfl rfl ?ca ?cb ?cc ?cd ?ce ?_)
          try (case ca => (intro j' u hj'; match j', hj' with | 0, hj' => (simp at hj'; subst hj'; simp [Addr.add])))
          case cb => first | (intro u hu; simp at hu; subst hu; rfl) | rfl
          case cc => unfold maxLen; omega
          case cd => omega
          case ce => first | omega | (simp; done) | (simp; omega)
          intro v10 w10 hm10 hg10 _
          have HB10 := Lib.hid ((HBW.out.alloc hszw (.cells #[.slice A9 S.length c9] 35)).grown hg10 (by simp; omega) (fun j e => (HO9.out.lt j e).1))
          have HV10 : Hid (∃ xs, w10.ownsRow wa.heap.size 35 1 v10 (s + 1) xs ∧ NOwn w10 wa.heap.size xs (Q.mdK g S.length (s + 1))) :=
            ⟨_, hm10, (HN9.out.alloc _).outer ints_ne (HO9.out.alloc _) hg10⟩
          clear hm10 hg10 p0 p1
          go_wp2
          go_roundw
          case rel => exact ⟨s + 1, by omega, by go_num, HV10.out, HB10.out⟩
          case measure => simp [intOf]; omega
    · have hse : s = L.length := by omega
      have hltsI : ¬ (s : Int) < (L.length : Int) := by omega
      obtain ⟨xs, ho, hn⟩ := hv.out
      rw [hse] at ho hn
      have HO' := Lib.hid (own_down ho HP.out.bl.size)
      have HN' := Lib.hid (hn.down HP.out.bl.size)
      have HUL := Lib.hid (Q.mdK_len g S.length L.length)
      clear hse hv ho hn
      go_wp2
      go_ret
      refine ⟨_, xs, rfl, ?_, HN'.out, HPr.out.bl⟩
      rw [HUL.out]
      exact HO'.out
end
end Go.Proofs.Ythpoeeadhjnljaa
