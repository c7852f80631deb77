/-
  The model's LazyPlan.
-/
import Derived.Test.YtklpdfilhgjllaaLazI
import Derived.Test.YtklpdfilhgjllaaFarS
import Derived.Test.YtklpdfilhgjllaaPlnS
namespace Go.Proofs.Ytklpdfilhgjllaa
open Go.RowKit
set_option linter.unusedVariables false
namespace Q
/-- The first place of l whose number is not in m. -/
theorem lz_first {l m : List Int} {x : Int} : ∀ {j : Nat}, l[j]? = some x → ¬ x ∈ m → (∀ i y, i < j → l[i]? = some y → y ∈ m) → lzL l m = x := by
  induction l with
  | nil => intro j h; simp at h
  | cons a l ih =>
    intro j h hx hm
    unfold lzL
    cases j with
    | zero =>
      simp at h
      subst h
      simp [hx]
    | succ j =>
      have ha := hm 0 a (by omega) rfl
      rw [List.filter_cons_of_neg (by simp [ha])]
      exact ih (by simpa using h) hx (fun i y hi hy => hm (i + 1) y (by omega) (by simpa using hy))
end Q
set_option maxRecDepth 100000 in
set_option maxHeartbeats 1600000 in
theorem l5Lazy_any (k : Int) (A : Option Addr) (c : Nat) (zs : List Int) (us : List Nat) (C : Option Addr) (cc : Nat) (base : Nat) (xs : List Value) (w : World) (h1 : 1 ≤ k) (h6 : k ≤ 6) (h3 : zs.length ≤ 60) (hx : ∀ k, k < zs.length → ∃ x : Nat, zs[k]? = some (x : Int) ∧ x < 8) (hso : Q.SetsOk k zs us) (hr : Law.Row w A (ivs zs)) (ho : w.ownsRow base 22 1 (.slice C us.length cc) us.length xs) (hn : NOwn w base xs (us.map Q.pl)) :
    Calls Try.prog 83 #[.int .i64 k, .slice A zs.length c, .slice C us.length cc] w (rowSays1 (Q.planC k zs (Q.lzAt us)) w) := by
  obtain ⟨i0, hi, hz0, hz1, hz2⟩ := info_parts infoInts
  have HR := Lib.hid hr
  have HX := Lib.hid hx
  have HSO := Lib.hid hso
  have HC := Lib.hid ho
  have HNN := Lib.hid hn
  have HOK := Lib.hid (Q.lazy_ok hso hx)
  have HPL : Hid (∀ i, i ≤ zs.length → Q.pst k zs (Q.lzAt us) i < 256) := Lib.hid (Q.pst_lt HOK.out hx)
  have hul : (us.length : Int) = (zs.length : Int) := by have := hso.len; omega
  clear hr hx hso ho hn
  go_enter Try.func83, Try.ntmps83
  go_wp2_with fail
  go_loopw [7, 8, 9] (fun v s i wr => ∃ j : Nat, j ≤ zs.length ∧ i = .int .i64 j ∧ Hid (wr.ownsRow w.heap.size 3 1 s (Q.pl (Q.pst k zs (Q.lzAt us) j)).length (ivs (Q.pl (Q.pst k zs (Q.lzAt us) j)))) ∧ Hid (wr.ownsRow w.heap.size 3 1 v j (ivs (Q.planK k zs (Q.lzAt us) j))) ∧ Hid (Apart s v) ∧ Hid (Below w.heap.size w wr)) (fun _ _ i _ => zs.length - (intOf i).toNat)
  case atStart =>
    have hd := own_down (ownsRow_nil (w.alloc (.cells #[] 3)) 3) (show w.heap.size ≤ _ by simp)
    have e0 : Q.pl (Q.pst k zs (Q.lzAt us) 0) = [] := (by decide : Q.pl 0 = [])
    refine ⟨0, Nat.zero_le _, rfl, ?_, (ownsRow_nil w 3).alloc _, ?_, ((Below.refl _ _).alloc (Nat.le_refl _) _).alloc (by simp) _⟩
    · show World.ownsRow _ _ _ _ _ _ _
      rw [e0]
      simpa using hd
    · exact fun b hb hv => by simp [Value.ownBlock] at hb hv; omega
  case round =>
    obtain ⟨j, hj, rfl, hs, hv, hap, hb⟩ := hrel
    by_cases hlt : j < zs.length
    · obtain ⟨p, hpz, hp8⟩ := HX.out j hlt
      obtain ⟨T, hTj, hT1, hT2, hT3⟩ := HSO.out.ok j p hpz
      have hltI : (j : Int) < (zs.length : Int) := by omega
      have hltU : (j : Int) < (us.length : Int) := by omega
      have hS := HPL.out j hj
      have hlv := Q.lv_bd HOK.out hpz hS
      have HPS0 := Lib.hid (Q.pst_succ (k := k) (ch := Q.lzAt us) hpz)
      have HLA0 := Lib.hid (Q.lvAt_at (k := k) (ch := Q.lzAt us) hpz)
      have HKS0 := Lib.hid (Q.planK_snoc k zs (Q.lzAt us) j)
      have HFA : Hid (∀ S, Q.lzAt us j S = Q.lzL (Q.pl S) (Q.pl T)) := Lib.hid fun S => by unfold Q.lzAt; rw [List.getD_eq_getElem?_getD, hTj]; rfl
      have hchk := fun (S : Nat) (hS : S < 256) (hb : S.testBit p = false) (hP : (Q.popB S : Int) = k) => HOK.out j S p hpz hS hb hP
      obtain ⟨S, hSe⟩ : ∃ S, S = Q.pst k zs (Q.lzAt us) j := ⟨_, rfl⟩
      rw [← hSe] at hS hlv HPS0 HLA0 hs
      have HLV : Hid (Q.lvOf k (Q.lzAt us) j S p = if S.testBit p = false ∧ (Q.popB S : Int) = k then Q.lzAt us j S else -1) := rfl
      have hs' := hs.out
      obtain ⟨As, cs, rfl, hcs, hcm, _⟩ := Law.own_len hs'
      have hls : (Q.pl S).length ≤ 8 := by have := Q.len_pl hS; omega
      have HLn : Hid (((Q.pl S).length : Int) = (Q.popB S : Int)) := by show _ = _; rw [(Q.len_pl hS).1]
      have HH : Hid (Calls Try.prog 86 #[.slice As (Q.pl S).length cs, .int .i64 p] wr fun e w' => e = .returned (.bool (S.testBit p)) ∧ w' = wr) := by
        have := l1Has_any As cs (Q.pl S) p wr (by omega) (Law.Row.own hs')
        rw [Q.mem_pl hS hp8] at this
        exact Lib.hid this
      have HRr := Lib.hid (HR.out.stays hb.out)
      obtain ⟨b, off, rfl, hbl, hc⟩ := HRr.out.at_ (ivs_some hpz)
      -- the cache behind the place, a row of its own
      have hxl : xs.length = us.length := by have := HC.out.1; omega
      obtain ⟨y, hy⟩ : ∃ y, xs[j]? = some y := ⟨_, List.getElem?_eq_getElem (by omega)⟩
      have hyo := HNN.out.own j y (Q.pl T) hy (by rw [List.getElem?_map, hTj]; rfl)
      obtain ⟨Ay, cy, rfl, hcy, hcym, _⟩ := Law.own_len hyo
      have HRy := Lib.hid ((Law.Row.own hyo).stays hb.out)
      obtain ⟨gC, oC, hCe, hCl, hCc⟩ := ((Law.Row.own HC.out).stays hb.out).at_ hy
      subst hCe
      have hTl : (Q.pl T).length ≤ 8 := by have := Q.len_pl hT1; omega
      clear hSe hy hyo hxl
      cases hbp : S.testBit p
      · rw [hbp] at HH
        by_cases hP : (Q.popB S : Int) = k
        · have hl : Q.lvOf k (Q.lzAt us) j S p = Q.lzAt us j S := HLV.out.trans (if_pos ⟨hbp, hP⟩)
          rw [hl] at HPS0 HLA0 hlv
          have hmem' := hchk S hS hbp hP
          obtain ⟨L, hL⟩ := Int.eq_ofNat_of_zero_le hmem'.1
          have HKS : Hid (Q.planK k zs (Q.lzAt us) (j + 1) = Q.planK k zs (Q.lzAt us) j ++ [(L : Int)]) := Lib.hid (by rw [HKS0.out, HLA0.out, hL])
          have hT0 : Q.outB S L < 256 := Q.out_lt hS (by omega)
          have htb : (Q.outB S L).testBit p = false := Q.out_bit hS hp8 (by omega) hbp
          have HPS : Hid (Q.pst k zs (Q.lzAt us) (j + 1) = Q.putB (Q.outB S L) p) := Lib.hid (by rw [HPS0.out, hL]; unfold Q.exB; rw [if_pos (by omega)]; rfl)
          have hPI : ((Q.pl S).length : Int) = k := HLn.out.trans hP
          have HOu : Hid (∀ W, Below wr.heap.size wr W → Calls Try.prog 87 #[.slice As (Q.pl S).length cs, .int .i64 (L : Int)] W (rowSays1 (Q.pl (Q.outB S L)) W)) := fun W h => by
            have := l5Out_any As cs (Q.pl S) L W (by omega) ((Law.Row.own hs').stays h)
            rw [Q.out_pl hS (show L < 8 by omega)] at this
            exact this
          have HPn : Hid (¬ (p : Int) ∈ Q.pl (Q.outB S L)) := Lib.hid (fun hm => by have := Q.mem_pl hT0 hp8; rw [htb] at this; simp [hm] at this)
          have HPP := Lib.hid (Q.put_pl hT0 hp8)
          have hol : (Q.pl (Q.outB S L)).length ≤ 8 := by have := Q.len_pl hT0; omega
          have HVp := Lib.hid hv.out
          have HFL : Hid (Q.lzL (Q.pl S) (Q.pl T) = (L : Int)) := Lib.hid ((HFA.out S).symm.trans hL)
          have HSome : Hid (∃ (j : Nat) (x : Int), (Q.pl S)[j]? = some x ∧ ¬ x ∈ Q.pl T) := by
            obtain ⟨x, xs, hx1, _, _⟩ := Q.lz_some hS hT1 hp8 hbp hT2 (by omega)
            rw [Q.sub_pl S hT1] at hx1
            have hm : x ∈ (Q.pl S).filter fun z => !decide (z ∈ Q.pl T) := by rw [hx1]; simp
            obtain ⟨h1, h2⟩ := List.mem_filter.1 hm
            obtain ⟨i, hi, e⟩ := List.mem_iff_getElem.1 h1
            exact Lib.hid ⟨i, x, by rw [List.getElem?_eq_getElem hi, e], by simpa using h2⟩
          have HRs := Lib.hid (Law.Row.own hs')
          have HIn := Lib.hid fun (z : Int) => l1Has_any Ay cy (Q.pl T) z wr (by omega) HRy.out
          clear HLV HLA0 HKS0 HPS0 hlv hl hmem' hL hbp hP HLn hs hs' hap hchk HFA hTj hT2 hT3 hpz
          generalize Q.outB S L = O at HOu HPn HPP hol HPS
          clear hT0 htb
          generalize hsl : Q.pl S = sl at HH hls hcs hPI HOu HFL HSome HRs
          generalize Q.pl T = tl at HIn HFL HSome HRy hTl hcy hCc
          clear hsl
          go_wp2_with fail
          go_at_call 86
          refine HH.out.mono ?_
          rintro e w' ⟨rfl, hw'⟩
          obtain rfl := hw'.symm
          clear hw'
          have HAllW : Hid (∀ W, Below wr.heap.size wr W → W.cell? ⟨gC, oC + j, none⟩ = some (.slice Ay tl.length cy) ∧ W.cell? ⟨b, off + j, none⟩ = some (.int .i64 p) ∧ Law.Row W As (ivs sl) ∧ W.ownsRow w.heap.size 3 1 u7 j (ivs (Q.planK k zs (Q.lzAt us) j)) ∧ Below w.heap.size w W ∧ b < W.heap.size ∧ (∀ z, Calls Try.prog 86 #[.slice Ay tl.length cy, .int .i64 z] W fun e w' => e = .returned (.bool (decide (z ∈ tl))) ∧ w' = W) ∧ Calls Try.prog 87 #[.slice As sl.length cs, .int .i64 (L : Int)] W (rowSays1 (Q.pl O) W)) := fun W h =>
            ⟨(h.cell (p := ⟨gC, oC + j, none⟩) hCl).trans hCc, (h.cell (p := ⟨b, off + j, none⟩) hbl).trans hc, HRs.out.stays h, own_past HVp.out h, Law.then_ hb.out h, Nat.lt_of_lt_of_le hbl h.size, fun z => l1Has_any Ay cy tl z W (by omega) (HRy.out.stays h), HOu.out W h⟩
          clear hCc hc HRs HVp hb HRy HOu HIn hbl hCl HRr
          go_wp2_with fail
          obtain ⟨wo, hwo⟩ : ∃ wo, wo = wr := ⟨_, rfl⟩
          rw [← hwo] at HAllW
          rw [← hwo]
          clear hwo
          go_loopw [11] (fun q wr => ∃ m : Nat, m ≤ sl.length ∧ q = .int .i64 m ∧ Hid (∀ (i : Nat) (y : Int), i < m → sl[i]? = some y → y ∈ tl) ∧ Hid (Below wo.heap.size wo wr)) (fun q _ => sl.length - (intOf q).toNat)
          case atStart => exact ⟨0, Nat.zero_le _, rfl, fun i y h => by omega, Below.refl _ _⟩
          case round =>
            obtain ⟨m, hm, rfl, hall, hw⟩ := hrel
            have HWn : Hid (∀ n, Below wo.heap.size wo (wr.drewN n)) := fun n => Law.up hw.out n
            have hml : m < sl.length := by
              rcases Nat.lt_or_ge m sl.length with h | h
              · exact h
              · exfalso
                obtain ⟨i, x, hi, hx⟩ := HSome.out
                exact hx (hall.out i x (by have := (List.getElem?_eq_some_iff.1 hi).1; omega) hi)
            have hmlI : (m : Int) < (sl.length : Int) := by omega
            obtain ⟨y, hy⟩ : ∃ y, sl[m]? = some y := ⟨_, List.getElem?_eq_getElem hml⟩
            obtain ⟨hA1, _, hA3, _⟩ := HAllW.out wr hw.out
            obtain ⟨gs, os, rfl, hgl, hgc⟩ := hA3.at_ (ivs_some hy)
            have HIy := Lib.hid fun (n : Nat) => (HAllW.out _ (HWn.out n)).2.2.2.2.2.2.1 y
            have HYS := Lib.hid (ivs_some hy)
            clear hA3
            by_cases hyt : y ∈ tl
            · have HA : Hid (∀ (i : Nat) (z : Int), i < m + 1 → sl[i]? = some z → z ∈ tl) := fun i z hi hz => by
                rcases Nat.lt_or_ge i m with h | h
                · exact hall.out i z h hz
                · obtain rfl : i = m := by omega
                  rw [hy] at hz
                  injection hz with hz
                  rw [← hz]
                  exact hyt
              rw [show decide (y ∈ tl) = true from decide_eq_true hyt] at HIy
              clear hy hall hyt hw
              go_wp2_with fail
              go_quiet ((go_at_call 86; exact Calls.quiet_of_same (HIy.out _)))
              go_wp2
              go_roundw
              case rel => exact ⟨m + 1, by omega, by go_num, HA.out, HWn.out _⟩
              case measure => simp [intOf]; omega
            · have HYL : Hid (y = (L : Int)) := Lib.hid ((Q.lz_first hy hyt hall.out).symm.trans HFL.out)
              rw [show decide (y ∈ tl) = false from decide_eq_false hyt] at HIy
              have hy2 := HYL.out
              subst hy2
              clear hy hall hyt HYL HFL HSome hw
              go_wp2_with fail
              go_quiet ((go_at_call 86; exact Calls.quiet_of_same (HIy.out _)))
              have hA := HAllW.out _ (HWn.out nq)
              clear hA1 hgc HIy HAllW HWn hgl
              generalize wr.drewN nq = wq at hA ⊢
              obtain ⟨_, hcq, hsq, hvq, hbq, hblq, _, hoq⟩ := hA
              obtain ⟨gs2, os2, hge, hgl2, hgc⟩ := hsq.at_ HYS.out
              injection hge with hge
              injection hge with hge1 hge2 _
              subst hge1 hge2
              have HVq := Lib.hid hvq
              have HBq := Lib.hid hbq
              have HOq := Lib.hid hoq
              clear hsq hvq hbq hoq
              go_wp2_with fail
              go_at_call 87
              refine HOq.out.mono ?_
              rintro e w2 ⟨v2, rfl, ho2, hb2⟩
              obtain ⟨A1, c1, rfl, hc1, hcm1, _⟩ := Law.own_len ho2
              have hcp2 : w2.cell? ⟨b, off + j, none⟩ = some (.int .i64 p) := (hb2.cell (p := ⟨b, off + j, none⟩) hblq).trans hcq
              have HPut : Hid (Calls Try.prog 88 #[.slice A1 (Q.pl O).length c1, .int .i64 p] w2 (rowSays1 (Q.pl (Q.putB O p)) w2)) := by
                have := l1PutNew_any A1 c1 (Q.pl O) p w2 HPn.out (by omega) hc1 hcm1 (Law.Row.own ho2)
                rw [HPP.out] at this
                exact Lib.hid this
              have HV2 := Lib.hid (own_past HVq.out hb2)
              have HB2 := Lib.hid (Law.then_ HBq.out hb2)
              clear ho2 hb2 HVq HBq HOq hcq hgc
              go_wp2_with fail
              go_at_call 88
              refine HPut.out.mono ?_
              rintro e w3 ⟨v3, rfl, ho3, hb3⟩
              have HAp := Lib.hid (Apart.new ho3 HV2.out)
              have HNow := Lib.hid (own_down ho3 HB2.out.size)
              have HPlan := Lib.hid (own_past HV2.out hb3)
              have HBn := Lib.hid (Law.then_ HB2.out hb3)
              clear ho3 hb3 HV2 HB2 hcp2 HPut
              have hsz9 := (HBn.out).size
              go_wp2_with (at_builtin; refine list_app1 rfl _ _ 22 rfl Try.underlying22 hi hz0 hz1 hz2 rfl ((HPlan.out).alloc _) rfl (new_cell (w3) (.int .i64 ((L : Int))) 3) ?ca9a ?ca9b ?_)
              case ca9a => omega
              case ca9b => (show w.heap.size ≤ _; first | omega | (simp; omega))
              intro v9 w9 hm9 hg9 ha9
              have HB9 := Lib.hid (((HBn.out).alloc hsz9 (.cells #[.int .i64 ((L : Int))] 3)).grown hg9 (by simp; omega) (fun j e => Nat.le_trans (by omega) ((HPlan.out).lt j e).1))
              have hmk := hm9
              rw [← ivs_snoc] at hmk
              have HM9 := Lib.hid hmk
              have HN9 := Lib.hid (Apart.kept HAp.out (HNow.out.alloc (.cells #[.int .i64 ((L : Int))] 3)) hg9)
              have HA9 := Lib.hid (Apart.next HAp.out ha9 (HNow.out.alloc (.cells #[.int .i64 ((L : Int))] 3)))
              clear hmk hm9 hg9 ha9 HPlan HNow HAp
              go_wp2
              go_roundw
              case rel => exact ⟨j + 1, by omega, by go_num, (by show World.ownsRow _ _ _ _ _ _ _; rw [HPS.out]; exact HN9.out), (by show World.ownsRow _ _ _ _ _ _ _; rw [HKS.out]; exact HM9.out), HA9.out, HB9.out⟩
              case measure => simp [intOf]; omega
        · have hl : Q.lvOf k (Q.lzAt us) j S p = -1 := HLV.out.trans (if_neg (by simp [hP]))
          rw [hl] at HPS0 HLA0
          have HKS : Hid (Q.planK k zs (Q.lzAt us) (j + 1) = Q.planK k zs (Q.lzAt us) j ++ [-1]) := Lib.hid (by rw [HKS0.out, HLA0.out])
          have HPS : Hid (Q.pst k zs (Q.lzAt us) (j + 1) = Q.putB S p) := Lib.hid (by rw [HPS0.out]; unfold Q.exB; rw [if_neg (by omega)])
          have hPI : ¬ ((Q.pl S).length : Int) = k := fun e => hP (HLn.out.symm.trans e)
          have HPn : Hid (¬ (p : Int) ∈ Q.pl S) := Lib.hid (fun hm => by have := Q.mem_pl hS hp8; rw [hbp] at this; simp [hm] at this)
          have HPP := Lib.hid (Q.put_pl hS hp8)
          have HPut : Hid (Calls Try.prog 88 #[.slice As (Q.pl S).length cs, .int .i64 p] wr (rowSays1 (Q.pl (Q.putB S p)) wr)) := by
            have := l1PutNew_any As cs (Q.pl S) p wr HPn.out (by omega) hcs hcm (Law.Row.own hs')
            rw [HPP.out] at this
            exact Lib.hid this
          clear HLV HLA0 HKS0 HPS0 hlv hl hbp hP HLn hs hs' hap hchk HFA hTj hT2 hT3 hpz hCc
          go_wp2_with fail
          go_at_call 86
          refine HH.out.mono ?_
          rintro e w' ⟨rfl, hw'⟩
          obtain rfl := hw'.symm
          clear hw'
          go_wp2_with fail
          go_at_call 88
          refine HPut.out.mono ?_
          rintro e w3 ⟨v3, rfl, ho3, hb3⟩
          have HAp := Lib.hid (Apart.new ho3 hv.out)
          have HNow := Lib.hid (own_down ho3 hb.out.size)
          have HPlan := Lib.hid (own_past hv.out hb3)
          have HBn := Lib.hid (Law.then_ hb.out hb3)
          clear ho3 hb3 hv hb hc HPut
          have hsz9 := (HBn.out).size
          go_wp2_with (at_builtin; refine list_app1 rfl _ _ 22 rfl Try.underlying22 hi hz0 hz1 hz2 rfl ((HPlan.out).alloc _) rfl (new_cell (w3) (.int .i64 (-1)) 3) ?ca9a ?ca9b ?_)
          case ca9a => omega
          case ca9b => (show w.heap.size ≤ _; first | omega | (simp; omega))
          intro v9 w9 hm9 hg9 ha9
          have HB9 := Lib.hid (((HBn.out).alloc hsz9 (.cells #[.int .i64 (-1)] 3)).grown hg9 (by simp; omega) (fun j e => Nat.le_trans (by omega) ((HPlan.out).lt j e).1))
          have hmk := hm9
          rw [← ivs_snoc] at hmk
          have HM9 := Lib.hid hmk
          have HN9 := Lib.hid (Apart.kept HAp.out (HNow.out.alloc (.cells #[.int .i64 (-1)] 3)) hg9)
          have HA9 := Lib.hid (Apart.next HAp.out ha9 (HNow.out.alloc (.cells #[.int .i64 (-1)] 3)))
          clear hmk hm9 hg9 ha9 HPlan HNow HAp
          go_wp2
          go_roundw
          case rel => exact ⟨j + 1, by omega, by go_num, (by show World.ownsRow _ _ _ _ _ _ _; rw [HPS.out]; exact HN9.out), (by show World.ownsRow _ _ _ _ _ _ _; rw [HKS.out]; exact HM9.out), HA9.out, HB9.out⟩
          case measure => simp [intOf]; omega
      · rw [hbp] at HH
        have hl : Q.lvOf k (Q.lzAt us) j S p = -1 := HLV.out.trans (if_neg (by simp [hbp]))
        rw [hl] at HPS0 HLA0
        have HKS : Hid (Q.planK k zs (Q.lzAt us) (j + 1) = Q.planK k zs (Q.lzAt us) j ++ [-1]) := Lib.hid (by rw [HKS0.out, HLA0.out])
        have HPS : Hid (Q.pst k zs (Q.lzAt us) (j + 1) = S) := Lib.hid (by rw [HPS0.out, Q.exB_old hbp])
        have HPP := Q.put_pl hS hp8
        rw [show Q.putB S p = S by unfold Q.putB; rw [if_pos hbp]] at HPP
        have HPut := Lib.hid (l1PutOld_any As cs (Q.pl S) p wr HPP (by omega) (Law.Row.own hs'))
        have HNow := Lib.hid hs'
        have HAp := hap
        have HPlan := hv
        have HBn := hb
        clear HLV HLA0 HKS0 HPS0 hlv hl hbp HLn hs hs' hap hv hb HPP hchk HFA hTj hT2 hT3 hpz hCc
        go_wp2_with fail
        go_at_call 86
        refine HH.out.mono ?_
        rintro e w' ⟨rfl, hw'⟩
        obtain rfl := hw'.symm
        clear hw'
        go_wp2_with fail
        go_at_call 88
        refine (HPut.out).mono ?_
        rintro e w' ⟨rfl, hw'⟩
        obtain rfl := hw'.symm
        clear hw'
        have hsz9 := (HBn.out).size
        go_wp2_with (at_builtin; refine list_app1 rfl _ _ 22 rfl Try.underlying22 hi hz0 hz1 hz2 rfl ((HPlan.out).alloc _) rfl (new_cell (wr) (.int .i64 (-1)) 3) ?ca9a ?ca9b ?_)
        case ca9a => omega
        case ca9b => (show w.heap.size ≤ _; first | omega | (simp; omega))
        intro v9 w9 hm9 hg9 ha9
        have HB9 := Lib.hid (((HBn.out).alloc hsz9 (.cells #[.int .i64 (-1)] 3)).grown hg9 (by simp; omega) (fun j e => Nat.le_trans (by omega) ((HPlan.out).lt j e).1))
        have hmk := hm9
        rw [← ivs_snoc] at hmk
        have HM9 := Lib.hid hmk
        have HN9 := Lib.hid (Apart.kept HAp.out (HNow.out.alloc (.cells #[.int .i64 (-1)] 3)) hg9)
        have HA9 := Lib.hid (Apart.next HAp.out ha9 (HNow.out.alloc (.cells #[.int .i64 (-1)] 3)))
        clear hmk hm9 hg9 ha9 HPlan HNow HAp
        go_wp2
        go_roundw
        case rel => exact ⟨j + 1, by omega, by go_num, (by show World.ownsRow _ _ _ _ _ _ _; rw [HPS.out]; exact HN9.out), (by show World.ownsRow _ _ _ _ _ _ _; rw [HKS.out]; exact HM9.out), HA9.out, HB9.out⟩
        case measure => simp [intOf]; omega
    · have hje : j = zs.length := by omega
      have hltI : ¬ (j : Int) < (zs.length : Int) := by omega
      have HF : Hid (Q.planK k zs (Q.lzAt us) j = Q.planC k zs (Q.lzAt us)) := by show _ = _; rw [hje]; rfl
      have HJ := Lib.hid hje
      clear hje
      go_wp2
      go_ret
      have h := hv.out
      rw [HF.out] at h
      exact ⟨_, rfl, (by rw [Q.planC_len, ← HJ.out]; exact h), hb.out⟩
end Go.Proofs.Ytklpdfilhgjllaa
