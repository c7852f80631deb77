/-
  The model's FarthestPlan.
-/
import Derived.Test.YtklpdfilhgjllaaFarI
import Derived.Test.YtklpdfilhgjllaaOut
import Derived.Test.YtklpdfilhgjllaaOwnS
namespace Go.Proofs.Ytklpdfilhgjllaa
open Go.RowKit
set_option linter.unusedVariables false
set_option maxHeartbeats 800000 in
/-- l1Put of a number that is there gives the row itself. -/
theorem l1PutOld_any (A : Option Addr) (c : Nat) (zs : List Int) (x : Int) (w : World) (hp : Q.put x zs = zs) (h3 : zs.length ≤ 60) (hr : Law.Row w A (ivs zs)) :
    Calls Try.prog 88 #[.slice A zs.length c, .int .i64 x] w fun e w' => e = .returned (.slice A zs.length c) ∧ w' = w := by
  have HR := Lib.hid hr
  have HP := Lib.hid hp
  clear hr hp
  go_enter Try.func88, Try.ntmps88
  go_wp2_with fail
  go_loop [5] (fun i => ∃ k : Nat, k ≤ zs.length ∧ i = .int .i64 k ∧ Hid (∀ j y, j < k → zs[j]? = some y → y < x)) (fun i => zs.length - (intOf i).toNat)
  case atStart => exact ⟨0, Nat.zero_le _, rfl, fun j y h => by omega⟩
  case round =>
    obtain ⟨k, hk, rfl, hall⟩ := hrel
    by_cases hlt : k < zs.length
    · have hltI : (k : Int) < (zs.length : Int) := by omega
      obtain ⟨y, hy⟩ : ∃ y, zs[k]? = some y := ⟨_, List.getElem?_eq_getElem hlt⟩
      obtain ⟨b, off, rfl, hbl, hcell⟩ := HR.out.at_ (ivs_some hy)
      by_cases hyx : y < x
      · have HA : Hid (∀ j z, j < k + 1 → zs[j]? = some z → z < x) := fun j z hj hz => by
          rcases Nat.lt_or_ge j k with h | h
          · exact hall.out j z h hz
          · obtain rfl : j = k := by omega
            rw [hy] at hz
            injection hz with hz
            omega
        clear hy hall
        go_wp2
        go_round
        case rel => exact ⟨k + 1, by omega, by go_num, HA.out⟩
        case measure => simp [intOf]; omega
      · have HL : Hid (Q.lead x zs = k) := Lib.hid (Q.lead_of hall.out (fun z hz => by rw [hy] at hz; injection hz with hz; omega) (by omega))
        by_cases hyE : y = x
        · subst hyE
          clear hy hall
          go_wp2
          go_ret
          exact ⟨rfl, rfl⟩
        · exfalso
          have h := HP.out
          rw [Q.put_eq, HL.out, if_neg (by rw [hy]; simpa using hyE)] at h
          have := congrArg List.length h
          simp at this
          omega
    · exfalso
      have hke : k = zs.length := by omega
      subst hke
      have h := HP.out
      rw [Q.put_eq, Q.lead_of hall.out (fun z hz => by rw [List.getElem?_eq_none (Nat.le_refl _)] at hz; cases hz) (Nat.le_refl _), if_neg (by rw [List.getElem?_eq_none (Nat.le_refl _)]; simp)] at h
      have := congrArg List.length h
      simp at this
namespace Q
def planK (k : Int) (zs : List Int) (ch : Nat → Nat → Int) (j : Nat) : List Int := (List.range j).map (lvAt k zs ch)
theorem planK_snoc (k : Int) (zs : List Int) (ch : Nat → Nat → Int) (j : Nat) : planK k zs ch (j + 1) = planK k zs ch j ++ [lvAt k zs ch j] := by simp [planK, List.range_succ]
theorem planK_len (k : Int) (zs : List Int) (ch : Nat → Nat → Int) (j : Nat) : (planK k zs ch j).length = j := by simp [planK]
theorem exB_old {S p : Nat} (h : S.testBit p = true) : exB S (-1) p = S := by unfold exB putB; simp [h]
end Q
/-- Two rows of a call's own lie in different blocks. -/
def Apart (s v : Value) : Prop := ∀ b, s.ownBlock = some b → v.ownBlock ≠ some b
theorem Apart.new {w w' : World} {base n m e e' s s' : Nat} {x v : Value} {xs ys : List Value} (hx : w'.ownsRow w.heap.size e s x n xs) (hv : w.ownsRow base e' s' v m ys) : Apart x v := fun b hb hvb => by
  have h1 := (hx.lt b hb).1
  have h2 := (hv.lt b hvb).2
  omega
theorem Apart.next {w : World} {base n e s : Nat} {x v v' : Value} {xs : List Value} (h : Apart x v) (ha : atOrNew v w v') (hx : w.ownsRow base e s x n xs) : Apart x v' := fun b hb hvb => by
  rcases ha with e | e
  · exact h b hb (e ▸ hvb)
  · rw [e] at hvb
    injection hvb with hvb
    have := (hx.lt b hb).2
    omega
theorem Apart.kept {w w' : World} {base n e s : Nat} {x v : Value} {xs : List Value} (h : Apart x v) (hx : w.ownsRow base e s x n xs) (hg : w.grownBy w' v.ownBlock) : w'.ownsRow base e s x n xs := hx.kept hg (by
  cases hb : x.ownBlock with
  | none => exact .inl rfl
  | some b => exact .inr (fun e => h b hb e.symm))
set_option maxRecDepth 100000 in
set_option maxHeartbeats 1600000 in
theorem l5FarPlan_any (k : Int) (A : Option Addr) (c : Nat) (zs : List Int) (w : World) (h1 : 1 ≤ k) (h6 : k ≤ 6) (h3 : zs.length ≤ 60) (hx : ∀ k, k < zs.length → ∃ x : Nat, zs[k]? = some (x : Int) ∧ x < 8) (hr : Law.Row w A (ivs zs)) :
    Calls Try.prog 55 #[.int .i64 k, .slice A zs.length c] w (rowSays1 (Q.planC k zs (Q.farAt zs)) w) := by
  obtain ⟨i0, hi, hz0, hz1, hz2⟩ := info_parts infoInts
  have HR := Lib.hid hr
  have HX := Lib.hid hx
  have HOK := Lib.hid (Q.far_ok k h1 zs)
  have HPL : Hid (∀ i, i ≤ zs.length → Q.pst k zs (Q.farAt zs) i < 256) := Lib.hid (Q.pst_lt HOK.out hx)
  clear hr hx
  go_enter Try.func55, Try.ntmps55
  go_wp2_with fail
  go_loopw [5, 6, 7] (fun v s i wr => ∃ j : Nat, j ≤ zs.length ∧ i = .int .i64 j ∧ Hid (wr.ownsRow w.heap.size 3 1 s (Q.pl (Q.pst k zs (Q.farAt zs) j)).length (ivs (Q.pl (Q.pst k zs (Q.farAt zs) j)))) ∧ Hid (wr.ownsRow w.heap.size 3 1 v j (ivs (Q.planK k zs (Q.farAt zs) j))) ∧ Hid (Apart s v) ∧ Hid (Below w.heap.size w wr)) (fun _ _ i _ => zs.length - (intOf i).toNat)
  case atStart =>
    have hd := own_down (ownsRow_nil (w.alloc (.cells #[] 3)) 3) (show w.heap.size ≤ _ by simp)
    have e0 : Q.pl (Q.pst k zs (Q.farAt zs) 0) = [] := (by decide : Q.pl 0 = [])
    refine ⟨0, Nat.zero_le _, rfl, ?_, (ownsRow_nil w 3).alloc _, ?_, ((Below.refl _ _).alloc (Nat.le_refl _) _).alloc (by simp) _⟩
    · show World.ownsRow _ _ _ _ _ _ _
      rw [e0]
      simpa using hd
    · exact fun b hb hv => by simp [Value.ownBlock] at hb hv; omega
  case round =>
    obtain ⟨j, hj, rfl, hs, hv, hap, hb⟩ := hrel
    by_cases hlt : j < zs.length
    · obtain ⟨p, hpz, hp8⟩ := HX.out j hlt
      have hltI : (j : Int) < (zs.length : Int) := by omega
      have hS := HPL.out j hj
      have hlv := Q.lv_bd HOK.out hpz hS
      have HPS0 := Lib.hid (Q.pst_succ (k := k) (ch := Q.farAt zs) hpz)
      have HLA0 := Lib.hid (Q.lvAt_at (k := k) (ch := Q.farAt zs) hpz)
      have HKS0 := Lib.hid (Q.planK_snoc k zs (Q.farAt zs) j)
      have HFA : Hid (∀ S, Q.farAt zs j S = Q.farL (Q.useN zs j) (Q.pl S)) := Lib.hid fun S => rfl
      obtain ⟨S, hSe⟩ : ∃ S, S = Q.pst k zs (Q.farAt zs) j := ⟨_, rfl⟩
      rw [← hSe] at hS hlv HPS0 HLA0 hs
      have HLV : Hid (Q.lvOf k (Q.farAt zs) j S p = if S.testBit p = false ∧ (Q.popB S : Int) = k then Q.farAt zs j S else -1) := rfl
      have hs' := hs.out
      obtain ⟨As, cs, rfl, hcs, hcm, _⟩ := Law.own_len hs'
      have hls : (Q.pl S).length ≤ 8 := by have := Q.len_pl hS; omega
      have HLn : Hid (((Q.pl S).length : Int) = (Q.popB S : Int)) := by show _ = _; rw [(Q.len_pl hS).1]
      have HH : Hid (Calls Try.prog 86 #[.slice As (Q.pl S).length cs, .int .i64 p] wr fun e w' => e = .returned (.bool (S.testBit p)) ∧ w' = wr) := by
        have := l1Has_any As cs (Q.pl S) p wr (by omega) (Law.Row.own hs')
        rw [Q.mem_pl hS hp8] at this
        exact Lib.hid this
      have HRr := Lib.hid (HR.out.stays hb.out)
      obtain ⟨b, off, rfl, hbl, hc⟩ := HRr.out.at_ (ivs_some hpz)
      clear hpz hSe
      cases hbp : S.testBit p
      · rw [hbp] at HH
        by_cases hP : (Q.popB S : Int) = k
        · have hl : Q.lvOf k (Q.farAt zs) j S p = Q.farAt zs j S := HLV.out.trans (if_pos ⟨hbp, hP⟩)
          rw [hl] at HPS0 HLA0 hlv
          have hne := Q.pl_ne hS h1 hP
          have HFr := Lib.hid (l5Farthest_any (some ⟨b, off, none⟩) c zs j As cs (Q.pl S) wr h3 hlt hne hls HRr.out (Law.Row.own hs'))
          rw [← HFA.out S] at HFr
          have hmem := Q.pl_bd hS (Q.farL_mem (Q.useN zs j) hne)
          have hmem' : 0 ≤ Q.farAt zs j S ∧ Q.farAt zs j S < 8 := hmem
          obtain ⟨L, hL⟩ := Int.eq_ofNat_of_zero_le hmem'.1
          have HKS : Hid (Q.planK k zs (Q.farAt zs) (j + 1) = Q.planK k zs (Q.farAt zs) j ++ [(L : Int)]) := Lib.hid (by rw [HKS0.out, HLA0.out, hL])
          have hT0 : Q.outB S L < 256 := Q.out_lt hS (by omega)
          have htb : (Q.outB S L).testBit p = false := Q.out_bit hS hp8 (by omega) hbp
          have HPS : Hid (Q.pst k zs (Q.farAt zs) (j + 1) = Q.putB (Q.outB S L) p) := Lib.hid (by rw [HPS0.out, hL]; unfold Q.exB; rw [if_pos (by omega)]; rfl)
          rw [hL] at HFr
          have hPI : ((Q.pl S).length : Int) = k := HLn.out.trans hP
          have HOu : Hid (∀ W, Below wr.heap.size wr W → Calls Try.prog 87 #[.slice As (Q.pl S).length cs, .int .i64 (L : Int)] W (rowSays1 (Q.pl (Q.outB S L)) W)) := fun W h => by
            have := l5Out_any As cs (Q.pl S) L W (by omega) ((Law.Row.own hs').stays h)
            rw [Q.out_pl hS (show L < 8 by omega)] at this
            exact this
          have HPn : Hid (¬ (p : Int) ∈ Q.pl (Q.outB S L)) := Lib.hid (fun hm => by have := Q.mem_pl hT0 hp8; rw [htb] at this; simp [hm] at this)
          have HPP := Lib.hid (Q.put_pl hT0 hp8)
          have hol : (Q.pl (Q.outB S L)).length ≤ 8 := by have := Q.len_pl hT0; omega
          have HVp := Lib.hid hv.out
          clear HLV HLA0 HKS0 HPS0 hlv hl hne hmem hmem' hL hbp hP HLn hs hs' hap
          generalize Q.outB S L = O at HOu HPn HPP hol HPS
          clear hT0 htb
          go_wp2_with fail
          go_at_call 86
          refine HH.out.mono ?_
          rintro e w' ⟨rfl, hw'⟩
          obtain rfl := hw'.symm
          clear hw'
          go_wp2_with fail
          go_at_call 94
          refine HFr.out.mono ?_
          rintro e w1 ⟨rfl, hb1⟩
          have HOu1 := Lib.hid (HOu.out w1 hb1)
          have hcp1 : w1.cell? ⟨b, off + j, none⟩ = some (.int .i64 p) := (hb1.cell (p := ⟨b, off + j, none⟩) hbl).trans hc
          have hbl1 : b < w1.heap.size := Nat.lt_of_lt_of_le hbl hb1.size
          have HV1 := Lib.hid (own_past HVp.out hb1)
          have HB1 := Lib.hid (Law.then_ hb.out hb1)
          clear hb1 hc hb HVp HOu
          go_wp2_with fail
          go_at_call 87
          refine HOu1.out.mono ?_
          rintro e w2 ⟨v2, rfl, ho2, hb2⟩
          obtain ⟨A1, c1, rfl, hc1, hcm1, _⟩ := Law.own_len ho2
          have hcp2 : w2.cell? ⟨b, off + j, none⟩ = some (.int .i64 p) := (hb2.cell (p := ⟨b, off + j, none⟩) hbl1).trans hcp1
          have HPut : Hid (Calls Try.prog 88 #[.slice A1 (Q.pl O).length c1, .int .i64 p] w2 (rowSays1 (Q.pl (Q.putB O p)) w2)) := by
            have := l1PutNew_any A1 c1 (Q.pl O) p w2 HPn.out (by omega) hc1 hcm1 (Law.Row.own ho2)
            rw [HPP.out] at this
            exact Lib.hid this
          have HV2 := Lib.hid (own_past HV1.out hb2)
          have HB2 := Lib.hid (Law.then_ HB1.out hb2)
          clear ho2 hb2 hcp1 HV1 HB1 HOu1
          go_wp2_with fail
          go_at_call 88
          refine HPut.out.mono ?_
          rintro e w3 ⟨v3, rfl, ho3, hb3⟩
          have HAp := Lib.hid (Apart.new ho3 HV2.out)
          have HNow := Lib.hid (own_down ho3 HB2.out.size)
          have HPlan := Lib.hid (own_past HV2.out hb3)
          have HBn := Lib.hid (Law.then_ HB2.out hb3)
          clear ho3 hb3 HV2 HB2 hcp2 HPut
          have hsz9 := (HBn.out).size
          go_wp2_with (at_builtin; refine list_app1 rfl _ _ 22 rfl Try.underlying22 hi hz0 hz1 hz2 rfl ((HPlan.out).alloc _) rfl (new_cell (w3) (.int .i64 ((L : Int))) 3) ?ca9a ?ca9b ?_)
          case ca9a => omega
          case ca9b => (show w.heap.size ≤ _; first | omega | (simp; omega))
          intro v9 w9 hm9 hg9 ha9
          have HB9 := Lib.hid (((HBn.out).alloc hsz9 (.cells #[.int .i64 ((L : Int))] 3)).grown hg9 (by simp; omega) (fun j e => Nat.le_trans (by omega) ((HPlan.out).lt j e).1))
          have hmk := hm9
          rw [← ivs_snoc] at hmk
          have HM9 := Lib.hid hmk
          have HN9 := Lib.hid (Apart.kept HAp.out (HNow.out.alloc (.cells #[.int .i64 ((L : Int))] 3)) hg9)
          have HA9 := Lib.hid (Apart.next HAp.out ha9 (HNow.out.alloc (.cells #[.int .i64 ((L : Int))] 3)))
          clear hmk hm9 hg9 ha9 HPlan HNow HAp
          go_wp2
          go_roundw
          case rel => exact ⟨j + 1, by omega, by go_num, (by show World.ownsRow _ _ _ _ _ _ _; rw [HPS.out]; exact HN9.out), (by show World.ownsRow _ _ _ _ _ _ _; rw [HKS.out]; exact HM9.out), HA9.out, HB9.out⟩
          case measure => simp [intOf]; omega
        · have hl : Q.lvOf k (Q.farAt zs) j S p = -1 := HLV.out.trans (if_neg (by simp [hP]))
          rw [hl] at HPS0 HLA0
          have HKS : Hid (Q.planK k zs (Q.farAt zs) (j + 1) = Q.planK k zs (Q.farAt zs) j ++ [-1]) := Lib.hid (by rw [HKS0.out, HLA0.out])
          have HPS : Hid (Q.pst k zs (Q.farAt zs) (j + 1) = Q.putB S p) := Lib.hid (by rw [HPS0.out]; unfold Q.exB; rw [if_neg (by omega)])
          have hPI : ¬ ((Q.pl S).length : Int) = k := fun e => hP (HLn.out.symm.trans e)
          have HPn : Hid (¬ (p : Int) ∈ Q.pl S) := Lib.hid (fun hm => by have := Q.mem_pl hS hp8; rw [hbp] at this; simp [hm] at this)
          have HPP := Lib.hid (Q.put_pl hS hp8)
          have HPut : Hid (Calls Try.prog 88 #[.slice As (Q.pl S).length cs, .int .i64 p] wr (rowSays1 (Q.pl (Q.putB S p)) wr)) := by
            have := l1PutNew_any As cs (Q.pl S) p wr HPn.out (by omega) hcs hcm (Law.Row.own hs')
            rw [HPP.out] at this
            exact Lib.hid this
          clear HLV HLA0 HKS0 HPS0 hlv hl hbp hP HLn hs hs' hap
          go_wp2_with fail
          go_at_call 86
          refine HH.out.mono ?_
          rintro e w' ⟨rfl, hw'⟩
          obtain rfl := hw'.symm
          clear hw'
          go_wp2_with fail
          go_at_call 88
          refine HPut.out.mono ?_
          rintro e w3 ⟨v3, rfl, ho3, hb3⟩
          have HAp := Lib.hid (Apart.new ho3 hv.out)
          have HNow := Lib.hid (own_down ho3 hb.out.size)
          have HPlan := Lib.hid (own_past hv.out hb3)
          have HBn := Lib.hid (Law.then_ hb.out hb3)
          clear ho3 hb3 hv hb hc HPut
          have hsz9 := (HBn.out).size
          go_wp2_with (at_builtin; refine list_app1 rfl _ _ 22 rfl Try.underlying22 hi hz0 hz1 hz2 rfl ((HPlan.out).alloc _) rfl (new_cell (w3) (.int .i64 (-1)) 3) ?ca9a ?ca9b ?_)
          case ca9a => omega
          case ca9b => (show w.heap.size ≤ _; first | omega | (simp; omega))
          intro v9 w9 hm9 hg9 ha9
          have HB9 := Lib.hid (((HBn.out).alloc hsz9 (.cells #[.int .i64 (-1)] 3)).grown hg9 (by simp; omega) (fun j e => Nat.le_trans (by omega) ((HPlan.out).lt j e).1))
          have hmk := hm9
          rw [← ivs_snoc] at hmk
          have HM9 := Lib.hid hmk
          have HN9 := Lib.hid (Apart.kept HAp.out (HNow.out.alloc (.cells #[.int .i64 (-1)] 3)) hg9)
          have HA9 := Lib.hid (Apart.next HAp.out ha9 (HNow.out.alloc (.cells #[.int .i64 (-1)] 3)))
          clear hmk hm9 hg9 ha9 HPlan HNow HAp
          go_wp2
          go_roundw
          case rel => exact ⟨j + 1, by omega, by go_num, (by show World.ownsRow _ _ _ _ _ _ _; rw [HPS.out]; exact HN9.out), (by show World.ownsRow _ _ _ _ _ _ _; rw [HKS.out]; exact HM9.out), HA9.out, HB9.out⟩
          case measure => simp [intOf]; omega
      · rw [hbp] at HH
        have hl : Q.lvOf k (Q.farAt zs) j S p = -1 := HLV.out.trans (if_neg (by simp [hbp]))
        rw [hl] at HPS0 HLA0
        have HKS : Hid (Q.planK k zs (Q.farAt zs) (j + 1) = Q.planK k zs (Q.farAt zs) j ++ [-1]) := Lib.hid (by rw [HKS0.out, HLA0.out])
        have HPS : Hid (Q.pst k zs (Q.farAt zs) (j + 1) = S) := Lib.hid (by rw [HPS0.out, Q.exB_old hbp])
        have HPP := Q.put_pl hS hp8
        rw [show Q.putB S p = S by unfold Q.putB; rw [if_pos hbp]] at HPP
        have HPut := Lib.hid (l1PutOld_any As cs (Q.pl S) p wr HPP (by omega) (Law.Row.own hs'))
        have HNow := Lib.hid hs'
        have HAp := hap
        have HPlan := hv
        have HBn := hb
        clear HLV HLA0 HKS0 HPS0 hlv hl hbp HLn hs hs' hap hv hb HPP
        go_wp2_with fail
        go_at_call 86
        refine HH.out.mono ?_
        rintro e w' ⟨rfl, hw'⟩
        obtain rfl := hw'.symm
        clear hw'
        go_wp2_with fail
        go_at_call 88
        refine (HPut.out).mono ?_
        rintro e w' ⟨rfl, hw'⟩
        obtain rfl := hw'.symm
        clear hw'
        have hsz9 := (HBn.out).size
        go_wp2_with (at_builtin; refine list_app1 rfl _ _ 22 rfl Try.underlying22 hi hz0 hz1 hz2 rfl ((HPlan.out).alloc _) rfl (new_cell (wr) (.int .i64 (-1)) 3) ?ca9a ?ca9b ?_)
        case ca9a => omega
        case ca9b => (show w.heap.size ≤ _; first | omega | (simp; omega))
        intro v9 w9 hm9 hg9 ha9
        have HB9 := Lib.hid (((HBn.out).alloc hsz9 (.cells #[.int .i64 (-1)] 3)).grown hg9 (by simp; omega) (fun j e => Nat.le_trans (by omega) ((HPlan.out).lt j e).1))
        have hmk := hm9
        rw [← ivs_snoc] at hmk
        have HM9 := Lib.hid hmk
        have HN9 := Lib.hid (Apart.kept HAp.out (HNow.out.alloc (.cells #[.int .i64 (-1)] 3)) hg9)
        have HA9 := Lib.hid (Apart.next HAp.out ha9 (HNow.out.alloc (.cells #[.int .i64 (-1)] 3)))
        clear hmk hm9 hg9 ha9 HPlan HNow HAp
        go_wp2
        go_roundw
        case rel => exact ⟨j + 1, by omega, by go_num, (by show World.ownsRow _ _ _ _ _ _ _; rw [HPS.out]; exact HN9.out), (by show World.ownsRow _ _ _ _ _ _ _; rw [HKS.out]; exact HM9.out), HA9.out, HB9.out⟩
        case measure => simp [intOf]; omega
    · have hje : j = zs.length := by omega
      have hltI : ¬ (j : Int) < (zs.length : Int) := by omega
      have HF : Hid (Q.planK k zs (Q.farAt zs) j = Q.planC k zs (Q.farAt zs)) := by show _ = _; rw [hje]; rfl
      have HJ := Lib.hid hje
      clear hje
      go_wp2
      go_ret
      have h := hv.out
      rw [HF.out] at h
      exact ⟨_, rfl, (by rw [Q.planC_len, ← HJ.out]; exact h), hb.out⟩
theorem specFar_any (k n : Int) (zs : List Int) (A : Option Addr) (c : Nat) (hl : zs.length ≤ 1048576) (w : World) (hcap : zs.length ≤ c) (hr : Law.Row w A (ivs zs)) :
    Calls Try.prog 27 #[.int .i64 k, .int .i64 n, .slice A zs.length c] w (rowSays (Q.farQ k n zs) w) := by
  have HT := Lib.hid (l5Takes_any k n A c zs w hl hr)
  cases ht : (Q.okS k && Q.good n zs)
  · rw [show Q.farQ k n zs = ([], false) by simp only [Q.farQ, ht]; rfl]
    rw [ht] at HT
    clear hr ht
    go_enter Try.func27, Try.ntmps27
    go_wp2_with fail
    go_at_call 49
    refine (HT.out).mono ?_
    rintro e w' ⟨rfl, hw'⟩
    obtain rfl := hw'.symm
    clear hw'
    go_wp2
    go_ret2
    exact ⟨_, rfl, ownsRow_nil _ _, (Below.refl _ _).alloc (Nat.le_refl _) _⟩
  · rw [show Q.farQ k n zs = (Q.planC k zs (Q.farAt zs), true) by simp only [Q.farQ, ht]; rfl]
    obtain ⟨hk, hg⟩ : Q.okS k = true ∧ Q.good n zs = true := by simpa using ht
    obtain ⟨N, rfl, h1, h2, h3, hx⟩ := Q.good_nat hg
    have hk' := Q.okS_iff.1 hk
    have HP := Lib.hid (l5FarPlan_any k A c zs w hk'.1 hk'.2 h3 (fun k hk => by obtain ⟨x, h1, h2⟩ := hx k hk; exact ⟨x, h1, by omega⟩) hr)
    rw [ht] at HT
    clear hr ht hk hg hx
    go_enter Try.func27, Try.ntmps27
    go_wp2_with fail
    go_at_call 49
    refine (HT.out).mono ?_
    rintro e w' ⟨rfl, hw'⟩
    obtain rfl := hw'.symm
    clear hw'
    go_wp2_with fail
    go_at_call 55
    refine HP.out.mono ?_
    rintro e w1 ⟨v1, rfl, ho, hb⟩
    have HO := Lib.hid ho
    have HB := Lib.hid hb
    clear ho hb
    go_wp2
    go_ret2
    exact ⟨_, rfl, HO.out, HB.out⟩
end Go.Proofs.Ytklpdfilhgjllaa
