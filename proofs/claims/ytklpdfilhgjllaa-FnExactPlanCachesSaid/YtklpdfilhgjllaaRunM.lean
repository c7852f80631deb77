/-
  The model's l5Run: the caches behind all places.
-/
import Derived.Test.YtklpdfilhgjllaaRunP
import Derived.Test.YtklpdfilhgjllaaNest
import Derived.Test.YtklpdfilhgjllaaOut
import Derived.Test.YtklpdfilhgjllaaOwnS
namespace Go.Proofs.Ytklpdfilhgjllaa
open Go.RowKit
set_option linter.unusedVariables false
/-- What l5Run says. -/
def mrunSays (X : Option (List Nat × Nat)) (w : World) (e : Ending) (w' : World) : Prop :=
  match X with
  | none => ∃ v, e = .returned (.tuple #[v, .int .i64 0, .bool false]) ∧ w'.ownsRow w.heap.size 22 1 v 0 [] ∧ Below w.heap.size w w'
  | some x => ∃ v xs, e = .returned (.tuple #[v, .int .i64 (x.2 : Nat), .bool true]) ∧ w'.ownsRow w.heap.size 22 1 v x.1.length xs ∧ NOwn w' w.heap.size xs (x.1.map Q.pl) ∧ Below w.heap.size w w'
theorem ints_ne : (3 : TypeId) ≠ 22 := by decide
set_option maxRecDepth 100000 in
set_option maxHeartbeats 800000 in
theorem l5Run_good (k : Int) (N : Nat) (A : Option Addr) (c : Nat) (zs : List Int) (B : Option Addr) (d : Nat) (ps : List Int) (w : World) (h1 : 1 ≤ N) (h8 : N ≤ 8) (h3 : zs.length ≤ 60) (hk1 : 1 ≤ k) (hk6 : k ≤ 6) (hx : ∀ k, k < zs.length → ∃ x : Nat, zs[k]? = some (x : Int) ∧ x < N) (hln : ps.length = zs.length) (hall : ps.all (Q.okL N) = true) (hr : Law.Row w A (ivs zs)) (hp : Law.Row w B (ivs ps)) :
    Calls Try.prog 51 #[.int .i64 k, .slice A zs.length c, .slice B ps.length d] w (mrunSays ((Q.stB k zs ps zs.length).map fun x => (Q.sets k zs ps zs.length, x.2)) w) := by
  obtain ⟨i0, hi, hz0, hz1, hz2⟩ := info_parts infoII
  have HR := Lib.hid hr
  have HQ := Lib.hid hp
  have HX := Lib.hid hx
  have HAll : Hid (∀ i l, ps[i]? = some l → -1 ≤ l ∧ l ≤ (N : Int) - 1) := fun i l h => (Q.okL_iff (by omega)).1 (Q.all_at hall h)
  have HBD : Hid (∀ i x, Q.stB k zs ps i = some x → x.1 < 256 ∧ x.2 ≤ i) := Lib.hid (Q.stB_bd (fun z hz => by
    obtain ⟨i, hi, rfl⟩ := List.mem_iff_getElem.1 hz
    obtain ⟨x, hx1, hx2⟩ := hx i hi
    rw [List.getElem?_eq_getElem hi] at hx1
    injection hx1 with hx1
    omega) (fun l hl => by
    have := (Q.okL_iff (n := (N : Int)) (by omega)).1 (List.all_eq_true.1 hall l hl)
    omega))
  have hlnI : (ps.length : Int) = (zs.length : Int) := by omega
  have HLN := Lib.hid hln
  clear hr hp hx hall hln
  go_enter Try.func51, Try.ntmps51
  go_wp2_with fail
  go_loopw [9, 10, 11, 12] (fun v q s i wr => ∃ j S f : Nat, j ≤ zs.length ∧ i = .int .i64 j ∧ q = .int .i64 f ∧ Hid (Q.stB k zs ps j = some (S, f)) ∧ Hid (wr.ownsRow w.heap.size 3 1 s (Q.pl S).length (ivs (Q.pl S))) ∧ Hid (∃ xs, wr.ownsRow w.heap.size 22 1 v j xs ∧ NOwn wr w.heap.size xs ((Q.sets k zs ps j).map Q.pl)) ∧ Hid (Below w.heap.size w wr)) (fun _ _ _ i _ => zs.length - (intOf i).toNat)
  case atStart =>
    have hd := own_down (ownsRow_nil (w.alloc (.cells #[] 22)) 3) (show w.heap.size ≤ _ by simp)
    exact ⟨0, 0, 0, Nat.zero_le _, rfl, rfl, rfl, (by show World.ownsRow _ _ _ _ _ _ _; have e0 : Q.pl 0 = [] := by decide
                                                      rw [e0]; simpa using hd), ⟨[], (ownsRow_nil w 22).alloc _, NOwn.nil _ _⟩, ((Below.refl _ _).alloc (Nat.le_refl _) _).alloc (by simp) _⟩
  case round =>
    obtain ⟨j, S, f, hj, rfl, rfl, hst, hs, hv, hb⟩ := hrel
    have hbd := HBD.out j _ hst.out
    simp only [] at hbd
    obtain ⟨hS, hf⟩ := hbd
    by_cases hlt : j < zs.length
    · obtain ⟨p, hpz, hpN⟩ := HX.out j hlt
      obtain ⟨l, hl⟩ : ∃ l, ps[j]? = some l := ⟨_, List.getElem?_eq_getElem (by have := HLN.out; omega)⟩
      have hlb := HAll.out j l hl
      have HST := Lib.hid (Q.stB_succ hst.out hpz hl)
      have hltI : (j : Int) < (zs.length : Int) := by omega
      have hp8 : p < 8 := by omega
      have hS2 : Q.exB S l p < 256 := Q.ex_lt hS hp8 (by omega)
      have HStep : Hid (Q.step k S f p l = if 0 ≤ l ∧ (S.testBit p = true ∨ S.testBit l.toNat = false) then none else if k < (Q.popB (Q.exB S l p) : Int) then none else some (Q.exB S l p, f + if S.testBit p then 0 else 1)) := rfl
      have HFail : Hid (Q.stB k zs ps (j + 1) = none → Q.stB k zs ps zs.length = none) := fun h => Q.stB_fail h (by omega)
      have HSets : Hid (∀ S' f', Q.stB k zs ps (j + 1) = some (S', f') → Q.sets k zs ps (j + 1) = Q.sets k zs ps j ++ [S']) := fun S' f' h => Q.sets_snoc h
      have hs' := hs.out
      obtain ⟨As, cs, rfl, hcs, hcm, _⟩ := Law.own_len hs'
      have hls : (Q.pl S).length ≤ 8 := by have := Q.len_pl hS; omega
      have HHp : Hid (∀ W, Below wr.heap.size wr W → Calls Try.prog 86 #[.slice As (Q.pl S).length cs, .int .i64 p] W fun e w' => e = .returned (.bool (S.testBit p)) ∧ w' = W) := fun W h => by
        have := l1Has_any As cs (Q.pl S) p W (by omega) ((Law.Row.own hs').stays h)
        rwa [Q.mem_pl hS hp8] at this
      have HHl : 0 ≤ l → Hid (∀ W, Below wr.heap.size wr W → Calls Try.prog 86 #[.slice As (Q.pl S).length cs, .int .i64 l] W fun e w' => e = .returned (.bool (S.testBit l.toNat)) ∧ w' = W) := fun h0 => Lib.hid fun W h => by
        have := l1Has_any As cs (Q.pl S) l W (by omega) ((Law.Row.own hs').stays h)
        rw [← Int.toNat_of_nonneg h0, Q.mem_pl hS (show l.toNat < 8 by omega), Int.toNat_of_nonneg h0] at this
        exact this
      have HHo : 0 ≤ l → Hid (∀ W, Below wr.heap.size wr W → Calls Try.prog 87 #[.slice As (Q.pl S).length cs, .int .i64 l] W (rowSays1 (Q.pl (Q.outB S l.toNat)) W)) := fun h0 => Lib.hid fun W h => by
        have := l5Out_any As cs (Q.pl S) l W (by omega) ((Law.Row.own hs').stays h)
        rw [← Int.toNat_of_nonneg h0, Q.out_pl hS (show l.toNat < 8 by omega), Int.toNat_of_nonneg h0] at this
        exact this
      have HEx : 0 ≤ l → Hid (Q.exB S l p = Q.putB (Q.outB S l.toNat) p) := fun h0 => Lib.hid (by unfold Q.exB; rw [if_pos h0])
      have HEx0 : ¬ 0 ≤ l → Hid (Q.exB S l p = Q.putB S p) := fun h0 => Lib.hid (by unfold Q.exB; rw [if_neg h0])
      obtain ⟨b, off, rfl, hbl2, hc⟩ := (HR.out.stays hb.out).at_ (ivs_some hpz)
      obtain ⟨b', off', rfl, hbl', hc'⟩ := (HQ.out.stays hb.out).at_ (ivs_some hl)
      have HW0 := HHp.out wr (Below.refl _ _)
      have HSB := Lib.hid hs'
      have HP0 : S.testBit p = false → Hid (¬ (p : Int) ∈ Q.pl S) := fun h => Lib.hid (fun hm => by have := Q.mem_pl hS hp8; rw [h] at this; simp [hm] at this)
      have HPO : ∀ S', S' < 256 → S'.testBit p = false → Hid (¬ (p : Int) ∈ Q.pl S') := fun S' hS' h => Lib.hid (fun hm => by have := Q.mem_pl hS' hp8; rw [h] at this; simp [hm] at this)
      clear hs' hpz hl hs
      cases hbp : S.testBit p
      · skip
        rw [hbp] at HW0
        go_wp2_with fail
        go_at_call 86
        refine HW0.mono ?_
        rintro e w' ⟨rfl, hw'⟩
        obtain rfl := hw'.symm
        clear hw'
        have HBn := Lib.hid hb.out
        by_cases hl0 : 0 ≤ l
        · have HH1 := Lib.hid ((HHl hl0).out wr (Below.refl _ _))
          cases hbl : S.testBit l.toNat
          · rw [hbl] at HH1
            have HNone : Hid (Q.stB k zs ps zs.length = none) := Lib.hid (HFail.out (by rw [HST.out, HStep.out, if_pos ⟨hl0, .inr hbl⟩]))
            clear HStep HST HFail HHl HHo HHp HEx HEx0 HP0 HPO HW0 hbp hbl
            go_wp2_with fail
            go_at_call 86
            refine HH1.out.mono ?_
            rintro e w' ⟨rfl, hw'⟩
            obtain rfl := hw'.symm
            clear hw'
            go_wp2
            go_ret3
            rw [HNone.out]
            exact ⟨_, rfl, own_down (ownsRow_nil _ _) HBn.out.size, HBn.out.alloc HBn.out.size _⟩
          · rw [hbl] at HH1
            have HCond : Hid (¬ (0 ≤ l ∧ (S.testBit p = true ∨ S.testBit l.toNat = false))) := fun h => by rcases h.2 with h | h; rw [hbp] at h; cases h; rw [hbl] at h; cases h
            have HOu := Lib.hid ((HHo hl0).out wr (Below.refl _ _))
            have hE := (HEx hl0).out
            have hT0 : Q.outB S l.toNat < 256 := Q.out_lt hS (by omega)
            have htb : (Q.outB S l.toNat).testBit p = false := Q.out_bit hS hp8 (by omega) hbp
            generalize hO : Q.outB S l.toNat = O at HOu hE hT0 htb
            have hO' := hO
            clear hO
            have HPn := HPO O hT0 htb
            have hT : Q.putB O p < 256 := Q.put_lt hT0 hp8
            have HTE := Lib.hid hE
            have hol : (Q.pl O).length ≤ 8 := by have := Q.len_pl hT0; omega
            have HPP := Lib.hid (Q.put_pl hT0 hp8)
            clear HHl HHo HHp HEx HEx0 HP0 HPO HW0 hbl hE htb hO'
            go_wp2_with fail
            go_at_call 86
            refine HH1.out.mono ?_
            rintro e w' ⟨rfl, hw'⟩
            obtain rfl := hw'.symm
            clear hw'
            go_wp2_with fail
            go_at_call 87
            refine HOu.out.mono ?_
            rintro e w1 ⟨v1, rfl, ho1, hb1⟩
            obtain ⟨A1, c1, rfl, hc1, hcm1, _⟩ := Law.own_len ho1
            have hcp1 : w1.cell? ⟨b, off + j, none⟩ = some (.int .i64 p) := (hb1.cell (p := ⟨b, off + j, none⟩) hbl2).trans hc
            have HPut : Hid (Calls Try.prog 88 #[.slice A1 (Q.pl O).length c1, .int .i64 p] w1 (rowSays1 (Q.pl (Q.putB O p)) w1)) := by
              have := l1PutNew_any A1 c1 (Q.pl O) p w1 HPn.out (by omega) hc1 hcm1 (Law.Row.own ho1)
              rw [HPP.out] at this
              exact Lib.hid this
            have HB1 := Lib.hid (Law.then_ hb.out hb1)
            have HV1 : Hid (∃ xs, w1.ownsRow w.heap.size 22 1 u9 j xs ∧ NOwn w1 w.heap.size xs ((Q.sets k zs ps j).map Q.pl)) := by obtain ⟨xs, h1, h2⟩ := hv.out; exact ⟨xs, own_past h1 hb1, h2.past hb1⟩
            clear ho1 hb1 hc hc' hb hv HSB HBn HOu HH1
            go_wp2_with fail
            go_at_call 88
            refine HPut.out.mono ?_
            rintro e w2 ⟨v2, rfl, ho2, hb2⟩
            obtain ⟨A2, c2, rfl, hc2, hcm2, _⟩ := Law.own_len ho2
            have HNow : Hid (w2.ownsRow w.heap.size 3 1 (.slice A2 (Q.pl (Q.putB O p)).length c2) (Q.pl (Q.putB O p)).length (ivs (Q.pl (Q.putB O p)))) := own_down ho2 HB1.out.size
            have HBn := Lib.hid (Law.then_ HB1.out hb2)
            have HV : Hid (∃ xs, w2.ownsRow w.heap.size 22 1 u9 j xs ∧ NOwn w2 w.heap.size xs ((Q.sets k zs ps j).map Q.pl)) := by obtain ⟨xs, h1, h2⟩ := HV1.out; exact ⟨xs, own_past h1 hb2, h2.past hb2⟩
            clear ho2 hb2 hcp1 HV1 HB1 HPut
            have hpl := Q.len_pl hT
            have HPop : Hid (((Q.pl (Q.putB O p)).length : Int) = (Q.popB (Q.exB S l p) : Int)) := by show _ = _; rw [HTE.out, hpl.1]
            have hpl8 : (Q.pl (Q.putB O p)).length ≤ 8 := by omega
            have HOwn := Lib.hid fun (W : World) (h : Below w2.heap.size w2 W) => l1Own_any A2 c2 (Q.pl (Q.putB O p)) W (by omega) ((Law.Row.own HNow.out).stays h)
            by_cases hcnt : k < ((Q.pl (Q.putB O p)).length : Int)
            · have HNone : Hid (Q.stB k zs ps zs.length = none) := Lib.hid (HFail.out (by rw [HST.out, HStep.out, if_neg HCond.out, if_pos (by rw [← HPop.out]; exact hcnt)]))
              clear HStep HCond HST HFail HPop HOwn hpl HTE
              go_wp2
              go_ret3
              rw [HNone.out]
              exact ⟨_, rfl, own_down (ownsRow_nil _ _) HBn.out.size, HBn.out.alloc HBn.out.size _⟩
            · have HSome : Hid (Q.stB k zs ps (j + 1) = some ((Q.putB O p), f + 1)) := Lib.hid (by rw [HST.out, HStep.out, if_neg HCond.out, if_neg (by rw [← HPop.out]; exact hcnt), HTE.out, hbp]; rfl)
              have HSS := Lib.hid (HSets.out _ _ HSome.out)
              have HOw := Lib.hid (HOwn.out _ (Below.refl _ _))
              clear HStep HCond HST HFail HPop HTE HOwn hpl hbp
              generalize hTL : Q.pl (Q.putB O p) = tl at HOw HNow hcnt hpl8 ⊢
              have HTL := Lib.hid hTL
              clear hTL
              go_wp2_with fail
              go_at_call 89
              refine HOw.out.mono ?_
              rintro e wo ⟨vo, rfl, hoo, hbo⟩
              obtain ⟨xs, ho1, hn1⟩ := HV.out
              have ho2 := own_past ho1 hbo
              have hn2 := hn1.past hbo
              have hn3 := NOwn.snoc hn1 hn2 hoo HBn.out.size
              have hnw := own_past HNow.out hbo
              have hbw := Law.then_ HBn.out hbo
              have hxs : xs.length = j := by have := ho1.1; omega
              have HN3 := Lib.hid hn3
              have HNW := Lib.hid hnw
              obtain ⟨Ao, co, rfl, hco, _, _⟩ := Law.own_len hoo
              have HO2 := Lib.hid ho2
              have HBW := Lib.hid hbw
              have hszw := hbw.size
              clear hoo hbo ho1 hn1 ho2 hn2 hn3 hnw hbw HOw HV HNow HBn
              go_wp2_with (at_builtin; refine wpList_append_own _ rfl _ _ 30 rfl w.heap.size 22 i0 (.slice none 0 0) 1 24 Try.underlying30 hi hz0 hz1 hz2 rfl (by decide) _ _ _ rfl (HO2.out.alloc _) ⟨wo.heap.size, 0, none⟩ 1 1 [.slice Ao tl.length co] rfl rfl ?ca ?cb ?cc ?cd ?ce ?_)
              case ca =>
                intro j' u hj'
                match j', hj' with
                | 0, hj' => simp at hj'; subst hj'; simp [Addr.add]
              case cb => intro u hu; simp at hu; subst hu; rfl
              case cc => unfold maxLen; omega
              case cd => omega
              case ce => simp; omega
              intro v9 w9 hm9 hg9 _
              have HB9 := Lib.hid ((HBW.out.alloc hszw (.cells #[.slice Ao tl.length co] 22)).grown hg9 (by simp; omega) (fun j e => (HO2.out.lt j e).1))
              have HV9 : Hid (∃ xs, w9.ownsRow w.heap.size 22 1 v9 (j + 1) xs ∧ NOwn w9 w.heap.size xs ((Q.sets k zs ps (j + 1)).map Q.pl)) := by
                refine ⟨_, hm9, ?_⟩
                rw [HSS.out, List.map_append]
                show NOwn w9 w.heap.size _ ((Q.sets k zs ps j).map Q.pl ++ [Q.pl (Q.putB O p)])
                rw [HTL.out]
                exact (HN3.out.alloc _).outer ints_ne (HO2.out.alloc _) hg9
              have HNW9 : Hid (w9.ownsRow w.heap.size 3 1 (.slice A2 tl.length c2) tl.length (ivs tl)) := (HNW.out.alloc (.cells #[.slice Ao tl.length co] 22)).kept hg9 (own_types ints_ne HNW.out HO2.out)
              clear hm9 hg9
              go_wp2
              go_roundw
              case rel => exact ⟨j + 1, (Q.putB O p), f + 1, by omega, by go_num, by go_num, HSome.out, (by show World.ownsRow _ _ _ _ _ _ _; rw [HTL.out]; exact HNW9.out), HV9.out, HB9.out⟩
              case measure => simp [intOf]; omega
        · have HCond : Hid (¬ (0 ≤ l ∧ (S.testBit p = true ∨ S.testBit l.toNat = false))) := fun h => hl0 h.1
          have HTE := HEx0 (by omega)
          have hT : Q.putB S p < 256 := Q.put_lt hS hp8
          have HPn := HP0 hbp
          have HPP := Lib.hid (Q.put_pl hS hp8)
          have HPut : Hid (Calls Try.prog 88 #[.slice As (Q.pl S).length cs, .int .i64 p] wr (rowSays1 (Q.pl (Q.putB S p)) wr)) := by
            have := l1PutNew_any As cs (Q.pl S) p wr HPn.out (by omega) hcs hcm (Law.Row.own HSB.out)
            rw [HPP.out] at this
            exact Lib.hid this
          clear HHl HHo HHp HEx HEx0 HP0 HPO HW0
          go_wp2_with fail
          go_at_call 88
          refine HPut.out.mono ?_
          rintro e w2 ⟨v2, rfl, ho2, hb2⟩
          obtain ⟨A2, c2, rfl, hc2, hcm2, _⟩ := Law.own_len ho2
          have HNow : Hid (w2.ownsRow w.heap.size 3 1 (.slice A2 (Q.pl (Q.putB S p)).length c2) (Q.pl (Q.putB S p)).length (ivs (Q.pl (Q.putB S p)))) := own_down ho2 hb.out.size
          replace HBn := Lib.hid (Law.then_ hb.out hb2)
          have HV : Hid (∃ xs, w2.ownsRow w.heap.size 22 1 u9 j xs ∧ NOwn w2 w.heap.size xs ((Q.sets k zs ps j).map Q.pl)) := by obtain ⟨xs, h1, h2⟩ := hv.out; exact ⟨xs, own_past h1 hb2, h2.past hb2⟩
          clear ho2 hb2 hc hc' hb hv HSB HPut
          have hpl := Q.len_pl hT
          have HPop : Hid (((Q.pl (Q.putB S p)).length : Int) = (Q.popB (Q.exB S l p) : Int)) := by show _ = _; rw [HTE.out, hpl.1]
          have hpl8 : (Q.pl (Q.putB S p)).length ≤ 8 := by omega
          have HOwn := Lib.hid fun (W : World) (h : Below w2.heap.size w2 W) => l1Own_any A2 c2 (Q.pl (Q.putB S p)) W (by omega) ((Law.Row.own HNow.out).stays h)
          by_cases hcnt : k < ((Q.pl (Q.putB S p)).length : Int)
          · have HNone : Hid (Q.stB k zs ps zs.length = none) := Lib.hid (HFail.out (by rw [HST.out, HStep.out, if_neg HCond.out, if_pos (by rw [← HPop.out]; exact hcnt)]))
            clear HStep HCond HST HFail HPop HOwn hpl HTE
            go_wp2
            go_ret3
            rw [HNone.out]
            exact ⟨_, rfl, own_down (ownsRow_nil _ _) HBn.out.size, HBn.out.alloc HBn.out.size _⟩
          · have HSome : Hid (Q.stB k zs ps (j + 1) = some ((Q.putB S p), f + 1)) := Lib.hid (by rw [HST.out, HStep.out, if_neg HCond.out, if_neg (by rw [← HPop.out]; exact hcnt), HTE.out, hbp]; rfl)
            have HSS := Lib.hid (HSets.out _ _ HSome.out)
            have HOw := Lib.hid (HOwn.out _ (Below.refl _ _))
            clear HStep HCond HST HFail HPop HTE HOwn hpl hbp
            generalize hTL : Q.pl (Q.putB S p) = tl at HOw HNow hcnt hpl8 ⊢
            have HTL := Lib.hid hTL
            clear hTL
            go_wp2_with fail
            go_at_call 89
            refine HOw.out.mono ?_
            rintro e wo ⟨vo, rfl, hoo, hbo⟩
            obtain ⟨xs, ho1, hn1⟩ := HV.out
            have ho2 := own_past ho1 hbo
            have hn2 := hn1.past hbo
            have hn3 := NOwn.snoc hn1 hn2 hoo HBn.out.size
            have hnw := own_past HNow.out hbo
            have hbw := Law.then_ HBn.out hbo
            have hxs : xs.length = j := by have := ho1.1; omega
            have HN3 := Lib.hid hn3
            have HNW := Lib.hid hnw
            obtain ⟨Ao, co, rfl, hco, _, _⟩ := Law.own_len hoo
            have HO2 := Lib.hid ho2
            have HBW := Lib.hid hbw
            have hszw := hbw.size
            clear hoo hbo ho1 hn1 ho2 hn2 hn3 hnw hbw HOw HV HNow HBn
            go_wp2_with (at_builtin; refine wpList_append_own _ rfl _ _ 30 rfl w.heap.size 22 i0 (.slice none 0 0) 1 24 Try.underlying30 hi hz0 hz1 hz2 rfl (by decide) _ _ _ rfl (HO2.out.alloc _) ⟨wo.heap.size, 0, none⟩ 1 1 [.slice Ao tl.length co] rfl rfl ?ca ?cb ?cc ?cd ?ce ?_)
            case ca =>
              intro j' u hj'
              match j', hj' with
              | 0, hj' => simp at hj'; subst hj'; simp [Addr.add]
            case cb => intro u hu; simp at hu; subst hu; rfl
            case cc => unfold maxLen; omega
            case cd => omega
            case ce => simp; omega
            intro v9 w9 hm9 hg9 _
            have HB9 := Lib.hid ((HBW.out.alloc hszw (.cells #[.slice Ao tl.length co] 22)).grown hg9 (by simp; omega) (fun j e => (HO2.out.lt j e).1))
            have HV9 : Hid (∃ xs, w9.ownsRow w.heap.size 22 1 v9 (j + 1) xs ∧ NOwn w9 w.heap.size xs ((Q.sets k zs ps (j + 1)).map Q.pl)) := by
              refine ⟨_, hm9, ?_⟩
              rw [HSS.out, List.map_append]
              show NOwn w9 w.heap.size _ ((Q.sets k zs ps j).map Q.pl ++ [Q.pl (Q.putB S p)])
              rw [HTL.out]
              exact (HN3.out.alloc _).outer ints_ne (HO2.out.alloc _) hg9
            have HNW9 : Hid (w9.ownsRow w.heap.size 3 1 (.slice A2 tl.length c2) tl.length (ivs tl)) := (HNW.out.alloc (.cells #[.slice Ao tl.length co] 22)).kept hg9 (own_types ints_ne HNW.out HO2.out)
            clear hm9 hg9
            go_wp2
            go_roundw
            case rel => exact ⟨j + 1, (Q.putB S p), f + 1, by omega, by go_num, by go_num, HSome.out, (by show World.ownsRow _ _ _ _ _ _ _; rw [HTL.out]; exact HNW9.out), HV9.out, HB9.out⟩
            case measure => simp [intOf]; omega
      · skip
        rw [hbp] at HW0
        go_wp2_with fail
        go_at_call 86
        refine HW0.mono ?_
        rintro e w' ⟨rfl, hw'⟩
        obtain rfl := hw'.symm
        clear hw'
        have HBn := Lib.hid hb.out
        by_cases hl0 : 0 ≤ l
        · have HNone : Hid (Q.stB k zs ps zs.length = none) := Lib.hid (HFail.out (by rw [HST.out, HStep.out, if_pos ⟨hl0, .inl hbp⟩]))
          clear HStep HST HFail HHl HHo HHp HEx HEx0 HP0 HPO HW0 hbp
          go_wp2
          go_ret3
          rw [HNone.out]
          exact ⟨_, rfl, own_down (ownsRow_nil _ _) HBn.out.size, HBn.out.alloc HBn.out.size _⟩
        · have HCond : Hid (¬ (0 ≤ l ∧ (S.testBit p = true ∨ S.testBit l.toNat = false))) := fun h => hl0 h.1
          have HTE : Hid (Q.exB S l p = S) := by show _ = _; rw [(HEx0 (by omega)).out]; unfold Q.putB; rw [if_pos hbp]
          have hT := hS
          obtain ⟨A2, hA2⟩ : ∃ A2, A2 = As := ⟨_, rfl⟩
          obtain ⟨c2, hc2⟩ : ∃ c2, c2 = cs := ⟨_, rfl⟩
          rw [← hA2, ← hc2] at HSB ⊢
          have HNow := HSB
          have HV := hv
          clear HHl HHo HHp HEx HEx0 HP0 HPO HW0 hA2 hc2 hb hv HSB
          have hpl := Q.len_pl hT
          have HPop : Hid (((Q.pl S).length : Int) = (Q.popB (Q.exB S l p) : Int)) := by show _ = _; rw [HTE.out, hpl.1]
          have hpl8 : (Q.pl S).length ≤ 8 := by omega
          have HOwn := Lib.hid fun (W : World) (h : Below wr.heap.size wr W) => l1Own_any A2 c2 (Q.pl S) W (by omega) ((Law.Row.own HNow.out).stays h)
          by_cases hcnt : k < ((Q.pl S).length : Int)
          · have HNone : Hid (Q.stB k zs ps zs.length = none) := Lib.hid (HFail.out (by rw [HST.out, HStep.out, if_neg HCond.out, if_pos (by rw [← HPop.out]; exact hcnt)]))
            clear HStep HCond HST HFail HPop HOwn hpl HTE
            go_wp2
            go_ret3
            rw [HNone.out]
            exact ⟨_, rfl, own_down (ownsRow_nil _ _) HBn.out.size, HBn.out.alloc HBn.out.size _⟩
          · have HSome : Hid (Q.stB k zs ps (j + 1) = some (S, f)) := Lib.hid (by rw [HST.out, HStep.out, if_neg HCond.out, if_neg (by rw [← HPop.out]; exact hcnt), HTE.out, hbp]; rfl)
            have HSS := Lib.hid (HSets.out _ _ HSome.out)
            have HOw := Lib.hid (HOwn.out _ (Below.refl _ _))
            clear HStep HCond HST HFail HPop HTE HOwn hpl hbp
            generalize hTL : Q.pl S = tl at HOw HNow hcnt hpl8 ⊢
            have HTL := Lib.hid hTL
            clear hTL
            go_wp2_with fail
            go_at_call 89
            refine HOw.out.mono ?_
            rintro e wo ⟨vo, rfl, hoo, hbo⟩
            obtain ⟨xs, ho1, hn1⟩ := HV.out
            have ho2 := own_past ho1 hbo
            have hn2 := hn1.past hbo
            have hn3 := NOwn.snoc hn1 hn2 hoo HBn.out.size
            have hnw := own_past HNow.out hbo
            have hbw := Law.then_ HBn.out hbo
            have hxs : xs.length = j := by have := ho1.1; omega
            have HN3 := Lib.hid hn3
            have HNW := Lib.hid hnw
            obtain ⟨Ao, co, rfl, hco, _, _⟩ := Law.own_len hoo
            have HO2 := Lib.hid ho2
            have HBW := Lib.hid hbw
            have hszw := hbw.size
            clear hoo hbo ho1 hn1 ho2 hn2 hn3 hnw hbw HOw HV HNow HBn
            go_wp2_with (at_builtin; refine wpList_append_own _ rfl _ _ 30 rfl w.heap.size 22 i0 (.slice none 0 0) 1 24 Try.underlying30 hi hz0 hz1 hz2 rfl (by decide) _ _ _ rfl (HO2.out.alloc _) ⟨wo.heap.size, 0, none⟩ 1 1 [.slice Ao tl.length co] rfl rfl ?ca ?cb ?cc ?cd ?ce ?_)
            case ca =>
              intro j' u hj'
              match j', hj' with
              | 0, hj' => simp at hj'; subst hj'; simp [Addr.add]
            case cb => intro u hu; simp at hu; subst hu; rfl
            case cc => unfold maxLen; omega
            case cd => omega
            case ce => simp; omega
            intro v9 w9 hm9 hg9 _
            have HB9 := Lib.hid ((HBW.out.alloc hszw (.cells #[.slice Ao tl.length co] 22)).grown hg9 (by simp; omega) (fun j e => (HO2.out.lt j e).1))
            have HV9 : Hid (∃ xs, w9.ownsRow w.heap.size 22 1 v9 (j + 1) xs ∧ NOwn w9 w.heap.size xs ((Q.sets k zs ps (j + 1)).map Q.pl)) := by
              refine ⟨_, hm9, ?_⟩
              rw [HSS.out, List.map_append]
              show NOwn w9 w.heap.size _ ((Q.sets k zs ps j).map Q.pl ++ [Q.pl S])
              rw [HTL.out]
              exact (HN3.out.alloc _).outer ints_ne (HO2.out.alloc _) hg9
            have HNW9 : Hid (w9.ownsRow w.heap.size 3 1 (.slice A2 tl.length c2) tl.length (ivs tl)) := (HNW.out.alloc (.cells #[.slice Ao tl.length co] 22)).kept hg9 (own_types ints_ne HNW.out HO2.out)
            clear hm9 hg9
            go_wp2
            go_roundw
            case rel => exact ⟨j + 1, S, f, by omega, by go_num, by go_num, HSome.out, (by show World.ownsRow _ _ _ _ _ _ _; rw [HTL.out]; exact HNW9.out), HV9.out, HB9.out⟩
            case measure => simp [intOf]; omega
    · have hje : j = zs.length := by omega
      have hltI : ¬ (j : Int) < (zs.length : Int) := by omega
      have HEnd : Hid (Q.stB k zs ps zs.length = some (S, f)) := by show _ = _; rw [← hje]; exact hst.out
      have HJ := Lib.hid hje
      clear hje
      go_wp2
      go_ret3
      rw [HEnd.out]
      obtain ⟨xs, h1, h2⟩ := hv.out
      rw [HJ.out] at h1 h2
      exact ⟨_, xs, rfl, (by show World.ownsRow _ _ _ _ _ (Q.sets k zs ps zs.length).length _; rw [Q.sets_len]; exact h1), h2, hb.out⟩
end Go.Proofs.Ytklpdfilhgjllaa
