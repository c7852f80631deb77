/-
  What is next to an offset: the function literals of offsetsFrom. offsetsFrom: all offsets of a start state, and the steps between them. The code's OffsetsOf.
-/
import Derived.Test.YthpoeeadhjnljaaGx
import Derived.Test.YthpoeeadhjnljaaGfO
import Derived.Test.YthpoeeadhjnljaaAo9
/- What is next to an offset: the function literals of offsetsFrom. -/
namespace Go.Proofs.Ythpoeeadhjnljaa
open Go.RowKit Go.Shelf
set_option linter.unusedVariables false
attribute [local go_sem] Oper.semAt_some
/-- Behind whichever operations of the region with the call of yield have come up. -/
structure I3 (n : Nat) (B0 : Nat) (L S : List (List Int)) (x : List Int) (k : Nat) (wr : World) (J Jx : List (AO n) → World → Prop) (es : List (AO n)) (w0 : World) (b1 b2 b3 b5 b6 b9 b10 : Bool) (A14 : Option Addr) (A16 : Option Addr) (r : Bool) (w : World) : Prop where
  bl : b9 = false → Below wr.heap.size wr w
  r14 : b3 = true → b9 = false → Law.Row w A14 (ivs x)
  r16 : b5 = true → b9 = false → Law.Row w A16 (ivs (Q.nextQ L S x k))
  out : b9 = true → (r = true ∧ J (es.take (k + 1)) w ∧ KeepsKO w0.heap.size B0 wr w) ∨ (r = false ∧ Jx (es.take (k + 1)) w)
  d9 : b9 = true → b1 = true ∧ b2 = true ∧ b3 = true ∧ b5 = true
  d5 : b5 = true → b1 = true ∧ b3 = true
  d6 : b6 = true → b5 = true
  d3 : b3 = true → b2 = true
  d10 : b10 = true → b9 = true
  d96 : b9 = true → b6 = true
def J3 (u : Nat → Value) (l pb B0 n : Nat) (A : Option Addr) (c : Nat) (L : List (List Int)) (B : Option Addr) (d : Nat) (S : List (List Int)) (x : List Int) (k : Nat) (wr : World) (J Jx : List (AO n) → World → Prop) (es : List (AO n)) (w0 : World) (b0 b1 b2 b3 b4 b5 b6 b7 b8 b9 b10 : Bool) (a : Act) (w : World) : Prop :=
  ∃ (A14 : Option Addr) (c14 : Nat) (A16 : Option Addr) (c16 : Nat) (r : Bool), a = { tmps := (List.toArray ((.func (.yield l) #[] #[]) :: (.pointer (some ⟨pb, 0, none⟩)) :: (.pointer (some ⟨B0, 0, none⟩)) :: (u 3) :: (.int .i64 (k : Int)) :: (u 5) :: (u 6) :: (u 7) :: (u 8) :: (u 9) :: (u 10) :: (pk b0 (.func (.yield l) #[] #[]) (u 11)) :: (pk b1 (pv A L.length c B S.length d) (u 12)) :: (pk b2 (kvO x) (u 13)) :: (pk b3 (.slice A14 x.length c14) (u 14)) :: (pk b4 (.int .i64 (k : Int)) (u 15)) :: (pk b5 (.slice A16 (Q.nextQ L S x k).length c16) (u 16)) :: (pk b6 (.tuple #[kvO (Q.offL (Q.nextQ L S x k)), .int .i64 (Q.leastK (Q.nextQ L S x k) (Q.nextQ L S x k).length)]) (u 17)) :: (pk b7 (kvO (Q.offL (Q.nextQ L S x k))) (u 18)) :: (pk b8 (.int .i64 (Q.leastK (Q.nextQ L S x k) (Q.nextQ L S x k).length)) (u 19)) :: (pk b9 (.bool r) (u 20)) :: (pk b10 (.bool (!r)) (u 21)) :: (u 22) :: [])), defers := [] } ∧ I3 n B0 L S x k wr J Jx es w0 b1 b2 b3 b5 b6 b9 b10 A14 A16 r w
set_option maxRecDepth 100000 in
set_option maxHeartbeats 3200000 in
theorem iterO_in (A : Option Addr) (c : Nat) (xs : List Value) (L : List (List Int)) (B : Option Addr) (d : Nat) (ys : List Value) (S : List (List Int)) (hpr : Q.Pr L S) (w0 : World) (pb : Nat) (hpb : Hb w0 pb #[.slice A L.length c, .slice B S.length d] 29) (hL : NRow w0 A xs L) (hS : NRow w0 B ys S) (x : List Int) (hx : Q.OkO L.length x) (l B0 : Nat) (J Jx : List (AO L.length) → World → Prop)
    (V : World) (hV : Below w0.heap.size w0 V) (hB0 : Hb V B0 (csO x).toArray 98) (hJ : AbidesFrom V.heap.size J)
    (hY : ∀ pre e W, J pre W → pre.length < (Q.stpO L S x).length → YieldAt Fence.wide 1 Try.prog l #[kvO e.1.1, .int .i64 e.1.2] W fun en W' => (en = .returned (.bool true) ∧ J (pre ++ [e]) W' ∧ KeepsKO w0.heap.size B0 W W') ∨ (en = .returned (.bool false) ∧ Jx (pre ++ [e]) W')) (h0 : J [] V) :
    CallsIn Fence.wide 2 Try.prog 112 #[.func (.yield l) #[] #[], .pointer (some ⟨pb, 0, none⟩), .pointer (some ⟨B0, 0, none⟩)] V fun e W' => (∃ v, e = .returned v) ∧ ((∃ es, es.map (·.1) = Q.stpO L S x ∧ J es W') ∨ (∃ pre, pre.map (·.1) <+: Q.stpO L S x ∧ Jx pre W')) := by
  have hro : Fence.wide.round = none := rfl
  obtain ⟨es, hes⟩ : ∃ es : List (AO L.length), es.map (·.1) = Q.stpO L S x := ⟨(Q.stpO L S x).pmap (fun e h => ⟨e, h⟩) (fun e he => Q.stpO_ok hpr x hx e he), by rw [List.map_pmap]; simp⟩
  have hesl : es.length = S.length := by rw [← Q.stpO_len L S x, ← hes, List.length_map]
  have HPB := Lib.hid fun (W : World) (h : Below w0.heap.size w0 W) => hpb.on h
  have HNN := Lib.hid fun (W : World) (h : Below w0.heap.size w0 W) => And.intro (hL.stays h) (hS.stays h)
  have HPR := Lib.hid hpr
  have HX2 := Lib.hid hx
  have HES := Lib.hid hes
  have HEL := Lib.hid hesl
  have HJ := Lib.hid hJ
  have HY := Lib.hid hY
  have HSL := Lib.hid (Q.stpO_len L S x)
  have hn1 := hpr.n1
  have hn4 := hpr.n4
  have hm4 := hpr.m4
  have HX : Hid (1 ≤ x.length ∧ x.length ≤ 4) := Lib.hid (by rw [hx.len]; exact ⟨hn1, hn4⟩)
  have HX3 : Hid (1 ≤ L.length ∧ L.length ≤ 4) := Lib.hid ⟨hn1, hn4⟩
  have HEV : Hid (∀ k, k < S.length → ∃ e : AO L.length, es[k]? = some e ∧ e.1 = (Q.offL (Q.nextQ L S x k), Q.leastK (Q.nextQ L S x k) (Q.nextQ L S x k).length)) := Lib.hid fun k hk => by
    have h1 : k < es.length := by omega
    refine ⟨es[k], List.getElem?_eq_getElem h1, ?_⟩
    have h2 := Q.stpO_at (L := L) (S := S) (v := x) hk
    rw [← hes, List.getElem?_map, List.getElem?_eq_getElem h1] at h2
    simpa [Q.offP] using h2
  have H0 := Lib.hid h0
  have HB0 := Lib.hid hB0
  have HVb := Lib.hid hV
  clear hpb hL hS hpr hx hes hesl hJ hY h0 hB0 hV hn1 hn4
  refine callsIn_of_wp Try.func112 rfl trivial ?_ hro
  simp only [Try.ntmps112, List.size_toArray, List.length_cons, List.length_nil, Nat.reduceAdd, Nat.reduceSub, Array.replicate_succ, Array.replicate_zero, List.push_toArray, List.append_toArray, List.nil_append, List.cons_append]
  have hp0 := HPB.out V HVb.out
  have cp0 := hp0.cell (i := 0) (v := .slice A L.length c) rfl
  have cp1 := hp0.cell (i := 1) (v := .slice B S.length d) rfl
  clear hp0
  gi_wp2
  gi_loopw [8] (fun i wr => ∃ k : Nat, k ≤ S.length ∧ i = .int .i64 (k : Int) ∧ Hid (J (es.take k) wr) ∧ Hid (Below w0.heap.size w0 wr ∧ V.heap.size ≤ wr.heap.size) ∧ Hid (Hb wr B0 (csO x).toArray 98)) (fun i _ => S.length - (intOf i).toNat)
  case atStart => exact ⟨0, Nat.zero_le _, rfl, by rw [List.take_zero]; exact H0, Lib.hid ⟨HVb.out, Nat.le_refl _⟩, HB0⟩
  case round =>
    obtain ⟨k, hk, rfl, hJk, hbk, hxk⟩ := hrel
    clear cp0 cp1
    by_cases hkm : k < S.length
    · have hltI : (k : Int) < (S.length : Int) := by omega
      have HPB2 := Lib.hid fun (W : World) (h : Below wr.heap.size wr W) => HPB.out W (hbk.out.1.trans (h.mono hbk.out.1.size))
      have HN := Lib.hid fun (W : World) (h : Below wr.heap.size wr W) => HNN.out W (hbk.out.1.trans (h.mono hbk.out.1.size))
      have HXB := Lib.hid fun (W : World) (h : Below wr.heap.size wr W) => hxk.out.on h
      obtain ⟨e, he, hee⟩ := HEV.out k hkm
      have HTK : Hid (es.take (k + 1) = es.take k ++ [e]) := Lib.hid (by rw [List.take_add_one, he]; rfl)
      have HNL : Hid ((Q.nextQ L S x k).length = L.length) := Lib.hid (Q.nextQ_len _ _ _ _)
      have HNV : Hid (Q.Vals L.length 1000000 (Q.nextQ L S x k)) := Lib.hid ((Q.nextQ_vals HPR.out hkm HX2.out.vals).wide (by omega))
      have HY2 : Hid (∀ W, Below wr.heap.size wr W → YieldAt Fence.wide 1 Try.prog l #[kvO (Q.offL (Q.nextQ L S x k)), .int .i64 (Q.leastK (Q.nextQ L S x k) (Q.nextQ L S x k).length)] W fun en W' => (en = .returned (.bool true) ∧ J (es.take (k + 1)) W' ∧ KeepsKO w0.heap.size B0 wr W') ∨ (en = .returned (.bool false) ∧ Jx (es.take (k + 1)) W')) := Lib.hid fun W hW => by
        have hJW : J (es.take k) W := HJ.out _ _ _ none hJk.out ⟨hW.os, hW.tape, hW.output, hW.size, fun q hq _ => hW.block q hq⟩ (fun q e => by cases e)
        have h := HY.out (es.take k) e W hJW (by rw [HSL.out, List.length_take]; omega)
        rw [hee] at h
        rw [HTK.out]
        refine h.mono fun en W' h => h.imp (fun ⟨h1, h2, h3⟩ => ⟨h1, h2, ?_, fun o ho => h3.2 o ((hW.block B0 (Array.getElem?_eq_some_iff.1 ho).1).trans ho)⟩) id
        exact (hW.mono hbk.out.1.size).trans h3.1
      obtain ⟨HPB, HY⟩ : Hid (∀ (W : World), Below wr.heap.size wr W → Hb W pb #[.slice A L.length c, .slice B S.length d] 29) ∧ Hid (∀ W, Below wr.heap.size wr W → YieldAt Fence.wide 1 Try.prog l #[kvO (Q.offL (Q.nextQ L S x k)), .int .i64 (Q.leastK (Q.nextQ L S x k) (Q.nextQ L S x k).length)] W fun en W' => (en = .returned (.bool true) ∧ J (es.take (k + 1)) W' ∧ KeepsKO w0.heap.size B0 wr W') ∨ (en = .returned (.bool false) ∧ Jx (es.take (k + 1)) W')) := ⟨HPB2, HY2⟩
      clear HPB2 HY2 he hee
      have hfL : Fence.wide.fn 87 := trivial
      have hfW : Fence.wide.fn 79 := trivial
      have hfO : Fence.wide.fn 109 := trivial
      gi_upto_region 3 with (fail)
      gi_cut [20, 21] from 11 (fun s20 s21 wc => ∃ r : Bool, s20 = .bool r ∧ s21 = .bool (!r) ∧ Hid ((r = true ∧ J (es.take (k + 1)) wc ∧ KeepsKO w0.heap.size B0 wr wc) ∨ (r = false ∧ Jx (es.take (k + 1)) wc)))
      case first =>
        rename_i J' K' hJ' hK'
        refine region_invIn_u (by kernel_rfl) (by kernel_rfl) (fun u b a w => (∀ a' w', J3 u l pb B0 L.length A c L B d S x k wr J Jx es w0 true true true true true true true true true true true a' w' → K' a' w') ∧ J3 u l pb B0 L.length A c L B d S x k wr J Jx es w0 (b 0) (b 1) (b 2) (b 3) (b 4) (b 5) (b 6) (b 7) (b 8) (b 9) (b 10) a w) ?h3 ?s3 ?d3
        case h3 =>
          refine ⟨fun a' w' h => ?_, none, 0, none, 0, false, rfl, ⟨fun _ => (Below.refl _ _).drew, fun e => (by cases e), fun e => (by cases e), fun e => (by cases e), fun e => (by cases e), fun e => (by cases e), fun e => (by cases e), fun e => (by cases e), fun e => (by cases e), fun e => (by cases e)⟩⟩
          obtain ⟨A14, c14, A16, c16, r, rfl, hI⟩ := h
          refine hK' _ _ (Met.intro (hJ' _ _ ?_))
          (repeat apply Exists.intro)
          exact ⟨⟨r, rfl, rfl, Lib.hid (hI.out rfl)⟩, rfl⟩
        case s3 =>
          intro u b a w i o hI hb2 ho hpre
          obtain ⟨HQ, A14, c14, A16, c16, r, rfl, hI⟩ := hI
          replace HQ := Lib.hid HQ
          have hi : i < 11 := (Array.getElem?_eq_some_iff.1 ho).1
          rcases (by omega : i = 0 ∨ i = 1 ∨ i = 2 ∨ i = 3 ∨ i = 4 ∨ i = 5 ∨ i = 6 ∨ i = 7 ∨ i = 8 ∨ i = 9 ∨ i = 10) with rfl | rfl | rfl | rfl | rfl | rfl | rfl | rfl | rfl | rfl | rfl
          · injection (show some _ = some o from ho) with ho
            subst ho
            clear hpre
            refine wpOpIn_step rfl (fun K2 hK2 => ?_)
            replace hK2 : ∀ a w, J3 u l pb B0 L.length A c L B d S x k wr J Jx es w0 true (b 1) (b 2) (b 3) (b 4) (b 5) (b 6) (b 7) (b 8) (b 9) (b 10) a w → K2 a w := fun a w h => hK2 a w ⟨HQ.out, h⟩
            generalize b 0 = b0 at *
            generalize b 1 = b1 at *
            generalize b 2 = b2 at *
            generalize b 3 = b3 at *
            generalize b 4 = b4 at *
            generalize b 5 = b5 at *
            generalize b 6 = b6 at *
            generalize b 7 = b7 at *
            generalize b 8 = b8 at *
            generalize b 9 = b9 at *
            generalize b 10 = b10 at *
            clear b
            subst hb2
            simp only [pk] at hI ⊢
            go_simp
            exact hK2 _ _ ⟨A14, c14, A16, c16, r, rfl, hI⟩
          · injection (show some _ = some o from ho) with ho
            subst ho
            clear hpre
            refine wpOpIn_step rfl (fun K2 hK2 => ?_)
            replace hK2 : ∀ a w, J3 u l pb B0 L.length A c L B d S x k wr J Jx es w0 (b 0) true (b 2) (b 3) (b 4) (b 5) (b 6) (b 7) (b 8) (b 9) (b 10) a w → K2 a w := fun a w h => hK2 a w ⟨HQ.out, h⟩
            generalize b 0 = b0 at *
            generalize b 1 = b1 at *
            generalize b 2 = b2 at *
            generalize b 3 = b3 at *
            generalize b 4 = b4 at *
            generalize b 5 = b5 at *
            generalize b 6 = b6 at *
            generalize b 7 = b7 at *
            generalize b 8 = b8 at *
            generalize b 9 = b9 at *
            generalize b 10 = b10 at *
            clear b
            subst hb2
            obtain rfl : b9 = false := (by cases b9 <;> first | rfl | exact absurd (hI.d9 rfl).1 (by decide))
            simp only [pk] at hI ⊢
            have hp := HPB.out w (hI.bl rfl)
            have c0 := hp.cell (i := 0) (v := .slice A L.length c) rfl
            have c1 := hp.cell (i := 1) (v := .slice B S.length d) rfl
            go_simp
            exact hK2 _ _ ⟨A14, c14, A16, c16, r, rfl, { hI with d9 := fun e => (by cases e), d5 := fun e => ⟨rfl, (hI.d5 e).2⟩ }⟩
          · injection (show some _ = some o from ho) with ho
            subst ho
            clear hpre
            refine wpOpIn_step rfl (fun K2 hK2 => ?_)
            replace hK2 : ∀ a w, J3 u l pb B0 L.length A c L B d S x k wr J Jx es w0 (b 0) (b 1) true (b 3) (b 4) (b 5) (b 6) (b 7) (b 8) (b 9) (b 10) a w → K2 a w := fun a w h => hK2 a w ⟨HQ.out, h⟩
            generalize b 0 = b0 at *
            generalize b 1 = b1 at *
            generalize b 2 = b2 at *
            generalize b 3 = b3 at *
            generalize b 4 = b4 at *
            generalize b 5 = b5 at *
            generalize b 6 = b6 at *
            generalize b 7 = b7 at *
            generalize b 8 = b8 at *
            generalize b 9 = b9 at *
            generalize b 10 = b10 at *
            clear b
            subst hb2
            obtain rfl : b9 = false := (by cases b9 <;> first | rfl | exact absurd (hI.d9 rfl).2.1 (by decide))
            simp only [pk] at hI ⊢
            have hp := HXB.out w (hI.bl rfl)
            have c0 := hp.cell (i := 0) (v := .int .i64 (x.length : Int)) rfl
            have c1 := hp.cell (i := 1) (v := .int .i64 (x[0]?.getD 0)) rfl
            have c2 := hp.cell (i := 2) (v := .int .i64 (x[1]?.getD 0)) rfl
            have c3 := hp.cell (i := 3) (v := .int .i64 (x[2]?.getD 0)) rfl
            have c4 := hp.cell (i := 4) (v := .int .i64 (x[3]?.getD 0)) rfl
            go_simp
            exact hK2 _ _ ⟨A14, c14, A16, c16, r, rfl, { hI with d9 := fun e => (by cases e), d3 := fun _ => rfl }⟩
          · injection (show some _ = some o from ho) with ho
            subst ho
            have e2 : b 2 = true := hpre ⟨2, .data⟩ (by simp) rfl
            clear hpre
            refine wpOpIn_step rfl (fun K2 hK2 => ?_)
            replace hK2 : ∀ a w, J3 u l pb B0 L.length A c L B d S x k wr J Jx es w0 (b 0) (b 1) (b 2) true (b 4) (b 5) (b 6) (b 7) (b 8) (b 9) (b 10) a w → K2 a w := fun a w h => hK2 a w ⟨HQ.out, h⟩
            generalize b 0 = b0 at *
            generalize b 1 = b1 at *
            generalize b 2 = b2 at *
            generalize b 3 = b3 at *
            generalize b 4 = b4 at *
            generalize b 5 = b5 at *
            generalize b 6 = b6 at *
            generalize b 7 = b7 at *
            generalize b 8 = b8 at *
            generalize b 9 = b9 at *
            generalize b 10 = b10 at *
            clear b
            subst hb2
            subst e2
            obtain rfl : b9 = false := (by cases b9 <;> first | rfl | exact absurd (hI.d9 rfl).2.2.1 (by decide))
            simp only [pk] at hI ⊢
            have hcl := oList_any x HX.out.1 HX.out.2 w
            go_simp
            gi_at_call 87
            refine (callsIn_wide.2 hcl).mono ?_
            rintro e w' ⟨v', rfl, hown, hbb⟩
            obtain ⟨A14', c14', rfl, _⟩ := Law.own_len hown
            exact hK2 _ _ ⟨A14', c14', A16, c16, r, rfl, ⟨fun _ => Law.then_ (hI.bl rfl) hbb, fun _ _ => Law.Row.own hown, fun e1 e2 => (hI.r16 e1 e2).stays hbb, fun e => (by cases e), fun e => (by cases e), fun e => ⟨(hI.d5 e).1, rfl⟩, hI.d6, fun _ => rfl, hI.d10, fun e => (by cases e)⟩⟩
          · injection (show some _ = some o from ho) with ho
            subst ho
            clear hpre
            refine wpOpIn_step rfl (fun K2 hK2 => ?_)
            replace hK2 : ∀ a w, J3 u l pb B0 L.length A c L B d S x k wr J Jx es w0 (b 0) (b 1) (b 2) (b 3) true (b 5) (b 6) (b 7) (b 8) (b 9) (b 10) a w → K2 a w := fun a w h => hK2 a w ⟨HQ.out, h⟩
            generalize b 0 = b0 at *
            generalize b 1 = b1 at *
            generalize b 2 = b2 at *
            generalize b 3 = b3 at *
            generalize b 4 = b4 at *
            generalize b 5 = b5 at *
            generalize b 6 = b6 at *
            generalize b 7 = b7 at *
            generalize b 8 = b8 at *
            generalize b 9 = b9 at *
            generalize b 10 = b10 at *
            clear b
            subst hb2
            simp only [pk] at hI ⊢
            go_simp
            exact hK2 _ _ ⟨A14, c14, A16, c16, r, rfl, hI⟩
          · injection (show some _ = some o from ho) with ho
            subst ho
            have e1 : b 1 = true := hpre ⟨1, .data⟩ (by simp) rfl
            have e3 : b 3 = true := hpre ⟨3, .data⟩ (by simp) rfl
            have e4 : b 4 = true := hpre ⟨4, .data⟩ (by simp) rfl
            clear hpre
            refine wpOpIn_step rfl (fun K2 hK2 => ?_)
            replace hK2 : ∀ a w, J3 u l pb B0 L.length A c L B d S x k wr J Jx es w0 (b 0) (b 1) (b 2) (b 3) (b 4) true (b 6) (b 7) (b 8) (b 9) (b 10) a w → K2 a w := fun a w h => hK2 a w ⟨HQ.out, h⟩
            generalize b 0 = b0 at *
            generalize b 1 = b1 at *
            generalize b 2 = b2 at *
            generalize b 3 = b3 at *
            generalize b 4 = b4 at *
            generalize b 5 = b5 at *
            generalize b 6 = b6 at *
            generalize b 7 = b7 at *
            generalize b 8 = b8 at *
            generalize b 9 = b9 at *
            generalize b 10 = b10 at *
            clear b
            subst hb2
            subst e1
            subst e3
            subst e4
            obtain rfl : b9 = false := (by cases b9 <;> first | rfl | exact absurd (hI.d9 rfl).2.2.2 (by decide))
            simp only [pk] at hI ⊢
            obtain ⟨hNL, hNS⟩ := HN.out w (hI.bl rfl)
            have hcl := workAfter_any (e := c14) A c xs L B d ys S w x A14 HPR.out (M := 99) (by omega) k hkm HX2.out.len HX2.out.vals hNL hNS (hI.r14 rfl rfl)
            go_simp
            gi_at_call 79
            refine (callsIn_wide.2 hcl).mono ?_
            rintro e w' ⟨v', rfl, hown, hbb⟩
            obtain ⟨A16', c16', rfl, _⟩ := Law.own_len hown
            exact hK2 _ _ ⟨A14, c14, A16', c16', r, rfl, ⟨fun _ => Law.then_ (hI.bl rfl) hbb, fun e1 e2 => (hI.r14 e1 e2).stays hbb, fun _ _ => Law.Row.own hown, fun e => (by cases e), fun e => (by cases e), fun e => ⟨rfl, rfl⟩, fun _ => rfl, hI.d3, hI.d10, fun e => (by cases e)⟩⟩
          · injection (show some _ = some o from ho) with ho
            subst ho
            have e5 : b 5 = true := hpre ⟨5, .data⟩ (by simp) rfl
            clear hpre
            refine wpOpIn_step rfl (fun K2 hK2 => ?_)
            replace hK2 : ∀ a w, J3 u l pb B0 L.length A c L B d S x k wr J Jx es w0 (b 0) (b 1) (b 2) (b 3) (b 4) (b 5) true (b 7) (b 8) (b 9) (b 10) a w → K2 a w := fun a w h => hK2 a w ⟨HQ.out, h⟩
            generalize b 0 = b0 at *
            generalize b 1 = b1 at *
            generalize b 2 = b2 at *
            generalize b 3 = b3 at *
            generalize b 4 = b4 at *
            generalize b 5 = b5 at *
            generalize b 6 = b6 at *
            generalize b 7 = b7 at *
            generalize b 8 = b8 at *
            generalize b 9 = b9 at *
            generalize b 10 = b10 at *
            clear b
            subst hb2
            subst e5
            obtain rfl : b9 = false := (by cases b9 <;> first | rfl | exact absurd (hI.d96 rfl) (by decide))
            simp only [pk] at hI ⊢
            have hcl := offsetOf_any (Q.nextQ L S x k) A16 c16 w (by rw [HNL.out]; exact HX3.out.1) (by rw [HNL.out]; exact HX3.out.2) (by rw [HNL.out]; exact HNV.out) (hI.r16 rfl rfl)
            go_simp
            gi_at_call 109
            refine (callsIn_wide.2 hcl).mono ?_
            rintro e w' ⟨rfl, hbb⟩
            exact hK2 _ _ ⟨A14, c14, A16, c16, r, rfl, ⟨fun _ => Law.then_ (hI.bl rfl) hbb, fun e1 e2 => (hI.r14 e1 e2).stays hbb, fun e1 e2 => (hI.r16 e1 e2).stays hbb, fun e => (by cases e), fun e => (by cases e), hI.d5, fun _ => rfl, hI.d3, hI.d10, fun e => (by cases e)⟩⟩
          · injection (show some _ = some o from ho) with ho
            subst ho
            have e6 : b 6 = true := hpre ⟨6, .data⟩ (by simp) rfl
            clear hpre
            refine wpOpIn_step rfl (fun K2 hK2 => ?_)
            replace hK2 : ∀ a w, J3 u l pb B0 L.length A c L B d S x k wr J Jx es w0 (b 0) (b 1) (b 2) (b 3) (b 4) (b 5) (b 6) true (b 8) (b 9) (b 10) a w → K2 a w := fun a w h => hK2 a w ⟨HQ.out, h⟩
            generalize b 0 = b0 at *
            generalize b 1 = b1 at *
            generalize b 2 = b2 at *
            generalize b 3 = b3 at *
            generalize b 4 = b4 at *
            generalize b 5 = b5 at *
            generalize b 6 = b6 at *
            generalize b 7 = b7 at *
            generalize b 8 = b8 at *
            generalize b 9 = b9 at *
            generalize b 10 = b10 at *
            clear b
            subst hb2
            subst e6
            simp only [pk] at hI ⊢
            go_simp
            exact hK2 _ _ ⟨A14, c14, A16, c16, r, rfl, hI⟩
          · injection (show some _ = some o from ho) with ho
            subst ho
            have e6 : b 6 = true := hpre ⟨6, .data⟩ (by simp) rfl
            clear hpre
            refine wpOpIn_step rfl (fun K2 hK2 => ?_)
            replace hK2 : ∀ a w, J3 u l pb B0 L.length A c L B d S x k wr J Jx es w0 (b 0) (b 1) (b 2) (b 3) (b 4) (b 5) (b 6) (b 7) true (b 9) (b 10) a w → K2 a w := fun a w h => hK2 a w ⟨HQ.out, h⟩
            generalize b 0 = b0 at *
            generalize b 1 = b1 at *
            generalize b 2 = b2 at *
            generalize b 3 = b3 at *
            generalize b 4 = b4 at *
            generalize b 5 = b5 at *
            generalize b 6 = b6 at *
            generalize b 7 = b7 at *
            generalize b 8 = b8 at *
            generalize b 9 = b9 at *
            generalize b 10 = b10 at *
            clear b
            subst hb2
            subst e6
            simp only [pk] at hI ⊢
            go_simp
            exact hK2 _ _ ⟨A14, c14, A16, c16, r, rfl, hI⟩
          · injection (show some _ = some o from ho) with ho
            subst ho
            have e0 : b 0 = true := hpre ⟨0, .data⟩ (by simp) rfl
            have e6 : b 6 = true := hpre ⟨6, .chain⟩ (by simp) rfl
            have e7 : b 7 = true := hpre ⟨7, .data⟩ (by simp) rfl
            have e8 : b 8 = true := hpre ⟨8, .data⟩ (by simp) rfl
            clear hpre
            refine wpOpIn_step rfl (fun K2 hK2 => ?_)
            replace hK2 : ∀ a w, J3 u l pb B0 L.length A c L B d S x k wr J Jx es w0 (b 0) (b 1) (b 2) (b 3) (b 4) (b 5) (b 6) (b 7) (b 8) true (b 10) a w → K2 a w := fun a w h => hK2 a w ⟨HQ.out, h⟩
            generalize b 0 = b0 at *
            generalize b 1 = b1 at *
            generalize b 2 = b2 at *
            generalize b 3 = b3 at *
            generalize b 4 = b4 at *
            generalize b 5 = b5 at *
            generalize b 6 = b6 at *
            generalize b 7 = b7 at *
            generalize b 8 = b8 at *
            generalize b 9 = b9 at *
            generalize b 10 = b10 at *
            clear b
            subst hb2
            subst e0
            subst e6
            subst e7
            subst e8
            obtain rfl : b10 = false := (by cases b10 <;> first | rfl | exact absurd (hI.d10 rfl) (by decide))
            simp only [pk] at hI ⊢
            have hy1 := HY.out w (hI.bl rfl)
            obtain ⟨fn, tmps, assign, body, hy, hRd⟩ := hy1
            have HRd := Lib.hid hRd
            clear hRd
            have h5 := hI.d6 rfl
            subst h5
            obtain ⟨h1, h3⟩ := hI.d5 rfl
            subst h1 h3
            have h2 := hI.d3 rfl
            subst h2
            go_simp
            refine HRd.out.mono ?_
            rintro e w' (⟨rfl, hJ', hk'⟩ | ⟨rfl, hJx'⟩)
            · exact hK2 _ _ ⟨A14, c14, A16, c16, true, rfl, ⟨fun e => (by cases e), fun _ e => (by cases e), fun _ e => (by cases e), fun _ => .inl ⟨rfl, hJ', hk'⟩, fun _ => ⟨rfl, rfl, rfl, rfl⟩, fun _ => ⟨rfl, rfl⟩, fun _ => rfl, fun _ => rfl, fun e => (by cases e), fun _ => rfl⟩⟩
            · exact hK2 _ _ ⟨A14, c14, A16, c16, false, rfl, ⟨fun e => (by cases e), fun _ e => (by cases e), fun _ e => (by cases e), fun _ => .inr ⟨rfl, hJx'⟩, fun _ => ⟨rfl, rfl, rfl, rfl⟩, fun _ => ⟨rfl, rfl⟩, fun _ => rfl, fun _ => rfl, fun e => (by cases e), fun _ => rfl⟩⟩
          · injection (show some _ = some o from ho) with ho
            subst ho
            have e9 : b 9 = true := hpre ⟨9, .data⟩ (by simp) rfl
            clear hpre
            refine wpOpIn_step rfl (fun K2 hK2 => ?_)
            replace hK2 : ∀ a w, J3 u l pb B0 L.length A c L B d S x k wr J Jx es w0 (b 0) (b 1) (b 2) (b 3) (b 4) (b 5) (b 6) (b 7) (b 8) (b 9) true a w → K2 a w := fun a w h => hK2 a w ⟨HQ.out, h⟩
            generalize b 0 = b0 at *
            generalize b 1 = b1 at *
            generalize b 2 = b2 at *
            generalize b 3 = b3 at *
            generalize b 4 = b4 at *
            generalize b 5 = b5 at *
            generalize b 6 = b6 at *
            generalize b 7 = b7 at *
            generalize b 8 = b8 at *
            generalize b 9 = b9 at *
            generalize b 10 = b10 at *
            clear b
            subst hb2
            subst e9
            simp only [pk] at hI ⊢
            go_simp
            exact hK2 _ _ ⟨A14, c14, A16, c16, r, rfl, { hI with d10 := fun _ => rfl }⟩
        case d3 =>
          intro u b a w hI hall
          have e0 : b 0 = true := hall 0 (by show 0 < 11; omega)
          have e1 : b 1 = true := hall 1 (by show 1 < 11; omega)
          have e2 : b 2 = true := hall 2 (by show 2 < 11; omega)
          have e3 : b 3 = true := hall 3 (by show 3 < 11; omega)
          have e4 : b 4 = true := hall 4 (by show 4 < 11; omega)
          have e5 : b 5 = true := hall 5 (by show 5 < 11; omega)
          have e6 : b 6 = true := hall 6 (by show 6 < 11; omega)
          have e7 : b 7 = true := hall 7 (by show 7 < 11; omega)
          have e8 : b 8 = true := hall 8 (by show 8 < 11; omega)
          have e9 : b 9 = true := hall 9 (by show 9 < 11; omega)
          have e10 : b 10 = true := hall 10 (by show 10 < 11; omega)
          rw [e0] at hI
          rw [e1] at hI
          rw [e2] at hI
          rw [e3] at hI
          rw [e4] at hI
          rw [e5] at hI
          rw [e6] at hI
          rw [e7] at hI
          rw [e8] at hI
          rw [e9] at hI
          rw [e10] at hI
          exact hI.1 a w hI.2
      case rest =>
        obtain ⟨r, rfl, rfl, HO⟩ := hcut
        cases r
        · have hx : Jx (es.take (k + 1)) wc := by
            rcases HO.out with ⟨h, _⟩ | ⟨_, h⟩
            · cases h
            · exact h
          have HX9 := Lib.hid hx
          clear hx
          gi_wp2
          exact bodyPost_ret (results_none rfl _ _ _) rfl ⟨⟨_, rfl⟩, .inr ⟨es.take (k + 1), by rw [← HES.out, List.map_take]; exact List.take_prefix _ _, HX9.out⟩⟩
        · have hx : J (es.take (k + 1)) wc ∧ KeepsKO w0.heap.size B0 wr wc := by
            rcases HO.out with ⟨_, h⟩ | ⟨h, _⟩
            · exact h
            · cases h
          have HX9 := Lib.hid hx
          clear hx
          gi_wp2
          go_roundw
          case rel => exact ⟨k + 1, by omega, by go_num, Lib.hid HX9.out.1, Lib.hid ⟨hbk.out.1.trans HX9.out.2.1, Nat.le_trans hbk.out.2 HX9.out.2.1.size⟩, Lib.hid (HX9.out.2.2 _ hxk.out)⟩
          case measure => simp [intOf]; omega
    · have hke : k = S.length := by omega
      have hltI : ¬ (k : Int) < (S.length : Int) := by omega
      have HTK : Hid (es.take k = es) := Lib.hid (by rw [hke, ← HEL.out, List.take_length])
      clear hke
      gi_wp2
      go_end0
      exact ⟨⟨_, rfl⟩, .inl ⟨es, HES.out, by rw [← HTK.out]; exact hJk.out⟩⟩
/-- The contract of offsetsFrom's function literal. -/
theorem afterO (A : Option Addr) (c : Nat) (xs : List Value) (L : List (List Int)) (B : Option Addr) (d : Nat) (ys : List Value) (S : List (List Int)) (hpr : Q.Pr L S) (w0 : World) (pb : Nat) (hpb : Hb w0 pb #[.slice A L.length c, .slice B S.length d] 29) (hL : NRow w0 A xs L) (hS : NRow w0 B ys S) : AfterO L.length (Q.stpO L S) w0 111 #[.pointer (some ⟨pb, 0, none⟩)] := by
  intro x W hx hW
  have HI := Lib.hid fun (l B0 : Nat) (J Jx : List (AO L.length) → World → Prop) => iterO_in A c xs L B d ys S hpr w0 pb hpb hL hS x hx l B0 J Jx
  have HW := Lib.hid hW
  have h : CallsIn Fence.wide 2 Try.prog 111 (#[kvO x] ++ #[.pointer (some ⟨pb, 0, none⟩)]) W fun e w' => e = .returned (.func (.func 112) #[] #[.pointer (some ⟨pb, 0, none⟩), .pointer (some ⟨W.heap.size, 0, none⟩)]) ∧ w' = W.alloc (.cells (csO x).toArray 98) := by
    refine callsIn_of_wp Try.func111 rfl trivial ?_ rfl
    simp only [Try.ntmps111, List.size_toArray, List.length_cons, List.length_nil, Nat.reduceAdd, Nat.reduceSub, Array.replicate_succ, Array.replicate_zero, List.push_toArray, List.append_toArray, List.nil_append, List.cons_append]
    gi_wp2
    go_ret
    exact ⟨rfl, rfl⟩
  refine h.mono ?_
  rintro e w' ⟨rfl, rfl⟩
  have hal := (Below.refl W.heap.size W).alloc (Nat.le_refl _) (.cells (csO x).toArray 98)
  refine ⟨112, #[.pointer (some ⟨pb, 0, none⟩), .pointer (some ⟨W.heap.size, 0, none⟩)], W.heap.size, rfl, hal, Nat.le_refl _, by simp, enters_of Try.func112 (by kernel_rfl) rfl, ?_⟩
  intro l J Jx V hV hJ hJx hY h0
  exact HI.out l W.heap.size J Jx V (HW.out.trans ((hal.mono HW.out.size).trans (hV.mono (Nat.le_trans HW.out.size hal.size)))) ((Hb.new W (csO x).toArray 98).on hV) hJ hY h0
end Go.Proofs.Ythpoeeadhjnljaa

/- offsetsFrom: all offsets of a start state, and the steps between them. -/
namespace Go.Proofs.Ythpoeeadhjnljaa
open Go.RowKit
set_option linter.unusedVariables false
namespace Q
/-- All offsets, where they are asked for validly. -/
noncomputable def offF (L S : List (List Int)) (start : Int) : Option (List (List Int) × List (List Nat) × List (List Int)) := if askQ L S start [] then offG L S start.toNat else none
theorem offF_no {L S : List (List Int)} {start : Int} (h : askQ L S start [] = false) : offF L S start = none := if_neg (by simp [h])
theorem offF_yes {L S : List (List Int)} {start : Int} (h : askQ L S start [] = true) : offF L S start = offG L S start.toNat := if_pos h
end Q
theorem own_slice {w : World} {b s n : Nat} {e : TypeId} {v : Value} {xs : List Value} (h : w.ownsRow b e s v n xs) : ∃ A c, v = .slice A n c := by
  rcases h.2 with ⟨e, h0⟩ | ⟨g, cap, cur, e, _⟩
  · subst h0; exact ⟨none, 0, e⟩
  · exact ⟨_, _, e⟩
theorem NG.down {α : Type} {cs : α → List Value} {sz : Nat} {e : TypeId} {w : World} {b b' : Nat} {xs : List Value} {L : List (List α)} (h : NG e sz cs w b xs L) (hb : b' ≤ b) : NG e sz cs w b' xs L :=
  ⟨h.len, fun j x l h1 h2 => own_down (h.own j x l h1 h2) hb, h.apart⟩
theorem GOutO.down {b b' : Nat} {w : World} {nv xv sv : Value} {xsx xss : List Value} {ns : List (List Int)} {nx : List (List Nat)} {ss : List (List Int)} (h : GOutO b w nv xv sv xsx xss ns nx ss) (hb : b' ≤ b) : GOutO b' w nv xv sv xsx xss ns nx ss :=
  ⟨own_down h.no hb, own_down h.xo hb, h.xn.down hb, own_down h.so hb, h.sn.down hb, h.ap, h.cr⟩
/-- A return of a graph in a block of the call's own, and a flag. -/
theorem ret_gO {fn : Func} {R : Ending → World → Prop} {a : Act} {w : World} {pt u : Tmp} {b : Nat} {v0 v1 v2 f : Value}
    (h : fn.results = #[.cell pt 93, .tmp u]) (hd : a.defers = []) (hp : a.tmps.getD pt undef = .pointer (some ⟨b, 0, none⟩)) (hB : Hb w b #[v0, v1, v2] 93) (hf : a.tmps.getD u undef = f)
    (hR : R (.returned (.tuple #[.agg #[v0, v1, v2], f])) w) : bodyPost Try.prog fn R .ret a w :=
  bodyPost_ret_by (v := .tuple #[.agg #[v0, v1, v2], f]) (retO3 h hp hB hf) hd hR
set_option maxRecDepth 100000 in
set_option maxHeartbeats 3200000 in
theorem offsetsFrom_any (A : Option Addr) (c : Nat) (xs : List Value) (L : List (List Int)) (B : Option Addr) (d : Nat) (ys : List Value) (S : List (List Int)) (w : World) (start : Int) (hlL : ∀ l ∈ L, l.length ≤ 1048576) (hlS : ∀ l ∈ S, l.length ≤ 1048576) (hL : NRow w A xs L) (hS : NRow w B ys S) :
    Calls Try.prog 86 #[pv A L.length c B S.length d, .int .i64 start] w (gSaysO (Q.offF L S start) w) := by
  have hp0 := Hb.new w #[.slice A L.length c, .slice B S.length d] 29
  have hb0 : Below w.heap.size w (w.alloc (.cells #[.slice A L.length c, .slice B S.length d] 29)) := (Below.refl _ _).alloc (Nat.le_refl _) _
  have hp4 := Hb.new (w.alloc (.cells #[.slice A L.length c, .slice B S.length d] 29)) nil3 93
  rw [World.size_alloc] at hp4
  have hp1 := hp0.alloc (.cells nil3 93)
  have hb1 := hb0.alloc hb0.size (.cells nil3 93)
  have HAs := Lib.hid (isAsked_any A c xs L B d ys S ((w.alloc (.cells #[.slice A L.length c, .slice B S.length d] 29)).alloc (.cells nil3 93)) start [] none 0 hlL hlS (by simp) (hL.stays hb1) (hS.stays hb1) (fun h => absurd rfl h))
  have HL := Lib.hid hL
  have HS := Lib.hid hS
  have HP1 := Lib.hid hp1
  have HP4 := Lib.hid hp4
  have HB1 := Lib.hid hb1
  obtain ⟨R, hR⟩ : ∃ R, R = Q.offF L S start := ⟨_, rfl⟩
  rw [← hR]
  clear hp0 hb0 hp4 hp1 hb1 hL hS
  cases hq : Q.askQ L S start []
  · have HR : Hid (R = none) := Lib.hid (hR.trans (Q.offF_no hq))
    rw [hq] at HAs
    clear hR hq hlL hlS
    go_enter Try.func86, Try.ntmps86
    go_wp2_with (go_at_call 66; refine HAs.out.mono ?_; rintro e w2 ⟨rfl, hb2⟩; have q4 := HP4.out.on hb2; have c0 := q4.cell (i := 0) (v := .slice none 0 0) rfl; have c1 := q4.cell (i := 1) (v := .slice none 0 0) rfl; have c2 := q4.cell (i := 2) (v := .slice none 0 0) rfl; have f0 := q4.frozen 0; have f1 := q4.frozen 1; have f2 := q4.frozen 2)
    have h1 := q4.set 0 (.slice none 0 0)
    have h2 := h1.set 1 (.slice none 0 0)
    have h3 := h2.set 2 (.slice none 0 0)
    have hbl := Law.then_ HB1.out hb2
    refine ret_gO rfl rfl rfl h3 rfl ?_
    rw [HR.out]
    exact ⟨rfl, ((hbl.setCell (p := ⟨w.heap.size + 1, 0, none⟩) (Nat.le_succ _) _).setCell (p := ⟨w.heap.size + 1, 1, none⟩) (Nat.le_succ _) _).setCell (p := ⟨w.heap.size + 1, 2, none⟩) (Nat.le_succ _) _⟩
  · have ha := Q.ask_iff.1 hq
    have HPR := Lib.hid ha.pr
    obtain ⟨s0, e0, hs0⟩ := ha.st
    subst e0
    have HR : Hid (R = Q.offG L S s0) := Lib.hid (hR.trans (Q.offF_yes hq))
    rw [hq] at HAs
    have hn4 := ha.pr.n4
    have hn1 := ha.pr.n1
    have hsI : (s0 : Int) < (L.length : Int) := by omega
    obtain ⟨l0, hl0, hll0⟩ : ∃ l, L[s0]? = some l ∧ l.length = L.length := ⟨_, List.getElem?_eq_getElem hs0, ha.pr.sq _ (List.getElem_mem hs0)⟩
    have HZ : Hid (L.getD s0 [] = l0) := by show L.getD s0 [] = l0; rw [List.getD_eq_getElem?_getD, hl0]; rfl
    have HOK := Lib.hid (Q.row_ok ha.pr hs0)
    have HFO := Lib.hid (Q.first_ok ha.pr hs0)
    obtain ⟨bA, oA, X0, dX0, rfl, hbA, hcA, hrX⟩ := HL.out.row_at hl0
    have HX0 := Lib.hid hrX
    have HCA := Lib.hid hcA
    have HLL := Lib.hid hll0
    clear hR hq hlL hlS ha hl0 hll0 hrX hcA
    go_enter Try.func86, Try.ntmps86
    go_wp2_with fail
    go_at_call 66
    refine HAs.out.mono ?_
    rintro e w2 ⟨rfl, hb2⟩
    have hb3 := Law.then_ HB1.out hb2
    have q1 := HP1.out.on hb2
    have c0 := q1.cell (i := 0) (v := .slice (some ⟨bA, oA, none⟩) L.length c) rfl
    have hcX := (hb3.cell (p := ⟨bA, oA + s0, none⟩) hbA).trans HCA.out
    rw [HLL.out] at hcX
    have HOF : Hid (Calls Try.prog 109 #[.slice X0 L.length dX0] w2 fun e w' => e = .returned (.tuple #[kvO (Q.offL l0), .int .i64 (Q.leastK l0 l0.length)]) ∧ Below w2.heap.size w2 w') := Lib.hid (by
      have h := offsetOf_any l0 X0 dX0 w2 (by rw [HLL.out]; omega) (by rw [HLL.out]; omega) (by rw [HLL.out, ← HZ.out]; exact HOK.out.2.wide (by omega)) (HX0.out.stays hb3)
      rw [HLL.out] at h ⊢
      exact h)
    have HB3 := Lib.hid hb3
    have HP2 := Lib.hid q1
    have HP42 := Lib.hid (HP4.out.on hb2)
    clear hb3 q1 hb2
    go_wp2_with fail
    go_at_call 109
    refine HOF.out.mono ?_
    rintro e w3 ⟨rfl, hb4⟩
    have HB5 := Lib.hid (Law.then_ HB3.out hb4)
    have HP3 := Lib.hid (HP2.out.on hb4)
    have HP43 := Lib.hid (HP42.out.on hb4)
    clear c0 hcX hb4
    go_wp2_with fail
    have hal : Below w3.heap.size w3 (w3.alloc (.cells (csO (Q.offL l0)).toArray 98)) := (Below.refl _ _).alloc (Nat.le_refl _) _
    have hb6 := Law.then_ HB5.out hal
    have hG := (callsIn_wide (n := 3)).1 (graphO_in L.length 400 (by omega) (by omega) (Q.stpO L S) (Lib.hid (Q.stpO_ok HPR.out)) (Lib.hid fun x => by rw [Q.stpO_len]; exact HPR.out.m4) (Lib.hid fun x hx => okO_key hn4 hx) (Lib.hid fun a b ha hb h => kvO_inj hn4 ha.len hb.len h) offKeyed (Q.offL l0) (by rw [← HZ.out]; exact HFO.out) #[.pointer (some ⟨w.heap.size, 0, none⟩)] (w3.alloc (.cells (csO (Q.offL l0)).toArray 98))
      (Lib.hid (afterO (some ⟨bA, oA, none⟩) c xs L B d ys S HPR.out _ w.heap.size (HP3.out.on hal) (HL.out.stays hb6) (HS.out.stays hb6))))
    have HP44 := Lib.hid (HP43.out.on hal)
    have HB6 := Lib.hid hb6
    have hRG : Q.graph (Q.stpO L S) 400 (Q.offL l0) = R := by rw [HR.out, ← HZ.out]; rfl
    rw [hRG] at hG
    refine hG.mono ?_
    clear hG hRG
    intro e w5 hs
    rcases hRc : R with _ | ⟨ns, nx, ss⟩
    · rw [hRc] at hs
      obtain ⟨rfl, hb7⟩ := hs
      have q4 := HP44.out.on hb7
      have c0 := q4.cell (i := 0) (v := .slice none 0 0) rfl
      have c1 := q4.cell (i := 1) (v := .slice none 0 0) rfl
      have c2 := q4.cell (i := 2) (v := .slice none 0 0) rfl
      have f0 := q4.frozen 0
      have f1 := q4.frozen 1
      have f2 := q4.frozen 2
      have h1 := Lib.hid (((q4.set 0 (.slice none 0 0)).set 1 (.slice none 0 0)).set 2 (.slice none 0 0))
      have hbl := Lib.hid (Law.then_ HB6.out hb7)
      have HRc := Lib.hid hRc
      clear hRc hb7 q4 hal hb6
      go_wp2
      refine ret_gO rfl rfl rfl h1.out rfl ?_
      rw [HRc.out]
      exact ⟨rfl, ((hbl.out.setCell (p := ⟨w.heap.size + 1, 0, none⟩) (Nat.le_succ _) _).setCell (p := ⟨w.heap.size + 1, 1, none⟩) (Nat.le_succ _) _).setCell (p := ⟨w.heap.size + 1, 2, none⟩) (Nat.le_succ _) _⟩
    · rw [hRc] at hs
      obtain ⟨nv, xv, sv, xsx, xss, rfl, hout, hb7⟩ := hs
      obtain ⟨An, cn, rfl⟩ := own_slice hout.no
      obtain ⟨Ax, cx, rfl⟩ := own_slice hout.xo
      obtain ⟨As, cs, rfl⟩ := own_slice hout.so
      have q4 := HP44.out.on hb7
      have c0 := q4.cell (i := 0) (v := .slice none 0 0) rfl
      have c1 := q4.cell (i := 1) (v := .slice none 0 0) rfl
      have c2 := q4.cell (i := 2) (v := .slice none 0 0) rfl
      have f0 := q4.frozen 0
      have f1 := q4.frozen 1
      have f2 := q4.frozen 2
      have k1 := q4.set 0 (.slice An ns.length cn)
      have k2 := k1.set 1 (.slice Ax nx.length cx)
      have k3 := Lib.hid (k2.set 2 (.slice As ss.length cs))
      have ho3 := Lib.hid ((((hout.set q4 0 (.slice An ns.length cn)).set k1 1 (.slice Ax nx.length cx)).set k2 2 (.slice As ss.length cs)).down HB6.out.size)
      have hbl := Lib.hid (Law.then_ HB6.out hb7)
      have HRc := Lib.hid hRc
      clear hRc hb7 q4 hal hb6 hout k1 k2
      go_wp2
      refine ret_gO rfl rfl rfl k3.out rfl ?_
      rw [HRc.out]
      exact ⟨_, _, _, xsx, xss, rfl, ho3.out, ((hbl.out.setCell (p := ⟨w.heap.size + 1, 0, none⟩) (Nat.le_succ _) _).setCell (p := ⟨w.heap.size + 1, 1, none⟩) (Nat.le_succ _) _).setCell (p := ⟨w.heap.size + 1, 2, none⟩) (Nat.le_succ _) _⟩
end Go.Proofs.Ythpoeeadhjnljaa

/- The code's OffsetsOf. -/
namespace Go.Proofs.Ythpoeeadhjnljaa
open Go.RowKit
set_option linter.unusedVariables false
namespace Q
noncomputable def ooQ (L S : List (List Int)) (start : Int) : List (List Int) × Bool := match offF L S start with
  | none => ([], false)
  | some (ns, _, _) => (ns, true)
end Q
theorem offF_facts {L S : List (List Int)} {start : Int} {ns : List (List Int)} {nx : List (List Nat)} {ss : List (List Int)} (h : Q.offF L S start = some (ns, nx, ss)) : ∃ s0 : Nat, start = s0 ∧ s0 < L.length ∧ Q.Pr L S ∧ Q.GrI (Q.OkO L.length) (Q.stpO L S) 400 (Q.offL (L.getD s0 [])) ns.length ns nx ss := by
  cases hq : Q.askQ L S start []
  · rw [Q.offF_no hq] at h; cases h
  · have ha := Q.ask_iff.1 hq
    obtain ⟨s0, rfl, hs0⟩ := ha.st
    rw [Q.offF_yes hq] at h
    exact ⟨s0, rfl, hs0, ha.pr, Q.offG_gr ha.pr hs0 h⟩
theorem offsetsFrom_nodes (A : Option Addr) (c : Nat) (xs : List Value) (L : List (List Int)) (B : Option Addr) (d : Nat) (ys : List Value) (S : List (List Int)) (w : World) (start : Int) (hlL : ∀ l ∈ L, l.length ≤ 1048576) (hlS : ∀ l ∈ S, l.length ≤ 1048576) (hL : NRow w A xs L) (hS : NRow w B ys S) :
    Calls Try.prog 86 #[pv A L.length c B S.length d, .int .i64 start] w fun e w' => ∃ (ns : List (List Int)) (ok : Bool) (An : Option Addr) (cn : Nat) (A1 : Option Addr) (n1 c1 : Nat) (A2 : Option Addr) (n2 c2 : Nat),
      e = .returned (.tuple #[.agg #[.slice An ns.length cn, .slice A1 n1 c1, .slice A2 n2 c2], .bool ok]) ∧ w'.ownsRow w.heap.size 98 5 (.slice An ns.length cn) ns.length (cvs csO ns) ∧ Q.ooQ L S start = (ns, ok) ∧ (∀ v ∈ ns, 1 ≤ v.length ∧ v.length ≤ 4) ∧ ns.length ≤ 400 ∧ Below w.heap.size w w' := by
  refine (offsetsFrom_any A c xs L B d ys S w start hlL hlS hL hS).mono ?_
  intro e w' h
  unfold Q.ooQ
  rcases hR : Q.offF L S start with _ | ⟨ns, nx, ss⟩
  · rw [hR] at h
    obtain ⟨rfl, hb⟩ := h
    exact ⟨[], false, none, 0, none, 0, 0, none, 0, 0, rfl, World.ownsRow_nil _ _ _ _, rfl, by simp, by simp, hb⟩
  · rw [hR] at h
    obtain ⟨nv, xv, sv, xsx, xss, rfl, hout, hb⟩ := h
    obtain ⟨An, cn, rfl⟩ := own_slice hout.no
    obtain ⟨Ax, cx, rfl⟩ := own_slice hout.xo
    obtain ⟨As, cs, rfl⟩ := own_slice hout.so
    obtain ⟨s0, _, _, hpr, hg⟩ := offF_facts hR
    exact ⟨ns, true, An, cn, Ax, _, cx, As, _, cs, rfl, hout.no, rfl, fun v hv => by rw [(hg.all v hv).len]; exact ⟨hpr.n1, hpr.n4⟩, hg.mo, hb⟩
set_option maxRecDepth 100000 in
set_option maxHeartbeats 3200000 in
theorem impOo_any (A : Option Addr) (c : Nat) (xs0 : List Value) (L : List (List Int)) (B : Option Addr) (d : Nat) (ys : List Value) (S : List (List Int)) (w : World) (start : Int) (hlL : ∀ l ∈ L, l.length ≤ 1048576) (hlS : ∀ l ∈ S, l.length ≤ 1048576) (hL : NRow w A xs0 L) (hS : NRow w B ys S) :
    Calls Try.prog 45 #[pv A L.length c B S.length d, .int .i64 start] w (nestSays (Q.ooQ L S start) w) := by
  obtain ⟨i1, hj', hq0, hq1, hq2⟩ := info_parts infoII
  have hp0 := Hb.new w #[.slice A L.length c, .slice B S.length d] 29
  have hb0 : Below w.heap.size w (w.alloc (.cells #[.slice A L.length c, .slice B S.length d] 29)) := (Below.refl _ _).alloc (Nat.le_refl _) _
  have HC := Lib.hid (offsetsFrom_nodes A c xs0 L B d ys S _ start hlL hlS (hL.stays hb0) (hS.stays hb0))
  have HB0 := Lib.hid hb0
  clear hlL hlS hL hS hp0 hb0
  go_enter Try.func45, Try.ntmps45
  go_wp2_with fail
  go_at_call 86
  refine HC.out.mono ?_
  rintro e w2 ⟨ns, ok, An, cn, A1, n1, c1, A2, n2, c2, rfl, hno, hX, hv4, hl4, hb2⟩
  have HX := Lib.hid hX
  have HNO := Lib.hid (own_past (hno.alloc (.cells #[.slice An ns.length cn, .slice A1 n1 c1, .slice A2 n2 c2] 93)) (Below.refl _ _))
  have hg0 := Hb.new w2 #[.slice An ns.length cn, .slice A1 n1 c1, .slice A2 n2 c2] 93
  have HG0 := Lib.hid hg0
  have HB2 := Lib.hid ((Law.then_ HB0.out hb2).alloc (Law.then_ HB0.out hb2).size (.cells #[.slice An ns.length cn, .slice A1 n1 c1, .slice A2 n2 c2] 93))
  have HV4 := Lib.hid hv4
  have HWS := Lib.hid hb2.size
  have cg0 := hg0.cell (i := 0) (v := .slice An ns.length cn) rfl
  clear hX hv4 hno hb2 hg0 HC HB0
  have hlN : ns.length ≤ 400 := hl4
  have hs2 : (w2.alloc (.cells #[.slice An ns.length cn, .slice A1 n1 c1, .slice A2 n2 c2] 93)).heap.size = w2.heap.size + 1 := by simp
  go_wp2_with (at_make; refine wpList_make_full _ rfl _ _ 22 rfl (w2.heap.size + 1) 35 i1 (.slice none 0 0) 1 Try.underlying22 hj' hq0 hq1 .i64 .i64 _ _ ns.length rfl rfl rfl rfl ?c1 ?c2 ?c3 ?_)
  case c1 => rw [hq2]; omega
  case c2 => unfold maxLen; omega
  case c3 => simp
  intro w3 hown hgr
  rw [made_nils] at hown
  have HB1 : Hid (Below (w2.alloc (.cells #[.slice An ns.length cn, .slice A1 n1 c1, .slice A2 n2 c2] 93)).heap.size (w2.alloc (.cells #[.slice An ns.length cn, .slice A1 n1 c1, .slice A2 n2 c2] 93)) w3) := Lib.hid ((Below.refl _ _).grown hgr (Nat.le_refl _) (fun k e => by cases e))
  clear hgr
  rw [← hs2] at hown
  try rw [← hs2]
  clear hs2
  generalize w2.alloc (.cells #[.slice An ns.length cn, .slice A1 n1 c1, .slice A2 n2 c2] 93) = wa at HNO HG0 HB2 HB1 hown cg0 ⊢
  have HO1 : Hid (w3.ownsRow wa.heap.size 35 1 (.slice (some ⟨wa.heap.size, 0, none⟩) ns.length ns.length) ns.length (List.replicate ns.length (.slice none 0 0))) := Lib.hid hown
  have hg3 := HG0.out.on HB1.out
  have cg3 := hg3.cell (i := 0) (v := .slice An ns.length cn) rfl
  clear hown cg0 hg3
  go_wp2_with fail
  clear cg3
  go_loopw [24] (fun i wr => ∃ x : Nat, x ≤ ns.length ∧ i = .int .i64 (x : Int) ∧ Hid (∃ xs, wr.ownsRow wa.heap.size 35 1 (.slice (some ⟨wa.heap.size, 0, none⟩) ns.length ns.length) ns.length (xs ++ List.replicate (ns.length - x) (.slice none 0 0)) ∧ NOwn wr wa.heap.size xs (ns.take x)) ∧ Hid (Below wa.heap.size wa wr)) (fun i _ => ns.length - (intOf i).toNat)
  case atStart => exact ⟨0, Nat.zero_le _, rfl, ⟨[], HO1.out, by rw [List.take_zero]; exact NOwn.nil _ _⟩, HB1.out⟩
  case round =>
    obtain ⟨x, hx, rfl, hv, hb⟩ := hrel
    clear HO1 HB1
    by_cases hltx : x < ns.length
    · have hltxI : (x : Int) < (ns.length : Int) := by omega
      obtain ⟨v, hvx⟩ : ∃ v, ns[x]? = some v := ⟨_, List.getElem?_eq_getElem hltx⟩
      obtain ⟨hv1, hv4⟩ := HV4.out v (List.mem_of_getElem? hvx)
      obtain ⟨gN, rfl⟩ : ∃ gN, An = some ⟨gN, 0, none⟩ := by
        rcases HNO.out.2 with ⟨e, h0⟩ | ⟨g, cap, cur, e, _⟩
        · omega
        · injection e with e _ _
          exact ⟨g, e⟩
      have HNC : Hid (∀ (j : Nat) (u : Value), (csO v)[j]? = some u → wr.cell? ⟨gN, x * 5 + j, none⟩ = some u) := Lib.hid fun j u hu => by
        have h1 := (own_past HNO.out hb.out).cells (g := gN) rfl _ _ (cvs_at (cs := csO) (sz := 5) (fun _ => rfl) hvx hu)
        rw [Law.add_plain, Nat.zero_add] at h1
        exact h1
      have q0 := HNC.out 0 _ rfl
      have q1 := HNC.out 1 _ rfl
      have q2 := HNC.out 2 _ rfl
      have q3 := HNC.out 3 _ rfl
      have q4 := HNC.out 4 _ rfl
      rw [Nat.add_zero] at q0
      have HTK : Hid (ns.take (x + 1) = ns.take x ++ [v]) := Lib.hid (by rw [List.take_add_one, hvx]; rfl)
      have HLv := Lib.hid (oList_any v hv1 hv4 (wr.alloc (.cells (csO v).toArray 98)))
      have hal : Below wr.heap.size wr (wr.alloc (.cells (csO v).toArray 98)) := (Below.refl _ _).alloc (Nat.le_refl _) _
      have HAL := Lib.hid hal
      clear hal hvx
      go_wp2_with fail
      go_at_call 87
      refine HLv.out.mono ?_
      rintro e w5 ⟨v', rfl, hown, hb5⟩
      obtain ⟨A5, c5, rfl, _⟩ := Law.own_len hown
      obtain ⟨xs, ho, hn⟩ := hv.out
      have hxl : xs.length = x := by rw [hn.len, List.length_take]; omega
      have hb3 := Law.then_ HAL.out hb5
      have ho3 := own_past ho hb3
      have hn3 := hn.past hb3
      have hcO : w5.cell? ⟨wa.heap.size, x, none⟩ = some (.slice none 0 0) := (ho3.cellAt x (by omega)).trans (by
        rw [List.getElem?_append_right (by omega), hxl, Nat.sub_self, List.getElem?_replicate, if_pos (by omega)])
      have hfO := ho3.frozenAt x
      have hst := ho3.stored x (.slice A5 v.length c5)
      have ho4 := hst.1
      rw [nils_set xs ns.length x _ hxl hltx] at ho4
      have hlt2 : wa.heap.size < wr.heap.size := (ho.lt wa.heap.size rfl).2
      have h5 : w5.ownsRow wr.heap.size 3 1 (.slice A5 v.length c5) v.length (ivs v) := own_down hown HAL.out.size
      have h6 := h5.kept hst.2 (own_types (by decide) h5 ho3)
      have HNS := Lib.hid (NOwn.snoc hn (hn3.outer ints_ne ho3 hst.2) h6 (by omega))
      rw [← HTK.out] at HNS
      have HO4 := Lib.hid ho4
      have HB4 := Lib.hid ((Law.then_ hb.out hb3).setCell (p := ⟨wa.heap.size, x, none⟩) (Nat.le_refl _) (.slice A5 v.length c5))
      clear q0 q1 q2 q3 q4 hv ho hn hb hb5 hb3 ho3 hn3 hst ho4 hown h5 h6
      go_wp2
      go_roundw
      case rel => exact ⟨x + 1, by omega, by go_num, ⟨_, HO4.out, HNS.out⟩, HB4.out⟩
      case measure => simp [intOf]; omega
    · have hxe : x = ns.length := by omega
      have hltxI : ¬ (x : Int) < (ns.length : Int) := by omega
      obtain ⟨xs, ho, hn⟩ := hv.out
      rw [hxe, Nat.sub_self, List.replicate_zero, List.append_nil] at ho
      rw [hxe, List.take_length] at hn
      have HO' := Lib.hid (own_down ho HB2.out.size)
      have HN' := Lib.hid (hn.down HB2.out.size)
      have HBf := Lib.hid (Law.then_ HB2.out hb.out)
      clear hxe hv ho hn hb
      go_wp2
      go_ret2
      rw [HX.out]
      exact ⟨_, xs, rfl, HO'.out, HN'.out, HBf.out⟩
end Go.Proofs.Ythpoeeadhjnljaa
