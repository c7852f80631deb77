/-
  ExpectedLeast of the code. ExpectedLeast of the model.
-/
import Derived.Test.YtammlkaclooohaaMgg
import Derived.Test.YtammlkaclooohaaMgj
import Derived.Test.YtammlkaclooohaaWw8
import Derived.Test.YtammlkaclooohaaPlw
import Derived.Test.YtammlkaclooohaaMgo
/- ExpectedLeast of the code. -/
namespace Go.Proofs.Ytammlkaclooohaa
open Go.RowKit
set_option linter.unusedVariables false
namespace Q
/-- The least cost of a sequence. -/
def optQ (L S : List (List Int)) (s0 : Nat) (l : List Int) : Int := leastK (workK L S s0 l l.length) (workK L S s0 l l.length).length
theorem opt_bd {L S : List (List Int)} (h : Pr L S) {s0 : Nat} (h0 : s0 < L.length) {l : List Int} (hr : ∀ k, k < l.length → ∃ x : Nat, l[k]? = some (x : Int) ∧ x < S.length) : 0 ≤ optQ L S s0 l ∧ optQ L S s0 l ≤ 119 * (l.length : Int) + 119 := by
  obtain ⟨h1, h2⟩ := workK_vals h h0 hr l.length (Nat.le_refl _)
  have hn1 := h.n1
  have hm := leastK_mem (l := workK L S s0 l l.length) (by omega) _ (Nat.le_refl _)
  obtain ⟨j, hj, e⟩ := List.mem_iff_getElem.1 hm
  obtain ⟨z, hz, z0, z9⟩ := h2 j (by omega)
  rw [List.getElem?_eq_getElem hj] at hz
  injection hz with hz
  unfold optQ
  rw [← e, hz]
  exact ⟨z0, z9⟩
theorem good_nats {m : Nat} {l : List Int} (h : good (m : Int) l = true) : l.length ≤ 60 ∧ ∀ k, k < l.length → ∃ x : Nat, l[k]? = some (x : Int) ∧ x < m := by
  obtain ⟨N, e, _, _, h5, h6⟩ := good_nat h
  have e' : N = m := by omega
  subst e'
  exact ⟨h5, h6⟩
theorem Chn.sums {m n : Nat} {ws : List Int} {C : List (List Int)} (h : Chn m ws C n) {g : List Int → Int} {H : Int} (hH : H ≤ 100000) (hg : ∀ l ∈ C, 0 ≤ g l ∧ g l ≤ H) : (∀ k, k ≤ C.length → -1000000000000000 ≤ sfK ws (fun i => g (C.getD i [])) k ∧ sfK ws (fun i => g (C.getD i [])) k ≤ 1000000000000000) ∧ (∀ k z, k < C.length → ws[k]? = some z → -1000000000000000 ≤ z * g (C.getD k []) ∧ z * g (C.getD k []) ≤ 1000000000000000) := by
  have hget : ∀ k, k < C.length → C.getD k [] ∈ C := fun k hk => by rw [List.getD_eq_getElem?_getD, List.getElem?_eq_getElem hk]; exact List.getElem_mem hk
  have hn := h.n12
  refine ⟨fun k hk => ?_, fun k z hk hz => ?_⟩
  · obtain ⟨b1, b2⟩ := sfK_bd (g := fun i => g (C.getD i [])) (H := H) h.within0 k (by rw [h.wl]; exact hk) fun j hj => hg _ (hget j (by omega))
    have hH0 : 0 ≤ H := by have := hg _ (hget 0 (by have := h.n1; omega)); omega
    have : 9 * H * (k : Int) ≤ 900000 * 12 := by
      have a := Int.mul_le_mul (show 9 * H ≤ 900000 by omega) (show (k : Int) ≤ 12 by omega) (Int.natCast_nonneg k) (by omega)
      omega
    omega
  · obtain ⟨z', hz', z0, z9⟩ := within_at h.within0 (k := k) (by rw [h.wl]; exact hk)
    rw [hz] at hz'
    cases hz'
    obtain ⟨g1, g2⟩ := hg _ (hget k hk)
    have := prod_bd z0 z9 g1 g2
    omega
theorem Chn.pos {m n : Nat} {ws : List Int} {C : List (List Int)} (h : Chn m ws C n) : 0 < sumK ws ws.length := by
  have := (sumK_bd h.ww ws.length (Nat.le_refl _)).1
  have h1 := h.n1
  have h2 := h.wl
  omega
noncomputable def elQ (L S : List (List Int)) (start : Int) (ws : List Int) (C : List (List Int)) : Int × Int × Bool := if (askQ L S start [] && chnQ S.length ws C) = true then F.mk (sfK ws (fun i => optQ L S start.toNat (C.getD i [])) C.length) (sumK ws ws.length) else (0, 0, false)
end Q
/-- What the literals capture: the problem and the start. -/
structure PsE (W : World) (bp bs : Nat) (A : Option Addr) (c : Nat) (xs : List Value) (L : List (List Int)) (B : Option Addr) (d : Nat) (ys : List Value) (S : List (List Int)) (s0 : Nat) : Prop where
  pb : Bk2 W bp (.slice A L.length c) (.slice B S.length d)
  sb : Bk1 W bs (.int .i64 (s0 : Int))
  mv : NRow W A xs L
  sv : NRow W B ys S
theorem PsE.on {W W' : World} {bp bs : Nat} {A : Option Addr} {c : Nat} {xs : List Value} {L : List (List Int)} {B : Option Addr} {d : Nat} {ys : List Value} {S : List (List Int)} {s0 : Nat} (h : PsE W bp bs A c xs L B d ys S s0) (hb : Below W.heap.size W W') : PsE W' bp bs A c xs L B d ys S s0 :=
  ⟨h.pb.on hb, h.sb.on hb, h.mv.stays hb, h.sv.stays hb⟩
/-- A return of a lottery that lies in a block of the call's own. -/
theorem ret_lot {fn : Func} {R : Ending → World → Prop} {a : Act} {w : World} {pt : Tmp} {b : Nat} {x y : Value}
    (h : fn.results = #[.cell pt 110]) (hd : a.defers = []) (hp : a.tmps.getD pt undef = .pointer (some ⟨b, 0, none⟩)) (hB : Bk2 w b x y)
    (hR : R (.returned (.agg #[x, y])) w) : bodyPost Try.prog fn R .ret a w := by
  refine bodyPost_ret_by (v := .agg #[x, y]) ?_ hd hR
  obtain ⟨c0, c1, _, _, _⟩ := hB
  have key : (results fn a.tmps).run Try.prog w = ((asAddr (a.tmps.getD pt undef)).run Try.prog w).andThen fun q w1 => (loadVar 110 q).run Try.prog w1 := by
    simp only [results, h]
    simp [Sem.run_bind, Result.andThen]
  rw [key, hp]
  go_simp
section
variable (A : Option Addr) (c : Nat) (xs : List Value) (L : List (List Int)) (B : Option Addr) (d : Nat) (ys : List Value) (S : List (List Int)) (w : World)
set_option maxHeartbeats 800000 in
theorem ellit_any (bp bs s0 : Nat) (hpr : Q.Pr L S) (h0 : s0 < L.length) (l : List Int) (X : Option Addr) (dX : Nat) (hg : Q.good (S.length : Int) l = true) (h : PsE w bp bs A c xs L B d ys S s0) (hX : Law.Row w X (ivs l)) :
    Calls Try.prog 102 #[.slice X l.length dX, .pointer (some ⟨bp, 0, none⟩), .pointer (some ⟨bs, 0, none⟩)] w fun e w' => e = .returned (.int .i64 (Q.optQ L S s0 l)) ∧ Below w.heap.size w w' := by
  obtain ⟨hg1, hg2⟩ := Q.good_nats hg
  have HW := Lib.hid (workOf_any A c xs L B d ys S w s0 l X dX hpr h0 hg1 hg2 h.mv h.sv hX)
  have hwl := (Q.workK_vals hpr h0 hg2 l.length (Nat.le_refl _)).1
  have hn1 := hpr.n1
  have hn4 := hpr.n4
  unfold Q.optQ
  rw [← Q.minOf_least (by omega)]
  obtain ⟨p0, p1, _, _, _⟩ := h.pb
  have s1 := h.sb.c0
  generalize Q.workK L S s0 l l.length = cs at HW hwl ⊢
  have HM := Lib.hid fun (Y : Option Addr) (e : Nat) (W : World) (hr : Law.Row W Y (ivs cs)) => min_row (c := e) hr (by omega) (by omega)
  generalize Lib.minOf cs = mn at HM ⊢
  clear h hX hg1 hg2 hg hpr hwl
  generalize l.length = n at *
  go_enter Try.func102, Try.ntmps102
  go_wp2_with fail
  go_at_call 104
  refine HW.out.mono ?_
  rintro e w1 ⟨v1, rfl, ho, hb⟩
  obtain ⟨A1, c1, rfl, _, _, _⟩ := Law.own_len ho
  have HR := Lib.hid (Law.Row.own ho)
  have HB := Lib.hid hb
  clear ho hb p0 p1 s1
  go_wp2_with fail
  go_at_call 103
  refine (HM.out _ _ _ HR.out).mono ?_
  rintro e w' ⟨rfl, hw'⟩
  obtain rfl := hw'.symm
  clear hw'
  go_wp2
  go_ret
  exact ⟨rfl, HB.out⟩
theorem seqs_any (V : Option Addr) (n1 dv : Nat) (N : Option Addr) (n2 cN : Nat) : Calls Try.prog 98 #[pv V n1 dv N n2 cN] w fun e w' => e = .returned (.agg #[.slice V n1 dv, .slice N n2 cN]) ∧ Below w.heap.size w w' := by
  go_enter Try.func98, Try.ntmps98
  have hb0 : Below w.heap.size w (w.alloc (.cells #[.slice V n1 dv, .slice N n2 cN] 61)) := (Below.refl _ _).alloc (Nat.le_refl _) _
  have hb1 : Below w.heap.size w ((w.alloc (.cells #[.slice V n1 dv, .slice N n2 cN] 61)).alloc (.cells #[.slice V n1 dv, .slice N n2 cN] 110)) := hb0.alloc hb0.size _
  have k1 : Bk2 ((w.alloc (.cells #[.slice V n1 dv, .slice N n2 cN] 61)).alloc (.cells #[.slice V n1 dv, .slice N n2 cN] 110)) (w.heap.size + 1) (.slice V n1 dv) (.slice N n2 cN) := by
    have h := Bk2.new (w.alloc (.cells #[.slice V n1 dv, .slice N n2 cN] 61)) (.slice V n1 dv) (.slice N n2 cN) 110
    rwa [show (w.alloc (.cells #[.slice V n1 dv, .slice N n2 cN] 61)).heap.size = w.heap.size + 1 by simp] at h
  have K1 := Lib.hid k1
  have HB1 := Lib.hid hb1
  clear hb0 hb1 k1
  go_wp2_with fail
  exact ret_lot rfl rfl rfl K1.out ⟨rfl, HB1.out⟩
end
/-- What ExpectedLeast has around it: the boxes of its arguments, and the block of its result. -/
structure ElI (w W : World) (A : Option Addr) (n0 c : Nat) (B : Option Addr) (m d : Nat) (st : Int) (V : Option Addr) (dv : Nat) (ws : List Int) (N : Option Addr) (cN : Nat) (zs : List Value) (C : List (List Int)) : Prop where
  pb : Bk2 W w.heap.size (.slice A n0 c) (.slice B m d)
  sb : Bk1 W (w.heap.size + 1) (.int .i64 st)
  cb : Bk2 W (w.heap.size + 1 + 1) (.slice V ws.length dv) (.slice N C.length cN)
  rb : Bk2 W (w.heap.size + 1 + 1 + 1) (.int .i64 0) (.int .i64 0)
  wv : Law.Row W V (ivs ws)
  sv : NRow W N zs C
  bl : Below w.heap.size w W
section
variable {w W W' : World} {A : Option Addr} {n0 c : Nat} {B : Option Addr} {m d : Nat} {st : Int} {V : Option Addr} {dv : Nat} {ws : List Int} {N : Option Addr} {cN : Nat} {zs : List Value} {C : List (List Int)}
theorem ElI.on (h : ElI w W A n0 c B m d st V dv ws N cN zs C) (hb : Below W.heap.size W W') : ElI w W' A n0 c B m d st V dv ws N cN zs C := ⟨h.pb.on hb, h.sb.on hb, h.cb.on hb, h.rb.on hb, h.wv.stays hb, h.sv.stays hb, Law.then_ h.bl hb⟩
theorem ElI.begin_ (t t1 t2 t3 : TypeId) (hV : Law.Row w V (ivs ws)) (hN : NRow w N zs C) : ElI w ((((w.alloc (.cells #[.slice A n0 c, .slice B m d] t)).alloc (.cells #[.int .i64 st] t1)).alloc (.cells #[.slice V ws.length dv, .slice N C.length cN] t2)).alloc (.cells #[.int .i64 0, .int .i64 0] t3)) A n0 c B m d st V dv ws N cN zs C := by
  have al : ∀ (W : World) (o : Obj), Below W.heap.size W (W.alloc o) := fun W o => (Below.refl _ _).alloc (Nat.le_refl _) o
  have z1 : (w.alloc (.cells #[.slice A n0 c, .slice B m d] t)).heap.size = w.heap.size + 1 := by simp
  have z2 : ((w.alloc (.cells #[.slice A n0 c, .slice B m d] t)).alloc (.cells #[.int .i64 st] t1)).heap.size = w.heap.size + 1 + 1 := by simp
  have z3 : (((w.alloc (.cells #[.slice A n0 c, .slice B m d] t)).alloc (.cells #[.int .i64 st] t1)).alloc (.cells #[.slice V ws.length dv, .slice N C.length cN] t2)).heap.size = w.heap.size + 1 + 1 + 1 := by simp
  have b1 := al w (.cells #[.slice A n0 c, .slice B m d] t)
  have hb : Below w.heap.size w ((((w.alloc (.cells #[.slice A n0 c, .slice B m d] t)).alloc (.cells #[.int .i64 st] t1)).alloc (.cells #[.slice V ws.length dv, .slice N C.length cN] t2)).alloc (.cells #[.int .i64 0, .int .i64 0] t3)) := Law.then_ (Law.then_ (Law.then_ b1 (al _ _)) (al _ _)) (al _ _)
  refine ⟨(((Bk2.new w _ _ _).alloc _).alloc _).alloc _, ?_, ?_, ?_, hV.stays hb, hN.stays hb, hb⟩
  · have h := Bk1.new (w.alloc (.cells #[.slice A n0 c, .slice B m d] t)) (.int .i64 st) t1
    rw [z1] at h
    exact (h.on (al _ _)).on (al _ _)
  · have h := Bk2.new ((w.alloc (.cells #[.slice A n0 c, .slice B m d] t)).alloc (.cells #[.int .i64 st] t1)) (.slice V ws.length dv) (.slice N C.length cN) t2
    rw [z2] at h
    exact h.on (al _ _)
  · have h := Bk2.new (((w.alloc (.cells #[.slice A n0 c, .slice B m d] t)).alloc (.cells #[.int .i64 st] t1)).alloc (.cells #[.slice V ws.length dv, .slice N C.length cN] t2)) (.int .i64 0) (.int .i64 0) t3
    rwa [z3] at h
theorem ElI.fin (h : ElI w W A n0 c B m d st V dv ws N cN zs C) (x y : Value) : Below w.heap.size w ((W.setCell ⟨w.heap.size + 1 + 1 + 1, 0, none⟩ x).setCell ⟨w.heap.size + 1 + 1 + 1, 1, none⟩ y) :=
  (h.bl.setCell (p := ⟨w.heap.size + 1 + 1 + 1, 0, none⟩) (by show w.heap.size ≤ w.heap.size + 1 + 1 + 1; omega) x).setCell (p := ⟨w.heap.size + 1 + 1 + 1, 1, none⟩) (by show w.heap.size ≤ w.heap.size + 1 + 1 + 1; omega) y
theorem ElI.blk (h : ElI w W A n0 c B m d st V dv ws N cN zs C) : Blk W (w.heap.size + 1 + 1 + 1) (.int .i64 0) (.int .i64 0) := ⟨h.rb.c0, h.rb.c1, h.rb.f0, h.rb.f1⟩
end
section
variable (A : Option Addr) (c : Nat) (xs : List Value) (L : List (List Int)) (B : Option Addr) (d : Nat) (ys : List Value) (S : List (List Int)) (st : Int) (V : Option Addr) (dv : Nat) (ws : List Int) (N : Option Addr) (cN : Nat) (zs : List Value) (C : List (List Int)) (w : World)
set_option maxRecDepth 100000 in
set_option maxHeartbeats 1600000 in
theorem impEl_any (hlL : ∀ l ∈ L, l.length ≤ 1048576) (hlS : ∀ l ∈ S, l.length ≤ 1048576) (hl : ∀ l ∈ C, l.length ≤ 1048576) (hn : C.length ≤ 1048576) (hwl : ws.length ≤ 1048576) (hL : NRow w A xs L) (hS : NRow w B ys S) (hV : Law.Row w V (ivs ws)) (hN : NRow w N zs C) :
    Calls Try.prog 48 #[pv A L.length c B S.length d, .int .i64 st, pv V ws.length dv N C.length cN] w fun e w' => e = .returned (res (Q.elQ L S st ws C)) ∧ Below w.heap.size w w' := by
  have HI := Lib.hid (ElI.begin_ (A := A) (n0 := L.length) (c := c) (B := B) (m := S.length) (d := d) (st := st) (dv := dv) (cN := cN) 35 3 61 32 hV hN)
  have HG := Lib.hid fun (W : World) (h : Below w.heap.size w W) => isAsked_any A c xs L B d ys S W st [] none 0 hlL hlS (by simp) (hL.stays h) (hS.stays h) (fun h => absurd rfl h)
  have HC := Lib.hid fun (W : World) (h : Below w.heap.size w W) => isChances_any A L.length c B S.length d V dv ws N cN zs C W hl hn hwl (hV.stays h) (hN.stays h)
  cases ha : Q.askQ L S st []
  · rw [ha] at HG
    have HX : Hid (Q.elQ L S st ws C = (0, 0, false)) := if_neg (by simp [ha])
    generalize Q.elQ L S st ws C = X at HX ⊢
    clear hL hS hV hN hl hlS hlL ha HC
    go_enter Try.func48, Try.ntmps48
    go_wp2_with fail
    generalize (((w.alloc (.cells #[.slice A L.length c, .slice B S.length d] 35)).alloc (.cells #[.int .i64 st] 3)).alloc (.cells #[.slice V ws.length dv, .slice N C.length cN] 61)).alloc (.cells #[.int .i64 0, .int .i64 0] 32) = wa at HI ⊢
    obtain ⟨p0, p1, _, _, _⟩ := HI.out.pb
    have s0 := HI.out.sb.c0
    go_wp2_with fail
    go_at_call 69
    refine (HG.out wa HI.out.bl).mono ?_
    rintro e w1 ⟨rfl, hb⟩
    replace HI := Lib.hid (HI.out.on hb)
    clear hb p0 p1 s0
    obtain ⟨k0, k1, kf0, kf1, _⟩ := HI.out.rb
    go_wp2
    refine ret_frac rfl rfl rfl (Blk.set2 HI.out.blk _ _) rfl ⟨by rw [HX.out]; rfl, HI.out.fin _ _⟩
  · rw [ha] at HG
    cases hc : Q.chnQ S.length ws C
    · rw [hc] at HC
      have HX : Hid (Q.elQ L S st ws C = (0, 0, false)) := if_neg (by simp [hc])
      generalize Q.elQ L S st ws C = X at HX ⊢
      clear hL hS hV hN hl hlS hlL ha hc
      go_enter Try.func48, Try.ntmps48
      go_wp2_with fail
      generalize (((w.alloc (.cells #[.slice A L.length c, .slice B S.length d] 35)).alloc (.cells #[.int .i64 st] 3)).alloc (.cells #[.slice V ws.length dv, .slice N C.length cN] 61)).alloc (.cells #[.int .i64 0, .int .i64 0] 32) = wa at HI ⊢
      obtain ⟨p0, p1, _, _, _⟩ := HI.out.pb
      have s0 := HI.out.sb.c0
      go_wp2_with fail
      go_at_call 69
      refine (HG.out wa HI.out.bl).mono ?_
      rintro e w1 ⟨rfl, hb⟩
      replace HI := Lib.hid (HI.out.on hb)
      clear hb p0 p1 s0
      obtain ⟨p0, p1, _, _, _⟩ := HI.out.pb
      obtain ⟨q0, q1, _, _, _⟩ := HI.out.cb
      go_wp2_with fail
      go_at_call 93
      refine (HC.out w1 HI.out.bl).mono ?_
      rintro e w2 ⟨rfl, hb⟩
      replace HI := Lib.hid (HI.out.on hb)
      clear hb p0 p1 q0 q1
      obtain ⟨k0, k1, kf0, kf1, _⟩ := HI.out.rb
      go_wp2
      refine ret_frac rfl rfl rfl (Blk.set2 HI.out.blk _ _) rfl ⟨by rw [HX.out]; rfl, HI.out.fin _ _⟩
    · rw [hc] at HC
      have hask := Q.ask_iff.1 ha
      have hch := Q.chn_iff.1 hc
      obtain ⟨n0, rfl, hn0⟩ := hask.st
      have hpr := hask.pr
      have HX : Hid (Q.elQ L S (n0 : Int) ws C = F.mk (Q.sfK ws (fun i => Q.optQ L S n0 (C.getD i [])) C.length) (Q.sumK ws ws.length)) := by
        show _ = _
        unfold Q.elQ
        rw [if_pos (by simp [ha, hc])]
        rfl
      have hsum := hch.sums (g := Q.optQ L S n0) (H := 833) (by omega) fun l hl => by
        have h := hch.row l hl
        have hgn := Q.good_nats h.2
        have hb := Q.opt_bd hpr hn0 hgn.2
        have h6 := hch.n6
        omega
      have HMn := Lib.hid fun (W : World) (h : Below w.heap.size w W) (hE : PsE W w.heap.size (w.heap.size + 1) A c xs L B d ys S n0) => SumSel.mean_any (.pointer (some ⟨w.heap.size, 0, none⟩)) (.pointer (some ⟨w.heap.size + 1, 0, none⟩)) (fun W => PsE W w.heap.size (w.heap.size + 1) A c xs L B d ys S n0) (Q.optQ L S n0) V dv ws N cN zs C W (fun W W' h hb => h.on hb) (fun l X dX W hm he hX => ellit_any A c xs L B d ys S W w.heap.size (w.heap.size + 1) n0 hpr hn0 l X dX (hch.row l hm).2 he hX) hch.wl hn hsum.1 hsum.2 hch.within0 hch.pos hE (hV.stays h) (hN.stays h)
      have HLr := Lib.hid fun (W : World) (h : Below w.heap.size w W) => And.intro (hL.stays h) (hS.stays h)
      rw [← HX.out] at HMn
      generalize Q.elQ L S (n0 : Int) ws C = X at HMn ⊢
      obtain ⟨N1, D1, ok⟩ := X
      replace HMn : Hid (∀ W, Below w.heap.size w W → PsE W w.heap.size (w.heap.size + 1) A c xs L B d ys S n0 → Calls Try.prog 99 #[.agg #[.slice V ws.length dv, .slice N C.length cN], SumSel.lit (.pointer (some ⟨w.heap.size, 0, none⟩)) (.pointer (some ⟨w.heap.size + 1, 0, none⟩))] W fun e w' => e = .returned (.tuple #[.agg #[.int .i64 N1, .int .i64 D1], .bool ok]) ∧ Below W.heap.size W w') := HMn
      have HSq := Lib.hid fun W => seqs_any W V ws.length dv N C.length cN
      clear hL hS hV hN hl hlS hlL ha hc hask hch hpr hsum HX
      go_enter Try.func48, Try.ntmps48
      go_wp2_with fail
      generalize (((w.alloc (.cells #[.slice A L.length c, .slice B S.length d] 35)).alloc (.cells #[.int .i64 (n0 : Int)] 3)).alloc (.cells #[.slice V ws.length dv, .slice N C.length cN] 61)).alloc (.cells #[.int .i64 0, .int .i64 0] 32) = wa at HI ⊢
      obtain ⟨p0, p1, _, _, _⟩ := HI.out.pb
      have s0 := HI.out.sb.c0
      go_wp2_with fail
      go_at_call 69
      refine (HG.out wa HI.out.bl).mono ?_
      rintro e w1 ⟨rfl, hb⟩
      replace HI := Lib.hid (HI.out.on hb)
      clear hb p0 p1 s0
      obtain ⟨p0, p1, _, _, _⟩ := HI.out.pb
      obtain ⟨q0, q1, _, _, _⟩ := HI.out.cb
      go_wp2_with fail
      go_at_call 93
      refine (HC.out w1 HI.out.bl).mono ?_
      rintro e w2 ⟨rfl, hb⟩
      replace HI := Lib.hid (HI.out.on hb)
      clear hb p0 p1 q0 q1
      obtain ⟨q0, q1, _, _, _⟩ := HI.out.cb
      go_wp2_with fail
      go_at_call 98
      refine (HSq.out w2).mono ?_
      rintro e w3 ⟨rfl, hb⟩
      replace HI := Lib.hid (HI.out.on hb)
      clear hb q0 q1
      go_wp2_with fail
      go_at_call 99
      refine (HMn.out w3 HI.out.bl ⟨HI.out.pb, HI.out.sb, (HLr.out w3 HI.out.bl).1, (HLr.out w3 HI.out.bl).2⟩).mono ?_
      rintro e w4 ⟨rfl, hb⟩
      replace HI := Lib.hid (HI.out.on hb)
      clear hb
      obtain ⟨k0, k1, kf0, kf1, _⟩ := HI.out.rb
      go_wp2
      refine ret_frac rfl rfl rfl (Blk.set2 HI.out.blk _ _) rfl ⟨rfl, HI.out.fin _ _⟩
end
end Go.Proofs.Ytammlkaclooohaa

/- ExpectedLeast of the model. -/
namespace Go.Proofs.Ytammlkaclooohaa
open Go.RowKit
set_option linter.unusedVariables false
theorem Q.start_eq (L S : List (List Int)) (st : Int) (v : Bool) : ((Q.prQ L S && v) && (decide (0 ≤ st) && decide (st ≤ (L.length : Int) - 1))) = (Q.askQ L S st [] && v) := by
  cases hp : Q.prQ L S
  · simp [Q.askQ, hp]
  · have h := Q.pr_iff.1 hp
    have h1 := h.m1
    have h4 := h.m4
    have hg : Q.good (S.length : Int) [] = true := Q.good_iff.2 ⟨⟨by omega, by omega⟩, by simp, fun z hz => by simp at hz⟩
    rw [Q.askQ, hp, hg, show decide (st ≤ (L.length : Int) - 1) = decide (st < (L.length : Int)) by rw [decide_eq_decide]; omega]
    cases v <;> simp
section
variable (A : Option Addr) (c : Nat) (xs : List Value) (L : List (List Int)) (B : Option Addr) (d : Nat) (ys : List Value) (S : List (List Int)) (st : Int) (V : Option Addr) (dv : Nat) (ws : List Int) (N : Option Addr) (cN : Nat) (zs : List Value) (C : List (List Int)) (w : World)
set_option maxHeartbeats 800000 in
theorem l11Start_any (hL4 : L.length ≤ 1048576) (hlS : ∀ l ∈ S, l.length ≤ 1048576) (hl : ∀ l ∈ C, l.length ≤ 1048576) (hn : C.length ≤ 1048576) (hwl : ws.length ≤ 1048576) (hL : NRow w A xs L) (hS : NRow w B ys S) (hV : Law.Row w V (ivs ws)) (hN : NRow w N zs C) :
    Calls Try.prog 94 #[pv A L.length c B S.length d, .int .i64 st, pv V ws.length dv N C.length cN] w fun e w' => e = .returned (.bool (Q.askQ L S st [] && Q.chnQ S.length ws C)) ∧ Below w.heap.size w w' := by
  have HI := Lib.hid (ChI.start (A := A) (n0 := L.length) (c := c) (B := B) (m := S.length) (d := d) (dv := dv) (cN := cN) 35 61 hV hN)
  have HC := Lib.hid fun (W : World) (h : Below w.heap.size w W) => l11Chances_any A c xs L B d ys S V dv ws N cN zs C W hlS hl hn hwl (hL.stays h) (hS.stays h) (hV.stays h) (hN.stays h)
  have HIn := Lib.hid fun W => l1In_any st 0 ((L.length : Int) - 1) W
  have hE := Q.start_eq L S st (Q.chnQ S.length ws C)
  have hwr : IntKind.i64.wrap ((L.length : Int) - 1) = (L.length : Int) - 1 := IntWalk.i64_in _ (by omega)
  rw [← hE]
  generalize (Q.prQ L S && Q.chnQ S.length ws C) = u at HC ⊢
  generalize (decide (0 ≤ st) && decide (st ≤ (L.length : Int) - 1)) = v at HIn ⊢
  clear hL hS hV hN hl hlS hE
  go_enter Try.func94, Try.ntmps94
  go_wp2_with fail
  generalize (w.alloc (.cells #[.slice A L.length c, .slice B S.length d] 35)).alloc (.cells #[.slice V ws.length dv, .slice N C.length cN] 61) = wa at HI ⊢
  obtain ⟨p0, p1, _, _, _⟩ := HI.out.pb
  obtain ⟨q0, q1, _, _, _⟩ := HI.out.cb
  go_wp2_with fail
  go_at_call 91
  refine (HC.out wa HI.out.bl).mono ?_
  rintro e w1 ⟨rfl, hb⟩
  replace HI := Lib.hid (HI.out.on hb)
  clear hb p0 p1 q0 q1
  obtain ⟨p0, p1, _, _, _⟩ := HI.out.pb
  cases u
  · go_wp2
    go_ret
    exact ⟨rfl, HI.out.bl⟩
  · go_wp2_with fail
    go_at_call 83
    refine (HIn.out _).mono ?_
    rintro e w' ⟨rfl, hw'⟩
    obtain rfl := hw'.symm
    clear hw'
    go_wp2
    go_ret
    exact ⟨rfl, HI.out.bl⟩
end
/-- What the model's ExpectedLeast has around it. -/
structure EsI (w W : World) (A : Option Addr) (n0 c : Nat) (B : Option Addr) (m d : Nat) (V : Option Addr) (dv : Nat) (ws : List Int) (N : Option Addr) (cN : Nat) (zs : List Value) (C : List (List Int)) : Prop where
  i : ChI w W A n0 c B m d V dv ws N cN zs C
  rb : Bk2 W (w.heap.size + 1 + 1) (.int .i64 0) (.int .i64 0)
section
variable {w W W' : World} {A : Option Addr} {n0 c : Nat} {B : Option Addr} {m d : Nat} {V : Option Addr} {dv : Nat} {ws : List Int} {N : Option Addr} {cN : Nat} {zs : List Value} {C : List (List Int)}
theorem EsI.on (h : EsI w W A n0 c B m d V dv ws N cN zs C) (hb : Below W.heap.size W W') : EsI w W' A n0 c B m d V dv ws N cN zs C := ⟨h.i.on hb, h.rb.on hb⟩
theorem EsI.begin_ (t t2 t3 : TypeId) (hV : Law.Row w V (ivs ws)) (hN : NRow w N zs C) : EsI w (((w.alloc (.cells #[.slice A n0 c, .slice B m d] t)).alloc (.cells #[.slice V ws.length dv, .slice N C.length cN] t2)).alloc (.cells #[.int .i64 0, .int .i64 0] t3)) A n0 c B m d V dv ws N cN zs C := by
  refine ⟨(ChI.start t t2 hV hN).on ((Below.refl _ _).alloc (Nat.le_refl _) _), ?_⟩
  have h := Bk2.new ((w.alloc (.cells #[.slice A n0 c, .slice B m d] t)).alloc (.cells #[.slice V ws.length dv, .slice N C.length cN] t2)) (.int .i64 0) (.int .i64 0) t3
  rwa [show ((w.alloc (.cells #[.slice A n0 c, .slice B m d] t)).alloc (.cells #[.slice V ws.length dv, .slice N C.length cN] t2)).heap.size = w.heap.size + 1 + 1 by simp] at h
theorem EsI.fin (h : EsI w W A n0 c B m d V dv ws N cN zs C) (x y : Value) : Below w.heap.size w ((W.setCell ⟨w.heap.size + 1 + 1, 0, none⟩ x).setCell ⟨w.heap.size + 1 + 1, 1, none⟩ y) :=
  (h.i.bl.setCell (p := ⟨w.heap.size + 1 + 1, 0, none⟩) (by show w.heap.size ≤ w.heap.size + 1 + 1; omega) x).setCell (p := ⟨w.heap.size + 1 + 1, 1, none⟩) (by show w.heap.size ≤ w.heap.size + 1 + 1; omega) y
theorem EsI.blk (h : EsI w W A n0 c B m d V dv ws N cN zs C) : Blk W (w.heap.size + 1 + 1) (.int .i64 0) (.int .i64 0) := ⟨h.rb.c0, h.rb.c1, h.rb.f0, h.rb.f1⟩
end
section
variable (A : Option Addr) (c : Nat) (xs : List Value) (L : List (List Int)) (B : Option Addr) (d : Nat) (ys : List Value) (S : List (List Int)) (st : Int) (V : Option Addr) (dv : Nat) (ws : List Int) (N : Option Addr) (cN : Nat) (zs : List Value) (C : List (List Int)) (w : World)
set_option maxRecDepth 100000 in
set_option maxHeartbeats 1600000 in
theorem specEl_any (hL4 : L.length ≤ 1048576) (hlS : ∀ l ∈ S, l.length ≤ 1048576) (hl : ∀ l ∈ C, l.length ≤ 1048576) (hn : C.length ≤ 1048576) (hwl : ws.length ≤ 1048576) (hL : NRow w A xs L) (hS : NRow w B ys S) (hV : Law.Row w V (ivs ws)) (hN : NRow w N zs C) :
    Calls Try.prog 47 #[pv A L.length c B S.length d, .int .i64 st, pv V ws.length dv N C.length cN] w fun e w' => e = .returned (res (Q.elQ L S st ws C)) ∧ Below w.heap.size w w' := by
  have HI := Lib.hid (EsI.begin_ (A := A) (n0 := L.length) (c := c) (B := B) (m := S.length) (d := d) (dv := dv) (cN := cN) 35 61 32 hV hN)
  have HG := Lib.hid fun (W : World) (h : Below w.heap.size w W) => l11Start_any A c xs L B d ys S st V dv ws N cN zs C W hL4 hlS hl hn hwl (hL.stays h) (hS.stays h) (hV.stays h) (hN.stays h)
  cases ha : (Q.askQ L S st [] && Q.chnQ S.length ws C)
  · rw [ha] at HG
    have HX : Hid (Q.elQ L S st ws C = (0, 0, false)) := if_neg (by simp [ha])
    generalize Q.elQ L S st ws C = X at HX ⊢
    clear hL hS hV hN hl hlS ha
    go_enter Try.func47, Try.ntmps47
    go_wp2_with fail
    generalize ((w.alloc (.cells #[.slice A L.length c, .slice B S.length d] 35)).alloc (.cells #[.slice V ws.length dv, .slice N C.length cN] 61)).alloc (.cells #[.int .i64 0, .int .i64 0] 32) = wa at HI ⊢
    obtain ⟨p0, p1, _, _, _⟩ := HI.out.i.pb
    obtain ⟨q0, q1, _, _, _⟩ := HI.out.i.cb
    go_wp2_with fail
    go_at_call 94
    refine (HG.out wa HI.out.i.bl).mono ?_
    rintro e w1 ⟨rfl, hb⟩
    replace HI := Lib.hid (HI.out.on hb)
    clear hb p0 p1 q0 q1
    obtain ⟨k0, k1, kf0, kf1, _⟩ := HI.out.rb
    go_wp2
    refine ret_frac rfl rfl rfl (Blk.set2 HI.out.blk _ _) rfl ⟨by rw [HX.out]; rfl, HI.out.fin _ _⟩
  · rw [ha] at HG
    rw [Bool.and_eq_true] at ha
    have hask := Q.ask_iff.1 ha.1
    have hch := Q.chn_iff.1 ha.2
    obtain ⟨n0, rfl, hn0⟩ := hask.st
    have hpr := hask.pr
    have HX : Hid (Q.elQ L S (n0 : Int) ws C = F.mk (Q.sfK ws (fun i => Q.optQ L S n0 (C.getD i [])) C.length) (Q.sumK ws ws.length)) := by
      show _ = _
      unfold Q.elQ
      rw [if_pos (by simp [ha.1, ha.2])]
      rfl
    have hgb : ∀ l ∈ C, 0 ≤ Q.optQ L S n0 l ∧ Q.optQ L S n0 l ≤ 833 := fun l hl => by
      have h := hch.row l hl
      have hgn := Q.good_nats h.2
      have hb := Q.opt_bd hpr hn0 hgn.2
      have h6 := hch.n6
      omega
    have hsum := hch.sums (g := Q.optQ L S n0) (H := 833) (by omega) hgb
    have HSb := Lib.hid hsum.1
    have HSp := Lib.hid hsum.2
    have HSs := Lib.hid fun k z (h : ws[k]? = some z) => Q.sfK_succ (g := fun i => Q.optQ L S n0 (C.getD i [])) h
    have HSz : Hid (Q.sfK ws (fun i => Q.optQ L S n0 (C.getD i [])) 0 = 0) := rfl
    have HOp := Lib.hid fun (l : List Int) (X : Option Addr) (dX : Nat) (W : World) (hm : l ∈ C) (h : Below w.heap.size w W) (hX : Law.Row W X (ivs l)) => l8Opt_any A c xs L B d ys S W n0 l X dX hpr hn0 (Q.good_nats (hch.row l hm).2).1 (Q.good_nats (hch.row l hm).2).2 (hL.stays h) (hS.stays h) hX
    have HWx : Hid (∀ k, k < C.length → ∃ z, ws[k]? = some z) := fun k hk => ⟨_, List.getElem?_eq_getElem (by rw [hch.wl]; exact hk)⟩
    have HTt := Lib.hid fun (W : World) (h : Law.Row W V (ivs ws)) => l11Sum_any V dv ws W 0 (Int.le_refl _) hch.within0 hwl h
    have hsb := hsum.1 C.length (Nat.le_refl _)
    have hpos := hch.pos
    have htb := Q.sum_bd hch.within0 (Int.le_refl _) (Nat.le_refl ws.length)
    have hwI : (C.length : Int) ≤ (ws.length : Int) := by have := hch.wl; omega
    have hcn := hch.n12
    change Hid (∀ (l : List Int) (X : Option Addr) (dX : Nat) (W : World), l ∈ C → Below w.heap.size w W → Law.Row W X (ivs l) → Calls Try.prog 101 #[pv A L.length c B S.length d, .int .i64 (n0 : Int), .slice X l.length dX] W fun e w' => e = .returned (.int .i64 (Q.optQ L S n0 l)) ∧ Below W.heap.size W w') at HOp
    generalize Q.optQ L S n0 = g at HX HSb HSp HSs HSz HOp hsb
    generalize hK : Q.sfK ws (fun i => g (C.getD i [])) = K at HX HSb HSs HSz hsb
    generalize Q.sumK ws ws.length = tt at HX HTt hpos htb
    have HRd := Lib.hid fun W => l2Make_any (K C.length) tt W (by omega) (by omega) (by omega) (by omega)
    rw [← HX.out] at HRd
    generalize Q.elQ L S (n0 : Int) ws C = X at HRd ⊢
    obtain ⟨N1, D1, ok⟩ := X
    replace HRd : Hid (∀ W, Calls Try.prog 67 #[.int .i64 (K C.length), .int .i64 tt] W fun e w' => e = .returned (.tuple #[.agg #[.int .i64 N1, .int .i64 D1], .bool ok]) ∧ Below W.heap.size W w') := HRd
    clear hL hS hV hN hl hlS ha hask hch hpr hgb hsum HX hK hsb hpos htb
    go_enter Try.func47, Try.ntmps47
    go_wp2_with fail
    generalize ((w.alloc (.cells #[.slice A L.length c, .slice B S.length d] 35)).alloc (.cells #[.slice V ws.length dv, .slice N C.length cN] 61)).alloc (.cells #[.int .i64 0, .int .i64 0] 32) = wa at HI ⊢
    obtain ⟨p0, p1, _, _, _⟩ := HI.out.i.pb
    obtain ⟨q0, q1, _, _, _⟩ := HI.out.i.cb
    go_wp2_with fail
    go_at_call 94
    refine (HG.out wa HI.out.i.bl).mono ?_
    rintro e w1 ⟨rfl, hb⟩
    replace HI := Lib.hid (HI.out.on hb)
    clear hb p0 p1 q0 q1
    go_wp2_with fail
    go_loopw [8, 9] (fun s i wr => ∃ k : Nat, k ≤ C.length ∧ i = .int .i64 (k : Int) ∧ s = .int .i64 (K k) ∧ Hid (Below w1.heap.size w1 wr)) (fun _ i _ => C.length - (intOf i).toNat)
    case atStart => exact ⟨0, Nat.zero_le _, rfl, by rw [HSz.out], Below.refl _ _⟩
    case round =>
      obtain ⟨k, hk, rfl, rfl, hbr⟩ := hrel
      have HI2 := Lib.hid (HI.out.on hbr.out)
      obtain ⟨p0, p1, _, _, _⟩ := HI2.out.i.pb
      obtain ⟨q0, q1, _, _, _⟩ := HI2.out.i.cb
      by_cases hlt : k < C.length
      · have hltI : (k : Int) < (C.length : Int) := by omega
        have hltW : (k : Int) < (ws.length : Int) := by omega
        obtain ⟨l, hlk⟩ : ∃ l, C[k]? = some l := ⟨_, List.getElem?_eq_getElem hlt⟩
        obtain ⟨b, off, X, dX, rfl, hbb, hc, hrow⟩ := HI2.out.i.sv.row_at hlk
        obtain ⟨z, hz⟩ := HWx.out k hlt
        obtain ⟨bV, oV, eV, hbV, hcV⟩ := HI2.out.i.wv.at_ (ivs_some hz)
        subst eV
        have hg : C.getD k [] = l := by rw [List.getD_eq_getElem?_getD, hlk]; rfl
        have HO := Lib.hid fun (W : World) (h : Below wr.heap.size wr W) => HOp.out l X dX W (List.mem_of_getElem? hlk) (Law.then_ HI2.out.i.bl h) (hrow.stays h)
        obtain ⟨k1, k2⟩ := HSb.out k hk
        obtain ⟨n1, n2⟩ := HSb.out (k + 1) (by omega)
        obtain ⟨m1, m2⟩ := HSp.out k z hlt hz
        have hS := HSs.out k z hz
        rw [hg] at hS m1 m2
        have HN := Lib.hid hS
        generalize g l = fv at HO hS m1 m2 HN
        generalize hP : z * fv = P at m1 m2 HN hS
        have hw1 : IntKind.i64.wrap P = P := IntWalk.i64_in _ (by omega)
        have hw2 : IntKind.i64.wrap (K k + P) = K k + P := IntWalk.i64_in _ (by omega)
        have HM : Hid (∀ w' : World, Below wr.heap.size wr w' → w'.cell? ⟨w.heap.size, 0, none⟩ = some (.slice A L.length c) ∧ w'.cell? ⟨w.heap.size, 1, none⟩ = some (.slice B S.length d) ∧ w'.cell? ⟨w.heap.size + 1, 0, none⟩ = some (.slice (some ⟨bV, oV, none⟩) ws.length dv) ∧ w'.cell? ⟨w.heap.size + 1, 1, none⟩ = some (.slice (some ⟨b, off, none⟩) C.length cN) ∧ w'.cell? ⟨bV, oV + k, none⟩ = some (.int .i64 z) ∧ w'.cell? ⟨b, off + k, none⟩ = some (.slice X l.length dX) ∧ Below wr.heap.size wr w') := fun w' h => by
          obtain ⟨a0, a1, _, _, _⟩ := HI2.out.i.pb.on h
          obtain ⟨b0, b1, _, _, _⟩ := HI2.out.i.cb.on h
          exact ⟨a0, a1, b0, b1, (h.cell (p := ⟨bV, oV + k, none⟩) hbV).trans hcV, (h.cell (p := ⟨b, off + k, none⟩) hbb).trans hc, h⟩
        have hs0 := HM.out wr.drew (Below.refl _ _).drew
        clear hlk hrow hz hg hS n1 n2 HOp
        generalize l.length = ln at HO HM hc hs0
        go_wp2
        go_region_held3 (fun w' => w'.cell? ⟨w.heap.size, 0, none⟩ = some (.slice A L.length c) ∧ w'.cell? ⟨w.heap.size, 1, none⟩ = some (.slice B S.length d) ∧ w'.cell? ⟨w.heap.size + 1, 0, none⟩ = some (.slice (some ⟨bV, oV, none⟩) ws.length dv) ∧ w'.cell? ⟨w.heap.size + 1, 1, none⟩ = some (.slice (some ⟨b, off, none⟩) C.length cN) ∧ w'.cell? ⟨bV, oV + k, none⟩ = some (.int .i64 z) ∧ w'.cell? ⟨b, off + k, none⟩ = some (.slice X ln dX) ∧ Below wr.heap.size wr w') ((first | exact hs0 | assumption | exact HM.out _ (Law.then_ (by assumption : _ ∧ _ ∧ _ ∧ _ ∧ _ ∧ _ ∧ Below wr.heap.size wr _).2.2.2.2.2.2 (by assumption)))) (first
          | (go_at_call 101; have hS9 := (by assumption : _ ∧ _ ∧ _ ∧ _ ∧ _ ∧ _ ∧ Below wr.heap.size wr _).2.2.2.2.2.2; refine (HO.out _ hS9).mono ?_; rintro e w10 ⟨rfl, hb10⟩; clear hS9))
        all_goals
          have hbl := (by assumption : _ ∧ _ ∧ _ ∧ _ ∧ _ ∧ _ ∧ Below wr.heap.size wr w10).2.2.2.2.2.2
          have HBn := Lib.hid (Law.then_ hbr.out hbl)
          clear hbl hb10 hs0 HM p0 p1 q0 q1 hcV hc
          go_wp2
          go_roundw
          case rel => exact ⟨k + 1, by omega, by go_num, by rw [HN.out], HBn.out⟩
          case measure => simp [intOf]; omega
      · have hke : k = C.length := by omega
        have hltI : ¬ (k : Int) < (C.length : Int) := by omega
        have HKe : Hid (K k = K C.length) := by show _ = _; rw [hke]
        rw [HKe.out]
        clear hke
        go_wp2_with fail
        go_at_call 78
        refine (HTt.out _ HI2.out.i.wv).mono ?_
        rintro e w' ⟨rfl, hw'⟩
        obtain rfl := hw'.symm
        clear hw'
        go_wp2_with fail
        go_at_call 67
        refine (HRd.out wr).mono ?_
        rintro e w4 ⟨rfl, hb⟩
        have HI3 := Lib.hid (HI2.out.on hb)
        clear hb p0 p1 q0 q1
        obtain ⟨k0, k1, kf0, kf1, _⟩ := HI3.out.rb
        go_wp2
        refine ret_frac rfl rfl rfl (Blk.set2 HI3.out.blk _ _) rfl ⟨rfl, HI3.out.fin _ _⟩
end
end Go.Proofs.Ytammlkaclooohaa
