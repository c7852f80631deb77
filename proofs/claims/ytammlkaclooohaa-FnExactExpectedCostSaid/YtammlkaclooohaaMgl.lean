/-
  ExpectedCost of the code. ExpectedCost of the model.
-/
import Derived.Test.YtammlkaclooohaaMgk
import Derived.Test.YtammlkaclooohaaMgj
import Derived.Test.YtammlkaclooohaaMgp
/- ExpectedCost of the code. -/
namespace Go.Proofs.Ytammlkaclooohaa
open Go.RowKit
set_option linter.unusedVariables false
set_option maxRecDepth 100000 in
set_option maxHeartbeats 1600000 in
theorem runCost_any (A : Option Addr) (c : Nat) (xs : List Value) (L : List (List Int)) (B : Option Addr) (d : Nat) (ys : List Value) (S : List (List Int)) (w : World) (N : Option Addr) (cN : Nat) (zs : List Value) (next : List (List Int)) (s0 : Nat) (reqs : List Int) (R : Option Addr) (e : Nat) (hpr : Q.Pr L S) (ha : Q.algQ L.length S next = true) (h0 : s0 < L.length) (h60 : reqs.length ≤ 60) (hrq : Q.Nats S.length reqs) (hL : NRow w A xs L) (hS : NRow w B ys S) (hN : NRow w N zs next) (hR : Law.Row w R (ivs reqs)) :
    Calls Try.prog 74 #[pv A L.length c B S.length d, .slice N next.length cN, .int .i64 (s0 : Int), .slice R reqs.length e] w fun e w' => e = .returned (.int .i64 (Q.costK L S s0 reqs (Q.statesL next s0 reqs reqs.length) reqs.length).1) ∧ Below w.heap.size w w' := by
  have HP := Lib.hid (PIn.start (c := c) (d := d) hL hS 35)
  have hlX := Q.statesL_len next s0 reqs reqs.length
  have hnX := Q.states_nats (Q.alg_iff ha) h0 hrq
  have HSt := Lib.hid fun (W : World) (h : Below w.heap.size w W) => statesOf_any N cN zs next W s0 reqs R e hpr.n1 hpr.m1 (Q.alg_iff ha) h0 h60 hrq (hN.stays h) (hR.stays h)
  have HSu := Lib.hid fun (T : Option Addr) (f : Nat) (W : World) (h : Below w.heap.size w W) (h3 : Law.Row W T (ivs (Q.statesL next s0 reqs reqs.length))) => costOf_any A c xs L B d ys S W s0 reqs (Q.statesL next s0 reqs reqs.length) R e T f hpr h0 hlX h60 hrq hnX (hL.stays h) (hS.stays h) (hR.stays h) h3
  generalize (Q.costK L S s0 reqs (Q.statesL next s0 reqs reqs.length) reqs.length).1 = K at HSu ⊢
  generalize Q.statesL next s0 reqs reqs.length = X at HSt HSu
  clear hL hS hN hR hlX hnX ha hpr hrq
  go_enter Try.func74, Try.ntmps74
  go_wp2_with fail
  generalize w.alloc (.cells #[.slice A L.length c, .slice B S.length d] 35) = wa at HP ⊢
  obtain ⟨p0, p1, _, _, _⟩ := HP.out.bk
  have hp0 := Law.cell_in p0
  have hb0 := HP.out.bl
  have HM : Hid (∀ w' : World, Below wa.heap.size wa w' → w'.cell? ⟨w.heap.size, 0, none⟩ = some (.slice A L.length c) ∧ w'.cell? ⟨w.heap.size, 1, none⟩ = some (.slice B S.length d) ∧ Below wa.heap.size wa w') := Lib.hid fun w' h => ⟨(h.cell (p := ⟨w.heap.size, 0, none⟩) hp0).trans p0, (h.cell (p := ⟨w.heap.size, 1, none⟩) hp0).trans p1, h⟩
  have hs0 := HM.out wa.drew (Below.refl _ _).drew
  have HB0 := Lib.hid hb0
  clear hp0 hb0
  go_wp2
  first
    | go_region_held3 (fun w' => w'.cell? ⟨w.heap.size, 0, none⟩ = some (.slice A L.length c) ∧ w'.cell? ⟨w.heap.size, 1, none⟩ = some (.slice B S.length d) ∧ Below wa.heap.size wa w') ((first | exact hs0 | assumption | exact HM.out _ (Law.then_ (by assumption : _ ∧ _ ∧ Below wa.heap.size wa _).2.2 (by assumption)))) (first
      | (go_at_call 79; refine (HSt.out _ (Law.then_ HB0.out (by assumption : _ ∧ _ ∧ Below wa.heap.size wa _).2.2)).mono ?_; rintro e w10 ⟨v10, rfl, ho10, hb10⟩; obtain ⟨T, f, rfl, _, _, _⟩ := Law.own_len ho10; have HO10 := Lib.hid ho10; clear ho10)
      | (go_at_call 144; refine (HSu.out T f _ (Law.then_ HB0.out (by assumption : _ ∧ _ ∧ Below wa.heap.size wa _).2.2) (Law.Row.own HO10.out)).mono ?_; rintro e w11 ⟨rfl, hb11⟩))
    | fail
  all_goals
    have hbl := (by assumption : _ ∧ _ ∧ Below wa.heap.size wa w11).2.2
    have HB := Lib.hid (Law.then_ HB0.out hbl)
    clear hbl hs0 HM p0 p1
    go_wp2
    go_ret
    exact ⟨rfl, HB.out⟩
namespace Q
/-- The cost of an algorithm on a sequence. -/
def cstQ (L S next : List (List Int)) (s0 : Nat) (l : List Int) : Int := (costK L S s0 l (statesL next s0 l l.length) l.length).1
theorem cst_bd {L S next : List (List Int)} (h : Pr L S) (ha : algQ L.length S next = true) {s0 : Nat} (h0 : s0 < L.length) {l : List Int} (hr : Nats S.length l) : -(l.length : Int) ≤ cstQ L S next s0 l ∧ cstQ L S next s0 l ≤ 119 * (l.length : Int) :=
  (costK_bd h h0 (statesL_len next s0 l l.length) hr (states_nats (alg_iff ha) h0 hr) l.length (Nat.le_refl _)).2
theorem prod_bd2 {z x H : Int} (h0 : 0 ≤ z) (h9 : z ≤ 9) (x0 : -H ≤ x) (x9 : x ≤ H) (hH : 0 ≤ H) : -(9 * H) ≤ z * x ∧ z * x ≤ 9 * H := by
  have a := Int.mul_le_mul_of_nonneg_left x0 h0
  have b := Int.mul_le_mul_of_nonneg_left x9 h0
  have c : z * H ≤ 9 * H := Int.mul_le_mul_of_nonneg_right h9 hH
  have d : z * -H = -(z * H) := Int.mul_neg _ _
  omega
theorem sfK_bd2 {ws : List Int} {g : Nat → Int} {H : Int} (hH : 0 ≤ H) (hw : within 0 9 ws = true) : ∀ k, k ≤ ws.length → (∀ j, j < k → -H ≤ g j ∧ g j ≤ H) → -(9 * H * (k : Int)) ≤ sfK ws g k ∧ sfK ws g k ≤ 9 * H * (k : Int)
  | 0, _, _ => by simp [sfK]
  | k + 1, hk, hg => by
    obtain ⟨i1, i2⟩ := sfK_bd2 hH hw k (by omega) fun j hj => hg j (by omega)
    obtain ⟨z, hz, z1, z2⟩ := within_at hw (show k < ws.length by omega)
    obtain ⟨g1, g2⟩ := hg k (by omega)
    have hp := prod_bd2 z1 z2 g1 g2 hH
    rw [sfK_succ hz, show ((k + 1 : Nat) : Int) = (k : Int) + 1 by omega, Int.mul_add]
    omega
theorem Chn.sums2 {m n : Nat} {ws : List Int} {C : List (List Int)} (h : Chn m ws C n) {g : List Int → Int} (hg : ∀ l ∈ C, -1000 ≤ g l ∧ g l ≤ 1000) : (∀ k, k ≤ C.length → -1000000000000000 ≤ sfK ws (fun i => g (C.getD i [])) k ∧ sfK ws (fun i => g (C.getD i [])) k ≤ 1000000000000000) ∧ (∀ k z, k < C.length → ws[k]? = some z → -1000000000000000 ≤ z * g (C.getD k []) ∧ z * g (C.getD k []) ≤ 1000000000000000) := by
  have hget : ∀ k, k < C.length → C.getD k [] ∈ C := fun k hk => by rw [List.getD_eq_getElem?_getD, List.getElem?_eq_getElem hk]; exact List.getElem_mem hk
  have hn := h.n12
  refine ⟨fun k hk => ?_, fun k z hk hz => ?_⟩
  · obtain ⟨b1, b2⟩ := sfK_bd2 (g := fun i => g (C.getD i [])) (H := 1000) (by omega) h.within0 k (by rw [h.wl]; exact hk) fun j hj => hg _ (hget j (by omega))
    omega
  · obtain ⟨z', hz', z0, z9⟩ := within_at h.within0 (k := k) (by rw [h.wl]; exact hk)
    rw [hz] at hz'
    cases hz'
    obtain ⟨g1, g2⟩ := hg _ (hget k hk)
    have := prod_bd2 z0 z9 g1 g2 (by omega)
    omega
noncomputable def ecQ (L S next : List (List Int)) (start : Int) (ws : List Int) (C : List (List Int)) : Int × Int × Bool := if ((askQ L S start [] && algQ L.length S next) && chnQ S.length ws C) = true then F.mk (sfK ws (fun i => cstQ L S next start.toNat (C.getD i [])) C.length) (sumK ws ws.length) else (0, 0, false)
end Q
/-- What the literal captures: the problem, the algorithm and the start. -/
structure PnE (W : World) (bp bn bs : Nat) (A : Option Addr) (c : Nat) (xs : List Value) (L : List (List Int)) (B : Option Addr) (d : Nat) (ys : List Value) (S : List (List Int)) (T : Option Addr) (cT : Nat) (ts : List Value) (next : List (List Int)) (s0 : Nat) : Prop where
  pb : Bk2 W bp (.slice A L.length c) (.slice B S.length d)
  nb : Bk1 W bn (.slice T next.length cT)
  sb : Bk1 W bs (.int .i64 (s0 : Int))
  mv : NRow W A xs L
  sv : NRow W B ys S
  tv : NRow W T ts next
theorem PnE.on {W W' : World} {bp bn bs : Nat} {A : Option Addr} {c : Nat} {xs : List Value} {L : List (List Int)} {B : Option Addr} {d : Nat} {ys : List Value} {S : List (List Int)} {T : Option Addr} {cT : Nat} {ts : List Value} {next : List (List Int)} {s0 : Nat} (h : PnE W bp bn bs A c xs L B d ys S T cT ts next s0) (hb : Below W.heap.size W W') : PnE W' bp bn bs A c xs L B d ys S T cT ts next s0 :=
  ⟨h.pb.on hb, h.nb.on hb, h.sb.on hb, h.mv.stays hb, h.sv.stays hb, h.tv.stays hb⟩
section
variable (A : Option Addr) (c : Nat) (xs : List Value) (L : List (List Int)) (B : Option Addr) (d : Nat) (ys : List Value) (S : List (List Int)) (T : Option Addr) (cT : Nat) (ts : List Value) (next : List (List Int)) (w : World)
set_option maxHeartbeats 800000 in
theorem eclit_any (bp bn bs s0 : Nat) (hpr : Q.Pr L S) (ha : Q.algQ L.length S next = true) (h0 : s0 < L.length) (l : List Int) (X : Option Addr) (dX : Nat) (hg : Q.good (S.length : Int) l = true) (h : PnE w bp bn bs A c xs L B d ys S T cT ts next s0) (hX : Law.Row w X (ivs l)) :
    Calls Try.prog 100 #[.slice X l.length dX, .pointer (some ⟨bp, 0, none⟩), .pointer (some ⟨bn, 0, none⟩), .pointer (some ⟨bs, 0, none⟩)] w fun e w' => e = .returned (.int .i64 (Q.cstQ L S next s0 l)) ∧ Below w.heap.size w w' := by
  obtain ⟨hg1, hg2⟩ := Q.good_nats hg
  have HW := Lib.hid (runCost_any A c xs L B d ys S w T cT ts next s0 l X dX hpr ha h0 hg1 hg2 h.mv h.sv h.tv hX)
  change Hid (Calls Try.prog 74 #[pv A L.length c B S.length d, .slice T next.length cT, .int .i64 (s0 : Int), .slice X l.length dX] w fun e w' => e = .returned (.int .i64 (Q.cstQ L S next s0 l)) ∧ Below w.heap.size w w') at HW
  obtain ⟨p0, p1, _, _, _⟩ := h.pb
  have n1 := h.nb.c0
  have s1 := h.sb.c0
  generalize Q.cstQ L S next s0 l = v at HW ⊢
  clear h hX hg1 hg2 hg hpr ha
  generalize l.length = n at *
  go_enter Try.func100, Try.ntmps100
  go_wp2_with fail
  go_at_call 74
  refine HW.out.mono ?_
  rintro e w1 ⟨rfl, hb⟩
  have HB := Lib.hid hb
  clear hb p0 p1 s1 n1
  go_wp2
  go_ret
  exact ⟨rfl, HB.out⟩
end
/-- What ExpectedCost has around it. -/
structure EnI (w W : World) (A : Option Addr) (n0 c : Nat) (B : Option Addr) (m d : Nat) (T : Option Addr) (nT cT : Nat) (st : Int) (V : Option Addr) (dv : Nat) (ws : List Int) (N : Option Addr) (cN : Nat) (zs : List Value) (C : List (List Int)) : Prop where
  pb : Bk2 W w.heap.size (.slice A n0 c) (.slice B m d)
  nb : Bk1 W (w.heap.size + 1) (.slice T nT cT)
  sb : Bk1 W (w.heap.size + 1 + 1) (.int .i64 st)
  cb : Bk2 W (w.heap.size + 1 + 1 + 1) (.slice V ws.length dv) (.slice N C.length cN)
  rb : Bk2 W (w.heap.size + 1 + 1 + 1 + 1) (.int .i64 0) (.int .i64 0)
  wv : Law.Row W V (ivs ws)
  sv : NRow W N zs C
  bl : Below w.heap.size w W
section
variable {w W W' : World} {A : Option Addr} {n0 c : Nat} {B : Option Addr} {m d : Nat} {T : Option Addr} {nT cT : Nat} {st : Int} {V : Option Addr} {dv : Nat} {ws : List Int} {N : Option Addr} {cN : Nat} {zs : List Value} {C : List (List Int)}
theorem EnI.on (h : EnI w W A n0 c B m d T nT cT st V dv ws N cN zs C) (hb : Below W.heap.size W W') : EnI w W' A n0 c B m d T nT cT st V dv ws N cN zs C := ⟨h.pb.on hb, h.nb.on hb, h.sb.on hb, h.cb.on hb, h.rb.on hb, h.wv.stays hb, h.sv.stays hb, Law.then_ h.bl hb⟩
theorem EnI.begin_ (t t0 t1 t2 t3 : TypeId) (hV : Law.Row w V (ivs ws)) (hN : NRow w N zs C) : EnI w (((((w.alloc (.cells #[.slice A n0 c, .slice B m d] t)).alloc (.cells #[.slice T nT cT] t0)).alloc (.cells #[.int .i64 st] t1)).alloc (.cells #[.slice V ws.length dv, .slice N C.length cN] t2)).alloc (.cells #[.int .i64 0, .int .i64 0] t3)) A n0 c B m d T nT cT st V dv ws N cN zs C := by
  have al : ∀ (W : World) (o : Obj), Below W.heap.size W (W.alloc o) := fun W o => (Below.refl _ _).alloc (Nat.le_refl _) o
  have z1 : (w.alloc (.cells #[.slice A n0 c, .slice B m d] t)).heap.size = w.heap.size + 1 := by simp
  have z2 : ((w.alloc (.cells #[.slice A n0 c, .slice B m d] t)).alloc (.cells #[.slice T nT cT] t0)).heap.size = w.heap.size + 1 + 1 := by simp
  have z3 : (((w.alloc (.cells #[.slice A n0 c, .slice B m d] t)).alloc (.cells #[.slice T nT cT] t0)).alloc (.cells #[.int .i64 st] t1)).heap.size = w.heap.size + 1 + 1 + 1 := by simp
  have z4 : ((((w.alloc (.cells #[.slice A n0 c, .slice B m d] t)).alloc (.cells #[.slice T nT cT] t0)).alloc (.cells #[.int .i64 st] t1)).alloc (.cells #[.slice V ws.length dv, .slice N C.length cN] t2)).heap.size = w.heap.size + 1 + 1 + 1 + 1 := by simp
  have hb : Below w.heap.size w (((((w.alloc (.cells #[.slice A n0 c, .slice B m d] t)).alloc (.cells #[.slice T nT cT] t0)).alloc (.cells #[.int .i64 st] t1)).alloc (.cells #[.slice V ws.length dv, .slice N C.length cN] t2)).alloc (.cells #[.int .i64 0, .int .i64 0] t3)) := Law.then_ (Law.then_ (Law.then_ (Law.then_ (al w _) (al _ _)) (al _ _)) (al _ _)) (al _ _)
  refine ⟨((((Bk2.new w _ _ _).alloc _).alloc _).alloc _).alloc _, ?_, ?_, ?_, ?_, hV.stays hb, hN.stays hb, hb⟩
  · have h := Bk1.new (w.alloc (.cells #[.slice A n0 c, .slice B m d] t)) (.slice T nT cT) t0
    rw [z1] at h
    exact ((h.on (al _ _)).on (al _ _)).on (al _ _)
  · have h := Bk1.new ((w.alloc (.cells #[.slice A n0 c, .slice B m d] t)).alloc (.cells #[.slice T nT cT] t0)) (.int .i64 st) t1
    rw [z2] at h
    exact (h.on (al _ _)).on (al _ _)
  · have h := Bk2.new (((w.alloc (.cells #[.slice A n0 c, .slice B m d] t)).alloc (.cells #[.slice T nT cT] t0)).alloc (.cells #[.int .i64 st] t1)) (.slice V ws.length dv) (.slice N C.length cN) t2
    rw [z3] at h
    exact h.on (al _ _)
  · have h := Bk2.new ((((w.alloc (.cells #[.slice A n0 c, .slice B m d] t)).alloc (.cells #[.slice T nT cT] t0)).alloc (.cells #[.int .i64 st] t1)).alloc (.cells #[.slice V ws.length dv, .slice N C.length cN] t2)) (.int .i64 0) (.int .i64 0) t3
    rwa [z4] at h
theorem EnI.fin (h : EnI w W A n0 c B m d T nT cT st V dv ws N cN zs C) (x y : Value) : Below w.heap.size w ((W.setCell ⟨w.heap.size + 1 + 1 + 1 + 1, 0, none⟩ x).setCell ⟨w.heap.size + 1 + 1 + 1 + 1, 1, none⟩ y) :=
  (h.bl.setCell (p := ⟨w.heap.size + 1 + 1 + 1 + 1, 0, none⟩) (by show w.heap.size ≤ w.heap.size + 1 + 1 + 1 + 1; omega) x).setCell (p := ⟨w.heap.size + 1 + 1 + 1 + 1, 1, none⟩) (by show w.heap.size ≤ w.heap.size + 1 + 1 + 1 + 1; omega) y
theorem EnI.blk (h : EnI w W A n0 c B m d T nT cT st V dv ws N cN zs C) : Blk W (w.heap.size + 1 + 1 + 1 + 1) (.int .i64 0) (.int .i64 0) := ⟨h.rb.c0, h.rb.c1, h.rb.f0, h.rb.f1⟩
end
section
variable (A : Option Addr) (c : Nat) (xs : List Value) (L : List (List Int)) (B : Option Addr) (d : Nat) (ys : List Value) (S : List (List Int)) (T : Option Addr) (cT : Nat) (ts : List Value) (next : List (List Int)) (st : Int) (V : Option Addr) (dv : Nat) (ws : List Int) (N : Option Addr) (cN : Nat) (zs : List Value) (C : List (List Int)) (w : World)
set_option maxRecDepth 100000 in
set_option maxHeartbeats 1600000 in
theorem impEc_any (hlL : ∀ l ∈ L, l.length ≤ 1048576) (hlS : ∀ l ∈ S, l.length ≤ 1048576) (hl : ∀ l ∈ C, l.length ≤ 1048576) (hn : C.length ≤ 1048576) (hwl : ws.length ≤ 1048576) (hlT : ∀ l ∈ next, l.length ≤ 1048576) (hnT : next.length ≤ 1048576) (hL : NRow w A xs L) (hS : NRow w B ys S) (hV : Law.Row w V (ivs ws)) (hN : NRow w N zs C) (hT : NRow w T ts next) :
    Calls Try.prog 45 #[pv A L.length c B S.length d, .slice T next.length cT, .int .i64 st, pv V ws.length dv N C.length cN] w fun e w' => e = .returned (res (Q.ecQ L S next st ws C)) ∧ Below w.heap.size w w' := by
  have HI := Lib.hid (EnI.begin_ (A := A) (n0 := L.length) (c := c) (B := B) (m := S.length) (d := d) (T := T) (nT := next.length) (cT := cT) (st := st) (dv := dv) (cN := cN) 35 22 3 61 32 hV hN)
  have HG := Lib.hid fun (W : World) (h : Below w.heap.size w W) => isAsked_any A c xs L B d ys S W st [] none 0 hlL hlS (by simp) (hL.stays h) (hS.stays h) (fun h => absurd rfl h)
  have HC := Lib.hid fun (W : World) (h : Below w.heap.size w W) => isChances_any A L.length c B S.length d V dv ws N cN zs C W hl hn hwl (hV.stays h) (hN.stays h)
  have HA := Lib.hid fun (W : World) (hpr : Q.Pr L S) (h : Below w.heap.size w W) => isAlgorithm_any A c xs L B d ys S T cT ts next W hpr hlT hnT (hL.stays h) (hS.stays h) (hT.stays h)
  cases ha : Q.askQ L S st []
  · rw [ha] at HG
    have HX : Hid (Q.ecQ L S next st ws C = (0, 0, false)) := if_neg (by simp [ha])
    generalize Q.ecQ L S next st ws C = X at HX ⊢
    clear hL hS hV hN hT hl hlS hlL hlT ha HC HA
    go_enter Try.func45, Try.ntmps45
    go_wp2_with fail
    generalize ((((w.alloc (.cells #[.slice A L.length c, .slice B S.length d] 35)).alloc (.cells #[.slice T next.length cT] 22)).alloc (.cells #[.int .i64 st] 3)).alloc (.cells #[.slice V ws.length dv, .slice N C.length cN] 61)).alloc (.cells #[.int .i64 0, .int .i64 0] 32) = wa at HI ⊢
    obtain ⟨p0, p1, _, _, _⟩ := HI.out.pb
    have s0 := HI.out.sb.c0
    go_wp2_with fail
    go_at_call 69
    refine (HG.out wa HI.out.bl).mono ?_
    rintro e w1 ⟨rfl, hb⟩
    replace HI := Lib.hid (HI.out.on hb)
    clear hb p0 p1 s0
    obtain ⟨k0, k1, kf0, kf1, _⟩ := HI.out.rb
    go_wp2
    refine ret_frac rfl rfl rfl (Blk.set2 HI.out.blk _ _) rfl ⟨by rw [HX.out]; rfl, HI.out.fin _ _⟩
  · rw [ha] at HG
    have HA2 := Lib.hid fun (W : World) (h : Below w.heap.size w W) => HA.out W (Q.ask_iff.1 ha).pr h
    cases hal : Q.algQ L.length S next
    · rw [hal] at HA2
      have HX : Hid (Q.ecQ L S next st ws C = (0, 0, false)) := if_neg (by simp [hal])
      generalize Q.ecQ L S next st ws C = X at HX ⊢
      clear hL hS hV hN hT hl hlS hlL hlT ha hal HA HC
      go_enter Try.func45, Try.ntmps45
      go_wp2_with fail
      generalize ((((w.alloc (.cells #[.slice A L.length c, .slice B S.length d] 35)).alloc (.cells #[.slice T next.length cT] 22)).alloc (.cells #[.int .i64 st] 3)).alloc (.cells #[.slice V ws.length dv, .slice N C.length cN] 61)).alloc (.cells #[.int .i64 0, .int .i64 0] 32) = wa at HI ⊢
      obtain ⟨p0, p1, _, _, _⟩ := HI.out.pb
      have s0 := HI.out.sb.c0
      go_wp2_with fail
      go_at_call 69
      refine (HG.out wa HI.out.bl).mono ?_
      rintro e w1 ⟨rfl, hb⟩
      replace HI := Lib.hid (HI.out.on hb)
      clear hb p0 p1 s0
      obtain ⟨p0, p1, _, _, _⟩ := HI.out.pb
      have t0 := HI.out.nb.c0
      go_wp2_with fail
      go_at_call 97
      refine (HA2.out w1 HI.out.bl).mono ?_
      rintro e w2 ⟨rfl, hb⟩
      replace HI := Lib.hid (HI.out.on hb)
      clear hb p0 p1 t0
      obtain ⟨k0, k1, kf0, kf1, _⟩ := HI.out.rb
      go_wp2
      refine ret_frac rfl rfl rfl (Blk.set2 HI.out.blk _ _) rfl ⟨by rw [HX.out]; rfl, HI.out.fin _ _⟩
    rw [hal] at HA2
    cases hc : Q.chnQ S.length ws C
    · rw [hc] at HC
      have HX : Hid (Q.ecQ L S next st ws C = (0, 0, false)) := if_neg (by simp [hc])
      generalize Q.ecQ L S next st ws C = X at HX ⊢
      clear hL hS hV hN hT hl hlS hlL hlT ha hal hc HA
      go_enter Try.func45, Try.ntmps45
      go_wp2_with fail
      generalize ((((w.alloc (.cells #[.slice A L.length c, .slice B S.length d] 35)).alloc (.cells #[.slice T next.length cT] 22)).alloc (.cells #[.int .i64 st] 3)).alloc (.cells #[.slice V ws.length dv, .slice N C.length cN] 61)).alloc (.cells #[.int .i64 0, .int .i64 0] 32) = wa at HI ⊢
      obtain ⟨p0, p1, _, _, _⟩ := HI.out.pb
      have s0 := HI.out.sb.c0
      go_wp2_with fail
      go_at_call 69
      refine (HG.out wa HI.out.bl).mono ?_
      rintro e w1 ⟨rfl, hb⟩
      replace HI := Lib.hid (HI.out.on hb)
      clear hb p0 p1 s0
      obtain ⟨p0, p1, _, _, _⟩ := HI.out.pb
      have t0 := HI.out.nb.c0
      go_wp2_with fail
      go_at_call 97
      refine (HA2.out w1 HI.out.bl).mono ?_
      rintro e w9 ⟨rfl, hb⟩
      replace HI := Lib.hid (HI.out.on hb)
      clear hb p0 p1 t0
      obtain ⟨p0, p1, _, _, _⟩ := HI.out.pb
      obtain ⟨q0, q1, _, _, _⟩ := HI.out.cb
      go_wp2_with fail
      go_at_call 93
      refine (HC.out w9 HI.out.bl).mono ?_
      rintro e w2 ⟨rfl, hb⟩
      replace HI := Lib.hid (HI.out.on hb)
      clear hb p0 p1 q0 q1
      obtain ⟨k0, k1, kf0, kf1, _⟩ := HI.out.rb
      go_wp2
      refine ret_frac rfl rfl rfl (Blk.set2 HI.out.blk _ _) rfl ⟨by rw [HX.out]; rfl, HI.out.fin _ _⟩
    · rw [hc] at HC
      have hask := Q.ask_iff.1 ha
      have hch := Q.chn_iff.1 hc
      obtain ⟨n0, rfl, hn0⟩ := hask.st
      have hpr := hask.pr
      have HX : Hid (Q.ecQ L S next (n0 : Int) ws C = F.mk (Q.sfK ws (fun i => Q.cstQ L S next n0 (C.getD i [])) C.length) (Q.sumK ws ws.length)) := by
        show _ = _
        unfold Q.ecQ
        rw [if_pos (by simp [ha, hal, hc])]
        rfl
      have hsum := hch.sums2 (g := Q.cstQ L S next n0) fun l hl => by
        have h := hch.row l hl
        have hgn := Q.good_nats h.2
        have hb := Q.cst_bd hpr hal hn0 hgn.2
        have h6 := hch.n6
        omega
      have HMn := Lib.hid fun (W : World) (h : Below w.heap.size w W) (hE : PnE W w.heap.size (w.heap.size + 1) (w.heap.size + 1 + 1) A c xs L B d ys S T cT ts next n0) => SumSec.mean_any (.pointer (some ⟨w.heap.size, 0, none⟩)) (.pointer (some ⟨w.heap.size + 1, 0, none⟩)) (.pointer (some ⟨w.heap.size + 1 + 1, 0, none⟩)) (fun W => PnE W w.heap.size (w.heap.size + 1) (w.heap.size + 1 + 1) A c xs L B d ys S T cT ts next n0) (Q.cstQ L S next n0) V dv ws N cN zs C W (fun W W' h hb => h.on hb) (fun l X dX W hm he hX => eclit_any A c xs L B d ys S T cT ts next W w.heap.size (w.heap.size + 1) (w.heap.size + 1 + 1) n0 hpr hal hn0 l X dX (hch.row l hm).2 he hX) hch.wl hn hsum.1 hsum.2 hch.within0 hch.pos hE (hV.stays h) (hN.stays h)
      have HLr := Lib.hid fun (W : World) (h : Below w.heap.size w W) => And.intro (hL.stays h) (And.intro (hS.stays h) (hT.stays h))
      rw [← HX.out] at HMn
      generalize Q.ecQ L S next (n0 : Int) ws C = X at HMn ⊢
      obtain ⟨N1, D1, ok⟩ := X
      replace HMn : Hid (∀ W, Below w.heap.size w W → PnE W w.heap.size (w.heap.size + 1) (w.heap.size + 1 + 1) A c xs L B d ys S T cT ts next n0 → Calls Try.prog 99 #[.agg #[.slice V ws.length dv, .slice N C.length cN], SumSec.lit (.pointer (some ⟨w.heap.size, 0, none⟩)) (.pointer (some ⟨w.heap.size + 1, 0, none⟩)) (.pointer (some ⟨w.heap.size + 1 + 1, 0, none⟩))] W fun e w' => e = .returned (.tuple #[.agg #[.int .i64 N1, .int .i64 D1], .bool ok]) ∧ Below W.heap.size W w') := HMn
      have HSq := Lib.hid fun W => seqs_any W V ws.length dv N C.length cN
      clear hL hS hV hN hT hl hlS hlL hlT ha hal hc hask hch hpr hsum HX HA
      go_enter Try.func45, Try.ntmps45
      go_wp2_with fail
      generalize ((((w.alloc (.cells #[.slice A L.length c, .slice B S.length d] 35)).alloc (.cells #[.slice T next.length cT] 22)).alloc (.cells #[.int .i64 (n0 : Int)] 3)).alloc (.cells #[.slice V ws.length dv, .slice N C.length cN] 61)).alloc (.cells #[.int .i64 0, .int .i64 0] 32) = wa at HI ⊢
      obtain ⟨p0, p1, _, _, _⟩ := HI.out.pb
      have s0 := HI.out.sb.c0
      go_wp2_with fail
      go_at_call 69
      refine (HG.out wa HI.out.bl).mono ?_
      rintro e w1 ⟨rfl, hb⟩
      replace HI := Lib.hid (HI.out.on hb)
      clear hb p0 p1 s0
      obtain ⟨p0, p1, _, _, _⟩ := HI.out.pb
      have t0 := HI.out.nb.c0
      go_wp2_with fail
      go_at_call 97
      refine (HA2.out w1 HI.out.bl).mono ?_
      rintro e w9 ⟨rfl, hb⟩
      replace HI := Lib.hid (HI.out.on hb)
      clear hb p0 p1 t0
      obtain ⟨p0, p1, _, _, _⟩ := HI.out.pb
      obtain ⟨q0, q1, _, _, _⟩ := HI.out.cb
      go_wp2_with fail
      go_at_call 93
      refine (HC.out w9 HI.out.bl).mono ?_
      rintro e w2 ⟨rfl, hb⟩
      replace HI := Lib.hid (HI.out.on hb)
      clear hb p0 p1 q0 q1
      obtain ⟨q0, q1, _, _, _⟩ := HI.out.cb
      go_wp2_with fail
      go_at_call 98
      refine (HSq.out w2).mono ?_
      rintro e w3 ⟨rfl, hb⟩
      replace HI := Lib.hid (HI.out.on hb)
      clear hb q0 q1
      go_wp2_with fail
      go_at_call 99
      refine (HMn.out w3 HI.out.bl ⟨HI.out.pb, HI.out.nb, HI.out.sb, (HLr.out w3 HI.out.bl).1, (HLr.out w3 HI.out.bl).2.1, (HLr.out w3 HI.out.bl).2.2⟩).mono ?_
      rintro e w4 ⟨rfl, hb⟩
      replace HI := Lib.hid (HI.out.on hb)
      clear hb
      obtain ⟨k0, k1, kf0, kf1, _⟩ := HI.out.rb
      go_wp2
      refine ret_frac rfl rfl rfl (Blk.set2 HI.out.blk _ _) rfl ⟨rfl, HI.out.fin _ _⟩
end
end Go.Proofs.Ytammlkaclooohaa

/- ExpectedCost of the model. -/
namespace Go.Proofs.Ytammlkaclooohaa
open Go.RowKit
set_option linter.unusedVariables false
section
variable (A : Option Addr) (c : Nat) (xs : List Value) (L : List (List Int)) (B : Option Addr) (d : Nat) (ys : List Value) (S : List (List Int)) (T : Option Addr) (cT : Nat) (ts : List Value) (next : List (List Int)) (st : Int) (V : Option Addr) (dv : Nat) (ws : List Int) (N : Option Addr) (cN : Nat) (zs : List Value) (C : List (List Int)) (w : World)
set_option maxRecDepth 100000 in
set_option maxHeartbeats 1600000 in
theorem specEc_any (hL4 : L.length ≤ 1048576) (hlS : ∀ l ∈ S, l.length ≤ 1048576) (hl : ∀ l ∈ C, l.length ≤ 1048576) (hn : C.length ≤ 1048576) (hwl : ws.length ≤ 1048576) (hlT : ∀ l ∈ next, l.length ≤ 1048576) (hnT : next.length ≤ 1048576) (hL : NRow w A xs L) (hS : NRow w B ys S) (hV : Law.Row w V (ivs ws)) (hN : NRow w N zs C) (hT : NRow w T ts next) :
    Calls Try.prog 43 #[pv A L.length c B S.length d, .slice T next.length cT, .int .i64 st, pv V ws.length dv N C.length cN] w fun e w' => e = .returned (res (Q.ecQ L S next st ws C)) ∧ Below w.heap.size w w' := by
  have HI := Lib.hid (EsI.begin_ (A := A) (n0 := L.length) (c := c) (B := B) (m := S.length) (d := d) (dv := dv) (cN := cN) 35 61 32 hV hN)
  have HG := Lib.hid fun (W : World) (h : Below w.heap.size w W) => l11Start_any A c xs L B d ys S st V dv ws N cN zs C W hL4 hlS hl hn hwl (hL.stays h) (hS.stays h) (hV.stays h) (hN.stays h)
  have HA := Lib.hid fun (W : World) (hpr : Q.Pr L S) (h : Below w.heap.size w W) => l8Alg_any A c xs L B d ys S W T cT ts next hpr hlT hnT (hL.stays h) (hS.stays h) (hT.stays h)
  cases ha : (Q.askQ L S st [] && Q.chnQ S.length ws C)
  · rw [ha] at HG
    have HX : Hid (Q.ecQ L S next st ws C = (0, 0, false)) := if_neg (by cases h1 : Q.askQ L S st [] <;> cases h2 : Q.chnQ S.length ws C <;> simp [h1, h2] at ha ⊢)
    generalize Q.ecQ L S next st ws C = X at HX ⊢
    clear hL hS hV hN hT hl hlS hlT ha HA
    go_enter Try.func43, Try.ntmps43
    go_wp2_with fail
    generalize ((w.alloc (.cells #[.slice A L.length c, .slice B S.length d] 35)).alloc (.cells #[.slice V ws.length dv, .slice N C.length cN] 61)).alloc (.cells #[.int .i64 0, .int .i64 0] 32) = wa at HI ⊢
    obtain ⟨p0, p1, _, _, _⟩ := HI.out.i.pb
    obtain ⟨q0, q1, _, _, _⟩ := HI.out.i.cb
    go_wp2_with fail
    go_at_call 94
    refine (HG.out wa HI.out.i.bl).mono ?_
    rintro e w1 ⟨rfl, hb⟩
    replace HI := Lib.hid (HI.out.on hb)
    clear hb p0 p1 q0 q1
    obtain ⟨k0, k1, kf0, kf1, _⟩ := HI.out.rb
    go_wp2
    refine ret_frac rfl rfl rfl (Blk.set2 HI.out.blk _ _) rfl ⟨by rw [HX.out]; rfl, HI.out.fin _ _⟩
  · rw [ha] at HG
    rw [Bool.and_eq_true] at ha
    have HA2 := Lib.hid fun (W : World) (h : Below w.heap.size w W) => HA.out W (Q.ask_iff.1 ha.1).pr h
    clear HA
    cases hal : Q.algQ L.length S next
    · rw [hal] at HA2
      have HX : Hid (Q.ecQ L S next st ws C = (0, 0, false)) := if_neg (by simp [hal])
      generalize Q.ecQ L S next st ws C = X at HX ⊢
      clear hL hS hV hN hT hl hlS hlT ha hal
      go_enter Try.func43, Try.ntmps43
      go_wp2_with fail
      generalize ((w.alloc (.cells #[.slice A L.length c, .slice B S.length d] 35)).alloc (.cells #[.slice V ws.length dv, .slice N C.length cN] 61)).alloc (.cells #[.int .i64 0, .int .i64 0] 32) = wa at HI ⊢
      obtain ⟨p0, p1, _, _, _⟩ := HI.out.i.pb
      obtain ⟨q0, q1, _, _, _⟩ := HI.out.i.cb
      go_wp2_with fail
      go_at_call 94
      refine (HG.out wa HI.out.i.bl).mono ?_
      rintro e w1 ⟨rfl, hb⟩
      replace HI := Lib.hid (HI.out.on hb)
      clear hb p0 p1 q0 q1
      obtain ⟨p0, p1, _, _, _⟩ := HI.out.i.pb
      go_wp2_with fail
      go_at_call 95
      refine (HA2.out w1 HI.out.i.bl).mono ?_
      rintro e w2 ⟨rfl, hb⟩
      replace HI := Lib.hid (HI.out.on hb)
      clear hb p0 p1
      obtain ⟨k0, k1, kf0, kf1, _⟩ := HI.out.rb
      go_wp2
      refine ret_frac rfl rfl rfl (Blk.set2 HI.out.blk _ _) rfl ⟨by rw [HX.out]; rfl, HI.out.fin _ _⟩
    rw [hal] at HA2
    have hask := Q.ask_iff.1 ha.1
    have hch := Q.chn_iff.1 ha.2
    obtain ⟨n0, rfl, hn0⟩ := hask.st
    have hpr := hask.pr
    have HX : Hid (Q.ecQ L S next (n0 : Int) ws C = F.mk (Q.sfK ws (fun i => Q.cstQ L S next n0 (C.getD i [])) C.length) (Q.sumK ws ws.length)) := by
      show _ = _
      unfold Q.ecQ
      rw [if_pos (by simp [ha.1, ha.2, hal])]
      rfl
    have hsum := hch.sums2 (g := Q.cstQ L S next n0) fun l hl => by
      have h := hch.row l hl
      have hgn := Q.good_nats h.2
      have hb := Q.cst_bd hpr hal hn0 hgn.2
      have h6 := hch.n6
      omega
    have HSb := Lib.hid hsum.1
    have HSp := Lib.hid hsum.2
    have HSs := Lib.hid fun k z (h : ws[k]? = some z) => Q.sfK_succ (g := fun i => Q.cstQ L S next n0 (C.getD i [])) h
    have HSz : Hid (Q.sfK ws (fun i => Q.cstQ L S next n0 (C.getD i [])) 0 = 0) := rfl
    have HOp := Lib.hid fun (l : List Int) (X : Option Addr) (dX : Nat) (W : World) (hm : l ∈ C) (h : Below w.heap.size w W) (hX : Law.Row W X (ivs l)) => l8Cost_any A c xs L B d ys S W T cT ts next n0 l X dX hpr hal hn0 (Q.good_nats (hch.row l hm).2).1 (Q.good_nats (hch.row l hm).2).2 (hL.stays h) (hS.stays h) (hT.stays h) hX
    have HWx : Hid (∀ k, k < C.length → ∃ z, ws[k]? = some z) := fun k hk => ⟨_, List.getElem?_eq_getElem (by rw [hch.wl]; exact hk)⟩
    have HTt := Lib.hid fun (W : World) (h : Law.Row W V (ivs ws)) => l11Sum_any V dv ws W 0 (Int.le_refl _) hch.within0 hwl h
    have hsb := hsum.1 C.length (Nat.le_refl _)
    have hpos := hch.pos
    have htb := Q.sum_bd hch.within0 (Int.le_refl _) (Nat.le_refl ws.length)
    have hwI : (C.length : Int) ≤ (ws.length : Int) := by have := hch.wl; omega
    have hcn := hch.n12
    change Hid (∀ (l : List Int) (X : Option Addr) (dX : Nat) (W : World), l ∈ C → Below w.heap.size w W → Law.Row W X (ivs l) → Calls Try.prog 96 #[pv A L.length c B S.length d, .slice T next.length cT, .int .i64 (n0 : Int), .slice X l.length dX] W fun e w' => e = .returned (.int .i64 (Q.cstQ L S next n0 l)) ∧ Below W.heap.size W w') at HOp
    generalize Q.cstQ L S next n0 = g at HX HSb HSp HSs HSz HOp hsb
    generalize hK : Q.sfK ws (fun i => g (C.getD i [])) = K at HX HSb HSs HSz hsb
    generalize Q.sumK ws ws.length = tt at HX HTt hpos htb
    have HRd := Lib.hid fun W => l2Make_any (K C.length) tt W (by omega) (by omega) (by omega) (by omega)
    rw [← HX.out] at HRd
    generalize Q.ecQ L S next (n0 : Int) ws C = X at HRd ⊢
    obtain ⟨N1, D1, ok⟩ := X
    replace HRd : Hid (∀ W, Calls Try.prog 67 #[.int .i64 (K C.length), .int .i64 tt] W fun e w' => e = .returned (.tuple #[.agg #[.int .i64 N1, .int .i64 D1], .bool ok]) ∧ Below W.heap.size W w') := HRd
    clear hL hS hV hN hT hl hlS hlT ha hal hask hch hpr hsum HX hK hsb hpos htb
    go_enter Try.func43, Try.ntmps43
    go_wp2_with fail
    generalize ((w.alloc (.cells #[.slice A L.length c, .slice B S.length d] 35)).alloc (.cells #[.slice V ws.length dv, .slice N C.length cN] 61)).alloc (.cells #[.int .i64 0, .int .i64 0] 32) = wa at HI ⊢
    obtain ⟨p0, p1, _, _, _⟩ := HI.out.i.pb
    obtain ⟨q0, q1, _, _, _⟩ := HI.out.i.cb
    go_wp2_with fail
    go_at_call 94
    refine (HG.out wa HI.out.i.bl).mono ?_
    rintro e w1 ⟨rfl, hb⟩
    replace HI := Lib.hid (HI.out.on hb)
    clear hb p0 p1 q0 q1
    obtain ⟨p0, p1, _, _, _⟩ := HI.out.i.pb
    go_wp2_with fail
    go_at_call 95
    refine (HA2.out w1 HI.out.i.bl).mono ?_
    rintro e w7 ⟨rfl, hb⟩
    replace HI := Lib.hid (HI.out.on hb)
    clear hb p0 p1
    go_wp2_with fail
    go_loopw [10, 11] (fun s i wr => ∃ k : Nat, k ≤ C.length ∧ i = .int .i64 (k : Int) ∧ s = .int .i64 (K k) ∧ Hid (Below w7.heap.size w7 wr)) (fun _ i _ => C.length - (intOf i).toNat)
    case atStart => exact ⟨0, Nat.zero_le _, rfl, by rw [HSz.out], Below.refl _ _⟩
    case round =>
      obtain ⟨k, hk, rfl, rfl, hbr⟩ := hrel
      have HI2 := Lib.hid (HI.out.on hbr.out)
      obtain ⟨p0, p1, _, _, _⟩ := HI2.out.i.pb
      obtain ⟨q0, q1, _, _, _⟩ := HI2.out.i.cb
      by_cases hlt : k < C.length
      · have hltI : (k : Int) < (C.length : Int) := by omega
        have hltW : (k : Int) < (ws.length : Int) := by omega
        obtain ⟨l, hlk⟩ : ∃ l, C[k]? = some l := ⟨_, List.getElem?_eq_getElem hlt⟩
        obtain ⟨b, off, X, dX, rfl, hbb, hc, hrow⟩ := HI2.out.i.sv.row_at hlk
        obtain ⟨z, hz⟩ := HWx.out k hlt
        obtain ⟨bV, oV, eV, hbV, hcV⟩ := HI2.out.i.wv.at_ (ivs_some hz)
        subst eV
        have hg : C.getD k [] = l := by rw [List.getD_eq_getElem?_getD, hlk]; rfl
        have HO := Lib.hid fun (W : World) (h : Below wr.heap.size wr W) => HOp.out l X dX W (List.mem_of_getElem? hlk) (Law.then_ HI2.out.i.bl h) (hrow.stays h)
        obtain ⟨k1, k2⟩ := HSb.out k hk
        obtain ⟨n1, n2⟩ := HSb.out (k + 1) (by omega)
        obtain ⟨m1, m2⟩ := HSp.out k z hlt hz
        have hS := HSs.out k z hz
        rw [hg] at hS m1 m2
        have HN := Lib.hid hS
        generalize g l = fv at HO hS m1 m2 HN
        generalize hP : z * fv = P at m1 m2 HN hS
        have hw1 : IntKind.i64.wrap P = P := IntWalk.i64_in _ (by omega)
        have hw2 : IntKind.i64.wrap (K k + P) = K k + P := IntWalk.i64_in _ (by omega)
        have HM : Hid (∀ w' : World, Below wr.heap.size wr w' → w'.cell? ⟨w.heap.size, 0, none⟩ = some (.slice A L.length c) ∧ w'.cell? ⟨w.heap.size, 1, none⟩ = some (.slice B S.length d) ∧ w'.cell? ⟨w.heap.size + 1, 0, none⟩ = some (.slice (some ⟨bV, oV, none⟩) ws.length dv) ∧ w'.cell? ⟨w.heap.size + 1, 1, none⟩ = some (.slice (some ⟨b, off, none⟩) C.length cN) ∧ w'.cell? ⟨bV, oV + k, none⟩ = some (.int .i64 z) ∧ w'.cell? ⟨b, off + k, none⟩ = some (.slice X l.length dX) ∧ Below wr.heap.size wr w') := fun w' h => by
          obtain ⟨a0, a1, _, _, _⟩ := HI2.out.i.pb.on h
          obtain ⟨b0, b1, _, _, _⟩ := HI2.out.i.cb.on h
          exact ⟨a0, a1, b0, b1, (h.cell (p := ⟨bV, oV + k, none⟩) hbV).trans hcV, (h.cell (p := ⟨b, off + k, none⟩) hbb).trans hc, h⟩
        have hs0 := HM.out wr.drew (Below.refl _ _).drew
        clear hlk hrow hz hg hS n1 n2 HOp
        generalize l.length = ln at HO HM hc hs0
        go_wp2
        go_region_held3 (fun w' => w'.cell? ⟨w.heap.size, 0, none⟩ = some (.slice A L.length c) ∧ w'.cell? ⟨w.heap.size, 1, none⟩ = some (.slice B S.length d) ∧ w'.cell? ⟨w.heap.size + 1, 0, none⟩ = some (.slice (some ⟨bV, oV, none⟩) ws.length dv) ∧ w'.cell? ⟨w.heap.size + 1, 1, none⟩ = some (.slice (some ⟨b, off, none⟩) C.length cN) ∧ w'.cell? ⟨bV, oV + k, none⟩ = some (.int .i64 z) ∧ w'.cell? ⟨b, off + k, none⟩ = some (.slice X ln dX) ∧ Below wr.heap.size wr w') ((first | exact hs0 | assumption | exact HM.out _ (Law.then_ (by assumption : _ ∧ _ ∧ _ ∧ _ ∧ _ ∧ _ ∧ Below wr.heap.size wr _).2.2.2.2.2.2 (by assumption)))) (first
          | (go_at_call 96; have hS9 := (by assumption : _ ∧ _ ∧ _ ∧ _ ∧ _ ∧ _ ∧ Below wr.heap.size wr _).2.2.2.2.2.2; refine (HO.out _ hS9).mono ?_; rintro e w10 ⟨rfl, hb10⟩; clear hS9))
        all_goals
          have hbl := (by assumption : _ ∧ _ ∧ _ ∧ _ ∧ _ ∧ _ ∧ Below wr.heap.size wr w10).2.2.2.2.2.2
          have HBn := Lib.hid (Law.then_ hbr.out hbl)
          clear hbl hb10 hs0 HM p0 p1 q0 q1 hcV hc
          go_wp2
          go_roundw
          case rel => exact ⟨k + 1, by omega, by go_num, by rw [HN.out], HBn.out⟩
          case measure => simp [intOf]; omega
      · have hke : k = C.length := by omega
        have hltI : ¬ (k : Int) < (C.length : Int) := by omega
        have HKe : Hid (K k = K C.length) := by show _ = _; rw [hke]
        rw [HKe.out]
        clear hke
        go_wp2_with fail
        go_at_call 78
        refine (HTt.out _ HI2.out.i.wv).mono ?_
        rintro e w' ⟨rfl, hw'⟩
        obtain rfl := hw'.symm
        clear hw'
        go_wp2_with fail
        go_at_call 67
        refine (HRd.out wr).mono ?_
        rintro e w4 ⟨rfl, hb⟩
        have HI3 := Lib.hid (HI2.out.on hb)
        clear hb p0 p1 q0 q1
        obtain ⟨k0, k1, kf0, kf1, _⟩ := HI3.out.rb
        go_wp2
        refine ret_frac rfl rfl rfl (Blk.set2 HI3.out.blk _ _) rfl ⟨rfl, HI3.out.fin _ _⟩
end
end Go.Proofs.Ytammlkaclooohaa
