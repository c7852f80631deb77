/-
  The code's flowOf; ChainCost, both sides.
-/
import Derived.Test.YtphfjhnmnehfkaaFlo3
import Derived.Deep.RegionLaw
namespace Go.Proofs.Ytphfjhnmnehfkaa
open Go.RowKit
set_option linter.unusedVariables false
theorem off_ne3 {b i j : Nat} (h : i ≠ j) : (⟨b, i, none⟩ : Addr) ≠ ⟨b, j, none⟩ := fun e => h (by injection e)
theorem Bk3.set0 {w : World} {b : Nat} {x y z : Value} (h : Bk3 w b x y z) (u : Value) : Bk3 (w.setCell ⟨b, 0, none⟩ u) b u y z :=
  ⟨by rw [World.cell?_setCell_same (h := h.c0)], by rw [World.cell?_setCell_other (h := off_ne3 (by decide))]; exact h.c1, by rw [World.cell?_setCell_other (h := off_ne3 (by decide))]; exact h.c2, by simp [h.f0], by simp [h.f1], by simp [h.f2], by have := h.lt; simpa [World.setCell] using this⟩
theorem Bk3.set1 {w : World} {b : Nat} {x y z : Value} (h : Bk3 w b x y z) (u : Value) : Bk3 (w.setCell ⟨b, 1, none⟩ u) b x u z :=
  ⟨by rw [World.cell?_setCell_other (h := off_ne3 (by decide))]; exact h.c0, by rw [World.cell?_setCell_same (h := h.c1)], by rw [World.cell?_setCell_other (h := off_ne3 (by decide))]; exact h.c2, by simp [h.f0], by simp [h.f1], by simp [h.f2], by have := h.lt; simpa [World.setCell] using this⟩
theorem Bk3.set2 {w : World} {b : Nat} {x y z : Value} (h : Bk3 w b x y z) (u : Value) : Bk3 (w.setCell ⟨b, 2, none⟩ u) b x y u :=
  ⟨by rw [World.cell?_setCell_other (h := off_ne3 (by decide))]; exact h.c0, by rw [World.cell?_setCell_other (h := off_ne3 (by decide))]; exact h.c1, by rw [World.cell?_setCell_same (h := h.c2)], by simp [h.f0], by simp [h.f1], by simp [h.f2], by have := h.lt; simpa [World.setCell] using this⟩
def World.set3 (w : World) (b : Nat) (u0 u1 u2 : Value) : World := ((w.setCell ⟨b, 0, none⟩ u0).setCell ⟨b, 1, none⟩ u1).setCell ⟨b, 2, none⟩ u2
theorem Bk3.all {w : World} {b : Nat} {x y z : Value} (h : Bk3 w b x y z) (u0 u1 u2 : Value) : Bk3 (World.set3 w b u0 u1 u2) b u0 u1 u2 := ((h.set0 u0).set1 u1).set2 u2
theorem below3 {n : Nat} {W w : World} (h : Below n W w) {b : Nat} (hb : n ≤ b) (u0 u1 u2 : Value) : Below n W (World.set3 w b u0 u1 u2) :=
  ((h.setCell (p := ⟨b, 0, none⟩) hb u0).setCell (p := ⟨b, 1, none⟩) hb u1).setCell (p := ⟨b, 2, none⟩) hb u2
theorem own_lo3 {w : World} {base n : Nat} {e : TypeId} {v : Value} {xs : List Value} (h : w.ownsRow base e 1 v n xs) (p : Addr) (hp : p.block < base) (u : Value) : (w.setCell p u).ownsRow base e 1 v n xs :=
  h.kept (setBy w p u) (.inr fun e => by have := (h.lt _ e).1; omega)
theorem own3 {w : World} {base n : Nat} {e : TypeId} {v : Value} {xs : List Value} (h : w.ownsRow base e 1 v n xs) {b : Nat} (hb : b < base) (u0 u1 u2 : Value) : (World.set3 w b u0 u1 u2).ownsRow base e 1 v n xs :=
  own_lo3 (own_lo3 (own_lo3 h ⟨b, 0, none⟩ hb u0) ⟨b, 1, none⟩ hb u1) ⟨b, 2, none⟩ hb u2
/-- A return of a flow that lies in a block of the call's own. -/
theorem ret_flow {fn : Func} {R : Ending → World → Prop} {a : Act} {w : World} {pt u : Tmp} {b : Nat} {x y z f : Value}
    (h : fn.results = #[.cell pt 88, .tmp u]) (hd : a.defers = []) (hp : a.tmps.getD pt undef = .pointer (some ⟨b, 0, none⟩)) (hB : Bk3 w b x y z) (hf : a.tmps.getD u undef = f)
    (hR : R (.returned (.tuple #[.agg #[x, y, z], f])) w) : bodyPost Try.prog fn R .ret a w := by
  refine bodyPost_ret_by (v := .tuple #[.agg #[x, y, z], f]) ?_ hd hR
  obtain ⟨c0, c1, c2, _, _, _, _⟩ := hB
  have key : (results fn a.tmps).run Try.prog w = ((asAddr (a.tmps.getD pt undef)).run Try.prog w).andThen fun q w1 => ((loadVar 88 q).run Try.prog w1).andThen fun x w2 => .ok (.tuple #[x, a.tmps.getD u undef]) w2 := by
    simp only [results, h]
    simp [Sem.run_bind, Result.andThen]
  rw [key, hp, hf]
  go_simp
abbrev fz : Value := .agg #[.slice none 0 0, .int .i64 0, .slice none 0 0]
/-- What flowOf begins with: the metric's box and the result's. -/
structure FlBeg (w W : World) (A : Option Addr) (c : Nat) (xs : List Value) (L : List (List Int)) : Prop where
  met : MetIn w W A c xs L
  box : Bk3 W (w.heap.size + 1) (.slice none 0 0) (.int .i64 0) (.slice none 0 0)
theorem FlBeg.on {w W W' : World} {A : Option Addr} {c : Nat} {xs : List Value} {L : List (List Int)} (h : FlBeg w W A c xs L) (hb : Below W.heap.size W W') : FlBeg w W' A c xs L := ⟨h.met.on hb, h.box.on hb⟩
theorem FlBeg.start {w : World} {A : Option Addr} {c : Nat} {xs : List Value} {L : List (List Int)} (h : NRow w A xs L) (t t' : TypeId) :
    FlBeg w ((w.alloc (.cells #[.slice A L.length c] t)).alloc (.cells #[.slice none 0 0, .int .i64 0, .slice none 0 0] t')) A c xs L := by
  refine ⟨(MetIn.start h t).on ((Below.refl _ _).alloc (Nat.le_refl _) _), ?_⟩
  have h1 := Bk3.new (w.alloc (.cells #[.slice A L.length c] t)) (.slice none 0 0) (.int .i64 0) (.slice none 0 0) t'
  rwa [show (w.alloc (.cells #[.slice A L.length c] t)).heap.size = w.heap.size + 1 by simp] at h1
set_option maxHeartbeats 800000 in
theorem flowOf_no (A : Option Addr) (c : Nat) (xs : List Value) (L : List (List Int)) (a q : List Int) (Ba Bq : Option Addr) (da dq : Nat) (hll : ∀ l ∈ L, l.length ≤ 1048576) (hla : a.length ≤ 1048576) (hlq : q.length ≤ 1048576) (w : World) (hs : Q.srvQ L a q = false) (hr : NRow w A xs L) (ha : Law.Row w Ba (ivs a)) (hq : Law.Row w Bq (ivs q)) :
    Calls Try.prog 76 #[mv A L.length c, .slice Ba a.length da, .slice Bq q.length dq] w fun e w' => e = .returned (.tuple #[fz, .bool false]) ∧ Below w.heap.size w w' := by
  have HF := Lib.hid (FlBeg.start (c := c) hr 29 88)
  have HI := Lib.hid fun (W : World) (h : Below w.heap.size w W) => isServing_any A c xs L a q Ba Bq da dq hll hla hlq W (hr.stays h) (ha.stays h) (hq.stays h)
  rw [hs] at HI
  clear hr ha hq hs
  go_enter Try.func76, Try.ntmps76
  go_wp2_with fail
  generalize (w.alloc (.cells #[.slice A L.length c] 29)).alloc (.cells #[.slice none 0 0, .int .i64 0, .slice none 0 0] 88) = wa at HF ⊢
  obtain ⟨hk0, hk1, hk2⟩ := HF.out.met.bk
  go_wp2_with fail
  go_at_call 90
  refine (HI.out wa HF.out.met.bl).mono ?_
  rintro e w1 ⟨rfl, hb⟩
  have HF1 := Lib.hid (HF.out.on hb)
  clear hb hk0 hk1 hk2
  obtain ⟨p0, p1, p2, f0, f1, f2, _⟩ := HF1.out.box
  go_wp2
  exact ret_flow rfl rfl rfl (HF1.out.box.all _ _ _) rfl ⟨rfl, below3 HF1.out.met.bl (by omega) _ _ _⟩
set_option maxHeartbeats 800000 in
theorem flowOf_yes (A : Option Addr) (c : Nat) (xs : List Value) (L : List (List Int)) (a q : List Int) (Ba Bq : Option Addr) (da dq : Nat) (hll : ∀ l ∈ L, l.length ≤ 1048576) (hla : a.length ≤ 1048576) (hlq : q.length ≤ 1048576) (w : World) (hs : Q.srvQ L a q = true) (hr : NRow w A xs L) (ha : Law.Row w Ba (ivs a)) (hq : Law.Row w Bq (ivs q)) :
    Calls Try.prog 76 #[mv A L.length c, .slice Ba a.length da, .slice Bq q.length dq] w fun e w' => ∃ C d, e = .returned (.tuple #[fv A L.length c a.length C (a ++ q).length d, .bool true]) ∧ w'.ownsRow w.heap.size 3 1 (.slice C (a ++ q).length d) (a ++ q).length (ivs (a ++ q)) ∧ Below w.heap.size w w' := by
  obtain ⟨_, hsv, h60, _⟩ := Q.srv_iff.1 hs
  obtain ⟨ha1, ha3, _, _⟩ := Q.servers_iff.1 hsv
  have HF := Lib.hid (FlBeg.start (c := c) hr 29 88)
  have HI := Lib.hid fun (W : World) (h : Below w.heap.size w W) => isServing_any A c xs L a q Ba Bq da dq hll hla hlq W (hr.stays h) (ha.stays h) (hq.stays h)
  have HCc := Lib.hid fun (W : World) (h : Below w.heap.size w W) => concat_all (some ⟨W.heap.size, 0, none⟩) 2 [.slice Ba a.length da, .slice Bq q.length dq] [a, q] (W.alloc (.cells #[.slice Ba a.length da, .slice Bq q.length dq] 25)) (by simp) (by simp [totL]; omega) (by simp [totL]; omega) (two_rows (ha.stays h) (hq.stays h) 25)
  rw [hs] at HI
  rw [show [a, q].flatten = a ++ q by simp] at HCc
  clear hr ha hq hs hsv
  generalize a ++ q = P at HCc ⊢
  go_enter Try.func76, Try.ntmps76
  go_wp2_with fail
  generalize (w.alloc (.cells #[.slice A L.length c] 29)).alloc (.cells #[.slice none 0 0, .int .i64 0, .slice none 0 0] 88) = wa at HF ⊢
  obtain ⟨hk0, hk1, hk2⟩ := HF.out.met.bk
  go_wp2_with fail
  go_at_call 90
  refine (HI.out wa HF.out.met.bl).mono ?_
  rintro e w1 ⟨rfl, hb⟩
  have HF1 := Lib.hid (HF.out.on hb)
  clear hb hk0 hk1 hk2
  obtain ⟨p0, p1, p2, f0, f1, f2, _⟩ := HF1.out.box
  obtain ⟨hk0, hk1, hk2⟩ := HF1.out.met.bk
  go_wp2_with fail
  go_region_law ((go_simp; go_at_call 116; refine (HCc.out _ (Law.up HF1.out.met.bl _)).mono ?_; rintro e w2 ⟨v2, rfl, ho2, hb2⟩; clear p0 p1 p2 f0 f1 f2 hk0 hk1 hk2; have hb3 := Law.then_ ((Law.up (Below.refl w1.heap.size w1) _).alloc (Nat.le_refl _) _) hb2; have HF2 := Lib.hid (HF1.out.on hb3); have HO2 := Lib.hid (own_down ho2 (base' := w1.heap.size) (by simp)); clear hb2 hb3 ho2; obtain ⟨C2, c2, rfl, _, _, _⟩ := Law.own_len HO2.out; obtain ⟨p0, p1, p2, f0, f1, f2, _⟩ := HF2.out.box; obtain ⟨hk0, hk1, hk2⟩ := HF2.out.met.bk))
  all_goals
    go_wp2
    have hlt1 := HF1.out.box.lt
    exact ret_flow rfl rfl rfl (HF2.out.box.all _ _ _) rfl ⟨_, _, rfl, own_down (own3 HO2.out (by omega) _ _ _) (by omega), below3 HF2.out.met.bl (by omega) _ _ _⟩
end Go.Proofs.Ytphfjhnmnehfkaa
