/-
  A fraction made of a number and a positive one: the code's way (reduced) and the model's (l2Make).
-/
import Derived.Test.YtammlkaclooohaaHfrac
import Derived.Lib.SmallJoins
import Derived.Laws.ResultCell
namespace Go.Proofs.Ytammlkaclooohaa
open Go.RowKit
set_option linter.unusedVariables false
/-- A fraction and a flag, as a call hands them back. -/
abbrev res (x : Int × Int × Bool) : Value := .tuple #[fr x.1 x.2.1, .bool x.2.2]
theorem mk_yes {n d N D : Int} (hN : n / Int.gcd n d = N) (hD : d / Int.gcd n d = D) (hg : F.good N D = true) : F.mk n d = (N, D, true) := by
  unfold F.mk
  rw [hN, hD, if_pos hg]
theorem mk_no {n d N D : Int} (hN : n / Int.gcd n d = N) (hD : d / Int.gcd n d = D) (hg : F.good N D = false) : F.mk n d = (0, 0, false) := by
  unfold F.mk
  rw [hN, hD, if_neg (by rw [hg]; exact Bool.false_ne_true)]
/-- A struct of two ints in a block of the call's own: its cells, and that none is frozen. -/
structure Blk (w : World) (b : Nat) (x y : Value) : Prop where
  c0 : w.cell? ⟨b, 0, none⟩ = some x
  c1 : w.cell? ⟨b, 1, none⟩ = some y
  f0 : w.frozen? ⟨b, 0, none⟩ = false
  f1 : w.frozen? ⟨b, 1, none⟩ = false
theorem Blk.below {B : Nat} {w w' : World} {b : Nat} {x y : Value} (h : Blk w b x y) (hb : Below B w w') (hlt : b < B) : Blk w' b x y :=
  ⟨(hb.cell (p := ⟨b, 0, none⟩) hlt).trans h.c0, (hb.cell (p := ⟨b, 1, none⟩) hlt).trans h.c1, (hb.frozen (p := ⟨b, 0, none⟩) hlt).trans h.f0, (hb.frozen (p := ⟨b, 1, none⟩) hlt).trans h.f1⟩
theorem Blk.carry {G : Prop} {B : Nat} {w w' : World} {b : Nat} {x y : Value} (hb : Below B w w') (h0 : w.cell? ⟨b, 0, none⟩ = some x) (h1 : w.cell? ⟨b, 1, none⟩ = some y) (h2 : w.frozen? ⟨b, 0, none⟩ = false) (h3 : w.frozen? ⟨b, 1, none⟩ = false) (hlt : b < B)
    (k : Blk w' b x y → G) : G := k (Blk.below ⟨h0, h1, h2, h3⟩ hb hlt)
theorem Blk.set2 {w : World} {b : Nat} {x y : Value} (h : Blk w b x y) (x' y' : Value) : Blk ((w.setCell ⟨b, 0, none⟩ x').setCell ⟨b, 1, none⟩ y') b x' y' := by
  have n1 : (⟨b, 1, none⟩ : Addr) ≠ ⟨b, 0, none⟩ := fun h => by injection h with _ h; exact absurd h (by decide)
  have e1 : (w.setCell ⟨b, 0, none⟩ x').cell? ⟨b, 1, none⟩ = some y := by rw [World.cell?_setCell_other (h := n1.symm)]; exact h.c1
  have e0 : (w.setCell ⟨b, 0, none⟩ x').cell? ⟨b, 0, none⟩ = some x' := by rw [World.cell?_setCell_same (h := h.c0)]
  refine ⟨?_, ?_, by simp [h.f0], by simp [h.f1]⟩
  · rw [World.cell?_setCell_other (h := n1)]; exact e0
  · rw [World.cell?_setCell_same (h := e1)]
/-- A return of a struct that lies in a block of the call's own, and a flag. -/
theorem ret_frac {fn : Func} {R : Ending → World → Prop} {a : Act} {w : World} {pt u : Tmp} {b : Nat} {x y f : Value}
    (h : fn.results = #[.cell pt 32, .tmp u]) (hd : a.defers = []) (hp : a.tmps.getD pt undef = .pointer (some ⟨b, 0, none⟩)) (hB : Blk w b x y) (hf : a.tmps.getD u undef = f)
    (hR : R (.returned (.tuple #[.agg #[x, y], f])) w) : bodyPost Try.prog fn R .ret a w := by
  refine bodyPost_ret_by (v := .tuple #[.agg #[x, y], f]) ?_ hd hR
  rw [results_cell_tmp h, hp, hf]
  obtain ⟨c0, c1, _, _⟩ := hB
  go_simp
theorem ret_frac1 {fn : Func} {R : Ending → World → Prop} {a : Act} {w : World} {pt : Tmp} {b : Nat} {x y : Value}
    (h : fn.results = #[.cell pt 32]) (hd : a.defers = []) (hp : a.tmps.getD pt undef = .pointer (some ⟨b, 0, none⟩)) (hB : Blk w b x y)
    (hR : R (.returned (.agg #[x, y])) w) : bodyPost Try.prog fn R .ret a w := by
  refine bodyPost_ret_by (v := .agg #[x, y]) ?_ hd hR
  obtain ⟨c0, c1, _, _⟩ := hB
  have key : (results fn a.tmps).run Try.prog w = ((asAddr (a.tmps.getD pt undef)).run Try.prog w).andThen fun q w1 => (loadVar 32 q).run Try.prog w1 := by
    simp only [results, h]
    simp [Sem.run_bind, Result.andThen]
  rw [key, hp]
  go_simp
theorem wf_small {x : Int} (h1 : -9223372036854775808 ≤ x) (h2 : x ≤ 9223372036854775807) : (Lit.int .i64 x).wf = true := by
  simp [Lit.wf, IntKind.min, IntKind.max, IntKind.signed, IntKind.bits]
  omega
set_option maxHeartbeats 800000 in
theorem reduced_any (n d : Int) (w : World) (h1 : -9223372036854775807 ≤ n) (h2 : n ≤ 9223372036854775807) (h3 : 1 ≤ d) (h4 : d ≤ 9223372036854775807) :
    Calls Try.prog 89 #[.int .i64 n, .int .i64 d] w fun e w' => e = .returned (res (F.mk n d)) ∧ Below w.heap.size w w' := by
  have HC := Lib.hid fun W => commonDivisor_any n d W h1 h2 (by omega) h4
  have hf := F.div_facts (n := n) h3
  have hgp := F.gcd_pos (n := n) h3
  obtain ⟨f1, f2, f3, f4, f5, f6⟩ := hf
  obtain ⟨N, hN⟩ : ∃ N, N = n / (Int.gcd n d : Int) := ⟨_, rfl⟩
  obtain ⟨D, hD⟩ : ∃ D, D = d / (Int.gcd n d : Int) := ⟨_, rfl⟩
  have hM := Lib.hid (fun h => mk_yes (n := n) (d := d) hN.symm hD.symm h)
  have hM' := Lib.hid (fun h => mk_no (n := n) (d := d) hN.symm hD.symm h)
  rw [← hN] at f1 f5 f6
  rw [← hD] at f2 f3 f4
  clear hN hD
  generalize F.mk n d = X at hM hM' ⊢
  generalize ((Int.gcd n d : Nat) : Int) = G at HC f1 f2 hgp
  have hz : ¬ G = 0 := by omega
  by_cases hg : F.good N D = true
  · have hx := hM.out hg
    subst hx
    go_enter Try.func89, Try.ntmps89
    go_wp2_with (go_at_call 147; refine (HC.out _).mono ?_; rintro e w' ⟨rfl, rfl⟩)
    go_region
    go_wp2_with (go_at_call 148; refine (isFrac_any N D _ (wf_small (by omega) (by omega)) (wf_small (by omega) (by omega))).mono ?_; rintro e w1 ⟨rfl, hb1⟩; have B1 := Lib.hid hb1; obtain ⟨c00, c01, f00, f01⟩ := Blk.below (b := w.heap.size) (x := .int .i64 0) (y := .int .i64 0) ⟨by go_simp, by go_simp, by go_simp, by go_simp⟩ hb1 (by first | omega | (simp; omega) | (simp; done)); obtain ⟨c10, c11, f10, f11⟩ := Blk.below (b := w.heap.size + 1) (x := .int .i64 N) (y := .int .i64 D) ⟨by go_simp, by go_simp, by go_simp, by go_simp⟩ hb1 (by first | omega | (simp; omega) | (simp; done)); clear hb1)
    refine ret_frac rfl rfl rfl (Blk.set2 ⟨c00, c01, f00, f01⟩ _ _) rfl ⟨rfl, ?_⟩
    (repeat (first | exact Below.refl _ _ | refine Below.setCell ?_ (by first | omega | (simp; omega) | (simp; done)) _ | refine Below.drew ?_ | refine Law.up ?_ _ | refine Below.alloc ?_ (by first | omega | (simp; omega) | (simp; done)) _ | refine Law.then_ ?_ (Hid.out (by assumption))))
  · have hg' := Bool.eq_false_iff.2 hg
    have hx := hM'.out hg'
    subst hx
    clear hg
    go_enter Try.func89, Try.ntmps89
    go_wp2_with (go_at_call 147; refine (HC.out _).mono ?_; rintro e w' ⟨rfl, rfl⟩)
    go_region
    go_wp2_with (go_at_call 148; refine (isFrac_any N D _ (wf_small (by omega) (by omega)) (wf_small (by omega) (by omega))).mono ?_; rintro e w1 ⟨rfl, hb1⟩; have B1 := Lib.hid hb1; obtain ⟨c00, c01, f00, f01⟩ := Blk.below (b := w.heap.size) (x := .int .i64 0) (y := .int .i64 0) ⟨by go_simp, by go_simp, by go_simp, by go_simp⟩ hb1 (by first | omega | (simp; omega) | (simp; done)); obtain ⟨c10, c11, f10, f11⟩ := Blk.below (b := w.heap.size + 1) (x := .int .i64 N) (y := .int .i64 D) ⟨by go_simp, by go_simp, by go_simp, by go_simp⟩ hb1 (by first | omega | (simp; omega) | (simp; done)); clear hb1)
    refine ret_frac rfl rfl rfl (Blk.set2 ⟨c00, c01, f00, f01⟩ _ _) rfl ⟨rfl, ?_⟩
    (repeat (first | exact Below.refl _ _ | refine Below.setCell ?_ (by first | omega | (simp; omega) | (simp; done)) _ | refine Below.drew ?_ | refine Law.up ?_ _ | refine Below.alloc ?_ (by first | omega | (simp; omega) | (simp; done)) _ | refine Law.then_ ?_ (Hid.out (by assumption))))
set_option maxHeartbeats 800000 in
theorem l2Make_any (n d : Int) (w : World) (h1 : -9223372036854775807 ≤ n) (h2 : n ≤ 9223372036854775807) (h3 : 1 ≤ d) (h4 : d ≤ 9223372036854775807) :
    Calls Try.prog 67 #[.int .i64 n, .int .i64 d] w fun e w' => e = .returned (res (F.mk n d)) ∧ Below w.heap.size w w' := by
  have HA := Lib.hid fun W => l2Abs_any n W (by omega) (by omega)
  have HC : Hid (∀ W, Calls Try.prog 137 #[.int .i64 (n.natAbs : Int), .int .i64 d] W fun e w' => e = .returned (.int .i64 ((Int.gcd n d : Nat) : Int)) ∧ ∃ m, w' = W.drewN m) := Lib.hid fun W => by
    have := l2Gcd_any n.natAbs d.toNat W (by omega) (by omega)
    rw [show ((d.toNat : Nat) : Int) = d from by omega] at this
    have e : Int.gcd n d = Nat.gcd n.natAbs d.toNat := by unfold Int.gcd; congr 1; omega
    rwa [← e] at this
  have hf := F.div_facts (n := n) h3
  have hgp := F.gcd_pos (n := n) h3
  obtain ⟨f1, f2, f3, f4, f5, f6⟩ := hf
  obtain ⟨N, hN⟩ : ∃ N, N = n / (Int.gcd n d : Int) := ⟨_, rfl⟩
  obtain ⟨D, hD⟩ : ∃ D, D = d / (Int.gcd n d : Int) := ⟨_, rfl⟩
  have hM := Lib.hid (fun h => mk_yes (n := n) (d := d) hN.symm hD.symm h)
  have hM' := Lib.hid (fun h => mk_no (n := n) (d := d) hN.symm hD.symm h)
  rw [← hN] at f1 f5 f6
  rw [← hD] at f2 f3 f4
  clear hN hD
  generalize F.mk n d = X at hM hM' ⊢
  generalize ((Int.gcd n d : Nat) : Int) = G at HC f1 f2 hgp
  have hz : ¬ G = 0 := by omega
  by_cases hg : F.good N D = true
  · have hx := hM.out hg
    subst hx
    go_enter Try.func67, Try.ntmps67
    go_wp2_with (first | (go_at_call 138; refine (HA.out _).mono ?_; rintro e w' ⟨rfl, rfl⟩) | (go_at_call 137; refine (HC.out _).mono ?_; rintro e w' ⟨rfl, m, rfl⟩))
    go_region
    go_wp2_with (go_at_call 139; refine (l2Good_any N D _).mono ?_; rintro e w1 ⟨rfl, hb1⟩; have B1 := Lib.hid hb1; obtain ⟨c00, c01, f00, f01⟩ := Blk.below (b := w.heap.size) (x := .int .i64 0) (y := .int .i64 0) ⟨by go_simp, by go_simp, by go_simp, by go_simp⟩ hb1 (by first | omega | (simp; omega) | (simp; done)); obtain ⟨c10, c11, f10, f11⟩ := Blk.below (b := w.heap.size + 1) (x := .int .i64 N) (y := .int .i64 D) ⟨by go_simp, by go_simp, by go_simp, by go_simp⟩ hb1 (by first | omega | (simp; omega) | (simp; done)); clear hb1)
    refine ret_frac rfl rfl rfl (Blk.set2 ⟨c00, c01, f00, f01⟩ _ _) rfl ⟨rfl, ?_⟩
    (repeat (first | exact Below.refl _ _ | refine Below.setCell ?_ (by first | omega | (simp; omega) | (simp; done)) _ | refine Below.drew ?_ | refine Law.up ?_ _ | refine Below.alloc ?_ (by first | omega | (simp; omega) | (simp; done)) _ | refine Law.then_ ?_ (Hid.out (by assumption))))
  · have hg' := Bool.eq_false_iff.2 hg
    have hx := hM'.out hg'
    subst hx
    clear hg
    go_enter Try.func67, Try.ntmps67
    go_wp2_with (first | (go_at_call 138; refine (HA.out _).mono ?_; rintro e w' ⟨rfl, rfl⟩) | (go_at_call 137; refine (HC.out _).mono ?_; rintro e w' ⟨rfl, m, rfl⟩))
    go_region
    go_wp2_with (go_at_call 139; refine (l2Good_any N D _).mono ?_; rintro e w1 ⟨rfl, hb1⟩; have B1 := Lib.hid hb1; obtain ⟨c00, c01, f00, f01⟩ := Blk.below (b := w.heap.size) (x := .int .i64 0) (y := .int .i64 0) ⟨by go_simp, by go_simp, by go_simp, by go_simp⟩ hb1 (by first | omega | (simp; omega) | (simp; done)); obtain ⟨c10, c11, f10, f11⟩ := Blk.below (b := w.heap.size + 1) (x := .int .i64 N) (y := .int .i64 D) ⟨by go_simp, by go_simp, by go_simp, by go_simp⟩ hb1 (by first | omega | (simp; omega) | (simp; done)); clear hb1)
    refine ret_frac rfl rfl rfl (Blk.set2 ⟨c00, c01, f00, f01⟩ _ _) rfl ⟨rfl, ?_⟩
    (repeat (first | exact Below.refl _ _ | refine Below.setCell ?_ (by first | omega | (simp; omega) | (simp; done)) _ | refine Below.drew ?_ | refine Law.up ?_ _ | refine Below.alloc ?_ (by first | omega | (simp; omega) | (simp; done)) _ | refine Law.then_ ?_ (Hid.out (by assumption))))
end Go.Proofs.Ytammlkaclooohaa
