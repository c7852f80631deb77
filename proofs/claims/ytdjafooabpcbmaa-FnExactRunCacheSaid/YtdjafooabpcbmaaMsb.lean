/-
  The model's l4Turn: the hand of a full clock turns to the page that is taken out. Three blocks of a call's own, each a cache: what calls and stores leave of them. The model's l4Victim. The model's l4Fault, policy by policy: a fault of a cache, no clock. The model's l4Fault, a fault of a cache that counts. The model's l4Clock, a fault of a clock, and l4Fault of any valid cache. The model's l4Step: one request of a valid cache. The model's l4Places: the places of the faults of a sequence from a cache on.
-/
import Derived.Test.YtdjafooabpcbmaaMsa
import Derived.Test.YtdjafooabpcbmaaCm
/- The model's l4Turn: the hand of a full clock turns to the page that is taken out. -/
namespace Go.Proofs.Ytdjafooabpcbmaa
open Go.RowKit
set_option linter.unusedVariables false
/-- A cell's number. -/
def cellZ (w : World) (g j : Nat) : Int := match w.cell? ⟨g, j, none⟩ with | some (.int _ z) => z | _ => 0
/-- How many of a row's first cells are 1. -/
def onesAt (g n : Nat) (w : World) : Nat := ((List.range n).map (cellZ w g)).count 1
theorem onesAt_of {w : World} {base g n d : Nat} {ns : List Int} (ho : w.ownsRow base 3 1 (.slice (some ⟨g, 0, none⟩) n d) n (ivs ns)) (hn : ns.length = n) : onesAt g n w = ns.count 1 := by
  unfold onesAt
  congr 1
  apply List.ext_getElem?
  intro j
  rw [List.getElem?_map]
  by_cases h : j < n
  · rw [List.getElem?_range h]
    obtain ⟨x, hx⟩ : ∃ x, ns[j]? = some x := ⟨_, List.getElem?_eq_getElem (by omega)⟩
    have hc := own_cell ho hx
    simp [cellZ, hc, hx]
  · rw [List.getElem?_eq_none (by simp; omega), List.getElem?_eq_none (by omega)]
    rfl
section
variable {W : World} {A B : Option Addr} {d e : Nat} {c : Ca}
/-- What a turn says. -/
def turnSays (c : Ca) (A : Option Addr) (d : Nat) (q : Nat × List Int) (W : World) (r : Ending) (W' : World) : Prop :=
  ∃ g e', r = .returned (caV { c with ms := q.2, h := (q.1 : Nat) } A d (some ⟨g, 0, none⟩) e') ∧ W'.ownsRow W.heap.size 3 1 (.slice (some ⟨g, 0, none⟩) q.2.length e') q.2.length (ivs q.2) ∧ Below W.heap.size W W'
set_option maxRecDepth 20000 in
set_option maxHeartbeats 800000 in
theorem l4Turn_any (h : CaIn W A d B e c) (hp : c.p = 6) {S hd : Nat} (hs : c.s = (S : Int)) (hh : c.h = (hd : Int)) (hm : c.ms.length = S) (hlt : hd < S) (hS : S ≤ 1000) (h01 : ∀ z ∈ c.ms, 0 ≤ z ∧ z ≤ 1) :
    Calls Try.prog 139 #[caV c A d B e] W (turnSays c A d (Q.pass c.ms hd) W) := by
  have HI := Lib.hid h
  have HE := Lib.hid (show caV c A d B e = .agg #[.int .i64 6, .int .i64 (S : Int), .slice A c.ps.length d, .slice B c.ms.length e, .int .i64 (hd : Int)] by unfold caV; rw [hp, hs, hh])
  have HP := Lib.hid (And.intro hp hs)
  have HW := Lib.hid fun X (r : Law.Row X B (ivs c.ms)) => l1Own_any B e c.ms X (by omega) r
  have HM := Lib.hid hm
  have H01 := Lib.hid h01
  have hS0 : ¬ (S : Int) = 0 := by omega
  rw [HE.out]
  clear h hp hs hh hm h01
  go_enter Try.func139, Try.ntmps139
  go_wp2_with fail
  have F3 := Lib.hid (al3 W (.cells #[.int .i64 6, .int .i64 (S : Int), .slice A c.ps.length d, .slice B c.ms.length e, .int .i64 (hd : Int)] 26) (.cells #[.int .i64 0, .int .i64 0, .slice none 0 0, .slice none 0 0, .int .i64 0] 26) (.cells #[.int .i64 6, .int .i64 (S : Int), .slice A c.ps.length d, .slice B c.ms.length e, .int .i64 (hd : Int)] 26))
  generalize ((W.alloc (.cells #[.int .i64 6, .int .i64 (S : Int), .slice A c.ps.length d, .slice B c.ms.length e, .int .i64 (hd : Int)] 26)).alloc (.cells #[.int .i64 0, .int .i64 0, .slice none 0 0, .slice none 0 0, .int .i64 0] 26)).alloc (.cells #[.int .i64 6, .int .i64 (S : Int), .slice A c.ps.length d, .slice B c.ms.length e, .int .i64 (hd : Int)] 26) = X at F3 ⊢
  refine (HW.out X (HI.out.2.2.2.stays F3.out.2.2.2.2)).mono ?_
  rintro r w1 ⟨v1, rfl, ho1, hb1⟩
  have hsz := F3.out.2.2.2.1
  have h1 := hb1.size
  obtain ⟨g, e', rfl, hg1, hg2⟩ := own_some ho1 (by have := HM.out; omega)
  have B2 := (blk5_of F3.out.2.2.1).kept (hb1.block _ (by omega))
  have B1 := (blk5_of F3.out.2.1).kept (hb1.block _ (by omega))
  have B0 := (blk5_of F3.out.1).kept (hb1.block _ (by omega))
  have T2 := Lib.hid (B2.set3 (.slice (some ⟨g, 0, none⟩) c.ms.length e'))
  have T1 := Lib.hid (B1.other ⟨W.heap.size + 1 + 1, 3, none⟩ (by simp) (.slice (some ⟨g, 0, none⟩) c.ms.length e'))
  have T0 := Lib.hid (B0.other ⟨W.heap.size + 1 + 1, 3, none⟩ (by simp; omega) (.slice (some ⟨g, 0, none⟩) c.ms.length e'))
  have HO := Lib.hid (own_lo ho1 ⟨W.heap.size + 1 + 1, 3, none⟩ (by simp; omega) (.slice (some ⟨g, 0, none⟩) c.ms.length e'))
  have HB := Lib.hid ((F3.out.2.2.2.2.trans (hb1.mono (by omega))).setCell (p := ⟨W.heap.size + 1 + 1, 3, none⟩) (by simp; omega) (.slice (some ⟨g, 0, none⟩) c.ms.length e'))
  obtain ⟨c0, c1, c2, c3, c4, f0, f1, f2, f3, f4⟩ := B2
  clear ho1 hb1 B1 B0
  rw [HM.out] at T2 T1 T0 HO HB
  have hgb : W.heap.size + 1 + 1 < g := by omega
  go_wp2_with fail
  rw [HM.out]
  generalize w1.setCell ⟨W.heap.size + 1 + 1, 3, none⟩ (.slice (some ⟨g, 0, none⟩) S e') = Y at T2 T1 T0 HO HB ⊢
  clear c0 c1 c2 c3 c4 f0 f1 f2 f3 f4
  go_loopw [] (fun wr => ∃ (f : Nat) (ns : List Int), f < S ∧ ns.length = S ∧ Hid (∀ z ∈ ns, 0 ≤ z ∧ z ≤ 1) ∧ Hid (Q.pass ns f = Q.pass c.ms hd) ∧ Hid (wr.ownsRow X.heap.size 3 1 (.slice (some ⟨g, 0, none⟩) S e') S (ivs ns)) ∧
    Hid (Blk5 wr (W.heap.size + 1 + 1) (.int .i64 6) (.int .i64 (S : Int)) (.slice A c.ps.length d) (.slice (some ⟨g, 0, none⟩) S e') (.int .i64 (f : Int))) ∧ Hid (Blk5 wr (W.heap.size + 1) (.int .i64 0) (.int .i64 0) (.slice none 0 0) (.slice none 0 0) (.int .i64 0)) ∧
    Hid (Blk5 wr W.heap.size (.int .i64 6) (.int .i64 (S : Int)) (.slice A c.ps.length d) (.slice B S e) (.int .i64 (hd : Int))) ∧ Hid (Below W.heap.size W wr)) (fun wr => onesAt g S wr)
  case atStart => exact ⟨hd, c.ms, hlt, HM.out, H01, Lib.hid rfl, HO, T2, T1, T0, HB⟩
  case round =>
    obtain ⟨f, ns, hf, hnl, h01, hps, ho, b2, b1, b0, hbl⟩ := hrel
    obtain ⟨x, hx⟩ : ∃ x, ns[f]? = some x := ⟨_, List.getElem?_eq_getElem (by omega)⟩
    have hxb := h01.out x (List.mem_of_getElem? hx)
    have hcx := own_cell ho.out hx
    have hfx := ho.out.frozenAt f
    obtain ⟨c0, c1, c2, c3, c4, f0, f1, f2, f3, f4⟩ := b2.out
    obtain ⟨x0, x1, x2, x3, x4, _, _, _, _, _⟩ := b0.out
    have hfI : (f : Int) < (S : Int) := by omega
    rcases (show x = 0 ∨ x = 1 by omega) with rfl | rfl
    · have HE1 : Hid (Q.pass c.ms hd = (f, ns)) := by show _ = _; rw [← hps.out]; exact Q.pass_here hx
      obtain ⟨d0, d1, d2, d3, d4, e0, e1, e2, e3, e4⟩ := b1.out
      clear hx
      go_wp2
      have HF := Lib.hid (below5 hbl.out (b := W.heap.size + 1) (by omega) (.int .i64 6) (.int .i64 (S : Int)) (.slice A c.ps.length d) (.slice (some ⟨g, 0, none⟩) S e') (.int .i64 (f : Int)))
      have HR := Lib.hid (own5 ho.out (b := W.heap.size + 1) (by omega) (.int .i64 6) (.int .i64 (S : Int)) (.slice A c.ps.length d) (.slice (some ⟨g, 0, none⟩) S e') (.int .i64 (f : Int)))
      rw [HE1.out]
      refine ret_ca1 rfl rfl rfl ((Blk5.mk d0 d1 d2 d3 d4 e0 e1 e2 e3 e4).all _ _ _ _ _) ⟨g, e', ?_, ?_, HF.out⟩
      · unfold caV
        rw [HP.out.1, HP.out.2, hnl]
      · rw [hnl]
        exact own_down HR.out (by omega)
    · have hPO := Q.pass_on hx
      have hON := Q.ones_set hx
      rw [hnl] at hPO
      have HPO := Lib.hid hPO
      have HON := Lib.hid hON
      have hrem : ((f : Int) + 1).tmod (S : Int) = (((f + 1) % S : Nat) : Int) := by rw [Int.tmod_eq_emod_of_nonneg (by omega)]; simp
      have hml : (f + 1) % S < S := Nat.mod_lt _ (by omega)
      have HM1 := Lib.hid (onesAt_of ho.out hnl)
      have hp1 := own_put ho.out f 0
      have HO2 := Lib.hid (own_lo hp1 ⟨W.heap.size + 1 + 1, 4, none⟩ (by simp; omega) (.int .i64 (((f + 1) % S : Nat) : Int)))
      have G2 := Lib.hid ((b2.out.other ⟨g, f, none⟩ (by simp; omega) (.int .i64 0)).set4 (.int .i64 (((f + 1) % S : Nat) : Int)))
      have G1 := Lib.hid ((b1.out.other ⟨g, f, none⟩ (by simp; omega) (.int .i64 0)).other ⟨W.heap.size + 1 + 1, 4, none⟩ (by simp) (.int .i64 (((f + 1) % S : Nat) : Int)))
      have G0 := Lib.hid ((b0.out.other ⟨g, f, none⟩ (by simp; omega) (.int .i64 0)).other ⟨W.heap.size + 1 + 1, 4, none⟩ (by simp; omega) (.int .i64 (((f + 1) % S : Nat) : Int)))
      have GB := Lib.hid ((hbl.out.setCell (p := ⟨g, f, none⟩) (by simp; omega) (.int .i64 0)).setCell (p := ⟨W.heap.size + 1 + 1, 4, none⟩) (by simp; omega) (.int .i64 (((f + 1) % S : Nat) : Int)))
      have HN2 : Hid (∀ z ∈ ns.set f 0, 0 ≤ z ∧ z ≤ 1) := fun z hz => by
        rcases List.mem_or_eq_of_mem_set hz with h | h
        · exact h01.out z h
        · omega
      have hw1 : IntKind.i64.wrap ((f : Int) + 1) = (f : Int) + 1 := by rw [IntKind.wrap_i64]; omega
      have hw2 : IntKind.i64.wrap (((f + 1) % S : Nat) : Int) = (((f + 1) % S : Nat) : Int) := by rw [IntKind.wrap_i64]; omega
      clear hx hPO hON hp1
      have hSl : (ns.set f 0).length = S := by rw [List.length_set]; exact hnl
      generalize (f + 1) % S = f' at *
      go_wp2
      go_roundw
      case rel => exact ⟨f', ns.set f 0, hml, hSl, HN2, Lib.hid (HPO.out ▸ hps.out), HO2, G2, G1, G0, GB⟩
      case measure =>
        show onesAt g S _ < onesAt g S _
        rw [onesAt_of HO2.out hSl, HM1.out]
        have := HON.out
        omega
end
end Go.Proofs.Ytdjafooabpcbmaa

/- Three blocks of a call's own, each a cache: what calls and stores leave of them. The model's l4Victim. -/
namespace Go.Proofs.Ytdjafooabpcbmaa
open Go.RowKit
set_option linter.unusedVariables false
/-- The parameter's block, the result's, and a third one. -/
structure St (W Y : World) (a0 a1 a2 a3 a4 x0 x1 x2 x3 x4 : Value) : Prop where
  b0 : Blk5 Y W.heap.size a0 a1 a2 a3 a4
  b1 : ∃ v0 v1 v2 v3 v4, Blk5 Y (W.heap.size + 1) v0 v1 v2 v3 v4
  b2 : Blk5 Y (W.heap.size + 1 + 1) x0 x1 x2 x3 x4
  lo : W.heap.size + 1 + 1 + 1 ≤ Y.heap.size
  bl : Below W.heap.size W Y
namespace St
variable {W Y Y' : World} {a0 a1 a2 a3 a4 x0 x1 x2 x3 x4 : Value}
theorem past (h : St W Y a0 a1 a2 a3 a4 x0 x1 x2 x3 x4) (hb : Below (W.heap.size + 1 + 1 + 1) Y Y') : St W Y' a0 a1 a2 a3 a4 x0 x1 x2 x3 x4 := by
  obtain ⟨v0, v1, v2, v3, v4, h1⟩ := h.b1
  exact ⟨h.b0.kept (hb.block _ (by omega)), ⟨v0, v1, v2, v3, v4, h1.kept (hb.block _ (by omega))⟩, h.b2.kept (hb.block _ (by omega)), Nat.le_trans h.lo hb.size, h.bl.trans (hb.mono (by omega))⟩
theorem call (h : St W Y a0 a1 a2 a3 a4 x0 x1 x2 x3 x4) (hb : Below Y.heap.size Y Y') : St W Y' a0 a1 a2 a3 a4 x0 x1 x2 x3 x4 := h.past (hb.mono h.lo)
theorem put2 (h : St W Y a0 a1 a2 a3 a4 x0 x1 x2 x3 x4) (u : Value) : St W (Y.setCell ⟨W.heap.size + 1 + 1, 2, none⟩ u) a0 a1 a2 a3 a4 x0 x1 u x3 x4 := by
  obtain ⟨v0, v1, v2, v3, v4, h1⟩ := h.b1
  exact ⟨h.b0.other _ (by simp; omega) _, ⟨v0, v1, v2, v3, v4, h1.other _ (by simp) _⟩, h.b2.set2 u, by simpa using h.lo, h.bl.setCell (by simp; omega) u⟩
theorem put3 (h : St W Y a0 a1 a2 a3 a4 x0 x1 x2 x3 x4) (u : Value) : St W (Y.setCell ⟨W.heap.size + 1 + 1, 3, none⟩ u) a0 a1 a2 a3 a4 x0 x1 x2 u x4 := by
  obtain ⟨v0, v1, v2, v3, v4, h1⟩ := h.b1
  exact ⟨h.b0.other _ (by simp; omega) _, ⟨v0, v1, v2, v3, v4, h1.other _ (by simp) _⟩, h.b2.set3 u, by simpa using h.lo, h.bl.setCell (by simp; omega) u⟩
theorem put4 (h : St W Y a0 a1 a2 a3 a4 x0 x1 x2 x3 x4) (u : Value) : St W (Y.setCell ⟨W.heap.size + 1 + 1, 4, none⟩ u) a0 a1 a2 a3 a4 x0 x1 x2 x3 u := by
  obtain ⟨v0, v1, v2, v3, v4, h1⟩ := h.b1
  exact ⟨h.b0.other _ (by simp; omega) _, ⟨v0, v1, v2, v3, v4, h1.other _ (by simp) _⟩, h.b2.set4 u, by simpa using h.lo, h.bl.setCell (by simp; omega) u⟩
/-- A cell far behind is set. -/
theorem putFar (h : St W Y a0 a1 a2 a3 a4 x0 x1 x2 x3 x4) (p : Addr) (hp : W.heap.size + 1 + 1 + 1 ≤ p.block) (u : Value) : St W (Y.setCell p u) a0 a1 a2 a3 a4 x0 x1 x2 x3 x4 :=
  h.past ((Below.refl _ _).setCell hp u)
theorem all (h : St W Y a0 a1 a2 a3 a4 x0 x1 x2 x3 x4) (u0 u1 u2 u3 u4 : Value) : St W (World.set5 Y (W.heap.size + 1 + 1) u0 u1 u2 u3 u4) a0 a1 a2 a3 a4 u0 u1 u2 u3 u4 := by
  obtain ⟨v0, v1, v2, v3, v4, h1⟩ := h.b1
  have k : ∀ {b : Nat} {y0 y1 y2 y3 y4 : Value}, b ≠ W.heap.size + 1 + 1 → Blk5 Y b y0 y1 y2 y3 y4 → Blk5 (World.set5 Y (W.heap.size + 1 + 1) u0 u1 u2 u3 u4) b y0 y1 y2 y3 y4 := fun hb q =>
    ((((q.other ⟨_, 0, none⟩ hb.symm u0).other ⟨_, 1, none⟩ hb.symm u1).other ⟨_, 2, none⟩ hb.symm u2).other ⟨_, 3, none⟩ hb.symm u3).other ⟨_, 4, none⟩ hb.symm u4
  exact ⟨k (by omega) h.b0, ⟨v0, v1, v2, v3, v4, k (by omega) h1⟩, h.b2.all _ _ _ _ _, by unfold World.set5; simpa using h.lo, below5 h.bl (by omega) _ _ _ _ _⟩
end St
theorem st_new {W X : World} {t : TypeId} {a0 a1 a2 a3 a4 v0 v1 v2 v3 v4 x0 x1 x2 x3 x4 : Value}
    (h : X.heap[W.heap.size]? = some (.cells #[a0, a1, a2, a3, a4] t) ∧ X.heap[W.heap.size + 1]? = some (.cells #[v0, v1, v2, v3, v4] t) ∧ X.heap[W.heap.size + 1 + 1]? = some (.cells #[x0, x1, x2, x3, x4] t) ∧ X.heap.size = W.heap.size + 1 + 1 + 1 ∧ Below W.heap.size W X) :
    St W X a0 a1 a2 a3 a4 x0 x1 x2 x3 x4 := ⟨blk5_of h.1, ⟨_, _, _, _, _, blk5_of h.2.1⟩, blk5_of h.2.2.1, by omega, h.2.2.2.2⟩
theorem row_some {W : World} {A : Option Addr} {zs : List Int} (h : Law.Row W A (ivs zs)) (h0 : 0 < zs.length) : ∃ b off, A = some ⟨b, off, none⟩ := by
  have hne : ivs zs ≠ [] := fun e => by
    have h1 : (ivs zs).length = 0 := by rw [e]; rfl
    rw [ivs_len] at h1
    omega
  obtain ⟨b, off, e, _⟩ := h hne
  exact ⟨b, off, e⟩
theorem field4 (v0 v1 v2 v3 v4 : Value) (w : World) : (Instr.field 26 (.agg #[v0, v1, v2, v3, v4]) 4).run Try.prog w = .ok v4 w := by kernel_rfl
/-- The place of what a fault of a full cache takes out. -/
def Q.vicC (c : Ca) : Nat := if c.p = 3 ∨ c.p = 7 then 0 else if c.p = 5 then Q.rare c.ms else if c.p = 6 then (Q.pass c.ms c.h.toNat).1 else c.ps.length - 1
def vicSays (v : Nat) (W : World) (r : Ending) (W' : World) : Prop := r = .returned (.int .i64 (v : Int)) ∧ Below W.heap.size W W'
section
variable {W : World} {A B : Option Addr} {d e : Nat} {c : Ca}
set_option maxRecDepth 20000 in
set_option maxHeartbeats 400000 in
theorem l4Victim_3 (h : CaIn W A d B e c) (hp : c.p = 3) : Calls Try.prog 115 #[caV c A d B e] W (vicSays 0 W) := by
  unfold caV
  rw [hp]
  clear h hp
  go_enter Try.func115, Try.ntmps115
  go_wp2
  go_ret
  exact ⟨rfl, (Below.refl _ _).alloc (Nat.le_refl _) _⟩
set_option maxRecDepth 20000 in
set_option maxHeartbeats 400000 in
theorem l4Victim_7 (h : CaIn W A d B e c) (hp : c.p = 7) : Calls Try.prog 115 #[caV c A d B e] W (vicSays 0 W) := by
  unfold caV
  rw [hp]
  clear h hp
  go_enter Try.func115, Try.ntmps115
  go_wp2
  go_ret
  exact ⟨rfl, (Below.refl _ _).alloc (Nat.le_refl _) _⟩
set_option maxRecDepth 20000 in
set_option maxHeartbeats 400000 in
theorem l4Victim_5 (h : CaIn W A d B e c) (hp : c.p = 5) (h0 : 0 < c.ms.length) (hn : c.ms.length ≤ 1000) : Calls Try.prog 115 #[caV c A d B e] W (vicSays (Q.rare c.ms) W) := by
  have hR := Lib.hid fun X (r : Below W.heap.size W X) => l4Rarest_any B e c.ms X h0 hn (h.2.2.2.stays r)
  unfold caV
  rw [hp]
  clear h hp
  go_enter Try.func115, Try.ntmps115
  go_wp2_with fail
  refine (hR.out _ ((Below.refl _ _).alloc (Nat.le_refl _) _)).mono ?_
  rintro r w1 ⟨rfl, m, rfl⟩
  go_wp2
  go_ret
  exact ⟨rfl, ((Below.refl _ _).alloc (Nat.le_refl _) _).trans ⟨rfl, rfl, rfl, Nat.le_refl _, fun _ _ => rfl⟩⟩
set_option maxRecDepth 20000 in
set_option maxHeartbeats 400000 in
theorem l4Victim_6 (h : CaIn W A d B e c) (hp : c.p = 6) {S hd : Nat} (hs : c.s = (S : Int)) (hh : c.h = (hd : Int)) (hm : c.ms.length = S) (hlt : hd < S) (hS : S ≤ 1000) (h01 : ∀ z ∈ c.ms, 0 ≤ z ∧ z ≤ 1) : Calls Try.prog 115 #[caV c A d B e] W (vicSays (Q.pass c.ms hd).1 W) := by
  have hT := Lib.hid fun X (r : Below W.heap.size W X) => l4Turn_any (h.stays r) hp hs hh hm hlt hS h01
  have HE := Lib.hid (show caV c A d B e = .agg #[.int .i64 6, .int .i64 c.s, .slice A c.ps.length d, .slice B c.ms.length e, .int .i64 c.h] by rw [← hp]; rfl)
  rw [HE.out] at hT ⊢
  clear h hp h01 hs hh hm hlt hS
  generalize Q.pass c.ms hd = q at hT ⊢
  obtain ⟨q1, q2⟩ := q
  go_enter Try.func115, Try.ntmps115
  go_wp2_with fail
  refine (hT.out _ ((Below.refl _ _).alloc (Nat.le_refl _) _)).mono ?_
  rintro r w1 ⟨g, e', rfl, _, hb⟩
  have HB := Lib.hid (((Below.refl W.heap.size W).alloc (Nat.le_refl _) _).trans (hb.mono (by simp)))
  unfold caV
  clear hb
  have hfd := field4
  go_wp2
  go_ret
  exact ⟨rfl, HB.out⟩
set_option maxRecDepth 20000 in
set_option maxHeartbeats 400000 in
theorem l4Victim_1 (h : CaIn W A d B e c) (hp : c.p = 1 ∨ c.p = 2 ∨ c.p = 4) (h0 : 0 < c.ps.length) (hn : c.ps.length ≤ 1000) : Calls Try.prog 115 #[caV c A d B e] W (vicSays (c.ps.length - 1) W) := by
  have hp3 : (c.p == 3) = false := by simp; omega
  have hp7 : (c.p == 7) = false := by simp; omega
  have hp5 : (c.p == 5) = false := by simp; omega
  have hp6 : (c.p == 6) = false := by simp; omega
  have hl : (c.ps.length : Int) - 1 = ((c.ps.length - 1 : Nat) : Int) := by omega
  have hw1 : IntKind.i64.wrap ((c.ps.length - 1 : Nat) : Int) = ((c.ps.length - 1 : Nat) : Int) := by rw [IntKind.wrap_i64]; omega
  unfold caV
  clear h hp
  go_enter Try.func115, Try.ntmps115
  go_wp2
  go_ret
  exact ⟨by rw [← hl]; rfl, (Below.refl _ _).alloc (Nat.le_refl _) _⟩
theorem l4Victim_any {n : Int} (h : CaIn W A d B e c) (hok : Q.okC n c) (hf : (c.ps.length : Int) = c.s) : Calls Try.prog 115 #[caV c A d B e] W (vicSays (Q.vicC c) W) := by
  obtain ⟨h1, h2, h3, h4, h5, h6, h7, h8⟩ := hok
  unfold Q.vicC
  have hpp : c.p = 1 ∨ c.p = 2 ∨ c.p = 3 ∨ c.p = 4 ∨ c.p = 5 ∨ c.p = 6 ∨ c.p = 7 := by omega
  rcases hpp with hp | hp | hp | hp | hp | hp | hp
  · rw [if_neg (by omega), if_neg (by omega), if_neg (by omega)]
    exact l4Victim_1 h (by omega) (by omega) (by omega)
  · rw [if_neg (by omega), if_neg (by omega), if_neg (by omega)]
    exact l4Victim_1 h (by omega) (by omega) (by omega)
  · rw [if_pos (by omega)]
    exact l4Victim_3 h hp
  · rw [if_neg (by omega), if_neg (by omega), if_neg (by omega)]
    exact l4Victim_1 h (by omega) (by omega) (by omega)
  · rw [if_neg (by omega), if_pos hp]
    rw [if_pos hp] at h7
    exact l4Victim_5 h hp (by omega) (by omega)
  · rw [if_neg (by omega), if_neg (by omega), if_pos hp]
    rw [if_neg (by omega), if_pos hp] at h7
    rw [if_pos ⟨hp, hf⟩] at h8
    obtain ⟨hd, hh⟩ := Int.eq_ofNat_of_zero_le h8.1
    obtain ⟨S, hs⟩ := Int.eq_ofNat_of_zero_le (show 0 ≤ c.s by omega)
    have := l4Victim_6 h hp hs hh (by omega) (by omega) (by omega) h7.2
    rwa [hh]
  · rw [if_pos (by omega)]
    exact l4Victim_7 h hp
end
end Go.Proofs.Ytdjafooabpcbmaa

/- The model's l4Fault, policy by policy: a fault of a cache, no clock. -/
namespace Go.Proofs.Ytdjafooabpcbmaa
open Go.RowKit
set_option linter.unusedVariables false
theorem row_own {Y : World} {base n : Nat} {A : Option Addr} {d : Nat} {zs : List Int} (h : Y.ownsRow base 3 1 (.slice A n d) n (ivs zs)) : Law.Row Y A (ivs zs) := Law.Row.own h
section
variable {W : World} {A B : Option Addr} {d e : Nat} {c : Ca}
set_option maxRecDepth 20000 in
set_option maxHeartbeats 1600000 in
theorem fault_room (h : CaIn W A d B e c) (hp5 : c.p ≠ 5) (hp6 : c.p ≠ 6) (hr : (c.ps.length : Int) ≠ c.s) (hn : c.ps.length ≤ 999) (x : Int) : Calls Try.prog 103 #[caV c A d B e, .int .i64 x] W (caSays c { c with ps := x :: c.ps } A B W) := by
  have HI := Lib.hid h
  have HE := Lib.hid (show caV c A d B e = .agg #[.int .i64 c.p, .int .i64 c.s, .slice A c.ps.length d, .slice B c.ms.length e, .int .i64 c.h] by first | rfl | (rw [← hp]; rfl))
  rw [HE.out]
  have hb5 : (c.p == 5) = false := by simpa using hp5
  have hb6 : (c.p == 6) = false := by simpa using hp6
  have hrb : ((c.ps.length : Int) == c.s) = false := by simpa using hr
  clear h hp5 hp6 hr
  go_enter Try.func103, Try.ntmps103
  go_wp2_with fail
  have HS0 := Lib.hid (st_new (al3 W (.cells #[.int .i64 c.p, .int .i64 c.s, .slice A c.ps.length d, .slice B c.ms.length e, .int .i64 c.h] 26) (.cells #[.int .i64 0, .int .i64 0, .slice none 0 0, .slice none 0 0, .int .i64 0] 26) (.cells #[.int .i64 c.p, .int .i64 c.s, .slice A c.ps.length d, .slice B c.ms.length e, .int .i64 c.h] 26)))
  generalize ((W.alloc (.cells #[.int .i64 c.p, .int .i64 c.s, .slice A c.ps.length d, .slice B c.ms.length e, .int .i64 c.h] 26)).alloc (.cells #[.int .i64 0, .int .i64 0, .slice none 0 0, .slice none 0 0, .int .i64 0] 26)).alloc (.cells #[.int .i64 c.p, .int .i64 c.s, .slice A c.ps.length d, .slice B c.ms.length e, .int .i64 c.h] 26) = X at HS0 ⊢
  refine (l4Front_any A d c.ps x _ (by omega) (HI.out.1.2.2.stays HS0.out.bl)).mono ?_
  rintro r w1 ⟨v1, rfl, ho1, hb1⟩
  obtain ⟨A1, n1, rfl, hr1, hq1, _⟩ := Law.own_len ho1
  have HS1 := Lib.hid (HS0.out.call hb1)
  have HO1 := Lib.hid (own_down ho1 HS0.out.lo)
  clear ho1 hb1
  obtain ⟨⟨c0, c1, c2, c3, c4, f0, f1, f2, f3, f4⟩, ⟨z0, z1, z2, z3, z4, y0, y1, y2, y3, y4, k0, k1, k2, k3, k4⟩, ⟨d0, d1, d2, d3, d4, e0, e1, e2, e3, e4⟩, hlo, hbl⟩ := HS1.out
  go_wp2
  have HS2 := Lib.hid (HS1.out.put2 (.slice A1 (c.ps.length + 1) n1))
  have HO2 := Lib.hid (own_lo HO1.out ⟨W.heap.size + 1 + 1, 2, none⟩ (by simp) (.slice A1 (c.ps.length + 1) n1))
  have HR := Lib.hid (row_own (own5 HO2.out (b := W.heap.size + 1) (by omega) (.int .i64 c.p) (.int .i64 c.s) (.slice A1 (c.ps.length + 1) n1) (.slice B c.ms.length e) (.int .i64 c.h)))
  have HF := Lib.hid (below5 HS2.out.bl (b := W.heap.size + 1) (by omega) (.int .i64 c.p) (.int .i64 c.s) ((.slice A1 (c.ps.length + 1) n1)) (.slice B c.ms.length e) (.int .i64 c.h))
  obtain ⟨_, _, _, _, _, hb1⟩ := HS2.out.b1
  refine ret_ca1 rfl rfl rfl (hb1.all _ _ _ _ _) ⟨A1, n1, B, e, rfl, ⟨⟨hr1, hq1, HR.out⟩, HI.out.2.1, HI.out.2.2.1, HI.out.2.2.2.stays HF.out⟩, HF.out, fresh_of HO1.out (by omega), .inl ⟨rfl, rfl⟩⟩
set_option maxRecDepth 20000 in
set_option maxHeartbeats 1600000 in
theorem fault_full (h : CaIn W A d B e c) (hp4 : c.p ≠ 4) (hp5 : c.p ≠ 5) (hp6 : c.p ≠ 6) (hf : (c.ps.length : Int) = c.s) (h0 : 0 < c.ps.length) (hn : c.ps.length ≤ 999) {k : Nat} (hk : k < c.ps.length) (hv : ∀ X, CaIn X A d B e c → Calls Try.prog 115 #[caV c A d B e] X (vicSays k X)) (x : Int) : Calls Try.prog 103 #[caV c A d B e, .int .i64 x] W (caSays c { c with ps := x :: c.ps.eraseIdx k } A B W) := by
  obtain ⟨gb, go, rfl⟩ := row_some h.1.2.2 h0
  have HI := Lib.hid h
  have HE := Lib.hid (show caV c (some ⟨gb, go, none⟩) d B e = .agg #[.int .i64 c.p, .int .i64 c.s, .slice (some ⟨gb, go, none⟩) c.ps.length d, .slice B c.ms.length e, .int .i64 c.h] by first | rfl | (rw [← hp]; rfl))
  rw [HE.out]
  have hb4 : (c.p == 4) = false := by simpa using hp4
  have hb5 : (c.p == 5) = false := by simpa using hp5
  have hb6 : (c.p == 6) = false := by simpa using hp6
  have hrb : ((c.ps.length : Int) == c.s) = true := by simpa using hf
  have hW := fun X (r : Law.Row X (some ⟨gb, go, none⟩) (ivs c.ps)) => l4Without_any gb go d c.ps k X hk (by omega) h.1.1 r
  obtain ⟨es, hes⟩ : ∃ es, es = c.ps.eraseIdx k := ⟨_, rfl⟩
  rw [← hes] at hW ⊢
  have hel : es.length ≤ 999 := by rw [hes, List.length_eraseIdx]; split <;> omega
  have HW := Lib.hid hW
  have HV := Lib.hid hv
  clear h hp4 hp5 hp6 hf hv hW hes h0 hk
  go_enter Try.func103, Try.ntmps103
  go_wp2_with fail
  have HS0 := Lib.hid (st_new (al3 W (.cells #[.int .i64 c.p, .int .i64 c.s, .slice (some ⟨gb, go, none⟩) c.ps.length d, .slice B c.ms.length e, .int .i64 c.h] 26) (.cells #[.int .i64 0, .int .i64 0, .slice none 0 0, .slice none 0 0, .int .i64 0] 26) (.cells #[.int .i64 c.p, .int .i64 c.s, .slice (some ⟨gb, go, none⟩) c.ps.length d, .slice B c.ms.length e, .int .i64 c.h] 26)))
  generalize ((W.alloc (.cells #[.int .i64 c.p, .int .i64 c.s, .slice (some ⟨gb, go, none⟩) c.ps.length d, .slice B c.ms.length e, .int .i64 c.h] 26)).alloc (.cells #[.int .i64 0, .int .i64 0, .slice none 0 0, .slice none 0 0, .int .i64 0] 26)).alloc (.cells #[.int .i64 c.p, .int .i64 c.s, .slice (some ⟨gb, go, none⟩) c.ps.length d, .slice B c.ms.length e, .int .i64 c.h] 26) = X at HS0 ⊢
  refine (HV.out X (HI.out.stays HS0.out.bl)).mono ?_
  rintro r w1 ⟨rfl, hb1⟩
  have HS1 := Lib.hid (HS0.out.call hb1)
  clear hb1
  obtain ⟨⟨c0, c1, c2, c3, c4, f0, f1, f2, f3, f4⟩, ⟨z0, z1, z2, z3, z4, y0, y1, y2, y3, y4, k0, k1, k2, k3, k4⟩, ⟨d0, d1, d2, d3, d4, e0, e1, e2, e3, e4⟩, hlo, hbl⟩ := HS1.out
  go_wp2_with fail
  clear c0 c1 c2 c3 c4 f0 f1 f2 f3 f4 y0 y1 y2 y3 y4 k0 k1 k2 k3 k4 d0 d1 d2 d3 d4 e0 e1 e2 e3 e4 hlo hbl
  refine (HW.out _ (HI.out.1.2.2.stays HS1.out.bl)).mono ?_
  rintro r w2 ⟨v2, rfl, ho2, hb2⟩
  obtain ⟨A2, n2, rfl, hr2, hq2, _⟩ := Law.own_len ho2
  have HS2 := Lib.hid (HS1.out.call hb2)
  have HO2 := Lib.hid (own_down ho2 HS1.out.lo)
  clear ho2 hb2
  obtain ⟨⟨c0, c1, c2, c3, c4, f0, f1, f2, f3, f4⟩, ⟨z0, z1, z2, z3, z4, y0, y1, y2, y3, y4, k0, k1, k2, k3, k4⟩, ⟨d0, d1, d2, d3, d4, e0, e1, e2, e3, e4⟩, hlo, hbl⟩ := HS2.out
  go_wp2_with fail
  clear c0 c1 c2 c3 c4 f0 f1 f2 f3 f4 y0 y1 y2 y3 y4 k0 k1 k2 k3 k4 d0 d1 d2 d3 d4 e0 e1 e2 e3 e4 hlo hbl
  have HS3 := Lib.hid (HS2.out.put2 (.slice A2 es.length n2))
  have HO3 := Lib.hid (own_lo HO2.out ⟨W.heap.size + 1 + 1, 2, none⟩ (by simp) (.slice A2 es.length n2))
  generalize w2.setCell ⟨W.heap.size + 1 + 1, 2, none⟩ (.slice A2 es.length n2) = Y3 at HS3 HO3 ⊢
  refine (l4Front_any A2 n2 es x _ (by omega) (row_own HO3.out)).mono ?_
  rintro r w4 ⟨v4, rfl, ho4, hb4⟩
  obtain ⟨A4, n4, rfl, hr4, hq4, _⟩ := Law.own_len ho4
  have HS4 := Lib.hid (HS3.out.call hb4)
  have HO4 := Lib.hid (own_down ho4 HS3.out.lo)
  clear ho4 hb4
  obtain ⟨⟨c0, c1, c2, c3, c4, f0, f1, f2, f3, f4⟩, ⟨z0, z1, z2, z3, z4, y0, y1, y2, y3, y4, k0, k1, k2, k3, k4⟩, ⟨d0, d1, d2, d3, d4, e0, e1, e2, e3, e4⟩, hlo, hbl⟩ := HS4.out
  go_wp2
  have HS5 := Lib.hid (HS4.out.put2 (.slice A4 (es.length + 1) n4))
  have HO5 := Lib.hid (own_lo HO4.out ⟨W.heap.size + 1 + 1, 2, none⟩ (by simp) (.slice A4 (es.length + 1) n4))
  have HR := Lib.hid (row_own (own5 HO5.out (b := W.heap.size + 1) (by omega) (.int .i64 c.p) (.int .i64 c.s) (.slice A4 (es.length + 1) n4) (.slice B c.ms.length e) (.int .i64 c.h)))
  have HF := Lib.hid (below5 HS5.out.bl (b := W.heap.size + 1) (by omega) (.int .i64 c.p) (.int .i64 c.s) ((.slice A4 (es.length + 1) n4)) (.slice B c.ms.length e) (.int .i64 c.h))
  obtain ⟨_, _, _, _, _, hb1⟩ := HS5.out.b1
  refine ret_ca1 rfl rfl rfl (hb1.all _ _ _ _ _) ⟨A4, n4, B, e, rfl, ⟨⟨hr4, hq4, HR.out⟩, HI.out.2.1, HI.out.2.2.1, HI.out.2.2.2.stays HF.out⟩, HF.out, fresh_of HO4.out (by omega), .inl ⟨rfl, rfl⟩⟩
set_option maxRecDepth 20000 in
set_option maxHeartbeats 1600000 in
theorem fault_flush (h : CaIn W A d B e c) (hp : c.p = 4) (hf : (c.ps.length : Int) = c.s) {k : Nat} (hv : ∀ X, CaIn X A d B e c → Calls Try.prog 115 #[caV c A d B e] X (vicSays k X)) (x : Int) : Calls Try.prog 103 #[caV c A d B e, .int .i64 x] W (caSays c { c with ps := [x] } A B W) := by
  have HV := Lib.hid hv
  have HI := Lib.hid h
  have HE := Lib.hid (show caV c A d B e = .agg #[.int .i64 4, .int .i64 c.s, .slice A c.ps.length d, .slice B c.ms.length e, .int .i64 c.h] by first | rfl | (rw [← hp]; rfl))
  rw [HE.out]
  rw [HE.out] at HV
  have hrb : ((c.ps.length : Int) == c.s) = true := by simpa using hf
  have HP := Lib.hid hp
  clear h hp hf hv
  go_enter Try.func103, Try.ntmps103
  go_wp2_with fail
  have HS0 := Lib.hid (st_new (al3 W (.cells #[.int .i64 4, .int .i64 c.s, .slice A c.ps.length d, .slice B c.ms.length e, .int .i64 c.h] 26) (.cells #[.int .i64 0, .int .i64 0, .slice none 0 0, .slice none 0 0, .int .i64 0] 26) (.cells #[.int .i64 4, .int .i64 c.s, .slice A c.ps.length d, .slice B c.ms.length e, .int .i64 c.h] 26)))
  generalize ((W.alloc (.cells #[.int .i64 4, .int .i64 c.s, .slice A c.ps.length d, .slice B c.ms.length e, .int .i64 c.h] 26)).alloc (.cells #[.int .i64 0, .int .i64 0, .slice none 0 0, .slice none 0 0, .int .i64 0] 26)).alloc (.cells #[.int .i64 4, .int .i64 c.s, .slice A c.ps.length d, .slice B c.ms.length e, .int .i64 c.h] 26) = X at HS0 ⊢
  refine (HV.out X (HI.out.stays HS0.out.bl)).mono ?_
  rintro r w1 ⟨rfl, hb1⟩
  have HS1 := Lib.hid (HS0.out.call hb1)
  clear hb1
  obtain ⟨⟨c0, c1, c2, c3, c4, f0, f1, f2, f3, f4⟩, ⟨z0, z1, z2, z3, z4, y0, y1, y2, y3, y4, k0, k1, k2, k3, k4⟩, ⟨d0, d1, d2, d3, d4, e0, e1, e2, e3, e4⟩, hlo, hbl⟩ := HS1.out
  have hbn : Below w1.heap.size w1 (w1.alloc (.cells #[] 3)) := (Below.refl _ _).alloc (Nat.le_refl _) _
  have hln := HS1.out.lo
  have HS2 := Lib.hid (HS1.out.call hbn)
  have HO2 : Hid ((w1.alloc (.cells #[] 3)).ownsRow (W.heap.size + 1 + 1 + 1) 3 1 (.slice (some ⟨w1.heap.size, 0, none⟩) 0 0) 0 (ivs [])) := own_down (ownsRow_nil w1 3) hln
  obtain ⟨⟨i0, i1, i2, i3, i4, _, _, _, _, _⟩, _, ⟨j0, j1, j2, j3, j4, m0, m1, m2, m3, m4⟩, _, _⟩ := HS2.out
  go_wp2_with fail
  clear i0 i1 i2 i3 i4 j0 j1 j2 j3 j4 m0 m1 m2 m3 m4
  clear c0 c1 c2 c3 c4 f0 f1 f2 f3 f4 y0 y1 y2 y3 y4 k0 k1 k2 k3 k4 d0 d1 d2 d3 d4 e0 e1 e2 e3 e4 hlo hbl
  have HS3 := Lib.hid (HS2.out.put2 (.slice (some ⟨w1.heap.size, 0, none⟩) 0 0))
  have HO3 := Lib.hid (own_lo HO2.out ⟨W.heap.size + 1 + 1, 2, none⟩ (by simp) (.slice (some ⟨w1.heap.size, 0, none⟩) 0 0))
  generalize (w1.alloc (.cells #[] 3)).setCell ⟨W.heap.size + 1 + 1, 2, none⟩ (.slice (some ⟨w1.heap.size, 0, none⟩) 0 0) = Y3 at HS3 HO3 ⊢
  refine (l4Front_any (some ⟨w1.heap.size, 0, none⟩) 0 [] x _ (by simp) (row_own HO3.out)).mono ?_
  rintro r w4 ⟨v4, rfl, ho4, hb4⟩
  obtain ⟨A4, n4, rfl, hr4, hq4, _⟩ := Law.own_len ho4
  have HS4 := Lib.hid (HS3.out.call hb4)
  have HO4 := Lib.hid (own_down ho4 HS3.out.lo)
  clear ho4 hb4 hbn hln
  obtain ⟨⟨c0, c1, c2, c3, c4, f0, f1, f2, f3, f4⟩, ⟨z0, z1, z2, z3, z4, y0, y1, y2, y3, y4, k0, k1, k2, k3, k4⟩, ⟨d0, d1, d2, d3, d4, e0, e1, e2, e3, e4⟩, hlo, hbl⟩ := HS4.out
  go_wp2
  have HS5 := Lib.hid (HS4.out.put2 (.slice A4 1 n4))
  have HO5 := Lib.hid (own_lo HO4.out ⟨W.heap.size + 1 + 1, 2, none⟩ (by simp) (.slice A4 1 n4))
  have HR := Lib.hid (row_own (own5 HO5.out (b := W.heap.size + 1) (by omega) (.int .i64 4) (.int .i64 c.s) (.slice A4 1 n4) (.slice B c.ms.length e) (.int .i64 c.h)))
  have HF := Lib.hid (below5 HS5.out.bl (b := W.heap.size + 1) (by omega) (.int .i64 4) (.int .i64 c.s) ((.slice A4 1 n4)) (.slice B c.ms.length e) (.int .i64 c.h))
  obtain ⟨_, _, _, _, _, hb1⟩ := HS5.out.b1
  refine ret_ca1 rfl rfl rfl (hb1.all _ _ _ _ _) ⟨A4, n4, B, e, by unfold caV; rw [HP.out]; rfl, ⟨⟨hr4, hq4, HR.out⟩, HI.out.2.1, HI.out.2.2.1, HI.out.2.2.2.stays HF.out⟩, HF.out, fresh_of HO4.out (by omega), .inl ⟨rfl, rfl⟩⟩
end
end Go.Proofs.Ytdjafooabpcbmaa

/- The model's l4Fault, a fault of a cache that counts. -/
namespace Go.Proofs.Ytdjafooabpcbmaa
open Go.RowKit
set_option linter.unusedVariables false
section
variable {W : World} {A B : Option Addr} {d e : Nat} {c : Ca}
set_option maxRecDepth 20000 in
set_option maxHeartbeats 1600000 in
theorem fault5_room (h : CaIn W A d B e c) (hp : c.p = 5) (hr : (c.ps.length : Int) ≠ c.s) (hn : c.ps.length ≤ 999) (hm : c.ms.length ≤ 999) (x : Int) : Calls Try.prog 103 #[caV c A d B e, .int .i64 x] W (caSays c { c with ps := x :: c.ps, ms := 1 :: c.ms } A B W) := by
  have HI := Lib.hid h
  have HE := Lib.hid (show caV c A d B e = .agg #[.int .i64 5, .int .i64 c.s, .slice A c.ps.length d, .slice B c.ms.length e, .int .i64 c.h] by first | rfl | (rw [← hp]; rfl))
  rw [HE.out]
  have hrb : ((c.ps.length : Int) == c.s) = false := by simpa using hr
  have HP := Lib.hid hp
  clear h hp hr
  go_enter Try.func103, Try.ntmps103
  go_wp2_with fail
  have HS0 := Lib.hid (st_new (al3 W (.cells #[.int .i64 5, .int .i64 c.s, .slice A c.ps.length d, .slice B c.ms.length e, .int .i64 c.h] 26) (.cells #[.int .i64 0, .int .i64 0, .slice none 0 0, .slice none 0 0, .int .i64 0] 26) (.cells #[.int .i64 5, .int .i64 c.s, .slice A c.ps.length d, .slice B c.ms.length e, .int .i64 c.h] 26)))
  generalize ((W.alloc (.cells #[.int .i64 5, .int .i64 c.s, .slice A c.ps.length d, .slice B c.ms.length e, .int .i64 c.h] 26)).alloc (.cells #[.int .i64 0, .int .i64 0, .slice none 0 0, .slice none 0 0, .int .i64 0] 26)).alloc (.cells #[.int .i64 5, .int .i64 c.s, .slice A c.ps.length d, .slice B c.ms.length e, .int .i64 c.h] 26) = X at HS0 ⊢
  refine (l4Front_any A d c.ps x _ (by omega) (HI.out.1.2.2.stays HS0.out.bl)).mono ?_
  rintro r w1 ⟨v1, rfl, ho1, hb1⟩
  obtain ⟨A1, n1, rfl, hr1, hq1, _⟩ := Law.own_len ho1
  have HS1 := Lib.hid (HS0.out.call hb1)
  have HO1 := Lib.hid (own_down ho1 HS0.out.lo)
  clear ho1 hb1
  obtain ⟨⟨c0, c1, c2, c3, c4, f0, f1, f2, f3, f4⟩, ⟨z0, z1, z2, z3, z4, y0, y1, y2, y3, y4, k0, k1, k2, k3, k4⟩, ⟨d0, d1, d2, d3, d4, e0, e1, e2, e3, e4⟩, hlo, hbl⟩ := HS1.out
  go_wp2_with fail
  clear c0 c1 c2 c3 c4 f0 f1 f2 f3 f4 y0 y1 y2 y3 y4 k0 k1 k2 k3 k4 d0 d1 d2 d3 d4 e0 e1 e2 e3 e4 hlo hbl
  have HS2 := Lib.hid (HS1.out.put2 (.slice A1 (c.ps.length + 1) n1))
  have HO2 := Lib.hid (own_lo HO1.out ⟨W.heap.size + 1 + 1, 2, none⟩ (by simp) (.slice A1 (c.ps.length + 1) n1))
  generalize w1.setCell ⟨W.heap.size + 1 + 1, 2, none⟩ (.slice A1 (c.ps.length + 1) n1) = Y2 at HS2 HO2 ⊢
  refine (l4Front_any B e c.ms 1 _ (by omega) (HI.out.2.2.2.stays HS2.out.bl)).mono ?_
  rintro r w3 ⟨v3, rfl, ho3, hb3⟩
  obtain ⟨A3, n3, rfl, hr3, hq3, _⟩ := Law.own_len ho3
  have HS3 := Lib.hid (HS2.out.call hb3)
  have HO3 := Lib.hid (own_down ho3 HS2.out.lo)
  have HP3 := Lib.hid (own_past HO2.out hb3)
  clear ho3 hb3
  obtain ⟨⟨c0, c1, c2, c3, c4, f0, f1, f2, f3, f4⟩, ⟨z0, z1, z2, z3, z4, y0, y1, y2, y3, y4, k0, k1, k2, k3, k4⟩, ⟨d0, d1, d2, d3, d4, e0, e1, e2, e3, e4⟩, hlo, hbl⟩ := HS3.out
  go_wp2
  have HS4 := Lib.hid (HS3.out.put3 (.slice A3 (c.ms.length + 1) n3))
  have HO4 := Lib.hid (own_lo HO3.out ⟨W.heap.size + 1 + 1, 3, none⟩ (by simp) (.slice A3 (c.ms.length + 1) n3))
  have HP4 := Lib.hid (own_lo HP3.out ⟨W.heap.size + 1 + 1, 3, none⟩ (by simp) (.slice A3 (c.ms.length + 1) n3))
  have HR := Lib.hid (row_own (own5 HO4.out (b := W.heap.size + 1) (by omega) (.int .i64 5) (.int .i64 c.s) (.slice A1 (c.ps.length + 1) n1) (.slice A3 (c.ms.length + 1) n3) (.int .i64 c.h)))
  have HQ := Lib.hid (row_own (own5 HP4.out (b := W.heap.size + 1) (by omega) (.int .i64 5) (.int .i64 c.s) (.slice A1 (c.ps.length + 1) n1) (.slice A3 (c.ms.length + 1) n3) (.int .i64 c.h)))
  have HF := Lib.hid (below5 HS4.out.bl (b := W.heap.size + 1) (by omega) (.int .i64 5) (.int .i64 c.s) ((.slice A1 (c.ps.length + 1) n1)) ((.slice A3 (c.ms.length + 1) n3)) (.int .i64 c.h))
  obtain ⟨_, _, _, _, _, hb1⟩ := HS4.out.b1
  refine ret_ca1 rfl rfl rfl (hb1.all _ _ _ _ _) ⟨A1, n1, A3, n3, by unfold caV; rw [HP.out]; rfl, ⟨⟨hr1, hq1, HQ.out⟩, hr3, hq3, HR.out⟩, HF.out, fresh_of HO1.out (by omega), fresh_of HO3.out (by omega)⟩
set_option maxRecDepth 20000 in
set_option maxHeartbeats 1600000 in
theorem fault5_full (h : CaIn W A d B e c) (hp : c.p = 5) (hf : (c.ps.length : Int) = c.s) (h0 : 0 < c.ps.length) (hn : c.ps.length ≤ 999) (hm : c.ms.length = c.ps.length) {k : Nat} (hk : k < c.ps.length) (hv : ∀ X, CaIn X A d B e c → Calls Try.prog 115 #[caV c A d B e] X (vicSays k X)) (x : Int) : Calls Try.prog 103 #[caV c A d B e, .int .i64 x] W (caSays c { c with ps := x :: c.ps.eraseIdx k, ms := 1 :: c.ms.eraseIdx k } A B W) := by
  obtain ⟨gb, go, rfl⟩ := row_some h.1.2.2 h0
  obtain ⟨mb, mo, rfl⟩ := row_some h.2.2.2 (by omega)
  have HV := Lib.hid hv
  have HI := Lib.hid h
  have HE := Lib.hid (show caV c (some ⟨gb, go, none⟩) d (some ⟨mb, mo, none⟩) e = .agg #[.int .i64 5, .int .i64 c.s, .slice (some ⟨gb, go, none⟩) c.ps.length d, .slice (some ⟨mb, mo, none⟩) c.ms.length e, .int .i64 c.h] by first | rfl | (rw [← hp]; rfl))
  rw [HE.out]
  rw [HE.out] at HV
  have hrb : ((c.ps.length : Int) == c.s) = true := by simpa using hf
  have hW := fun X (r : Law.Row X (some ⟨gb, go, none⟩) (ivs c.ps)) => l4Without_any gb go d c.ps k X hk (by omega) h.1.1 r
  have hM := fun X (r : Law.Row X (some ⟨mb, mo, none⟩) (ivs c.ms)) => l4Without_any mb mo e c.ms k X (by omega) (by omega) h.2.1 r
  obtain ⟨es, hes⟩ : ∃ es, es = c.ps.eraseIdx k := ⟨_, rfl⟩
  obtain ⟨us, hus⟩ : ∃ us, us = c.ms.eraseIdx k := ⟨_, rfl⟩
  rw [← hes] at hW ⊢
  rw [← hus] at hM ⊢
  have hel : es.length ≤ 999 := by rw [hes, List.length_eraseIdx]; split <;> omega
  have hul : us.length ≤ 999 := by rw [hus, List.length_eraseIdx]; split <;> omega
  have HW := Lib.hid hW
  have HM := Lib.hid hM
  have HP := Lib.hid hp
  clear h hp hf hv hW hes h0 hk hm hM hus
  go_enter Try.func103, Try.ntmps103
  go_wp2_with fail
  have HS0 := Lib.hid (st_new (al3 W (.cells #[.int .i64 5, .int .i64 c.s, .slice (some ⟨gb, go, none⟩) c.ps.length d, .slice (some ⟨mb, mo, none⟩) c.ms.length e, .int .i64 c.h] 26) (.cells #[.int .i64 0, .int .i64 0, .slice none 0 0, .slice none 0 0, .int .i64 0] 26) (.cells #[.int .i64 5, .int .i64 c.s, .slice (some ⟨gb, go, none⟩) c.ps.length d, .slice (some ⟨mb, mo, none⟩) c.ms.length e, .int .i64 c.h] 26)))
  generalize ((W.alloc (.cells #[.int .i64 5, .int .i64 c.s, .slice (some ⟨gb, go, none⟩) c.ps.length d, .slice (some ⟨mb, mo, none⟩) c.ms.length e, .int .i64 c.h] 26)).alloc (.cells #[.int .i64 0, .int .i64 0, .slice none 0 0, .slice none 0 0, .int .i64 0] 26)).alloc (.cells #[.int .i64 5, .int .i64 c.s, .slice (some ⟨gb, go, none⟩) c.ps.length d, .slice (some ⟨mb, mo, none⟩) c.ms.length e, .int .i64 c.h] 26) = X at HS0 ⊢
  refine (HV.out X (HI.out.stays HS0.out.bl)).mono ?_
  rintro r w1 ⟨rfl, hb1⟩
  have HS1 := Lib.hid (HS0.out.call hb1)
  clear hb1
  obtain ⟨⟨c0, c1, c2, c3, c4, f0, f1, f2, f3, f4⟩, ⟨z0, z1, z2, z3, z4, y0, y1, y2, y3, y4, k0, k1, k2, k3, k4⟩, ⟨d0, d1, d2, d3, d4, e0, e1, e2, e3, e4⟩, hlo, hbl⟩ := HS1.out
  go_wp2_with fail
  clear c0 c1 c2 c3 c4 f0 f1 f2 f3 f4 y0 y1 y2 y3 y4 k0 k1 k2 k3 k4 d0 d1 d2 d3 d4 e0 e1 e2 e3 e4 hlo hbl
  refine (HW.out _ (HI.out.1.2.2.stays HS1.out.bl)).mono ?_
  rintro r w2 ⟨v2, rfl, ho2, hb2⟩
  obtain ⟨A2, n2, rfl, hr2, hq2, _⟩ := Law.own_len ho2
  have HS2 := Lib.hid (HS1.out.call hb2)
  have HO2 := Lib.hid (own_down ho2 HS1.out.lo)
  clear ho2 hb2
  obtain ⟨⟨c0, c1, c2, c3, c4, f0, f1, f2, f3, f4⟩, ⟨z0, z1, z2, z3, z4, y0, y1, y2, y3, y4, k0, k1, k2, k3, k4⟩, ⟨d0, d1, d2, d3, d4, e0, e1, e2, e3, e4⟩, hlo, hbl⟩ := HS2.out
  go_wp2_with fail
  clear c0 c1 c2 c3 c4 f0 f1 f2 f3 f4 y0 y1 y2 y3 y4 k0 k1 k2 k3 k4 d0 d1 d2 d3 d4 e0 e1 e2 e3 e4 hlo hbl
  have HS3 := Lib.hid (HS2.out.put2 (.slice A2 es.length n2))
  have HO3 := Lib.hid (own_lo HO2.out ⟨W.heap.size + 1 + 1, 2, none⟩ (by simp) (.slice A2 es.length n2))
  generalize w2.setCell ⟨W.heap.size + 1 + 1, 2, none⟩ (.slice A2 es.length n2) = Y3 at HS3 HO3 ⊢
  refine (HM.out _ (HI.out.2.2.2.stays HS3.out.bl)).mono ?_
  rintro r w4 ⟨v4, rfl, ho4, hb4⟩
  obtain ⟨A4, n4, rfl, hr4, hq4, _⟩ := Law.own_len ho4
  have HS4 := Lib.hid (HS3.out.call hb4)
  have HM4 := Lib.hid (own_down ho4 HS3.out.lo)
  have HO4 := Lib.hid (own_past HO3.out hb4)
  clear ho4 hb4
  obtain ⟨⟨c0, c1, c2, c3, c4, f0, f1, f2, f3, f4⟩, ⟨z0, z1, z2, z3, z4, y0, y1, y2, y3, y4, k0, k1, k2, k3, k4⟩, ⟨d0, d1, d2, d3, d4, e0, e1, e2, e3, e4⟩, hlo, hbl⟩ := HS4.out
  go_wp2_with fail
  clear c0 c1 c2 c3 c4 f0 f1 f2 f3 f4 y0 y1 y2 y3 y4 k0 k1 k2 k3 k4 d0 d1 d2 d3 d4 e0 e1 e2 e3 e4 hlo hbl
  have HS5 := Lib.hid (HS4.out.put3 (.slice A4 us.length n4))
  have HM5 := Lib.hid (own_lo HM4.out ⟨W.heap.size + 1 + 1, 3, none⟩ (by simp) (.slice A4 us.length n4))
  have HO5 := Lib.hid (own_lo HO4.out ⟨W.heap.size + 1 + 1, 3, none⟩ (by simp) (.slice A4 us.length n4))
  generalize w4.setCell ⟨W.heap.size + 1 + 1, 3, none⟩ (.slice A4 us.length n4) = Y5 at HS5 HM5 HO5 ⊢
  refine (l4Front_any A2 n2 es x _ (by omega) (row_own HO5.out)).mono ?_
  rintro r w6 ⟨v6, rfl, ho6, hb6⟩
  obtain ⟨A6, n6, rfl, hr6, hq6, _⟩ := Law.own_len ho6
  have HS6 := Lib.hid (HS5.out.call hb6)
  have HO6 := Lib.hid (own_down ho6 HS5.out.lo)
  have HM6 := Lib.hid (own_past HM5.out hb6)
  clear ho6 hb6
  obtain ⟨⟨c0, c1, c2, c3, c4, f0, f1, f2, f3, f4⟩, ⟨z0, z1, z2, z3, z4, y0, y1, y2, y3, y4, k0, k1, k2, k3, k4⟩, ⟨d0, d1, d2, d3, d4, e0, e1, e2, e3, e4⟩, hlo, hbl⟩ := HS6.out
  go_wp2_with fail
  clear c0 c1 c2 c3 c4 f0 f1 f2 f3 f4 y0 y1 y2 y3 y4 k0 k1 k2 k3 k4 d0 d1 d2 d3 d4 e0 e1 e2 e3 e4 hlo hbl
  have HS7 := Lib.hid (HS6.out.put2 (.slice A6 (es.length + 1) n6))
  have HO7 := Lib.hid (own_lo HO6.out ⟨W.heap.size + 1 + 1, 2, none⟩ (by simp) (.slice A6 (es.length + 1) n6))
  have HM7 := Lib.hid (own_lo HM6.out ⟨W.heap.size + 1 + 1, 2, none⟩ (by simp) (.slice A6 (es.length + 1) n6))
  generalize w6.setCell ⟨W.heap.size + 1 + 1, 2, none⟩ (.slice A6 (es.length + 1) n6) = Y7 at HS7 HO7 HM7 ⊢
  refine (l4Front_any A4 n4 us 1 _ (by omega) (row_own HM7.out)).mono ?_
  rintro r w8 ⟨v8, rfl, ho8, hb8⟩
  obtain ⟨A8, n8, rfl, hr8, hq8, _⟩ := Law.own_len ho8
  have HS8 := Lib.hid (HS7.out.call hb8)
  have HO8 := Lib.hid (own_down ho8 HS7.out.lo)
  have HQ8 := Lib.hid (own_past HO7.out hb8)
  clear ho8 hb8
  obtain ⟨⟨c0, c1, c2, c3, c4, f0, f1, f2, f3, f4⟩, ⟨z0, z1, z2, z3, z4, y0, y1, y2, y3, y4, k0, k1, k2, k3, k4⟩, ⟨d0, d1, d2, d3, d4, e0, e1, e2, e3, e4⟩, hlo, hbl⟩ := HS8.out
  go_wp2
  have HS9 := Lib.hid (HS8.out.put3 (.slice A8 (us.length + 1) n8))
  have HO9 := Lib.hid (own_lo HO8.out ⟨W.heap.size + 1 + 1, 3, none⟩ (by simp) (.slice A8 (us.length + 1) n8))
  have HQ9 := Lib.hid (own_lo HQ8.out ⟨W.heap.size + 1 + 1, 3, none⟩ (by simp) (.slice A8 (us.length + 1) n8))
  have HR := Lib.hid (row_own (own5 HO9.out (b := W.heap.size + 1) (by omega) (.int .i64 5) (.int .i64 c.s) (.slice A6 (es.length + 1) n6) (.slice A8 (us.length + 1) n8) (.int .i64 c.h)))
  have HQ := Lib.hid (row_own (own5 HQ9.out (b := W.heap.size + 1) (by omega) (.int .i64 5) (.int .i64 c.s) (.slice A6 (es.length + 1) n6) (.slice A8 (us.length + 1) n8) (.int .i64 c.h)))
  have HF := Lib.hid (below5 HS9.out.bl (b := W.heap.size + 1) (by omega) (.int .i64 5) (.int .i64 c.s) ((.slice A6 (es.length + 1) n6)) ((.slice A8 (us.length + 1) n8)) (.int .i64 c.h))
  obtain ⟨_, _, _, _, _, hb1⟩ := HS9.out.b1
  refine ret_ca1 rfl rfl rfl (hb1.all _ _ _ _ _) ⟨A6, n6, A8, n8, by unfold caV; rw [HP.out]; rfl, ⟨⟨hr6, hq6, HQ.out⟩, hr8, hq8, HR.out⟩, HF.out, fresh_of HO6.out (by omega), fresh_of HO8.out (by omega)⟩
end
end Go.Proofs.Ytdjafooabpcbmaa

/- The model's l4Clock, a fault of a clock, and l4Fault of any valid cache. -/
namespace Go.Proofs.Ytdjafooabpcbmaa
open Go.RowKit
set_option linter.unusedVariables false
section
variable {W : World} {A B : Option Addr} {d e : Nat} {c : Ca}
set_option maxRecDepth 20000 in
set_option maxHeartbeats 1600000 in
theorem clock_room (h : CaIn W A d B e c) (hp : c.p = 6) (hr : (c.ps.length : Int) < c.s) (hn : c.ps.length ≤ 999) (hm : c.ms.length ≤ 999) (x : Int) : Calls Try.prog 135 #[caV c A d B e, .int .i64 x] W (caSays c { c with ps := c.ps ++ [x], ms := c.ms ++ [1] } A B W) := by
  obtain ⟨i0, hi, hz0, hz1, hz2⟩ := info_parts infoInts
  have HI := Lib.hid h
  have HE := Lib.hid (show caV c A d B e = .agg #[.int .i64 6, .int .i64 c.s, .slice A c.ps.length d, .slice B c.ms.length e, .int .i64 c.h] by first | rfl | (rw [← hp]; rfl))
  rw [HE.out]
  have HP := Lib.hid hp
  clear h hp
  go_enter Try.func135, Try.ntmps135
  go_wp2_with fail
  have HS0 := Lib.hid (st_new (al3 W (.cells #[.int .i64 6, .int .i64 c.s, .slice A c.ps.length d, .slice B c.ms.length e, .int .i64 c.h] 26) (.cells #[.int .i64 0, .int .i64 0, .slice none 0 0, .slice none 0 0, .int .i64 0] 26) (.cells #[.int .i64 6, .int .i64 c.s, .slice A c.ps.length d, .slice B c.ms.length e, .int .i64 c.h] 26)))
  generalize ((W.alloc (.cells #[.int .i64 6, .int .i64 c.s, .slice A c.ps.length d, .slice B c.ms.length e, .int .i64 c.h] 26)).alloc (.cells #[.int .i64 0, .int .i64 0, .slice none 0 0, .slice none 0 0, .int .i64 0] 26)).alloc (.cells #[.int .i64 6, .int .i64 c.s, .slice A c.ps.length d, .slice B c.ms.length e, .int .i64 c.h] 26) = X at HS0 ⊢
  refine (l1Own_any A d c.ps _ (by omega) (HI.out.1.2.2.stays HS0.out.bl)).mono ?_
  rintro r w1 ⟨v1, rfl, ho1, hb1⟩
  have HS1 := Lib.hid (HS0.out.call hb1)
  have HO1 := Lib.hid (own_down ho1 HS0.out.lo)
  have hlo1 := HS1.out.lo
  clear ho1 hb1
  go_wp2_with (at_builtin; refine list_app1 rfl _ _ 22 rfl Try.underlying22 hi hz0 hz1 hz2 rfl ((HO1.out).alloc _) rfl (new_cell w1 (.int .i64 x) 3) ?ca ?cb ?_)
  case ca => omega
  case cb => (show W.heap.size + 1 + 1 + 1 ≤ _; first | omega | (simp; omega))
  intro v2 w2 hm2 hg2 ha2
  have HS2 := Lib.hid (HS1.out.past (((Below.refl _ w1).alloc hlo1 (.cells #[.int .i64 x] 3)).grown hg2 (by simp; omega) (fun j e => (HO1.out.lt j e).1)))
  rw [← ivs_snoc] at hm2
  obtain ⟨A2, n2, rfl, hr2, hq2, _⟩ := Law.own_len hm2
  have HO2 := Lib.hid hm2
  clear hm2 hg2 ha2 hlo1
  obtain ⟨⟨c0, c1, c2, c3, c4, f0, f1, f2, f3, f4⟩, ⟨z0, z1, z2, z3, z4, y0, y1, y2, y3, y4, k0, k1, k2, k3, k4⟩, ⟨d0, d1, d2, d3, d4, e0, e1, e2, e3, e4⟩, hlo, hbl⟩ := HS2.out
  go_wp2_with fail
  clear c0 c1 c2 c3 c4 f0 f1 f2 f3 f4 y0 y1 y2 y3 y4 k0 k1 k2 k3 k4 d0 d1 d2 d3 d4 e0 e1 e2 e3 e4 hlo hbl
  have HS3 := Lib.hid (HS2.out.put2 (.slice A2 (c.ps.length + 1) n2))
  have HO3 := Lib.hid (own_lo HO2.out ⟨W.heap.size + 1 + 1, 2, none⟩ (by simp) (.slice A2 (c.ps.length + 1) n2))
  generalize w2.setCell ⟨W.heap.size + 1 + 1, 2, none⟩ (.slice A2 (c.ps.length + 1) n2) = Y3 at HS3 HO3 ⊢
  refine (l1Own_any B e c.ms _ (by omega) (HI.out.2.2.2.stays HS3.out.bl)).mono ?_
  rintro r w4 ⟨v4, rfl, ho4, hb4⟩
  have HS4 := Lib.hid (HS3.out.call hb4)
  have HO4 := Lib.hid (own_down ho4 (Nat.le_refl _))
  have HQ4 := Lib.hid (own_past HO3.out hb4)
  have hlo4 := hb4.size
  have hlo3 := HS3.out.lo
  clear ho4 hb4
  go_wp2_with (at_builtin; refine list_app1 rfl _ _ 22 rfl Try.underlying22 hi hz0 hz1 hz2 rfl ((HO4.out).alloc _) rfl (new_cell w4 (.int .i64 1) 3) ?cc ?cd ?_)
  case cc => omega
  case cd => (show Y3.heap.size ≤ _; first | omega | (simp; omega))
  intro v5 w5 hm5 hg5 ha5
  have hbq : Below Y3.heap.size w4 w5 := ((Below.refl _ w4).alloc hlo4 (.cells #[.int .i64 1] 3)).grown hg5 (by simp; omega) (fun j e => (HO4.out.lt j e).1)
  have HS5 := Lib.hid (HS4.out.past (hbq.mono hlo3))
  rw [← ivs_snoc] at hm5
  obtain ⟨A5, n5, rfl, hr5, hq5, _⟩ := Law.own_len hm5
  have HO5 := Lib.hid (own_down hm5 hlo3)
  have HQ5 := Lib.hid ((HQ4.out.alloc (.cells #[.int .i64 1] 3)).kept hg5 (by
    cases hv : (Value.slice A2 (c.ps.length + 1) n2).ownBlock with
    | none => exact .inl rfl
    | some g => exact .inr fun e => by have h1 := (HO4.out.lt g e.symm).1; have h2 := (HO3.out.lt g hv).2; omega))
  clear hm5 hg5 ha5 hlo4 hlo3 hbq
  obtain ⟨⟨c0, c1, c2, c3, c4, f0, f1, f2, f3, f4⟩, ⟨z0, z1, z2, z3, z4, y0, y1, y2, y3, y4, k0, k1, k2, k3, k4⟩, ⟨d0, d1, d2, d3, d4, e0, e1, e2, e3, e4⟩, hlo, hbl⟩ := HS5.out
  go_wp2
  have HS6 := Lib.hid (HS5.out.put3 (.slice A5 (c.ms.length + 1) n5))
  have HO6 := Lib.hid (own_lo HO5.out ⟨W.heap.size + 1 + 1, 3, none⟩ (by simp) (.slice A5 (c.ms.length + 1) n5))
  have HQ6 := Lib.hid (own_lo HQ5.out ⟨W.heap.size + 1 + 1, 3, none⟩ (by simp) (.slice A5 (c.ms.length + 1) n5))
  have HR := Lib.hid (row_own (own5 HO6.out (b := W.heap.size + 1) (by omega) (.int .i64 6) (.int .i64 c.s) (.slice A2 (c.ps.length + 1) n2) (.slice A5 (c.ms.length + 1) n5) (.int .i64 c.h)))
  have HQ := Lib.hid (row_own (own5 HQ6.out (b := W.heap.size + 1) (by omega) (.int .i64 6) (.int .i64 c.s) (.slice A2 (c.ps.length + 1) n2) (.slice A5 (c.ms.length + 1) n5) (.int .i64 c.h)))
  have HF := Lib.hid (below5 HS6.out.bl (b := W.heap.size + 1) (by omega) (.int .i64 6) (.int .i64 c.s) (.slice A2 (c.ps.length + 1) n2) (.slice A5 (c.ms.length + 1) n5) (.int .i64 c.h))
  obtain ⟨_, _, _, _, _, hb1⟩ := HS6.out.b1
  refine ret_ca1 rfl rfl rfl (hb1.all _ _ _ _ _) ⟨A2, n2, A5, n5, by unfold caV; rw [HP.out]; simp, ⟨⟨by simp; exact hr2, hq2, HQ.out⟩, by simp; exact hr5, hq5, HR.out⟩, HF.out, fresh_of HQ6.out (by omega), fresh_of HO6.out (by omega)⟩
set_option maxRecDepth 20000 in
set_option maxHeartbeats 1600000 in
theorem clock_full (h : CaIn W A d B e c) (hp : c.p = 6) {S hd : Nat} (hs : c.s = (S : Int)) (hh : c.h = (hd : Int)) (hm : c.ms.length = S) (hn : c.ps.length = S) (hlt : hd < S) (hS : S ≤ 999) (h01 : ∀ z ∈ c.ms, 0 ≤ z ∧ z ≤ 1) (x : Int) : Calls Try.prog 135 #[caV c A d B e, .int .i64 x] W (caSays c { c with ps := c.ps.set (Q.pass c.ms hd).1 x, ms := (Q.pass c.ms hd).2.set (Q.pass c.ms hd).1 1, h := (((Q.pass c.ms hd).1 + 1) % S : Nat) } A B W) := by
  have hT := Lib.hid fun X (r : Below W.heap.size W X) => l4Turn_any (h.stays r) hp hs hh hm hlt (by omega) h01
  have hpl := Q.pass_lt (ms := c.ms) (h := hd) (by omega)
  have hpn := Q.pass_len c.ms hd
  rw [hm] at hpl hpn
  have HI := Lib.hid h
  have HE := Lib.hid (show caV c A d B e = .agg #[.int .i64 6, .int .i64 (S : Int), .slice A S d, .slice B S e, .int .i64 (hd : Int)] by unfold caV; rw [hp, hs, hh, hm, hn])
  have HP := Lib.hid (And.intro hp (And.intro hs hn))
  rw [HE.out] at hT ⊢
  generalize Q.pass c.ms hd = q at hT hpl hpn ⊢
  obtain ⟨q1, q2⟩ := q
  simp only [] at hpl hpn ⊢
  have HQL := Lib.hid hpn
  have HNL := Lib.hid hn
  have hS0 : ¬ (S : Int) = 0 := by omega
  have hrem : ((q1 : Int) + 1).tmod (S : Int) = (((q1 + 1) % S : Nat) : Int) := by rw [Int.tmod_eq_emod_of_nonneg (by omega)]; simp
  have hml : (q1 + 1) % S < S := Nat.mod_lt _ (by omega)
  have hw1 : IntKind.i64.wrap ((q1 : Int) + 1) = (q1 : Int) + 1 := by rw [IntKind.wrap_i64]; omega
  have hw2 : IntKind.i64.wrap (((q1 + 1) % S : Nat) : Int) = (((q1 + 1) % S : Nat) : Int) := by rw [IntKind.wrap_i64]; omega
  obtain ⟨f', hf'⟩ : ∃ f', f' = (q1 + 1) % S := ⟨_, rfl⟩
  rw [← hf'] at hrem hw2 hml ⊢
  clear h hp hs hh hm hn h01 hpn hf'
  go_enter Try.func135, Try.ntmps135
  go_wp2_with fail
  have HS0 := Lib.hid (st_new (al3 W (.cells #[.int .i64 6, .int .i64 (S : Int), .slice A S d, .slice B S e, .int .i64 (hd : Int)] 26) (.cells #[.int .i64 0, .int .i64 0, .slice none 0 0, .slice none 0 0, .int .i64 0] 26) (.cells #[.int .i64 6, .int .i64 (S : Int), .slice A S d, .slice B S e, .int .i64 (hd : Int)] 26)))
  generalize ((W.alloc (.cells #[.int .i64 6, .int .i64 (S : Int), .slice A S d, .slice B S e, .int .i64 (hd : Int)] 26)).alloc (.cells #[.int .i64 0, .int .i64 0, .slice none 0 0, .slice none 0 0, .int .i64 0] 26)).alloc (.cells #[.int .i64 6, .int .i64 (S : Int), .slice A S d, .slice B S e, .int .i64 (hd : Int)] 26) = X at HS0 ⊢
  refine (hT.out X HS0.out.bl).mono ?_
  rintro r w1 ⟨g, e', rfl, ho1, hb1⟩
  have HS1 := Lib.hid (HS0.out.call hb1)
  have HO1 := Lib.hid (own_down ho1 HS0.out.lo)
  have hgX := (ho1.lt g rfl).1
  have hloX := HS0.out.lo
  unfold caV
  simp only [HP.out.1, HP.out.2.1, HP.out.2.2, HQL.out]
  have hO1 := HO1.out
  rw [HQL.out] at hO1
  have HO1 := Lib.hid hO1
  clear ho1 hb1 hO1
  obtain ⟨⟨c0, c1, c2, c3, c4, f0, f1, f2, f3, f4⟩, ⟨z0, z1, z2, z3, z4, y0, y1, y2, y3, y4, k0, k1, k2, k3, k4⟩, ⟨d0, d1, d2, d3, d4, e0, e1, e2, e3, e4⟩, hlo, hbl⟩ := HS1.out
  go_wp2_with fail
  clear c0 c1 c2 c3 c4 f0 f1 f2 f3 f4 y0 y1 y2 y3 y4 k0 k1 k2 k3 k4 d0 d1 d2 d3 d4 e0 e1 e2 e3 e4 hlo hbl
  have hS2 := HS1.out.all (.int .i64 6) (.int .i64 (S : Int)) (.slice A S d) (.slice (some ⟨g, 0, none⟩) S e') (.int .i64 (q1 : Int))
  have hO2 := own5 HO1.out (b := W.heap.size + 1 + 1) (by omega) (.int .i64 6) (.int .i64 (S : Int)) (.slice A S d) (.slice (some ⟨g, 0, none⟩) S e') (.int .i64 (q1 : Int))
  unfold World.set5 at hS2 hO2
  have HS2 := Lib.hid hS2
  have HO2 := Lib.hid hO2
  clear hS2 hO2
  generalize ((((w1.setCell ⟨W.heap.size + 1 + 1, 0, none⟩ (.int .i64 6)).setCell ⟨W.heap.size + 1 + 1, 1, none⟩ (.int .i64 (S : Int))).setCell ⟨W.heap.size + 1 + 1, 2, none⟩ (.slice A S d)).setCell ⟨W.heap.size + 1 + 1, 3, none⟩ (.slice (some ⟨g, 0, none⟩) S e')).setCell ⟨W.heap.size + 1 + 1, 4, none⟩ (.int .i64 (q1 : Int)) = Y2 at HS2 HO2 ⊢
  have hWi := fun X (r : Law.Row X A (ivs c.ps)) => l4With_any A d c.ps q1 x X (by rw [HNL.out]; omega) (by rw [HNL.out]; omega) r
  rw [HNL.out] at hWi
  have HWi := Lib.hid hWi
  clear hWi
  refine (HWi.out _ (HI.out.1.2.2.stays HS2.out.bl)).mono ?_
  rintro r w3 ⟨v3, rfl, ho3, hb3⟩
  have ho3' := ho3
  rw [List.length_set, HNL.out] at ho3'
  obtain ⟨A3, n3, rfl, hr3, hq3, _⟩ := Law.own_len ho3'
  have HS3 := Lib.hid (HS2.out.call hb3)
  have HQ3 := Lib.hid (own_down ho3' (Nat.le_refl _))
  have HO3 := Lib.hid (own_past HO2.out hb3)
  have hg2 := (HO2.out.lt g rfl).2
  have hlo2 := HS2.out.lo
  clear ho3 ho3' hb3
  obtain ⟨⟨c0, c1, c2, c3, c4, f0, f1, f2, f3, f4⟩, ⟨z0, z1, z2, z3, z4, y0, y1, y2, y3, y4, k0, k1, k2, k3, k4⟩, ⟨d0, d1, d2, d3, d4, e0, e1, e2, e3, e4⟩, hlo, hbl⟩ := HS3.out
  obtain ⟨z, hz⟩ : ∃ z, q2[q1]? = some z := ⟨_, List.getElem?_eq_getElem (by rw [HQL.out]; omega)⟩
  have hcx := own_cell HO3.out hz
  have hfx := HO3.out.frozenAt q1
  have hqI : (q1 : Int) < (S : Int) := by omega
  clear hz
  have HS4 := Lib.hid (HS3.out.put2 (.slice A3 S n3))
  have HS5 := Lib.hid (HS4.out.putFar ⟨g, q1, none⟩ (by simp; omega) (.int .i64 1))
  have HS6 := Lib.hid (HS5.out.put4 (.int .i64 (f' : Int)))
  have HO6 := Lib.hid (own_lo (own_put (own_lo HO3.out ⟨W.heap.size + 1 + 1, 2, none⟩ (by simp) (.slice A3 S n3)) q1 1) ⟨W.heap.size + 1 + 1, 4, none⟩ (by simp) (.int .i64 (f' : Int)))
  have hQ4 := own_lo HQ3.out ⟨W.heap.size + 1 + 1, 2, none⟩ (by simp; omega) (.slice A3 S n3)
  have hQ5 := own_lo hQ4 ⟨g, q1, none⟩ (by simp; omega) (.int .i64 1)
  have HQ6 := Lib.hid (own_lo hQ5 ⟨W.heap.size + 1 + 1, 4, none⟩ (by simp; omega) (.int .i64 (f' : Int)))
  clear hQ4 hQ5
  have hgne : g ≠ W.heap.size + 1 + 1 := by omega
  go_wp2
  have HR := Lib.hid (row_own (own5 HO6.out (b := W.heap.size + 1) (by omega) (.int .i64 6) (.int .i64 (S : Int)) (.slice A3 S n3) (.slice (some ⟨g, 0, none⟩) S e') (.int .i64 (f' : Int))))
  have HQ := Lib.hid (row_own (own5 HQ6.out (b := W.heap.size + 1) (by omega) (.int .i64 6) (.int .i64 (S : Int)) (.slice A3 S n3) (.slice (some ⟨g, 0, none⟩) S e') (.int .i64 (f' : Int))))
  have HF := Lib.hid (below5 HS6.out.bl (b := W.heap.size + 1) (by omega) (.int .i64 6) (.int .i64 (S : Int)) (.slice A3 S n3) (.slice (some ⟨g, 0, none⟩) S e') (.int .i64 (f' : Int)))
  obtain ⟨_, _, _, _, _, hb1⟩ := HS6.out.b1
  obtain ⟨A9, e9, hv9, hcap, hcm, _⟩ := Law.own_len HO6.out
  cases hv9
  refine ret_ca1 rfl rfl rfl (hb1.all _ _ _ _ _) ⟨A3, n3, some ⟨g, 0, none⟩, e', ?_, ⟨⟨?_, hq3, HQ.out⟩, ?_, ?_, HR.out⟩, HF.out, fresh_of HQ6.out (by omega), fresh_of HO6.out (by omega)⟩
  · unfold caV
    simp only [HP.out.1, HP.out.2.1, List.length_set, HNL.out, HQL.out]
  · rw [List.length_set, HNL.out]; exact hr3
  · rw [List.length_set, HQL.out]; exact hcap
  · exact hcm
set_option maxRecDepth 20000 in
set_option maxHeartbeats 1600000 in
theorem fault6 (h : CaIn W A d B e c) (hp : c.p = 6) {c' : Ca} {x : Int} (hC : ∀ X, Below W.heap.size W X → Calls Try.prog 135 #[caV c A d B e, .int .i64 x] X (caSays c c' A B X)) : Calls Try.prog 103 #[caV c A d B e, .int .i64 x] W (caSays c c' A B W) := by
  have HI0 := Lib.hid h
  have HE := Lib.hid (show caV c A d B e = .agg #[.int .i64 6, .int .i64 c.s, .slice A c.ps.length d, .slice B c.ms.length e, .int .i64 c.h] by first | rfl | (rw [← hp]; rfl))
  rw [HE.out] at hC ⊢
  have HC := Lib.hid hC
  clear h hp hC
  go_enter Try.func103, Try.ntmps103
  go_wp2_with fail
  have s1 : (W.alloc (.cells #[.int .i64 6, .int .i64 c.s, .slice A c.ps.length d, .slice B c.ms.length e, .int .i64 c.h] 26)).heap.size = W.heap.size + 1 := by simp
  have HX : Hid (∀ X, X = (W.alloc (.cells #[.int .i64 6, .int .i64 c.s, .slice A c.ps.length d, .slice B c.ms.length e, .int .i64 c.h] 26)).alloc (.cells #[.int .i64 0, .int .i64 0, .slice none 0 0, .slice none 0 0, .int .i64 0] 26) → Below W.heap.size W X ∧ X.heap.size = W.heap.size + 1 + 1 ∧ X.heap[W.heap.size + 1]? = some (.cells #[.int .i64 0, .int .i64 0, .slice none 0 0, .slice none 0 0, .int .i64 0] 26)) := fun X hX => by
    subst hX
    exact ⟨((Below.refl _ _).alloc (Nat.le_refl _) _).alloc (by simp) _, by simp, by rw [← s1]; exact heap_alloc_new _ _⟩
  have HX1 := Lib.hid (HX.out _ rfl)
  generalize (W.alloc (.cells #[.int .i64 6, .int .i64 c.s, .slice A c.ps.length d, .slice B c.ms.length e, .int .i64 c.h] 26)).alloc (.cells #[.int .i64 0, .int .i64 0, .slice none 0 0, .slice none 0 0, .int .i64 0] 26) = X at HX1 ⊢
  clear HX s1
  refine (HC.out X HX1.out.1).mono ?_
  rintro r w1 ⟨A1, d1, B1, e1, rfl, hI, hb, hf1, hf2⟩
  have hsX := HX1.out.2.1
  have HB := Lib.hid (blk5_of (w := w1) (b := W.heap.size + 1) ((hb.block (W.heap.size + 1) (by omega)).trans HX1.out.2.2))
  have HI := Lib.hid (And.intro hI (And.intro hf1 hf2))
  have HL := Lib.hid (HX1.out.1.trans (hb.mono (by omega)))
  clear hI hf1 hf2 hb
  obtain ⟨d0, d1', d2, d3, d4, g0, g1, g2, g3, g4⟩ := HB.out
  unfold caV
  go_wp2
  have HF := Lib.hid (below5 HL.out (b := W.heap.size + 1) (by omega) (.int .i64 c'.p) (.int .i64 c'.s) (.slice A1 c'.ps.length d1) (.slice B1 c'.ms.length e1) (.int .i64 c'.h))
  refine ret_ca1 rfl rfl rfl (HB.out.all _ _ _ _ _) ⟨A1, d1, B1, e1, rfl, ⟨⟨HI.out.1.1.1, HI.out.1.1.2.1, ?_⟩, HI.out.1.2.1, HI.out.1.2.2.1, ?_⟩, HF.out, HI.out.2.1.mono (by omega), HI.out.2.2.mono (by omega)⟩
  · have k := fun w (h : Law.Row w A1 (ivs c'.ps)) i u => row_off h HI.out.2.1 HI0.out.1.2.2 (b := W.heap.size + 1) (by omega) (by omega) ⟨W.heap.size + 1, i, none⟩ rfl u
    exact k _ (k _ (k _ (k _ (k _ HI.out.1.1.2.2 0 _) 1 _) 2 _) 3 _) 4 _
  · have k := fun w (h : Law.Row w B1 (ivs c'.ms)) i u => row_off h HI.out.2.2 HI0.out.2.2.2 (b := W.heap.size + 1) (by omega) (by omega) ⟨W.heap.size + 1, i, none⟩ rfl u
    exact k _ (k _ (k _ (k _ (k _ HI.out.1.2.2.2 0 _) 1 _) 2 _) 3 _) 4 _
end
end Go.Proofs.Ytdjafooabpcbmaa

/- The model's l4Step: one request of a valid cache. -/
namespace Go.Proofs.Ytdjafooabpcbmaa
open Go.RowKit
set_option linter.unusedVariables false
section
variable {W : World} {A B : Option Addr} {d e : Nat} {c : Ca}
set_option maxRecDepth 20000 in
set_option maxHeartbeats 400000 in
theorem l4Hit_3 (h : CaIn W A d B e c) (hp : c.p = 3) (k : Nat) : Calls Try.prog 102 #[caV c A d B e, .int .i64 (k : Int)] W (caSays c c A B W) := by
  have HI := Lib.hid h
  have HE := Lib.hid (show caV c A d B e = .agg #[.int .i64 3, .int .i64 c.s, .slice A c.ps.length d, .slice B c.ms.length e, .int .i64 c.h] by rw [← hp]; rfl)
  rw [HE.out]
  clear h hp
  go_enter Try.func102, Try.ntmps102
  go_wp2
  have F3 := Lib.hid (al3 W (.cells #[.int .i64 3, .int .i64 c.s, .slice A c.ps.length d, .slice B c.ms.length e, .int .i64 c.h] 26) (.cells #[.int .i64 3, .int .i64 c.s, .slice A c.ps.length d, .slice B c.ms.length e, .int .i64 c.h] 26) (.cells #[.int .i64 3, .int .i64 c.s, .slice A c.ps.length d, .slice B c.ms.length e, .int .i64 c.h] 26))
  generalize ((W.alloc (.cells #[.int .i64 3, .int .i64 c.s, .slice A c.ps.length d, .slice B c.ms.length e, .int .i64 c.h] 26)).alloc (.cells #[.int .i64 3, .int .i64 c.s, .slice A c.ps.length d, .slice B c.ms.length e, .int .i64 c.h] 26)).alloc (.cells #[.int .i64 3, .int .i64 c.s, .slice A c.ps.length d, .slice B c.ms.length e, .int .i64 c.h] 26) = X at F3 ⊢
  exact ret_ca1 rfl rfl rfl (blk5_of F3.out.2.1) ⟨A, d, B, e, by rw [HE.out], HI.out.stays F3.out.2.2.2.2, F3.out.2.2.2.2, .inl ⟨rfl, rfl⟩, .inl ⟨rfl, rfl⟩⟩
set_option maxRecDepth 20000 in
set_option maxHeartbeats 400000 in
theorem l4Hit_4 (h : CaIn W A d B e c) (hp : c.p = 4) (k : Nat) : Calls Try.prog 102 #[caV c A d B e, .int .i64 (k : Int)] W (caSays c c A B W) := by
  have HI := Lib.hid h
  have HE := Lib.hid (show caV c A d B e = .agg #[.int .i64 4, .int .i64 c.s, .slice A c.ps.length d, .slice B c.ms.length e, .int .i64 c.h] by rw [← hp]; rfl)
  rw [HE.out]
  clear h hp
  go_enter Try.func102, Try.ntmps102
  go_wp2
  have F3 := Lib.hid (al3 W (.cells #[.int .i64 4, .int .i64 c.s, .slice A c.ps.length d, .slice B c.ms.length e, .int .i64 c.h] 26) (.cells #[.int .i64 4, .int .i64 c.s, .slice A c.ps.length d, .slice B c.ms.length e, .int .i64 c.h] 26) (.cells #[.int .i64 4, .int .i64 c.s, .slice A c.ps.length d, .slice B c.ms.length e, .int .i64 c.h] 26))
  generalize ((W.alloc (.cells #[.int .i64 4, .int .i64 c.s, .slice A c.ps.length d, .slice B c.ms.length e, .int .i64 c.h] 26)).alloc (.cells #[.int .i64 4, .int .i64 c.s, .slice A c.ps.length d, .slice B c.ms.length e, .int .i64 c.h] 26)).alloc (.cells #[.int .i64 4, .int .i64 c.s, .slice A c.ps.length d, .slice B c.ms.length e, .int .i64 c.h] 26) = X at F3 ⊢
  exact ret_ca1 rfl rfl rfl (blk5_of F3.out.2.1) ⟨A, d, B, e, by rw [HE.out], HI.out.stays F3.out.2.2.2.2, F3.out.2.2.2.2, .inl ⟨rfl, rfl⟩, .inl ⟨rfl, rfl⟩⟩
theorem l4Hit_any {n : Int} (h : CaIn W A d B e c) (hok : Q.okC n c) {k : Nat} (hk : k < c.ps.length) : Calls Try.prog 102 #[caV c A d B e, .int .i64 (k : Int)] W (caSays c (Q.hitC c k) A B W) := by
  obtain ⟨h1, h2, h3, h4, h5, h6, h7, h8⟩ := hok
  have hpp : c.p = 1 ∨ c.p = 2 ∨ c.p = 3 ∨ c.p = 4 ∨ c.p = 5 ∨ c.p = 6 ∨ c.p = 7 := by omega
  rcases hpp with hp | hp | hp | hp | hp | hp | hp
  · rw [show Q.hitC c k = { c with ps := c.ps.getD k 0 :: c.ps.eraseIdx k } by simp [Q.hitC, hp]]
    exact l4Hit_1 h hp hk (by omega)
  · rw [show Q.hitC c k = c by simp [Q.hitC, hp]]
    exact l4Hit_2 h hp k
  · rw [show Q.hitC c k = c by simp [Q.hitC, hp]]
    exact l4Hit_3 h hp k
  · rw [show Q.hitC c k = c by simp [Q.hitC, hp]]
    exact l4Hit_4 h hp k
  · rw [show Q.hitC c k = { c with ms := c.ms.set k (min (c.ms.getD k 0 + 1) 60) } by simp [Q.hitC, hp]]
    rw [if_pos hp] at h7
    exact l4Hit_5 h hp (by omega) (by omega) h7.2
  · rw [show Q.hitC c k = { c with ms := c.ms.set k 1 } by simp [Q.hitC, hp]]
    rw [if_neg (by omega), if_pos hp] at h7
    exact l4Hit_6 h hp (by omega) (by omega)
  · rw [show Q.hitC c k = { c with ps := c.ps.getD k 0 :: c.ps.eraseIdx k } by simp [Q.hitC, hp]]
    exact l4Hit_7 h hp hk (by omega)
theorem l4Fault_any {n x : Int} (h : CaIn W A d B e c) (hok : Q.okC n c) : Calls Try.prog 103 #[caV c A d B e, .int .i64 x] W (caSays c (Q.faultC c x) A B W) := by
  have hv : (c.ps.length : Int) = c.s → ∀ X, CaIn X A d B e c → Calls Try.prog 115 #[caV c A d B e] X (vicSays (Q.vicC c) X) := fun hf X hX => l4Victim_any hX hok hf
  have hok' := hok
  obtain ⟨h1, h2, h3, h4, h5, h6, h7, h8⟩ := hok
  have hpp : c.p = 1 ∨ c.p = 2 ∨ c.p = 3 ∨ c.p = 4 ∨ c.p = 5 ∨ c.p = 6 ∨ c.p = 7 := by omega
  by_cases hf : (c.ps.length : Int) < c.s
  · rcases hpp with hp | hp | hp | hp | hp | hp | hp
    · rw [show Q.faultC c x = { c with ps := x :: c.ps } by simp [Q.faultC, hp, hf]]
      exact fault_room h (by omega) (by omega) (by omega) (by omega) x
    · rw [show Q.faultC c x = { c with ps := x :: c.ps } by simp [Q.faultC, hp, hf]]
      exact fault_room h (by omega) (by omega) (by omega) (by omega) x
    · rw [show Q.faultC c x = { c with ps := x :: c.ps } by simp [Q.faultC, hp, hf]]
      exact fault_room h (by omega) (by omega) (by omega) (by omega) x
    · rw [show Q.faultC c x = { c with ps := x :: c.ps } by simp [Q.faultC, hp, hf]]
      exact fault_room h (by omega) (by omega) (by omega) (by omega) x
    · rw [show Q.faultC c x = { c with ps := x :: c.ps, ms := 1 :: c.ms } by simp [Q.faultC, hp, hf]]
      rw [if_pos hp] at h7
      exact fault5_room h hp (by omega) (by omega) (by omega) x
    · rw [show Q.faultC c x = { c with ps := c.ps ++ [x], ms := c.ms ++ [1] } by simp [Q.faultC, hp, hf]]
      rw [if_neg (by omega), if_pos hp] at h7
      exact fault6 h hp fun X hb => clock_room (h.stays hb) hp hf (by omega) (by omega) x
    · rw [show Q.faultC c x = { c with ps := x :: c.ps } by simp [Q.faultC, hp, hf]]
      exact fault_room h (by omega) (by omega) (by omega) (by omega) x
  · have hf2 : (c.ps.length : Int) = c.s := by omega
    have hV := hv hf2
    rcases hpp with hp | hp | hp | hp | hp | hp | hp
    · rw [show Q.vicC c = c.ps.length - 1 by simp [Q.vicC, hp]] at hV
      rw [show Q.faultC c x = { c with ps := x :: c.ps.eraseIdx (c.ps.length - 1) } by simp [Q.faultC, Q.roomC, hp, hf]]
      exact fault_full h (by omega) (by omega) (by omega) hf2 (by omega) (by omega) (by omega) hV x
    · rw [show Q.vicC c = c.ps.length - 1 by simp [Q.vicC, hp]] at hV
      rw [show Q.faultC c x = { c with ps := x :: c.ps.eraseIdx (c.ps.length - 1) } by simp [Q.faultC, Q.roomC, hp, hf]]
      exact fault_full h (by omega) (by omega) (by omega) hf2 (by omega) (by omega) (by omega) hV x
    · rw [show Q.vicC c = 0 by simp [Q.vicC, hp]] at hV
      rw [show Q.faultC c x = { c with ps := x :: c.ps.eraseIdx 0 } by simp [Q.faultC, Q.roomC, hp, hf]]
      exact fault_full h (by omega) (by omega) (by omega) hf2 (by omega) (by omega) (by omega) hV x
    · rw [show Q.faultC c x = { c with ps := [x] } by simp [Q.faultC, Q.roomC, hp, hf]]
      exact fault_flush h hp hf2 hV x
    · rw [if_pos hp] at h7
      rw [show Q.vicC c = Q.rare c.ms by simp [Q.vicC, hp]] at hV
      rw [show Q.faultC c x = { c with ps := x :: c.ps.eraseIdx (Q.rare c.ms), ms := 1 :: c.ms.eraseIdx (Q.rare c.ms) } by simp [Q.faultC, Q.roomC, hp, hf]]
      exact fault5_full h hp hf2 (by omega) (by omega) h7.1 (by have := Q.rare_lt (ms := c.ms) (by omega); omega) hV x
    · rw [if_neg (by omega), if_pos hp] at h7
      rw [if_pos ⟨hp, hf2⟩] at h8
      obtain ⟨hd, hh⟩ := Int.eq_ofNat_of_zero_le h8.1
      obtain ⟨S, hs⟩ := Int.eq_ofNat_of_zero_le (show 0 ≤ c.s by omega)
      have e : Q.faultC c x = { c with ps := c.ps.set (Q.pass c.ms hd).1 x, ms := (Q.pass c.ms hd).2.set (Q.pass c.ms hd).1 1, h := (((Q.pass c.ms hd).1 + 1) % S : Nat) } := by
        unfold Q.faultC
        rw [if_pos hp, if_neg hf, hh, hs]
        rfl
      rw [e]
      exact fault6 h hp fun X hb => clock_full (h.stays hb) hp hs hh (by omega) (by omega) (by omega) (by omega) h7.2 x
    · rw [show Q.vicC c = 0 by simp [Q.vicC, hp]] at hV
      rw [show Q.faultC c x = { c with ps := x :: c.ps.eraseIdx 0 } by simp [Q.faultC, Q.roomC, hp, hf]]
      exact fault_full h (by omega) (by omega) (by omega) hf2 (by omega) (by omega) (by omega) hV x
set_option maxRecDepth 20000 in
set_option maxHeartbeats 1600000 in
theorem step_hit (h : CaIn W A d B e c) {c' : Ca} {x : Int} (hx : x ∈ c.ps) (hn : c.ps.length ≤ 1000) (hC : ∀ X, Below W.heap.size W X → Calls Try.prog 102 #[caV c A d B e, .int .i64 ((Q.pos x c.ps : Nat) : Int)] X (caSays c c' A B X)) : Calls Try.prog 62 #[caV c A d B e, .int .i64 x] W (caSays c c' A B W) := by
  have HI0 := Lib.hid h
  have hA := fun X (hb : Below W.heap.size W X) => l4At_any A d c.ps x X (by omega) (h.1.2.2.stays hb)
  rw [if_pos hx] at hA
  have HA := Lib.hid hA
  have HC := Lib.hid hC
  unfold caV at HC ⊢
  generalize Q.pos x c.ps = k at HA HC
  clear h hC hA hx hn
  go_enter Try.func62, Try.ntmps62
  go_wp2_with fail
  have s1 : (W.alloc (.cells #[.int .i64 c.p, .int .i64 c.s, .slice A c.ps.length d, .slice B c.ms.length e, .int .i64 c.h] 26)).heap.size = W.heap.size + 1 := by simp
  have HX : Hid (∀ X, X = (W.alloc (.cells #[.int .i64 c.p, .int .i64 c.s, .slice A c.ps.length d, .slice B c.ms.length e, .int .i64 c.h] 26)).alloc (.cells #[.int .i64 0, .int .i64 0, .slice none 0 0, .slice none 0 0, .int .i64 0] 26) → Below W.heap.size W X ∧ X.heap.size = W.heap.size + 1 + 1 ∧ X.heap[W.heap.size]? = some (.cells #[.int .i64 c.p, .int .i64 c.s, .slice A c.ps.length d, .slice B c.ms.length e, .int .i64 c.h] 26) ∧ X.heap[W.heap.size + 1]? = some (.cells #[.int .i64 0, .int .i64 0, .slice none 0 0, .slice none 0 0, .int .i64 0] 26)) := fun X hX => by
    subst hX
    have a1 : Below (W.alloc (.cells #[.int .i64 c.p, .int .i64 c.s, .slice A c.ps.length d, .slice B c.ms.length e, .int .i64 c.h] 26)).heap.size (W.alloc (.cells #[.int .i64 c.p, .int .i64 c.s, .slice A c.ps.length d, .slice B c.ms.length e, .int .i64 c.h] 26)) ((W.alloc (.cells #[.int .i64 c.p, .int .i64 c.s, .slice A c.ps.length d, .slice B c.ms.length e, .int .i64 c.h] 26)).alloc (.cells #[.int .i64 0, .int .i64 0, .slice none 0 0, .slice none 0 0, .int .i64 0] 26)) := (Below.refl _ _).alloc (Nat.le_refl _) _
    exact ⟨((Below.refl _ _).alloc (Nat.le_refl _) _).alloc (by simp) _, by simp, (a1.block _ (by omega)).trans (heap_alloc_new W _), by rw [← s1]; exact heap_alloc_new _ _⟩
  have HX1 := Lib.hid (HX.out _ rfl)
  generalize (W.alloc (.cells #[.int .i64 c.p, .int .i64 c.s, .slice A c.ps.length d, .slice B c.ms.length e, .int .i64 c.h] 26)).alloc (.cells #[.int .i64 0, .int .i64 0, .slice none 0 0, .slice none 0 0, .int .i64 0] 26) = X at HX1 ⊢
  clear HX s1
  go_at_call 101
  refine (HA.out X HX1.out.1).mono ?_
  rintro r w' ⟨rfl, hw'⟩
  obtain rfl := hw'.symm
  clear hw'
  obtain ⟨p0, p1, p2, p3, p4, _, _, _, _, _⟩ := blk5_of HX1.out.2.2.1
  go_wp2_with fail
  go_at_call 102
  clear p0 p1 p2 p3 p4
  refine (HC.out X HX1.out.1).mono ?_
  rintro r w1 ⟨A1, d1, B1, e1, rfl, hI, hb, hf1, hf2⟩
  have hsX := HX1.out.2.1
  have HB := Lib.hid (blk5_of (w := w1) (b := W.heap.size + 1) ((hb.block (W.heap.size + 1) (by omega)).trans HX1.out.2.2.2))
  have HI := Lib.hid (And.intro hI (And.intro hf1 hf2))
  have HL := Lib.hid (HX1.out.1.trans (hb.mono (by omega)))
  clear hI hf1 hf2 hb
  obtain ⟨d0, d1', d2, d3, d4, g0, g1, g2, g3, g4⟩ := HB.out
  unfold caV
  go_wp2
  have HF := Lib.hid (below5 HL.out (b := W.heap.size + 1) (by omega) (.int .i64 c'.p) (.int .i64 c'.s) (.slice A1 c'.ps.length d1) (.slice B1 c'.ms.length e1) (.int .i64 c'.h))
  refine ret_ca1 rfl rfl rfl (HB.out.all _ _ _ _ _) ⟨A1, d1, B1, e1, rfl, ⟨⟨HI.out.1.1.1, HI.out.1.1.2.1, ?_⟩, HI.out.1.2.1, HI.out.1.2.2.1, ?_⟩, HF.out, HI.out.2.1.mono (by omega), HI.out.2.2.mono (by omega)⟩
  · have k := fun w (h : Law.Row w A1 (ivs c'.ps)) i u => row_off h HI.out.2.1 HI0.out.1.2.2 (b := W.heap.size + 1) (by omega) (by omega) ⟨W.heap.size + 1, i, none⟩ rfl u
    exact k _ (k _ (k _ (k _ (k _ HI.out.1.1.2.2 0 _) 1 _) 2 _) 3 _) 4 _
  · have k := fun w (h : Law.Row w B1 (ivs c'.ms)) i u => row_off h HI.out.2.2 HI0.out.2.2.2 (b := W.heap.size + 1) (by omega) (by omega) ⟨W.heap.size + 1, i, none⟩ rfl u
    exact k _ (k _ (k _ (k _ (k _ HI.out.1.2.2.2 0 _) 1 _) 2 _) 3 _) 4 _
set_option maxRecDepth 20000 in
set_option maxHeartbeats 1600000 in
theorem step_no (h : CaIn W A d B e c) {c' : Ca} {x : Int} (hx : x ∉ c.ps) (hn : c.ps.length ≤ 1000) (hC : ∀ X, Below W.heap.size W X → Calls Try.prog 103 #[caV c A d B e, .int .i64 x] X (caSays c c' A B X)) : Calls Try.prog 62 #[caV c A d B e, .int .i64 x] W (caSays c c' A B W) := by
  have HI0 := Lib.hid h
  have hA := fun X (hb : Below W.heap.size W X) => l4At_any A d c.ps x X (by omega) (h.1.2.2.stays hb)
  rw [if_neg hx] at hA
  have HA := Lib.hid hA
  have HC := Lib.hid hC
  unfold caV at HC ⊢
  clear h hC hA hx hn
  go_enter Try.func62, Try.ntmps62
  go_wp2_with fail
  have s1 : (W.alloc (.cells #[.int .i64 c.p, .int .i64 c.s, .slice A c.ps.length d, .slice B c.ms.length e, .int .i64 c.h] 26)).heap.size = W.heap.size + 1 := by simp
  have HX : Hid (∀ X, X = (W.alloc (.cells #[.int .i64 c.p, .int .i64 c.s, .slice A c.ps.length d, .slice B c.ms.length e, .int .i64 c.h] 26)).alloc (.cells #[.int .i64 0, .int .i64 0, .slice none 0 0, .slice none 0 0, .int .i64 0] 26) → Below W.heap.size W X ∧ X.heap.size = W.heap.size + 1 + 1 ∧ X.heap[W.heap.size]? = some (.cells #[.int .i64 c.p, .int .i64 c.s, .slice A c.ps.length d, .slice B c.ms.length e, .int .i64 c.h] 26) ∧ X.heap[W.heap.size + 1]? = some (.cells #[.int .i64 0, .int .i64 0, .slice none 0 0, .slice none 0 0, .int .i64 0] 26)) := fun X hX => by
    subst hX
    have a1 : Below (W.alloc (.cells #[.int .i64 c.p, .int .i64 c.s, .slice A c.ps.length d, .slice B c.ms.length e, .int .i64 c.h] 26)).heap.size (W.alloc (.cells #[.int .i64 c.p, .int .i64 c.s, .slice A c.ps.length d, .slice B c.ms.length e, .int .i64 c.h] 26)) ((W.alloc (.cells #[.int .i64 c.p, .int .i64 c.s, .slice A c.ps.length d, .slice B c.ms.length e, .int .i64 c.h] 26)).alloc (.cells #[.int .i64 0, .int .i64 0, .slice none 0 0, .slice none 0 0, .int .i64 0] 26)) := (Below.refl _ _).alloc (Nat.le_refl _) _
    exact ⟨((Below.refl _ _).alloc (Nat.le_refl _) _).alloc (by simp) _, by simp, (a1.block _ (by omega)).trans (heap_alloc_new W _), by rw [← s1]; exact heap_alloc_new _ _⟩
  have HX1 := Lib.hid (HX.out _ rfl)
  generalize (W.alloc (.cells #[.int .i64 c.p, .int .i64 c.s, .slice A c.ps.length d, .slice B c.ms.length e, .int .i64 c.h] 26)).alloc (.cells #[.int .i64 0, .int .i64 0, .slice none 0 0, .slice none 0 0, .int .i64 0] 26) = X at HX1 ⊢
  clear HX s1
  go_at_call 101
  refine (HA.out X HX1.out.1).mono ?_
  rintro r w' ⟨rfl, hw'⟩
  obtain rfl := hw'.symm
  clear hw'
  obtain ⟨p0, p1, p2, p3, p4, _, _, _, _, _⟩ := blk5_of HX1.out.2.2.1
  go_wp2_with fail
  go_at_call 103
  clear p0 p1 p2 p3 p4
  refine (HC.out X HX1.out.1).mono ?_
  rintro r w1 ⟨A1, d1, B1, e1, rfl, hI, hb, hf1, hf2⟩
  have hsX := HX1.out.2.1
  have HB := Lib.hid (blk5_of (w := w1) (b := W.heap.size + 1) ((hb.block (W.heap.size + 1) (by omega)).trans HX1.out.2.2.2))
  have HI := Lib.hid (And.intro hI (And.intro hf1 hf2))
  have HL := Lib.hid (HX1.out.1.trans (hb.mono (by omega)))
  clear hI hf1 hf2 hb
  obtain ⟨d0, d1', d2, d3, d4, g0, g1, g2, g3, g4⟩ := HB.out
  unfold caV
  go_wp2
  have HF := Lib.hid (below5 HL.out (b := W.heap.size + 1) (by omega) (.int .i64 c'.p) (.int .i64 c'.s) (.slice A1 c'.ps.length d1) (.slice B1 c'.ms.length e1) (.int .i64 c'.h))
  refine ret_ca1 rfl rfl rfl (HB.out.all _ _ _ _ _) ⟨A1, d1, B1, e1, rfl, ⟨⟨HI.out.1.1.1, HI.out.1.1.2.1, ?_⟩, HI.out.1.2.1, HI.out.1.2.2.1, ?_⟩, HF.out, HI.out.2.1.mono (by omega), HI.out.2.2.mono (by omega)⟩
  · have k := fun w (h : Law.Row w A1 (ivs c'.ps)) i u => row_off h HI.out.2.1 HI0.out.1.2.2 (b := W.heap.size + 1) (by omega) (by omega) ⟨W.heap.size + 1, i, none⟩ rfl u
    exact k _ (k _ (k _ (k _ (k _ HI.out.1.1.2.2 0 _) 1 _) 2 _) 3 _) 4 _
  · have k := fun w (h : Law.Row w B1 (ivs c'.ms)) i u => row_off h HI.out.2.2 HI0.out.2.2.2 (b := W.heap.size + 1) (by omega) (by omega) ⟨W.heap.size + 1, i, none⟩ rfl u
    exact k _ (k _ (k _ (k _ (k _ HI.out.1.2.2.2 0 _) 1 _) 2 _) 3 _) 4 _
theorem l4Step_any {n x : Int} (h : CaIn W A d B e c) (hok : Q.okC n c) : Calls Try.prog 62 #[caV c A d B e, .int .i64 x] W (caSays c (Q.stepC c x) A B W) := by
  have hn : c.ps.length ≤ 1000 := by have := hok.2.2.1; have := hok.2.2.2.1; omega
  by_cases hx : x ∈ c.ps
  · rw [show Q.stepC c x = Q.hitC c (Q.pos x c.ps) from if_pos hx]
    exact step_hit h hx hn fun X hb => l4Hit_any (h.stays hb) hok (Q.pos_lt hx)
  · rw [show Q.stepC c x = Q.faultC c x from if_neg hx]
    exact step_no h hx hn fun X hb => l4Fault_any (h.stays hb) hok
end
end Go.Proofs.Ytdjafooabpcbmaa

/- The model's l4Places: the places of the faults of a sequence from a cache on. -/
namespace Go.Proofs.Ytdjafooabpcbmaa
open Go.RowKit
set_option linter.unusedVariables false
theorem CaIn.drew {W : World} {A B : Option Addr} {d e : Nat} {c : Ca} (h : CaIn W A d B e c) : CaIn W.drew A d B e c := h
/-- A row that is not empty does not lie in block g. -/
def Aw (g : Option Nat) (A : Option Addr) (zs : List Int) : Prop := zs ≠ [] → ∀ a, A = some a → g ≠ some a.block
theorem Aw.next {wr : World} {g : Option Nat} {A A1 : Option Addr} {zs zs' : List Int} (h : Aw g A zs) (hf : Fr wr A zs A1 zs') (hg : ∀ b, g = some b → b < wr.heap.size) : Aw g A1 zs' := by
  rcases hf with ⟨rfl, rfl⟩ | hf
  · exact h
  · intro _ a ha e
    have h1 := hf a ha
    have h2 := hg _ e
    omega
theorem row_ne {zs : List Int} (h : ivs zs ≠ []) : zs ≠ [] := fun e => h (by rw [e]; rfl)
/-- A store elsewhere. -/
theorem row_put {w : World} {A : Option Addr} {zs : List Int} (h : Law.Row w A (ivs zs)) {p : Addr} (ha : Aw (some p.block) A zs) (u : Value) : Law.Row (w.setCell p u) A (ivs zs) := fun hx => by
  obtain ⟨k, off, rfl, hk, hc⟩ := h hx
  have hne : k ≠ p.block := fun e => ha (row_ne hx) _ rfl (by rw [e])
  refine ⟨k, off, rfl, by simpa using hk, fun j u' hu => ?_⟩
  exact (World.cell?_of_block (a := ⟨k, off + j, none⟩) (Below.heap_setCell _ _ _ _ hne)).trans (hc j u' hu)
/-- Another row grows. -/
theorem row_grow {w w' : World} {A : Option Addr} {zs : List Int} {g : Option Nat} (h : Law.Row w A (ivs zs)) (hg : w.grownBy w' g) (ha : Aw g A zs) : Law.Row w' A (ivs zs) := fun hx => by
  obtain ⟨k, off, rfl, hk, hc⟩ := h hx
  refine ⟨k, off, rfl, Nat.lt_of_lt_of_le hk hg.size, fun j u' hu => ?_⟩
  exact (World.cell?_of_block (a := ⟨k, off + j, none⟩) (hg.block k hk (fun e => ha (row_ne hx) _ rfl e.symm))).trans (hc j u' hu)
/-- A cache in the block of a parameter, its rows anywhere, but not where the row v lies. -/
structure CbIn (b : Nat) (wr : World) (v : Value) (A : Option Addr) (d : Nat) (B : Option Addr) (e : Nat) (c : Ca) : Prop where
  blk : Blk5 wr b (.int .i64 c.p) (.int .i64 c.s) (.slice A c.ps.length d) (.slice B c.ms.length e) (.int .i64 c.h)
  rows : CaIn wr A d B e c
  a1 : Aw (some b) A c.ps
  a2 : Aw (some b) B c.ms
  v1 : Aw v.ownBlock A c.ps
  v2 : Aw v.ownBlock B c.ms
  lo : b < wr.heap.size
namespace CbIn
variable {b : Nat} {wr w1 : World} {v v' : Value} {A B A1 B1 : Option Addr} {d e d1 e1 : Nat} {c c' : Ca}
theorem drewN (h : CbIn b wr v A d B e c) (m : Nat) : CbIn b (wr.drewN m) v A d B e c := ⟨h.blk.kept rfl, h.rows, h.a1, h.a2, h.v1, h.v2, h.lo⟩
/-- The row v has grown. -/
theorem app (h : CbIn b wr v A d B e c) {n : Nat} {xs : List Value} (hv : wr.ownsRow (b + 1) 3 1 v n xs) (o : Obj) (hg : (wr.alloc o).grownBy w1 v.ownBlock) (hn : atOrNew v (wr.alloc o) v') : CbIn b w1 v' A d B e c := by
  have hb0 : Below wr.heap.size wr (wr.alloc o) := (Below.refl _ _).alloc (Nat.le_refl _) _
  have hI := h.rows.stays hb0
  have hlo := h.lo
  have hvb : ∀ g, v.ownBlock = some g → g ≠ b := fun g e => by have := (hv.lt g e).1; omega
  have hs0 : (wr.alloc o).heap.size = wr.heap.size + 1 := by simp
  have hlo1 : b < (wr.alloc o).heap.size := by omega
  have nx : ∀ {A : Option Addr} {zs : List Int}, Law.Row wr A (ivs zs) → Aw v.ownBlock A zs → Aw v'.ownBlock A zs := fun {A zs} hr ha hz a e => by
    rcases hn with h1 | h1
    · rw [h1]; exact ha hz a e
    · rw [h1]
      intro e'
      injection e' with e'
      obtain ⟨k, off, e2, hk, _⟩ := hr (fun h0 => hz (by simpa [ivs] using h0))
      rw [e] at e2
      injection e2 with e2
      rw [e2] at e'
      simp only [] at e'
      omega
  refine ⟨(h.blk.kept (hb0.block b hlo)).kept (hg.block b hlo1 (fun e => hvb b e.symm rfl)), ⟨⟨hI.1.1, hI.1.2.1, row_grow hI.1.2.2 hg h.v1⟩, hI.2.1, hI.2.2.1, row_grow hI.2.2.2 hg h.v2⟩, h.a1, h.a2, nx h.rows.1.2.2 h.v1, nx h.rows.2.2.2 h.v2, Nat.lt_of_lt_of_le hlo1 hg.size⟩
/-- The cache has been replaced by another one. -/
theorem step (h : CbIn b wr v A d B e c) (hv : ∀ g, v.ownBlock = some g → g < wr.heap.size) (hI : CaIn w1 A1 d1 B1 e1 c') (hb : Below wr.heap.size wr w1) (hf1 : Fr wr A c.ps A1 c'.ps) (hf2 : Fr wr B c.ms B1 c'.ms) :
    CbIn b (World.set5 w1 b (.int .i64 c'.p) (.int .i64 c'.s) (.slice A1 c'.ps.length d1) (.slice B1 c'.ms.length e1) (.int .i64 c'.h)) v A1 d1 B1 e1 c' := by
  have hlo := h.lo
  have q1 : Aw (some b) A1 c'.ps := h.a1.next hf1 (fun k e => by injection e with e; omega)
  have q2 : Aw (some b) B1 c'.ms := h.a2.next hf2 (fun k e => by injection e with e; omega)
  have k : ∀ {A : Option Addr} {zs : List Int}, Aw (some b) A zs → Law.Row w1 A (ivs zs) → Law.Row (World.set5 w1 b (.int .i64 c'.p) (.int .i64 c'.s) (.slice A1 c'.ps.length d1) (.slice B1 c'.ms.length e1) (.int .i64 c'.h)) A (ivs zs) := fun q r =>
    row_put (p := ⟨b, 4, none⟩) (row_put (p := ⟨b, 3, none⟩) (row_put (p := ⟨b, 2, none⟩) (row_put (p := ⟨b, 1, none⟩) (row_put (p := ⟨b, 0, none⟩) r q _) q _) q _) q _) q _
  refine ⟨(h.blk.kept (hb.block b hlo)).all _ _ _ _ _, ⟨⟨hI.1.1, hI.1.2.1, k q1 hI.1.2.2⟩, hI.2.1, hI.2.2.1, k q2 hI.2.2.2⟩, q1, q2, h.v1.next hf1 hv, h.v2.next hf2 hv, ?_⟩
  have := hb.size
  unfold World.set5
  simp
  omega
end CbIn
section
variable {W : World} {A B : Option Addr} {d e : Nat} {c : Ca}
set_option maxRecDepth 100000 in
set_option maxHeartbeats 3200000 in
theorem l4Places_any {n : Int} {R : Option Addr} {q : Nat} (h : CaIn W A d B e c) (hok : Q.okC n c) (zs : List Int) (hz : ∀ z ∈ zs, 0 ≤ z ∧ z ≤ n - 1) (h3 : zs.length ≤ 60) (hr : Law.Row W R (ivs zs)) :
    Calls Try.prog 65 #[caV c A d B e, .slice R zs.length q] W (rowSays1 (Q.flt c zs) W) := by
  obtain ⟨i0, hi, hz0, hz1, hz2⟩ := info_parts infoInts
  have HR := Lib.hid hr
  have HOK := Lib.hid fun k => Q.run_ok hok hz k
  have HI := Lib.hid h
  have HQ : Hid (Q.flt c zs = Q.fltK c zs zs.length) := Lib.hid rfl
  unfold caV
  clear h hok hz hr
  go_enter Try.func65, Try.ntmps65
  go_wp2_with fail
  go_loopw [5, 6] (fun v i wr => ∃ (k : Nat) (A' : Option Addr) (d' : Nat) (B' : Option Addr) (e' : Nat), k ≤ zs.length ∧ i = .int .i64 k ∧ Hid (CbIn W.heap.size wr v A' d' B' e' (Q.runK c zs k)) ∧ Hid (wr.ownsRow (W.heap.size + 1) 3 1 v (Q.fltK c zs k).length (ivs (Q.fltK c zs k))) ∧ Hid (Below W.heap.size W wr)) (fun _ i _ => zs.length - (intOf i).toNat)
  case atStart =>
    have s1 : (W.alloc (.cells #[.int .i64 c.p, .int .i64 c.s, .slice A c.ps.length d, .slice B c.ms.length e, .int .i64 c.h] 26)).heap.size = W.heap.size + 1 := by simp
    have hb0 : Below W.heap.size W (W.alloc (.cells #[.int .i64 c.p, .int .i64 c.s, .slice A c.ps.length d, .slice B c.ms.length e, .int .i64 c.h] 26)) := (Below.refl _ _).alloc (Nat.le_refl _) _
    have hb1 : Below W.heap.size W ((W.alloc (.cells #[.int .i64 c.p, .int .i64 c.s, .slice A c.ps.length d, .slice B c.ms.length e, .int .i64 c.h] 26)).alloc (.cells #[] 3)) := hb0.alloc (by omega) _
    have aw : ∀ {A : Option Addr} {zs : List Int} (g : Option Nat), Law.Row W A (ivs zs) → (∀ b, g = some b → W.heap.size ≤ b) → Aw g A zs := fun {A zs} g hr hg hz a e e' => by
      obtain ⟨k, off, e2, hk, _⟩ := hr (fun h0 => hz (by simpa [ivs] using h0))
      rw [e] at e2
      injection e2 with e2
      have := hg _ e'
      rw [e2] at this
      simp only [] at this
      omega
    have ho := ownsRow_nil (W.alloc (.cells #[.int .i64 c.p, .int .i64 c.s, .slice A c.ps.length d, .slice B c.ms.length e, .int .i64 c.h] 26)) 3
    rw [s1] at ho
    refine ⟨0, A, d, B, e, Nat.zero_le _, rfl, Lib.hid ⟨?_, HI.out.stays hb1, ?_, ?_, ?_, ?_, by simp; omega⟩, Lib.hid ho, Lib.hid hb1⟩
    · exact (blk5_of (heap_alloc_new W _)).kept (((Below.refl _ (W.alloc _)).alloc (Nat.le_refl _) (.cells #[] 3)).block _ (by omega))
    · exact aw _ HI.out.1.2.2 (fun b e => by injection e with e; omega)
    · exact aw _ HI.out.2.2.2 (fun b e => by injection e with e; omega)
    · exact aw _ HI.out.1.2.2 (fun b e => by have := (ho.lt b e).1; omega)
    · exact aw _ HI.out.2.2.2 (fun b e => by have := (ho.lt b e).1; omega)
  case round =>
    obtain ⟨k, A', d', B', e', hk, rfl, hcb, ho, hb⟩ := hrel
    by_cases hlt : k < zs.length
    · have hltI : (k : Int) < (zs.length : Int) := by omega
      obtain ⟨x, hx⟩ : ∃ x, zs[k]? = some x := ⟨_, List.getElem?_eq_getElem hlt⟩
      obtain ⟨b, off, rfl, hbl, hc⟩ := (HR.out.stays hb.out).at_ (ivs_some hx)
      have hokk := HOK.out k
      have hrk := Q.runK_succ c hx
      have hf1 := Q.fltK_hit c hx
      have hf2 := Q.fltK_no c hx
      have hfl := Q.fltK_len c zs k
      generalize Q.runK c zs k = ck at *
      generalize Q.fltK c zs k = fk at *
      obtain ⟨A9, c9, rfl, hc91, hc92, _⟩ := Law.own_len ho.out
      have hcl : ck.ps.length ≤ 6 := by have := hokk.2.2.1; have := hokk.2.2.2.1; omega
      have hHas := fun m => l1Has_any A' d' ck.ps x (wr.drewN m) (by omega) (hcb.out.rows.1.2.2.drewN m)
      have hSt := fun X (hX : CaIn X A' d' B' e' ck) => l4Step_any (x := x) hX hokk
      unfold caV at hSt
      have HSt := Lib.hid hSt
      have HRK : Hid (Q.runK c zs (k + 1) = Q.stepC ck x) := Lib.hid hrk
      clear hSt hokk hrk
      have HX := Lib.hid hx
      clear hx
      generalize Q.stepC ck x = c1 at HSt HRK
      by_cases hm : x ∈ ck.ps
      · have HF := Lib.hid (hf1 hm)
        rw [decide_eq_true hm] at hHas
        have HH := Lib.hid hHas
        clear hHas hf1 hf2 hm
        obtain ⟨p0, p1, p2, p3, p4, r0, r1, r2, r3, r4⟩ := hcb.out.blk
        go_wp2_with fail
        go_quiet ((go_at_call 86; exact Calls.quiet_of_same (HH.out _)))
        have HCq := Lib.hid (hcb.out.drewN nq)
        have HOq : Hid ((wr.drewN nq).ownsRow (W.heap.size + 1) 3 1 (.slice A9 fk.length c9) fk.length (ivs fk)) := Lib.hid ho.out
        have HBq : Hid (Below W.heap.size W (wr.drewN nq)) := Lib.hid (Law.up hb.out nq)
        have hcq : (wr.drewN nq).cell? ⟨b, off + k, none⟩ = some (.int .i64 x) := hc
        have hbq : b < (wr.drewN nq).heap.size := hbl
        clear hc p0 p1 p2 p3 p4 r0 r1 r2 r3 r4 hbl hcb ho hb
        generalize wr.drewN nq = wq at HCq HOq HBq hcq hbq ⊢
        obtain ⟨p0, p1, p2, p3, p4, _, _, _, _, _⟩ := HCq.out.blk
        go_wp2_with fail
        go_region_law ((go_simp; go_at_call 62; refine (HSt.out _ (CaIn.drew HCq.out.rows)).mono ?_; rintro e w1 ⟨A1, d1, B1, e1, rfl, hI1, hb1, hf1, hf2⟩; unfold caV; have hbw : Below wq.heap.size wq w1 := ((Below.refl _ _).drew).trans hb1; have CB1 := Lib.hid (HCq.out.step (v := .slice A9 fk.length c9) (fun g e => (HOq.out.lt g e).2) hI1 hbw hf1 hf2); have HB1 := Lib.hid (hbw.block W.heap.size HCq.out.lo); obtain ⟨t0, t1, t2, t3, t4, r0, r1, r2, r3, r4⟩ := HCq.out.blk.kept HB1.out; have HO1 := Lib.hid (own_past HOq.out hbw); have HL1 := Lib.hid (HBq.out.trans (hbw.mono HBq.out.size)); clear hI1 hb1 hf1 hf2 hbw))
        all_goals
          go_wp2
          go_roundw
          case rel => exact ⟨k + 1, A1, d1, B1, e1, by omega, by go_num, (by rw [HRK.out]; exact CB1), (by rw [HF.out]; exact Lib.hid (own5 HO1.out (by omega) _ _ _ _ _)), Lib.hid (below5 HL1.out (Nat.le_refl _) _ _ _ _ _)⟩
          case measure => simp [intOf]; omega
      · have HF := Lib.hid (hf2 hm)
        rw [decide_eq_false hm] at hHas
        have HH := Lib.hid hHas
        clear hHas hf1 hf2 hm
        obtain ⟨p0, p1, p2, p3, p4, r0, r1, r2, r3, r4⟩ := hcb.out.blk
        go_wp2_with fail
        go_quiet ((go_at_call 86; exact Calls.quiet_of_same (HH.out _)))
        have HCq := Lib.hid (hcb.out.drewN nq)
        have HOq : Hid ((wr.drewN nq).ownsRow (W.heap.size + 1) 3 1 (.slice A9 fk.length c9) fk.length (ivs fk)) := Lib.hid ho.out
        have HBq : Hid (Below W.heap.size W (wr.drewN nq)) := Lib.hid (Law.up hb.out nq)
        have hcq : (wr.drewN nq).cell? ⟨b, off + k, none⟩ = some (.int .i64 x) := hc
        have hbq : b < (wr.drewN nq).heap.size := hbl
        clear hc p0 p1 p2 p3 p4 r0 r1 r2 r3 r4 hbl hcb ho hb
        generalize wr.drewN nq = wq at HCq HOq HBq hcq hbq ⊢
        have hloq := HOq.out
        have hsz9 := (HBq.out).size
        go_wp2_with (at_builtin; refine list_app1 rfl _ _ 22 rfl Try.underlying22 hi hz0 hz1 hz2 rfl ((HOq.out).alloc _) rfl (new_cell (wq) (.int .i64 ((k : Int))) 3) ?ca9a ?ca9b ?_)
        case ca9a => omega
        case ca9b => (show (W.heap.size + 1) ≤ _; first | omega | (simp; omega))
        intro v9 w9 hm9 hg9 ha9
        have HB9 := Lib.hid (((HBq.out).alloc hsz9 (.cells #[.int .i64 ((k : Int))] 3)).grown hg9 (by simp; omega) (fun j e => Nat.le_trans (by omega) ((HOq.out).lt j e).1))
        rw [← ivs_snoc] at hm9
        have HC9 := Lib.hid (HCq.out.app HOq.out _ hg9 ha9)
        have HO9 : Hid (w9.ownsRow (W.heap.size + 1) 3 1 v9 (fk ++ [(k : Int)]).length (ivs (fk ++ [(k : Int)]))) := by rw [List.length_append]; exact Lib.hid hm9
        have HL9 := HB9
        obtain ⟨b', off', e', hbq9, hcq9⟩ := (HR.out.stays HL9.out).at_ (ivs_some HX.out)
        injection e' with e'
        injection e' with e1' e2' _
        subst e1' e2'
        clear hm9 hg9 ha9 hloq hcq hbq HCq HOq HBq
        obtain ⟨p0, p1, p2, p3, p4, _, _, _, _, _⟩ := HC9.out.blk
        go_wp2_with fail
        go_region_law ((go_simp; go_at_call 62; refine (HSt.out _ (CaIn.drew HC9.out.rows)).mono ?_; rintro e w1 ⟨A1, d1, B1, e1, rfl, hI1, hb1, hf1, hf2⟩; unfold caV; have hbw : Below w9.heap.size w9 w1 := ((Below.refl _ _).drew).trans hb1; have CB1 := Lib.hid (HC9.out.step  (fun g e => (HO9.out.lt g e).2) hI1 hbw hf1 hf2); have HB1 := Lib.hid (hbw.block W.heap.size HC9.out.lo); obtain ⟨t0, t1, t2, t3, t4, r0, r1, r2, r3, r4⟩ := HC9.out.blk.kept HB1.out; have HO1 := Lib.hid (own_past HO9.out hbw); have HL1 := Lib.hid (HL9.out.trans (hbw.mono HL9.out.size)); clear hI1 hb1 hf1 hf2 hbw))
        all_goals
          go_wp2
          go_roundw
          case rel => exact ⟨k + 1, A1, d1, B1, e1, by omega, by go_num, (by rw [HRK.out]; exact CB1), (by rw [HF.out]; exact Lib.hid (own5 HO1.out (by omega) _ _ _ _ _)), Lib.hid (below5 HL1.out (Nat.le_refl _) _ _ _ _ _)⟩
          case measure => simp [intOf]; omega
    · have hke : k = zs.length := by omega
      have hltI : ¬ (k : Int) < (zs.length : Int) := by omega
      rw [hke] at ho
      have HO := Lib.hid ho.out
      clear hke ho
      go_wp2
      go_ret
      rw [HQ.out]
      exact ⟨_, rfl, own_down HO.out (by omega), hb.out⟩
end
end Go.Proofs.Ytdjafooabpcbmaa
