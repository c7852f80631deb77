/-
  Marks of rows of rows that leave all other blocks as they are. The code's OffsetSteps.
-/
import Derived.Test.YthpoeeadhjnljaaNestL
import Derived.Test.YthpoeeadhjnljaaGw2
/- Marks of rows of rows that leave all other blocks as they are. -/
namespace Go.Proofs.Ythpoeeadhjnljaa
open Go.RowKit
set_option linter.unusedVariables false
/-- All blocks but those of some rows are kept. -/
def KeptB (xs : List Value) (w w' : World) : Prop := ∀ j, j < w.heap.size → (∀ x ∈ xs, x.ownBlock ≠ some j) → w'.heap[j]? = w.heap[j]?
theorem own_blk {w w' : World} {b s n : Nat} {e : TypeId} {v : Value} {xs : List Value} (h : w.ownsRow b e s v n xs) (hk : ∀ g, v.ownBlock = some g → w'.heap[g]? = w.heap[g]?) : w'.ownsRow b e s v n xs := by
  refine ⟨h.1, ?_⟩
  rcases h.2 with h0 | ⟨g, cap, cur, rfl, h1, h2, h3⟩
  · exact .inl h0
  · exact .inr ⟨g, cap, cur, rfl, h1, (hk g rfl).trans h2, h3⟩
theorem KeptB.outer {xs : List Value} {w w' : World} (hk : KeptB xs w w') {base : Nat} {L : List (List Int)} (hn : NOwn w base xs L) {b n : Nat} {v : Value} {ys : List Value} (ho : w.ownsRow b 35 1 v n ys) : w'.ownsRow b 35 1 v n ys :=
  own_blk ho fun g hg => hk g (ho.lt g hg).2 fun x hx he => by
    obtain ⟨j, hj, rfl⟩ := List.mem_iff_getElem.1 hx
    obtain ⟨l, hl⟩ := hn.some_ (List.getElem?_eq_getElem hj)
    rcases own_types (by decide) (hn.own j _ l (List.getElem?_eq_getElem hj) hl) ho with h | h
    · rw [h] at he; cases he
    · exact h (he.trans hg.symm)
theorem KeptB.rows {xs : List Value} {w w' : World} (hk : KeptB xs w w') {base : Nat} {ys : List Value} {M : List (List Int)} (h : NOwn w base ys M) (hc : ∀ x ∈ xs, ∀ y ∈ ys, ∀ g, x.ownBlock = some g → y.ownBlock ≠ some g) : NOwn w' base ys M :=
  ⟨h.len, fun j y l h1 h2 => own_blk (h.own j y l h1 h2) fun g hg => hk g ((h.own j y l h1 h2).lt g hg).2 fun x hx he => hc x hx y (List.mem_of_getElem? h1) g he hg, h.apart⟩
set_option maxHeartbeats 1600000 in
theorem markSS_kept (base k : Nat) (A : Option Addr) (c : Nat) (xs : List Value) (L : List (List Int)) (w : World) (hk : 0 < k) (hkk : k ≤ 10000000) (hn : L.length ≤ 1048576) (ht : totL L ≤ 1048576) (hbase : base ≤ w.heap.size) (ho : w.ownsRow base 35 1 (.slice A L.length c) L.length xs) (hN : NOwn w base xs L) :
    Calls Try.prog 28 #[.slice A L.length c, .int .i64 (k : Int)] w fun e w' => e = .returned (.int .i64 ((k + totL L : Nat) : Int)) ∧ w'.ownsRow base 35 1 (.slice A L.length c) L.length xs ∧ NOwn w' base xs (mkL k L) ∧ Below base w w' ∧ KeptB xs w w' := by
  have HO := Lib.hid ho
  have HN : Hid (NOwn w base xs (mixL k L 0)) := by rw [mixL_zero]; exact Lib.hid hN
  clear ho hN
  go_enter Try.func28, Try.ntmps28
  go_wp2
  go_loopw [1, 5] (fun q i wr => ∃ t : Nat, t ≤ L.length ∧ i = .int .i64 t ∧ q = .int .i64 ((k + totL (L.take t) : Nat) : Int) ∧ Hid (wr.ownsRow base 35 1 (.slice A L.length c) L.length xs) ∧ Hid (NOwn wr base xs (mixL k L t)) ∧ Hid (Below base w wr) ∧ Hid (KeptB xs w wr)) (fun _ i _ => L.length - (intOf i).toNat)
  case atStart => exact ⟨0, Nat.zero_le _, rfl, rfl, HO.out, HN.out, Below.refl _ _, fun j _ _ => rfl⟩
  case round =>
    obtain ⟨t, htl, rfl, rfl, ho, hN, hb, hkp⟩ := hrel
    by_cases hlt : t < L.length
    · have hltI : (t : Int) < (L.length : Int) := by omega
      obtain ⟨l, hlk⟩ : ∃ l, L[t]? = some l := ⟨_, List.getElem?_eq_getElem hlt⟩
      obtain ⟨x, hx⟩ : ∃ x, xs[t]? = some x := ⟨_, List.getElem?_eq_getElem (by have := hN.out.len; rw [mixL_len] at this; omega)⟩
      have hxo := hN.out.own t x l hx (mixL_at hlk)
      obtain ⟨X, cx, rfl, _, _, _⟩ := Law.own_len hxo
      have HT := Lib.hid (totL_take hlk)
      have h1 := totL_le L t
      have h2 := totL_le L (t + 1)
      have hll : totL (L.take t) + l.length ≤ totL L := by rw [← HT.out]; exact h2
      obtain ⟨b, off, hA, hbl, hc⟩ := (Law.Row.own ho.out).at_ hx
      have HM := Lib.hid (markInt_by base (k + totL (L.take t)) l.length X cx (ivs l) wr (by omega) (by omega) hxo)
      have HW : Hid (∀ w', wr.grownBy w' (Value.slice X l.length cx).ownBlock → w'.ownsRow base 3 1 (.slice X l.length cx) l.length (ivs (mki (k + totL (L.take t)) l.length)) → NOwn w' base xs (mixL k L (t + 1)) ∧ w'.ownsRow base 35 1 (.slice A L.length c) L.length xs ∧ Below base w w' ∧ KeptB xs w w') := fun w' hg hr => by
        refine ⟨?_, ho.out.kept hg ?_, hb.out.grown hg (Nat.le_trans hbase hb.out.size) (fun q hq => (hxo.lt q hq).1), fun j hj hne => (hg.block j (Nat.lt_of_lt_of_le hj hb.out.size) (fun e => hne _ (List.mem_of_getElem? hx) e.symm)).trans (hkp.out j hj hne)⟩
        · rw [← mixL_set hlk]
          exact hN.out.write hx (mixL_at hlk) hg (by rw [mki_len]; exact hr)
        · rcases own_types (fun e => absurd e.symm (by decide : (3 : TypeId) ≠ 35)) ho.out hxo with h | h
          · exact .inl h
          · exact .inr h
      subst hA
      clear hx hxo hlk ho hN hb h2 hkp
      generalize totL (L.take t) = s at HT h1 hll HM HW ⊢
      generalize l.length = ln at HT hll HM hc HW ⊢
      go_wp2_with fail
      go_at_call 29
      refine HM.out.mono ?_
      rintro e w1 ⟨rfl, hr, hg⟩
      obtain ⟨g1, g2, g3, g4⟩ := HW.out w1 hg hr
      have G1 := Lib.hid g1
      have G2 := Lib.hid g2
      have G3 := Lib.hid g3
      have G4 := Lib.hid g4
      clear hr hg g1 g2 g3 g4 hc HW
      go_wp2
      go_roundw
      case rel => exact ⟨t + 1, by omega, by go_num, by rw [HT.out]; first | go_num | (congr 1; omega), G2.out, G1.out, G3.out, G4.out⟩
      case measure => simp [intOf]; omega
    · have hte : t = L.length := by omega
      have hltI : ¬ (t : Int) < (L.length : Int) := by omega
      have HE : Hid (totL (L.take t) = totL L) := by show _ = _; rw [hte, List.take_length]
      have HF : Hid (mixL k L t = mkL k L) := by show _ = _; rw [hte]; rfl
      clear hte
      go_wp2
      go_ret
      refine ⟨by rw [HE.out]; rfl, ho.out, ?_, hb.out, hkp.out⟩
      rw [← HF.out]
      exact hN.out
end Go.Proofs.Ythpoeeadhjnljaa

/- The code's OffsetSteps. -/
namespace Go.Proofs.Ythpoeeadhjnljaa
open Go.RowKit
set_option linter.unusedVariables false
theorem nI_len (l : List Nat) : (nI l).length = l.length := List.length_map _
theorem cvs_nI : ∀ l : List Nat, cvs csI l = ivs (nI l)
  | [] => rfl
  | x :: l => by
    have h := cvs_nI l
    show csI x ++ cvs csI l = _
    rw [h]
    rfl
theorem cvs_Z : ∀ l : List Int, cvs csZ l = ivs l
  | [] => rfl
  | x :: l => by
    have h := cvs_Z l
    show csZ x ++ cvs csZ l = _
    rw [h]
    rfl
theorem NG.nown {w : World} {b : Nat} {xs : List Value} {nx : List (List Nat)} (h : NG 3 1 csI w b xs nx) : NOwn w b xs (nx.map nI) := by
  refine ⟨by rw [List.length_map]; exact h.len, fun j x l h1 h2 => ?_, h.apart⟩
  rw [List.getElem?_map] at h2
  cases e : nx[j]? with
  | none => rw [e] at h2; cases h2
  | some l0 =>
    rw [e] at h2
    cases h2
    have := h.own j x l0 h1 e
    rw [cvs_nI] at this
    rw [nI_len]
    exact this
theorem NG.nownZ {w : World} {b : Nat} {xs : List Value} {ss : List (List Int)} (h : NG 3 1 csZ w b xs ss) : NOwn w b xs ss := by
  refine ⟨h.len, fun j x l h1 h2 => ?_, h.apart⟩
  have := h.own j x l h1 h2
  rw [cvs_Z] at this
  exact this
def nest2A (X : List (List Int) × List (List Int) × Bool) (w : World) (e : Ending) (w' : World) : Prop :=
  ∃ v u xs ys, e = .returned (.tuple #[v, u, .bool X.2.2]) ∧ w'.ownsRow w.heap.size 35 1 v X.1.length xs ∧ NOwn w' w.heap.size xs X.1 ∧ w'.ownsRow w.heap.size 35 1 u X.2.1.length ys ∧ NOwn w' w.heap.size ys X.2.1 ∧ (∀ x ∈ xs, ∀ y ∈ ys, ∀ g, x.ownBlock = some g → y.ownBlock ≠ some g) ∧ Below w.heap.size w w'
theorem offsetsFrom_steps (A : Option Addr) (c : Nat) (xs : List Value) (L : List (List Int)) (B : Option Addr) (d : Nat) (ys : List Value) (S : List (List Int)) (w : World) (start : Int) (hlL : ∀ l ∈ L, l.length ≤ 1048576) (hlS : ∀ l ∈ S, l.length ≤ 1048576) (hL : NRow w A xs L) (hS : NRow w B ys S) :
    Calls Try.prog 86 #[pv A L.length c B S.length d, .int .i64 start] w fun e w' => ∃ (nx ss : List (List Int)) (ok : Bool) (A0 : Option Addr) (n0 c0 : Nat) (A1 : Option Addr) (n1 c1 : Nat) (A2 : Option Addr) (n2 c2 : Nat) (xsx xss : List Value),
      e = .returned (.tuple #[.agg #[.slice A0 n0 c0, .slice A1 n1 c1, .slice A2 n2 c2], .bool ok]) ∧ Q.osQ L S start = (nx, ss, ok) ∧ w'.ownsRow w.heap.size 35 1 (.slice A1 n1 c1) nx.length xsx ∧ NOwn w' w.heap.size xsx nx ∧ w'.ownsRow w.heap.size 35 1 (.slice A2 n2 c2) ss.length xss ∧ NOwn w' w.heap.size xss ss ∧ (∀ x ∈ xsx, ∀ y ∈ xss, ∀ g, x.ownBlock = some g → y.ownBlock ≠ some g) ∧ Below w.heap.size w w' := by
  refine (offsetsFrom_any A c xs L B d ys S w start hlL hlS hL hS).mono ?_
  intro e w' h
  unfold Q.osQ
  rcases hR : Q.offF L S start with _ | ⟨ns, nx, ss⟩
  · rw [hR] at h
    obtain ⟨rfl, hb⟩ := h
    exact ⟨[], [], false, none, 0, 0, none, 0, 0, none, 0, 0, [], [], rfl, rfl, own_nonev _ _ _, NOwn.nil _ _, own_nonev _ _ _, NOwn.nil _ _, by simp, hb⟩
  · rw [hR] at h
    obtain ⟨nv, xv, sv, xsx, xss, rfl, hout, hb⟩ := h
    obtain ⟨An, cn, rfl⟩ := own_slice hout.no
    obtain ⟨Ax, cx, rfl⟩ := own_slice hout.xo
    obtain ⟨As, cs, rfl⟩ := own_slice hout.so
    refine ⟨nx.map nI, ss, true, An, _, cn, Ax, _, cx, As, _, cs, xsx, xss, rfl, rfl, ?_, hout.xn.nown, hout.so, hout.sn.nownZ, fun x hx y hy g hg => ?_, hb⟩
    · rw [List.length_map]
      exact hout.xo
    · obtain ⟨i, hi, rfl⟩ := List.mem_iff_getElem.1 hx
      obtain ⟨j, hj, rfl⟩ := List.mem_iff_getElem.1 hy
      exact hout.cr i j _ _ g (List.getElem?_eq_getElem hi) (List.getElem?_eq_getElem hj) hg
set_option maxRecDepth 100000 in
set_option maxHeartbeats 3200000 in
theorem impOs_any (A : Option Addr) (c : Nat) (xs0 : List Value) (L : List (List Int)) (B : Option Addr) (d : Nat) (ys : List Value) (S : List (List Int)) (w : World) (start : Int) (hlL : ∀ l ∈ L, l.length ≤ 1048576) (hlS : ∀ l ∈ S, l.length ≤ 1048576) (hL : NRow w A xs0 L) (hS : NRow w B ys S) :
    Calls Try.prog 47 #[pv A L.length c B S.length d, .int .i64 start] w (nest2A (Q.osQ L S start) w) := by
  have hb0 : Below w.heap.size w (w.alloc (.cells #[.slice A L.length c, .slice B S.length d] 29)) := (Below.refl _ _).alloc (Nat.le_refl _) _
  have HC := Lib.hid (offsetsFrom_steps A c xs0 L B d ys S _ start hlL hlS (hL.stays hb0) (hS.stays hb0))
  have HB0 := Lib.hid hb0
  obtain ⟨X, hX⟩ : ∃ X, X = Q.osQ L S start := ⟨_, rfl⟩
  rw [← hX]
  have HX0 := Lib.hid hX
  clear hlL hlS hL hS hb0 hX
  go_enter Try.func47, Try.ntmps47
  go_wp2_with fail
  go_at_call 86
  refine HC.out.mono ?_
  rintro e w2 ⟨nx, ss, ok, A0, n0, c0, A1, n1, c1, A2, n2, c2, xsx, xss, rfl, hQ, ho1, hn1, ho2, hn2, hcr, hb2⟩
  have hXe : X = (nx, ss, ok) := HX0.out.trans hQ
  subst hXe
  have hal : Below w2.heap.size w2 (w2.alloc (.cells #[.slice A0 n0 c0, .slice A1 n1 c1, .slice A2 n2 c2] 93)) := (Below.refl _ _).alloc (Nat.le_refl _) _
  have hs0 := HB0.out.size
  have HF := Lib.hid (own_down (own_past ho1 hal) hs0)
  have HF1 := Lib.hid ((hn1.past hal).down hs0)
  have HF2 := Lib.hid (own_down (own_past ho2 hal) hs0)
  have HF3 := Lib.hid ((hn2.past hal).down hs0)
  have HB2 := Lib.hid (Law.then_ (Law.then_ HB0.out hb2) hal)
  have HCR := Lib.hid hcr
  have hg0 := Hb.new w2 #[.slice A0 n0 c0, .slice A1 n1 c1, .slice A2 n2 c2] 93
  have cg1 := hg0.cell (i := 1) (v := .slice A1 n1 c1) rfl
  have cg2 := hg0.cell (i := 2) (v := .slice A2 n2 c2) rfl
  clear hQ ho1 hn1 ho2 hn2 hcr hb2 hal hs0 hg0 HC HB0 HX0
  go_wp2_with fail
  go_quiet (fail)
  generalize hW9 : World.drewN _ nq = W9
  have hb9 : Below (w2.alloc (.cells #[.slice A0 n0 c0, .slice A1 n1 c1, .slice A2 n2 c2] 93)).heap.size (w2.alloc (.cells #[.slice A0 n0 c0, .slice A1 n1 c1, .slice A2 n2 c2] 93)) W9 := by rw [← hW9]; exact bel_drewNv _ _
  have HG := Lib.hid (own_past HF.out hb9)
  have HG1 := Lib.hid (HF1.out.past hb9)
  have HG2 := Lib.hid (own_past HF2.out hb9)
  have HG3 := Lib.hid (HF3.out.past hb9)
  have HB9 := Lib.hid (Law.then_ HB2.out hb9)
  clear hb9 hW9 cg1 cg2
  go_wp2
  go_ret3
  exact ⟨_, _, xsx, xss, rfl, HG.out, HG1.out, HG2.out, HG3.out, HCR.out, HB9.out⟩
end Go.Proofs.Ythpoeeadhjnljaa
