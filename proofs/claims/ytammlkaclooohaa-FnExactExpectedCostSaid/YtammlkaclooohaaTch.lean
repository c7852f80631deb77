/-
  What a mark of rows of rows leaves alone: all blocks but those from one size of the heap to another.
-/
import Derived.Test.YtammlkaclooohaaTb
import Derived.Test.YtammlkaclooohaaMarkI
namespace Go.Proofs.Ytammlkaclooohaa
open Go.RowKit
set_option linter.unusedVariables false
structure Tch (lo hi : Nat) (w w' : World) : Prop where
  os : w'.os = w.os
  tape : w'.tape = w.tape
  output : w'.output = w.output
  size : w.heap.size ≤ w'.heap.size
  blk : ∀ i, i < w.heap.size → (i < lo ∨ hi ≤ i) → w'.heap[i]? = w.heap[i]?
theorem Tch.refl (lo hi : Nat) (w : World) : Tch lo hi w w := ⟨rfl, rfl, rfl, Nat.le_refl _, fun _ _ _ => rfl⟩
theorem Tch.of {lo hi : Nat} {w w' : World} (h : Below w.heap.size w w') : Tch lo hi w w' := ⟨h.os, h.tape, h.output, h.size, fun i hi _ => h.block i hi⟩
theorem Tch.then_ {lo hi : Nat} {w w1 w2 : World} (h : Tch lo hi w w1) (h' : Tch lo hi w1 w2) : Tch lo hi w w2 :=
  ⟨h'.os.trans h.os, h'.tape.trans h.tape, h'.output.trans h.output, Nat.le_trans h.size h'.size, fun i hi hc => (h'.blk i (Nat.lt_of_lt_of_le hi h.size) hc).trans (h.blk i hi hc)⟩
theorem Tch.grown {lo hi : Nat} {w w' : World} {r : Option Nat} (hg : w.grownBy w' r) (hr : ∀ g, r = some g → lo ≤ g ∧ g < hi) : Tch lo hi w w' := by
  obtain ⟨h1, h2, h3, h4, h5⟩ := hg
  refine ⟨h1, h2, h3, h4, fun i hi hc => h5 i hi fun e => ?_⟩
  have := hr i (by first | exact e | exact e.symm)
  omega
theorem Tch.below {lo hi : Nat} {w w' : World} (h : Tch lo hi w w') (hlo : lo ≤ w.heap.size) : Below lo w w' :=
  ⟨h.os, h.tape, h.output, h.size, fun i hi => h.blk i (by omega) (.inl hi)⟩
theorem own_tch {lo hi : Nat} {w w' : World} {base s n : Nat} {e : TypeId} {v : Value} {xs : List Value} (h : w.ownsRow base e s v n xs) (ht : Tch lo hi w w') (hb : hi ≤ base) : w'.ownsRow base e s v n xs := by
  refine ⟨h.1, ?_⟩
  rcases h.2 with h' | ⟨g, cap, cur, e1, e2, e3, h3⟩
  · exact .inl h'
  · exact .inr ⟨g, cap, cur, e1, e2, by rw [ht.blk g (Array.getElem?_eq_some_iff.1 e3).1 (.inr (by omega))]; exact e3, h3⟩
theorem MetIn.low {w W W' : World} {A : Option Addr} {c lo : Nat} {xs : List Value} {L : List (List Int)} (h0 : NRow w A xs L) (h : MetIn w W A c xs L) (hb : Below lo W W') (hlt : w.heap.size < lo) : MetIn w W' A c xs L :=
  have hbl := h.bl.trans (hb.mono (by omega))
  ⟨h.bk.below hb hlt, h0.stays hbl, hbl⟩
set_option maxHeartbeats 1600000 in
theorem markSS_t (base top k : Nat) (A : Option Addr) (c : Nat) (xs : List Value) (L : List (List Int)) (w : World) (hk : 0 < k) (hkk : k ≤ 10000000) (hn : L.length ≤ 1048576) (ht : totL L ≤ 1048576) (ho : w.ownsRow base 25 1 (.slice A L.length c) L.length xs) (hN : NOwn w base xs L)
    (htop : ∀ (x : Value) (b : Nat), x ∈ xs → x.ownBlock = some b → b < top) :
    Calls Try.prog 61 #[.slice A L.length c, .int .i64 (k : Int)] w fun e w' => e = .returned (.int .i64 ((k + totL L : Nat) : Int)) ∧ Tch base top w w' := by
  have HO := Lib.hid ho
  have HN : Hid (NOwn w base xs (mixL k L 0)) := by rw [mixL_zero]; exact Lib.hid hN
  have HTop := Lib.hid htop
  clear ho hN htop
  go_enter Try.func61, Try.ntmps61
  go_wp2
  go_loopw [1, 5] (fun q i wr => ∃ t : Nat, t ≤ L.length ∧ i = .int .i64 t ∧ q = .int .i64 ((k + totL (L.take t) : Nat) : Int) ∧ Hid (wr.ownsRow base 25 1 (.slice A L.length c) L.length xs) ∧ Hid (NOwn wr base xs (mixL k L t)) ∧ Hid (Tch base top w wr)) (fun _ i _ => L.length - (intOf i).toNat)
  case atStart => exact ⟨0, Nat.zero_le _, rfl, rfl, HO.out, HN.out, Tch.refl _ _ _⟩
  case round =>
    obtain ⟨t, htl, rfl, rfl, ho, hN, hb⟩ := hrel
    by_cases hlt : t < L.length
    · have hltI : (t : Int) < (L.length : Int) := by omega
      obtain ⟨l, hlk⟩ : ∃ l, L[t]? = some l := ⟨_, List.getElem?_eq_getElem hlt⟩
      obtain ⟨x, hx⟩ : ∃ x, xs[t]? = some x := ⟨_, List.getElem?_eq_getElem (by have := hN.out.len; rw [mixL_len] at this; omega)⟩
      have hxo := hN.out.own t x l hx (mixL_at hlk)
      obtain ⟨X, cx, rfl, _, _, _⟩ := Law.own_len hxo
      have HT := Lib.hid (totL_take hlk)
      have h1 := totL_le L t
      have h2 := totL_le L (t + 1)
      have hll : totL (L.take t) + l.length ≤ totL L := by rw [← HT.out]; exact h2
      obtain ⟨b, off, hA, hbl, hc⟩ := (Law.Row.own ho.out).at_ hx
      have HM := Lib.hid (markInt_by base (k + totL (L.take t)) l.length X cx (ivs l) wr (by omega) (by omega) hxo)
      have HW : Hid (∀ w', wr.grownBy w' (Value.slice X l.length cx).ownBlock → w'.ownsRow base 3 1 (.slice X l.length cx) l.length (ivs (mki (k + totL (L.take t)) l.length)) → NOwn w' base xs (mixL k L (t + 1)) ∧ w'.ownsRow base 25 1 (.slice A L.length c) L.length xs ∧ Tch base top w w') := fun w' hg hr => by
        refine ⟨?_, ho.out.kept hg ?_, hb.out.then_ (Tch.grown hg (fun q hq => ⟨(hxo.lt q hq).1, HTop.out _ q (List.mem_of_getElem? hx) hq⟩))⟩
        · rw [← mixL_set hlk]
          exact hN.out.write hx (mixL_at hlk) hg (by rw [mki_len]; exact hr)
        · rcases own_types (fun e => absurd e.symm (by decide : (3 : TypeId) ≠ 25)) ho.out hxo with h | h
          · exact .inl h
          · exact .inr h
      subst hA
      clear hx hxo hlk ho hN hb h2
      generalize totL (L.take t) = s at HT h1 hll HM HW ⊢
      generalize l.length = ln at HT hll HM hc HW ⊢
      go_wp2_with fail
      go_at_call 31
      refine HM.out.mono ?_
      rintro e w1 ⟨rfl, hr, hg⟩
      obtain ⟨g1, g2, g3⟩ := HW.out w1 hg hr
      have G1 := Lib.hid g1
      have G2 := Lib.hid g2
      have G3 := Lib.hid g3
      clear hr hg g1 g2 g3 hc HW
      go_wp2
      go_roundw
      case rel => exact ⟨t + 1, by omega, by go_num, by rw [HT.out]; first | go_num | (congr 1; omega), G2.out, G1.out, G3.out⟩
      case measure => simp [intOf]; omega
    · have hte : t = L.length := by omega
      have hltI : ¬ (t : Int) < (L.length : Int) := by omega
      have HE : Hid (totL (L.take t) = totL L) := by show _ = _; rw [hte, List.take_length]
      clear hte
      go_wp2
      go_ret
      exact ⟨by rw [HE.out]; rfl, hb.out⟩
theorem NOwn.tops {w : World} {base : Nat} {xs : List Value} {L : List (List Int)} (h : NOwn w base xs L) : ∀ (x : Value) (b : Nat), x ∈ xs → x.ownBlock = some b → b < w.heap.size := fun x b hx hb => by
  obtain ⟨j, hj, rfl⟩ := List.mem_iff_getElem.1 hx
  have hl : j < L.length := by rw [← h.len]; exact hj
  exact ((h.own j _ _ (List.getElem?_eq_getElem hj) (List.getElem?_eq_getElem hl)).lt b hb).2
end Go.Proofs.Ytammlkaclooohaa
