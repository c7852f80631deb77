/-
  Rows of rows of ints in the laws' own helpers: 'eqIntSS', 'markIntSS', 'heldIntSS'; where they lie.
-/
import Derived.Test.YtammlkaclooohaaNest
import Derived.Test.YtammlkaclooohaaMarkI
namespace Go.Proofs.Ytammlkaclooohaa
open Go.RowKit
set_option linter.unusedVariables false
/-- Rows of rows that are only read. -/
structure NRow (w : World) (A : Option Addr) (xs : List Value) (L : List (List Int)) : Prop where
  row : Law.Row w A xs
  len : xs.length = L.length
  at_ : ∀ (j : Nat) (x : Value) (l : List Int), xs[j]? = some x → L[j]? = some l → ∃ B c, x = .slice B l.length c ∧ Law.Row w B (ivs l)
theorem NRow.stays {w w' : World} {A : Option Addr} {xs : List Value} {L : List (List Int)} (h : NRow w A xs L) (hb : Below w.heap.size w w') : NRow w' A xs L :=
  ⟨h.row.stays hb, h.len, fun j x l h1 h2 => by obtain ⟨B, c, e, hr⟩ := h.at_ j x l h1 h2; exact ⟨B, c, e, hr.stays hb⟩⟩
theorem NRow.drewN {w : World} {A : Option Addr} {xs : List Value} {L : List (List Int)} (h : NRow w A xs L) (m : Nat) : NRow (w.drewN m) A xs L :=
  ⟨h.row.drewN m, h.len, fun j x l h1 h2 => by obtain ⟨B, c, e, hr⟩ := h.at_ j x l h1 h2; exact ⟨B, c, e, hr.drewN m⟩⟩
theorem NRow.of {w : World} {base b n c : Nat} {A : Option Addr} {xs : List Value} {L : List (List Int)} (ho : w.ownsRow b 25 1 (.slice A n c) n xs) (hn : NOwn w base xs L) : NRow w A xs L :=
  ⟨Law.Row.own ho, hn.len, fun j x l h1 h2 => by
    have h := hn.own j x l h1 h2
    obtain ⟨B, c', rfl, _, _, _⟩ := Law.own_len h
    exact ⟨B, c', rfl, Law.Row.own h⟩⟩
def totL (L : List (List Int)) : Nat := (L.map List.length).sum
theorem totL_take {L : List (List Int)} {t : Nat} {l : List Int} (h : L[t]? = some l) : totL (L.take (t + 1)) = totL (L.take t) + l.length := by
  obtain ⟨hl, e⟩ := List.getElem?_eq_some_iff.1 h
  rw [List.take_succ_eq_append_getElem hl, e]
  simp [totL]
theorem sum_app : ∀ (a b : List Nat), (a ++ b).sum = a.sum + b.sum
  | [], b => by simp
  | x :: a, b => by rw [List.cons_append, List.sum_cons, List.sum_cons, sum_app a b]; omega
theorem totL_le (L : List (List Int)) (t : Nat) : totL (L.take t) ≤ totL L := by
  have h : totL (L.take t ++ L.drop t) = totL (L.take t) + totL (L.drop t) := by unfold totL; rw [List.map_append, sum_app]
  rw [List.take_append_drop] at h
  omega
/-- The first t rows marked, from k on. -/
def mixL (k : Nat) (L : List (List Int)) (t : Nat) : List (List Int) := (List.range L.length).map fun j => if j < t then mki (k + totL (L.take j)) (L.getD j []).length else L.getD j []
def mkL (k : Nat) (L : List (List Int)) : List (List Int) := mixL k L L.length
theorem mixL_len (k : Nat) (L : List (List Int)) (t : Nat) : (mixL k L t).length = L.length := by simp [mixL]
theorem mixL_zero (k : Nat) (L : List (List Int)) : mixL k L 0 = L := by
  apply List.ext_getElem (by simp [mixL])
  intro j h1 h2
  simp [mixL, List.getD_eq_getElem?_getD, h2]
theorem mixL_at {k : Nat} {L : List (List Int)} {t : Nat} {l : List Int} (h : L[t]? = some l) : (mixL k L t)[t]? = some l := by
  obtain ⟨hl, e⟩ := List.getElem?_eq_some_iff.1 h
  simp [mixL, hl, List.getD_eq_getElem?_getD]
  exact e
theorem mixL_set {k : Nat} {L : List (List Int)} {t : Nat} {l : List Int} (h : L[t]? = some l) : (mixL k L t).set t (mki (k + totL (L.take t)) l.length) = mixL k L (t + 1) := by
  obtain ⟨hl, el⟩ := List.getElem?_eq_some_iff.1 h
  apply List.ext_getElem?
  intro j
  by_cases hj : j < L.length
  · by_cases e : t = j
    · subst e
      rw [List.getElem?_set_self (by rw [mixL_len]; exact hl)]
      simp [mixL, hl, List.getD_eq_getElem?_getD]
      rw [el]
    · rw [List.getElem?_set_ne e]
      simp only [mixL, List.getElem?_map, List.getElem?_range hj, Option.map_some]
      by_cases hk : j < t
      · rw [if_pos hk, if_pos (by omega)]
      · rw [if_neg hk, if_neg (by omega)]
  · rw [List.getElem?_eq_none (by rw [List.length_set, mixL_len]; omega), List.getElem?_eq_none (by rw [mixL_len]; omega)]
theorem mkL_at {k : Nat} {L : List (List Int)} {t : Nat} {l : List Int} (h : L[t]? = some l) : (mkL k L)[t]? = some (mki (k + totL (L.take t)) l.length) := by
  obtain ⟨hl, e⟩ := List.getElem?_eq_some_iff.1 h
  simp [mkL, mixL, hl, List.getD_eq_getElem?_getD]
  rw [e]
/-- What lies from base on stays while a row below is written. -/
theorem own_low {w w' : World} {base s n m c lo hi : Nat} {e : TypeId} {v : Value} {B : Option Addr} {xs : List Value} (h : w.ownsRow base e s v n xs) (hg : w.grownBy w' (Value.slice B m c).ownBlock) (hB : In lo hi B) (hh : hi ≤ base) : w'.ownsRow base e s v n xs := h.kept hg (by
  cases hv : v.ownBlock with
  | none => exact .inl rfl
  | some g =>
    refine .inr fun e2 => ?_
    have h1 := (h.lt g hv).1
    cases B with
    | none => simp [Value.ownBlock] at e2
    | some q =>
      have h2 := hB q rfl
      simp [Value.ownBlock] at e2
      omega)
theorem NOwn.low {w w' : World} {base m c lo hi : Nat} {B : Option Addr} {xs : List Value} {L : List (List Int)} (h : NOwn w base xs L) (hg : w.grownBy w' (Value.slice B m c).ownBlock) (hB : In lo hi B) (hh : hi ≤ base) : NOwn w' base xs L :=
  ⟨h.len, fun j x l h1 h2 => own_low (h.own j x l h1 h2) hg hB hh, h.apart⟩
/-- One of the rows is written anew. -/
theorem NOwn.write {w w' : World} {base t : Nat} {xs : List Value} {M : List (List Int)} {x : Value} {l l' : List Int} (h : NOwn w base xs M) (hx : xs[t]? = some x) (hl : M[t]? = some l) (hg : w.grownBy w' x.ownBlock) (hn : w'.ownsRow base 3 1 x l'.length (ivs l')) : NOwn w' base xs (M.set t l') := by
  refine ⟨by rw [List.length_set]; exact h.len, fun j y m h1 h2 => ?_, h.apart⟩
  by_cases e : t = j
  · subst e
    rw [hx] at h1
    injection h1 with h1
    rw [List.getElem?_set_self (List.getElem?_eq_some_iff.1 hl).1] at h2
    injection h2 with h2
    subst h1 h2
    exact hn
  · rw [List.getElem?_set_ne e] at h2
    refine (h.own j y m h1 h2).kept hg ?_
    cases hb : y.ownBlock with
    | none => exact .inl rfl
    | some b =>
      refine .inr fun e2 => ?_
      rcases Nat.lt_or_ge t j with hh | hh
      · exact h.apart t j x y b hh hx h1 e2.symm hb
      · exact h.apart j t y x b (by omega) h1 hx hb e2.symm
set_option maxHeartbeats 1600000 in
theorem eqSS_same (A B : Option Addr) (c d : Nat) (xs ys : List Value) (L : List (List Int)) (w : World) (hn : L.length ≤ 1048576) (hl : ∀ l ∈ L, l.length ≤ 1048576) (ha : NRow w A xs L) (hb : NRow w B ys L) :
    Calls Try.prog 46 #[.slice A L.length c, .slice B L.length d] w fun e w' => e = .returned (.bool true) ∧ ∃ m, w' = w.drewN m := by
  have HA := Lib.hid ha
  have HB := Lib.hid hb
  have HL := Lib.hid hl
  clear ha hb hl
  go_enter Try.func46, Try.ntmps46
  go_wp2
  go_loopw [5] (fun i wr => ∃ k : Nat, k ≤ L.length ∧ i = .int .i64 k ∧ Hid (∃ m, wr = w.drewN m)) (fun i _ => L.length - (intOf i).toNat)
  case atStart => exact ⟨0, Nat.zero_le _, rfl, ⟨0, rfl⟩⟩
  case round =>
    obtain ⟨k, hk, rfl, hw⟩ := hrel
    have HWn : Hid (∀ n, ∃ m, wr.drewN n = w.drewN m) := fun n => by obtain ⟨m, e⟩ := hw.out; rw [e]; exact ⟨m + n, by simp⟩
    have HAw : Hid (∀ n, NRow (wr.drewN n) A xs L ∧ NRow (wr.drewN n) B ys L) := fun n => by obtain ⟨m, e⟩ := HWn.out n; rw [e]; exact ⟨HA.out.drewN m, HB.out.drewN m⟩
    by_cases hlt : k < L.length
    · have hltI : (k : Int) < (L.length : Int) := by omega
      obtain ⟨l, hlk⟩ : ∃ l, L[k]? = some l := ⟨_, List.getElem?_eq_getElem hlt⟩
      obtain ⟨x, hx⟩ : ∃ x, xs[k]? = some x := ⟨_, List.getElem?_eq_getElem (by have := HA.out.len; omega)⟩
      obtain ⟨y, hy⟩ : ∃ y, ys[k]? = some y := ⟨_, List.getElem?_eq_getElem (by have := HB.out.len; omega)⟩
      obtain ⟨X, cx, rfl, hrx⟩ := HA.out.at_ k x l hx hlk
      obtain ⟨Y, cy, rfl, hry⟩ := HB.out.at_ k y l hy hlk
      have hll := HL.out l (List.mem_of_getElem? hlk)
      have HE : Hid (∀ n, Calls Try.prog 25 #[.slice X l.length cx, .slice Y l.length cy] (wr.drewN n) fun e w'' => e = .returned (.bool true) ∧ ∃ m, w'' = wr.drewN m) := fun n => by
        obtain ⟨m, e⟩ := HWn.out n
        refine (eqInt_same X Y cx cy l (wr.drewN n) (by omega) (by rw [e]; exact hrx.drewN m) (by rw [e]; exact hry.drewN m)).mono ?_
        rintro e2 w'' ⟨h1, m2, h2⟩
        exact ⟨h1, n + m2, by rw [h2]; simp⟩
      obtain ⟨b, off, hA, hbl, hc⟩ := (HAw.out 0).1.row.at_ hx
      obtain ⟨b', off', hB, hbl', hc'⟩ := (HAw.out 0).2.row.at_ hy
      replace hc : wr.cell? ⟨b, off + k, none⟩ = some (.slice X l.length cx) := hc
      replace hc' : wr.cell? ⟨b', off' + k, none⟩ = some (.slice Y l.length cy) := hc'
      subst hA hB
      clear hx hy hrx hry hlk hw HAw
      go_wp2_with fail
      go_quiet ((go_at_call 25; exact HE.out _))
      go_wp2
      go_roundw
      case rel => exact ⟨k + 1, by omega, by go_num, HWn.out _⟩
      case measure => simp [intOf]; omega
    · have hltI : ¬ (k : Int) < (L.length : Int) := by omega
      go_wp2
      go_ret
      exact ⟨rfl, hw.out⟩
set_option maxHeartbeats 1600000 in
theorem markSS_any (base k : Nat) (A : Option Addr) (c : Nat) (xs : List Value) (L : List (List Int)) (w : World) (hk : 0 < k) (hkk : k ≤ 10000000) (hn : L.length ≤ 1048576) (ht : totL L ≤ 1048576) (hbase : base ≤ w.heap.size) (ho : w.ownsRow base 25 1 (.slice A L.length c) L.length xs) (hN : NOwn w base xs L) :
    Calls Try.prog 61 #[.slice A L.length c, .int .i64 (k : Int)] w fun e w' => e = .returned (.int .i64 ((k + totL L : Nat) : Int)) ∧ w'.ownsRow base 25 1 (.slice A L.length c) L.length xs ∧ NOwn w' base xs (mkL k L) ∧ Below base w w' := by
  have HO := Lib.hid ho
  have HN : Hid (NOwn w base xs (mixL k L 0)) := by rw [mixL_zero]; exact Lib.hid hN
  clear ho hN
  go_enter Try.func61, Try.ntmps61
  go_wp2
  go_loopw [1, 5] (fun q i wr => ∃ t : Nat, t ≤ L.length ∧ i = .int .i64 t ∧ q = .int .i64 ((k + totL (L.take t) : Nat) : Int) ∧ Hid (wr.ownsRow base 25 1 (.slice A L.length c) L.length xs) ∧ Hid (NOwn wr base xs (mixL k L t)) ∧ Hid (Below base w wr)) (fun _ i _ => L.length - (intOf i).toNat)
  case atStart => exact ⟨0, Nat.zero_le _, rfl, rfl, HO.out, HN.out, Below.refl _ _⟩
  case round =>
    obtain ⟨t, htl, rfl, rfl, ho, hN, hb⟩ := hrel
    by_cases hlt : t < L.length
    · have hltI : (t : Int) < (L.length : Int) := by omega
      obtain ⟨l, hlk⟩ : ∃ l, L[t]? = some l := ⟨_, List.getElem?_eq_getElem hlt⟩
      obtain ⟨x, hx⟩ : ∃ x, xs[t]? = some x := ⟨_, List.getElem?_eq_getElem (by have := hN.out.len; rw [mixL_len] at this; omega)⟩
      have hxo := hN.out.own t x l hx (mixL_at hlk)
      obtain ⟨X, cx, rfl, _, _, _⟩ := Law.own_len hxo
      have HT := Lib.hid (totL_take hlk)
      have h1 := totL_le L t
      have h2 := totL_le L (t + 1)
      have hll : totL (L.take t) + l.length ≤ totL L := by rw [← HT.out]; exact h2
      obtain ⟨b, off, hA, hbl, hc⟩ := (Law.Row.own ho.out).at_ hx
      have HM := Lib.hid (markInt_by base (k + totL (L.take t)) l.length X cx (ivs l) wr (by omega) (by omega) hxo)
      have HW : Hid (∀ w', wr.grownBy w' (Value.slice X l.length cx).ownBlock → w'.ownsRow base 3 1 (.slice X l.length cx) l.length (ivs (mki (k + totL (L.take t)) l.length)) → NOwn w' base xs (mixL k L (t + 1)) ∧ w'.ownsRow base 25 1 (.slice A L.length c) L.length xs ∧ Below base w w') := fun w' hg hr => by
        refine ⟨?_, ho.out.kept hg ?_, hb.out.grown hg (Nat.le_trans hbase hb.out.size) (fun q hq => (hxo.lt q hq).1)⟩
        · rw [← mixL_set hlk]
          exact hN.out.write hx (mixL_at hlk) hg (by rw [mki_len]; exact hr)
        · rcases own_types (fun e => absurd e.symm (by decide : (3 : TypeId) ≠ 25)) ho.out hxo with h | h
          · exact .inl h
          · exact .inr h
      subst hA
      clear hx hxo hlk ho hN hb h2
      generalize totL (L.take t) = s at HT h1 hll HM HW ⊢
      generalize l.length = ln at HT hll HM hc HW ⊢
      go_wp2_with fail
      go_at_call 31
      refine HM.out.mono ?_
      rintro e w1 ⟨rfl, hr, hg⟩
      obtain ⟨g1, g2, g3⟩ := HW.out w1 hg hr
      have G1 := Lib.hid g1
      have G2 := Lib.hid g2
      have G3 := Lib.hid g3
      clear hr hg g1 g2 g3 hc HW
      go_wp2
      go_roundw
      case rel => exact ⟨t + 1, by omega, by go_num, by rw [HT.out]; first | go_num | (congr 1; omega), G2.out, G1.out, G3.out⟩
      case measure => simp [intOf]; omega
    · have hte : t = L.length := by omega
      have hltI : ¬ (t : Int) < (L.length : Int) := by omega
      have HE : Hid (totL (L.take t) = totL L) := by show _ = _; rw [hte, List.take_length]
      have HF : Hid (mixL k L t = mkL k L) := by show _ = _; rw [hte]; rfl
      clear hte
      go_wp2
      go_ret
      refine ⟨by rw [HE.out]; rfl, ho.out, ?_, hb.out⟩
      rw [← HF.out]
      exact hN.out
end Go.Proofs.Ytammlkaclooohaa
