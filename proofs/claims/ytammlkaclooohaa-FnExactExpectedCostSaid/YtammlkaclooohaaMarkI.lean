/-
  The laws' own helpers on marks in slices of ints: 'markIntS', 'heldIntS'.
-/
import Derived.Test.YtammlkaclooohaaInts
namespace Go.Proofs.Ytammlkaclooohaa
open Go.RowKit
set_option linter.unusedVariables false
/-- The marks k, k + 1, .. -/
def mki (k n : Nat) : List Int := (List.range n).map fun i => ((k + i : Nat) : Int)
theorem mki_len (k n : Nat) : (mki k n).length = n := by simp [mki]
theorem mki_at {k n j : Nat} (h : j < n) : (ivs (mki k n))[j]? = some (.int .i64 ((k + j : Nat) : Int)) := by simp [mki, h]
theorem by_refl (w : World) (row : Option Nat) : w.grownBy w row := ⟨rfl, rfl, rfl, Nat.le_refl _, fun _ _ _ => rfl⟩
theorem by_trans {a b c : World} {row : Option Nat} (h : a.grownBy b row) (k : b.grownBy c row) : a.grownBy c row :=
  ⟨k.os.trans h.os, k.tape.trans h.tape, k.output.trans h.output, Nat.le_trans h.size k.size, fun i hi hn => (k.block i (Nat.lt_of_lt_of_le hi h.size) hn).trans (h.block i hi hn)⟩
theorem by_undraw {m : Nat} {w w' : World} {row : Option Nat} (h : (w.drewN m).grownBy w' row) : w.grownBy w' row := ⟨h.os, h.tape, h.output, h.size, h.block⟩
/-- A step that writes one row, of the call's own. -/
theorem by_below {B : Nat} {a w w' : World} {row : Option Nat} (h : Below B a w) (hg : w.grownBy w' row) (hB : B ≤ w.heap.size) (hr : ∀ k, row = some k → B ≤ k) : Below B a w' := h.grown hg hB hr
/-- Where a row's block lies. -/
def In (lo hi : Nat) (A : Option Addr) : Prop := ∀ a, A = some a → lo ≤ a.block ∧ a.block < hi
theorem In.of {w : World} {base : Nat} {e : TypeId} {A : Option Addr} {n c : Nat} {xs : List Value} (h : w.ownsRow base e 1 (.slice A n c) n xs) : In base w.heap.size A := fun a ha => by
  rcases h.2 with ⟨hv, _⟩ | ⟨g, cap, cur, hv, hb, hg, _⟩
  · injection hv with h1; rw [h1] at ha; cases ha
  · injection hv with h1
    rw [h1] at ha
    cases ha
    exact ⟨hb, (Array.getElem?_eq_some_iff.1 hg).1⟩
theorem In.wide {lo hi hi' : Nat} {A : Option Addr} (h : In lo hi A) (hh : hi ≤ hi') : In lo hi' A := fun a ha => ⟨(h a ha).1, Nat.lt_of_lt_of_le (h a ha).2 hh⟩
theorem In.base {lo hi : Nat} {A : Option Addr} {n c : Nat} (h : In lo hi A) {B : Nat} (hB : B ≤ lo) : ∀ k, (Value.slice A n c).ownBlock = some k → B ≤ k := fun k hk => by
  cases A with
  | none => simp [Value.ownBlock] at hk
  | some a =>
    have := (h a rfl).1
    simp [Value.ownBlock] at hk
    omega
/-- A row stays where another one is written. -/
theorem Law.Row.far {w w' : World} {A B : Option Addr} {n c lo hi lo' hi' : Nat} {xs : List Value} (h : Law.Row w A xs) (hg : w.grownBy w' (Value.slice B n c).ownBlock) (hA : In lo hi A) (hB : In lo' hi' B) (hd : hi ≤ lo' ∨ hi' ≤ lo) :
    Law.Row w' A xs := fun hx => by
  obtain ⟨b, off, rfl, hb, hc⟩ := h hx
  refine ⟨b, off, rfl, Nat.lt_of_lt_of_le hb hg.size, fun j u hu => ?_⟩
  have hne : some b ≠ (Value.slice B n c).ownBlock := fun e => by
    cases B with
    | none => simp [Value.ownBlock] at e
    | some q =>
      have h1 := hA _ rfl
      have h2 := hB q rfl
      simp [Value.ownBlock] at e
      simp only [] at h1
      omega
  exact (World.cell?_of_block (a := ⟨b, off + j, none⟩) (hg.block b hb hne)).trans (hc j u hu)
/-- What the call owns stays while another row is written. -/
theorem own_far {w w' : World} {A B : Option Addr} {n c n' c' lo hi lo' hi' base : Nat} {e : TypeId} {xs : List Value} (h : w.ownsRow base e 1 (.slice A n' c') n' xs) (hg : w.grownBy w' (Value.slice B n c).ownBlock) (hA : In lo hi A) (hB : In lo' hi' B) (hd : hi ≤ lo' ∨ hi' ≤ lo) :
    w'.ownsRow base e 1 (.slice A n' c') n' xs := h.kept hg (by
  cases A with
  | none => exact .inl rfl
  | some a =>
    refine .inr fun e => ?_
    cases B with
    | none => simp [Value.ownBlock] at e
    | some q =>
      have h1 := hA a rfl
      have h2 := hB q rfl
      simp [Value.ownBlock] at e
      omega)
theorem own_on {w w' : World} {base : Nat} {e : TypeId} {v : Value} {n : Nat} {xs : List Value} (h : w.ownsRow base e 1 v n xs) (hb : Below w.heap.size w w') : w'.ownsRow base e 1 v n xs :=
  h.kept (row := none) ⟨hb.os, hb.tape, hb.output, hb.size, fun i hi _ => hb.block i hi⟩ (by cases hv : v.ownBlock <;> simp)
set_option maxHeartbeats 800000 in
theorem markInt_by (base k n : Nat) (A : Option Addr) (c : Nat) (xs : List Value) (w : World) (hk : 0 < k) (hkn : k + n ≤ 100000000) (ho : w.ownsRow base 3 1 (.slice A n c) n xs) :
    Calls Try.prog 31 #[.slice A n c, .int .i64 (k : Int)] w fun e w' => e = .returned (.int .i64 ((k + n : Nat) : Int)) ∧ w'.ownsRow base 3 1 (.slice A n c) n (ivs (mki k n)) ∧ w.grownBy w' (Value.slice A n c).ownBlock := by
  obtain ⟨A', c', hv, hc1, hc2, hxl⟩ := Law.own_len ho
  injection hv with e1 e2 e3
  subst e1 e3
  have HO := Lib.hid ho
  have HX := Lib.hid hxl
  unfold maxLen at hc2
  clear ho hxl
  go_enter Try.func31, Try.ntmps31
  go_wp2
  go_loopw [1, 5] (fun q i wr => ∃ j : Nat, j ≤ n ∧ i = .int .i64 j ∧ q = .int .i64 ((k + j : Nat) : Int) ∧ Hid (wr.ownsRow base 3 1 (.slice A n c) n (fillS (ivs (mki k n)) xs j)) ∧ Hid (w.grownBy wr (Value.slice A n c).ownBlock)) (fun _ i _ => n - (intOf i).toNat)
  case atStart => exact ⟨0, Nat.zero_le _, rfl, rfl, HO.out, by_refl _ _⟩
  case round =>
    obtain ⟨j, hj, rfl, rfl, how, hbw⟩ := hrel
    by_cases hlt : j < n
    · obtain ⟨g, hA⟩ : ∃ g, A = some ⟨g, 0, none⟩ := by
        rcases how.out.2 with ⟨h, h0⟩ | ⟨g, cap, cur, h, _⟩
        · omega
        · injection h with h; exact ⟨g, h⟩
      subst hA
      have hltI : (j : Int) < (n : Int) := by omega
      have hml : (ivs (mki k n)).length = n := by simp [mki]
      have hl : (fillS (ivs (mki k n)) xs j).length = n := by rw [fillS_length (by omega) (by rw [HX.out, hml])]; exact hml
      obtain ⟨u, hu⟩ : ∃ u, (fillS (ivs (mki k n)) xs j)[j]? = some u := ⟨_, List.getElem?_eq_getElem (by omega)⟩
      have HF := Lib.hid (fillS_set (xs := ivs (mki k n)) (zs := xs) (mki_at (k := k) hlt) (by rw [HX.out]; exact hlt))
      have hcO : wr.cell? ⟨g, j, none⟩ = some u := (how.out.cellAt j (by omega)).trans hu
      have hfO := how.out.frozenAt j
      have HS := Lib.hid (how.out.stored j (.int .i64 ((k + j : Nat) : Int))).1
      have HB : Hid (w.grownBy (wr.setCell ⟨g, j, none⟩ (.int .i64 ((k + j : Nat) : Int))) (Value.slice (some ⟨g, 0, none⟩) n c).ownBlock) := by_trans hbw.out (how.out.stored j (.int .i64 ((k + j : Nat) : Int))).2
      clear hu hl hml how hbw
      go_wp2
      go_roundw
      case rel => exact ⟨j + 1, by omega, by go_num, by go_num, (by show World.ownsRow _ _ _ _ _ _ _; rw [← HF.out]; exact HS.out), HB.out⟩
      case measure => simp [intOf]; omega
    · have hje : j = n := by omega
      have hltI : ¬ (j : Int) < (n : Int) := by omega
      have HF : Hid (fillS (ivs (mki k n)) xs j = ivs (mki k n)) := by show fillS _ _ _ = _; rw [hje]; exact fillS_all (by simp [mki]) (Nat.le_of_eq HX.out)
      have HJ := Lib.hid hje
      clear hje
      go_wp2
      go_ret
      refine ⟨by rw [HJ.out]; rfl, ?_, hbw.out⟩
      rw [← HF.out]
      exact how.out
theorem heldInt_any (k n c : Nat) (A : Option Addr) (w : World) (hk : 0 < k) (hkn : k + n ≤ 100000000) (hr : Law.Row w A (ivs (mki k n))) :
    Calls Try.prog 36 #[.slice A n c, .int .i64 (k : Int)] w fun e w' => e = .returned (.int .i64 ((k + n : Nat) : Int)) ∧ ∃ m, w' = w.drewN m := by
  have HR := Lib.hid hr
  clear hr
  go_enter Try.func36, Try.ntmps36
  go_wp2
  go_loopw [1, 5] (fun q i wr => ∃ j m : Nat, j ≤ n ∧ i = .int .i64 j ∧ q = .int .i64 ((k + j : Nat) : Int) ∧ wr = w.drewN m) (fun _ i _ => n - (intOf i).toNat)
  case atStart => exact ⟨0, 0, Nat.zero_le _, rfl, rfl, rfl⟩
  case round =>
    obtain ⟨j, m, hj, rfl, rfl, rfl⟩ := hrel
    by_cases hlt : j < n
    · obtain ⟨b, off, rfl, hbl, hc⟩ := HR.out.at_ (mki_at hlt)
      have hltI : (j : Int) < (n : Int) := by omega
      go_wp2
      go_roundw
      case rel => exact ⟨j + 1, m, by omega, by go_num, by go_num, rfl⟩
      case measure => simp [intOf]; omega
    · have hje : j = n := by omega
      have hltI : ¬ (j : Int) < (n : Int) := by omega
      have HJ := Lib.hid hje
      clear hje
      go_wp2
      go_ret
      exact ⟨by rw [HJ.out]; rfl, m, rfl⟩
/-- 'markIntS' from 1 on, behind draws: it writes the one row. -/
theorem markInt_one (base n c m : Nat) (A : Option Addr) (xs : List Value) (w : World) (hn : n ≤ 1048576) (ho : w.ownsRow base 3 1 (.slice A n c) n xs) :
    Calls Try.prog 31 #[.slice A n c, .int .i64 1] (w.drewN m) fun e w' => e = .returned (.int .i64 ((1 + n : Nat) : Int)) ∧ w'.ownsRow base 3 1 (.slice A n c) n (ivs (mki 1 n)) ∧ w.grownBy w' (Value.slice A n c).ownBlock :=
  (markInt_by base 1 n A c xs (w.drewN m) (by omega) (by omega) ho).mono fun _ _ ⟨h1, h2, h3⟩ => ⟨h1, h2, by_undraw h3⟩
theorem heldInt_one (n c : Nat) (A : Option Addr) (w : World) (hn : n ≤ 1048576) (hr : Law.Row w A (ivs (mki 1 n))) :
    Calls Try.prog 36 #[.slice A n c, .int .i64 1] w fun e w' => e = .returned (.int .i64 ((1 + n : Nat) : Int)) ∧ Below w.heap.size w w' :=
  (heldInt_any 1 n c A w (by omega) (by omega) hr).mono fun _ _ ⟨h1, m, h2⟩ => ⟨h1, by rw [h2]; exact Law.draws _ _ _⟩
end Go.Proofs.Ytammlkaclooohaa
