/-
  Caches that are marked in the laws' own helpers: 'markCache', 'heldCache'.
-/
import Derived.Test.YtdjafooabpcbmaaCaL
namespace Go.Proofs.Ytdjafooabpcbmaa
open Go.RowKit
set_option linter.unusedVariables false
/-- Nothing is written outside the blocks lo .. hi - 1, new memory aside. -/
structure Span (lo hi : Nat) (W W' : World) : Prop where
  os : W'.os = W.os
  tape : W'.tape = W.tape
  output : W'.output = W.output
  size : W.heap.size ≤ W'.heap.size
  block : ∀ k, k < W.heap.size → (k < lo ∨ hi ≤ k) → W'.heap[k]? = W.heap[k]?
namespace Span
variable {lo hi : Nat} {W W' W2 : World}
theorem below (h : Span lo hi W W') (hl : lo ≤ W.heap.size) : Below lo W W' := ⟨h.os, h.tape, h.output, h.size, fun k hk => h.block k (by omega) (.inl hk)⟩
theorem of_below (h : Below W.heap.size W W') : Span lo hi W W' := ⟨h.os, h.tape, h.output, h.size, fun k hk _ => h.block k hk⟩
theorem of_grown {A : Option Addr} {n d : Nat} (h : W.grownBy W' (Value.slice A n d).ownBlock) (hA : In lo hi A) : Span lo hi W W' := ⟨h.os, h.tape, h.output, h.size, fun k hk hout => h.block k hk (fun e => by
  cases A with
  | none => simp [Value.ownBlock] at e
  | some a =>
    have h1 := hA a rfl
    have h2 : k = a.block := by
      obtain ⟨b, off, sp⟩ := a
      cases sp <;> simp [Value.ownBlock] at e <;> first | exact e | exact e.symm | omega
    omega)⟩
theorem trans (h : Span lo hi W W') (k : Span lo hi W' W2) : Span lo hi W W2 := ⟨k.os.trans h.os, k.tape.trans h.tape, k.output.trans h.output, Nat.le_trans h.size k.size, fun i hi' ho => (k.block i (Nat.lt_of_lt_of_le hi' h.size) ho).trans (h.block i hi' ho)⟩
theorem row (h : Span lo hi W W') {X : Option Addr} {xs : List Value} (hr : Law.Row W X xs) {l2 h2 : Nat} (hX : In l2 h2 X) (hd : h2 ≤ lo ∨ hi ≤ l2) : Law.Row W' X xs := fun hx => by
  obtain ⟨b, off, rfl, hb, hc⟩ := hr hx
  have := hX _ rfl
  simp only [] at this
  refine ⟨b, off, rfl, Nat.lt_of_lt_of_le hb h.size, fun j u hu => ?_⟩
  exact (World.cell?_of_block (a := ⟨b, off + j, none⟩) (h.block b hb (by omega))).trans (hc j u hu)
theorem blk (h : Span lo hi W W') {b : Nat} {v0 v1 v2 v3 v4 : Value} (hB : Blk5 W b v0 v1 v2 v3 v4) (hb : b < lo ∨ hi ≤ b) (hlt : b < W.heap.size) : Blk5 W' b v0 v1 v2 v3 v4 := hB.kept (h.block b hlt hb)
end Span
section
variable {W : World} {A B : Option Addr} {d e : Nat} {c : Ca}
set_option maxRecDepth 20000 in
set_option maxHeartbeats 1600000 in
theorem markCache_any {lo hi k : Nat} (hp : W.ownsRow lo 3 1 (.slice A c.ps.length d) c.ps.length (ivs c.ps)) (hm : W.ownsRow lo 3 1 (.slice B c.ms.length e) c.ms.length (ivs c.ms)) (hd : Dis A B) (hA : In lo hi A) (hB : In lo hi B) (hhi : hi ≤ W.heap.size) (hk : 0 < k) (hs : k + c.ps.length + c.ms.length ≤ 100000000) :
    Calls Try.prog 20 #[caV c A d B e, .int .i64 (k : Int)] W fun r W' => r = .returned (.int .i64 ((k + c.ps.length + c.ms.length : Nat) : Int)) ∧ W'.ownsRow lo 3 1 (.slice A c.ps.length d) c.ps.length (ivs (mki k c.ps.length)) ∧ W'.ownsRow lo 3 1 (.slice B c.ms.length e) c.ms.length (ivs (mki (k + c.ps.length) c.ms.length)) ∧ Span lo hi W W' := by
  have b0 : Below W.heap.size W (W.alloc (.cells #[.int .i64 c.p, .int .i64 c.s, .slice A c.ps.length d, .slice B c.ms.length e, .int .i64 c.h] 26)) := (Below.refl _ _).alloc (Nat.le_refl _) _
  have HP := Lib.hid (own_past hp b0)
  have HM := Lib.hid (own_past hm b0)
  have P0 := Lib.hid (blk5_of (heap_alloc_new W (.cells #[.int .i64 c.p, .int .i64 c.s, .slice A c.ps.length d, .slice B c.ms.length e, .int .i64 c.h] 26)))
  have S0 := Lib.hid (Span.of_below (lo := lo) (hi := hi) b0)
  have hs0 : W.heap.size < (W.alloc (.cells #[.int .i64 c.p, .int .i64 c.s, .slice A c.ps.length d, .slice B c.ms.length e, .int .i64 c.h] 26)).heap.size := by simp
  have HD := Lib.hid hd
  have HIA := Lib.hid hA
  have HIB := Lib.hid hB
  clear hp hm hd b0 hA hB
  unfold caV
  go_enter Try.func20, Try.ntmps20
  go_wp2_with fail
  generalize W.alloc (.cells #[.int .i64 c.p, .int .i64 c.s, .slice A c.ps.length d, .slice B c.ms.length e, .int .i64 c.h] 26) = X at HP HM P0 S0 hs0 ⊢
  obtain ⟨p0, p1, p2, p3, p4, _, _, _, _, _⟩ := P0.out
  go_wp2_with fail
  go_at_call 26
  refine (markInt_by lo k c.ps.length A d _ X hk (by omega) HP.out).mono ?_
  rintro r w1 ⟨rfl, ho1, hg1⟩
  have S1 := Lib.hid (Span.of_grown hg1 HIA.out)
  have P1 := Lib.hid (S1.out.blk P0.out (.inr hhi) hs0)
  have HM1 := Lib.hid (HM.out.kept hg1 (by
    cases B with
    | none => exact .inl rfl
    | some b =>
      refine .inr fun e => ?_
      cases A with
      | none => simp [Value.ownBlock] at e
      | some a =>
        have h1 := HD.out a b rfl rfl
        obtain ⟨ab, ao, asp⟩ := a
        obtain ⟨bb, bo', bsp⟩ := b
        cases asp <;> cases bsp <;> simp [Value.ownBlock] at e h1 <;> omega))
  have HO1 := Lib.hid ho1
  have hs1 : W.heap.size < w1.heap.size := Nat.lt_of_lt_of_le hs0 hg1.size
  clear ho1 hg1 p0 p1 p2 p3 p4
  obtain ⟨p0, p1, p2, p3, p4, _, _, _, _, _⟩ := P1.out
  have hkk : 0 < k + c.ps.length := by omega
  go_wp2_with fail
  go_at_call 26
  refine (markInt_by lo (k + c.ps.length) c.ms.length B e _ w1 hkk (by omega) HM1.out).mono ?_
  rintro r w2 ⟨rfl, ho2, hg2⟩
  have S2 := Lib.hid ((S0.out.trans S1.out).trans (Span.of_grown hg2 HIB.out))
  have HO2 := Lib.hid (HO1.out.kept hg2 (by
    cases A with
    | none => exact .inl rfl
    | some a =>
      refine .inr fun e => ?_
      cases B with
      | none => simp [Value.ownBlock] at e
      | some b =>
        have h1 := HD.out a b rfl rfl
        obtain ⟨ab, ao, asp⟩ := a
        obtain ⟨bb, bo', bsp⟩ := b
        cases asp <;> cases bsp <;> simp [Value.ownBlock] at e h1 <;> omega))
  have HQ2 := Lib.hid ho2
  clear ho2 hg2 p0 p1 p2 p3 p4
  go_wp2
  go_ret
  exact ⟨rfl, HO2.out, HQ2.out, S2.out⟩
set_option maxRecDepth 20000 in
set_option maxHeartbeats 1600000 in
theorem heldCache_any {k : Nat} (hk : 0 < k) (hs : k + c.ps.length + c.ms.length ≤ 100000000) (hp : Law.Row W A (ivs (mki k c.ps.length))) (hm : Law.Row W B (ivs (mki (k + c.ps.length) c.ms.length))) :
    Calls Try.prog 21 #[caV c A d B e, .int .i64 (k : Int)] W fun r W' => r = .returned (.int .i64 ((k + c.ps.length + c.ms.length : Nat) : Int)) ∧ Below W.heap.size W W' := by
  have b0 : Below W.heap.size W (W.alloc (.cells #[.int .i64 c.p, .int .i64 c.s, .slice A c.ps.length d, .slice B c.ms.length e, .int .i64 c.h] 26)) := (Below.refl _ _).alloc (Nat.le_refl _) _
  have HP := Lib.hid (hp.stays b0)
  have HM := Lib.hid (hm.stays b0)
  have P0 := Lib.hid (blk5_of (heap_alloc_new W (.cells #[.int .i64 c.p, .int .i64 c.s, .slice A c.ps.length d, .slice B c.ms.length e, .int .i64 c.h] 26)))
  have L0 := Lib.hid b0
  clear hp hm b0
  unfold caV
  go_enter Try.func21, Try.ntmps21
  go_wp2_with fail
  generalize W.alloc (.cells #[.int .i64 c.p, .int .i64 c.s, .slice A c.ps.length d, .slice B c.ms.length e, .int .i64 c.h] 26) = X at HP HM P0 L0 ⊢
  obtain ⟨p0, p1, p2, p3, p4, _, _, _, _, _⟩ := P0.out
  go_wp2_with fail
  go_at_call 29
  refine (heldInt_any k c.ps.length d A X hk (by omega) HP.out).mono ?_
  rintro r w1 ⟨rfl, m, rfl⟩
  have h1 : ¬ ((k + c.ps.length : Nat) : Int) < 0 := by omega
  have h2 : ¬ ((k + c.ps.length + c.ms.length : Nat) : Int) < 0 := by omega
  have hkk : 0 < k + c.ps.length := by omega
  have HM1 := Lib.hid (HM.out.drewN m)
  go_wp2_with fail
  go_at_call 29
  refine (heldInt_any (k + c.ps.length) c.ms.length e B _ hkk (by omega) HM1.out).mono ?_
  rintro r w2 ⟨rfl, m2, rfl⟩
  go_wp2
  go_ret
  exact ⟨rfl, Law.up L0.out _⟩
end
end Go.Proofs.Ytdjafooabpcbmaa
