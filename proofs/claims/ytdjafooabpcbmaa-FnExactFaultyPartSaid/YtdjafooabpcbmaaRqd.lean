/-
  The code's request: one step of a cache, whatever it is. A cache in a block of the call's own beside a row of the call's own: what a request and an append leave of both.
-/
import Derived.Test.YtdjafooabpcbmaaRqa
import Derived.Test.YtdjafooabpcbmaaRqb
import Derived.Test.YtdjafooabpcbmaaRqc
import Derived.Test.YtdjafooabpcbmaaCm
import Derived.Test.YtdjafooabpcbmaaBa
/- The code's request: one step of a cache, whatever it is. -/
namespace Go.Proofs.Ytdjafooabpcbmaa
open Go.RowKit
set_option linter.unusedVariables false
theorem erase_ins {l : List Int} {k : Nat} (x : Int) (hk : k < l.length) : (l.eraseIdx k).take k ++ x :: (l.eraseIdx k).drop k = l.set k x := by
  rw [List.eraseIdx_eq_take_drop_succ, List.set_eq_take_append_cons_drop, if_pos hk]
  have ht : (l.take k).length = k := by rw [List.length_take]; omega
  rw [List.take_append_of_le_length (by omega), List.take_of_length_le (by omega), List.drop_append, ht, Nat.sub_self, List.drop_of_length_le (by omega)]
  rfl
section
variable {W : World} {base b : Nat} {c : Ca} {vp vm : Value}
theorem request_any {n x : Int} (h : CB W base b c vp vm) (hbase : base ≤ W.heap.size) (hok : Q.okC n c) :
    Calls Try.prog 69 #[.pointer (some ⟨b, 0, none⟩), .int .i64 x] W (reqSays base b (decide (x ∉ c.ps)) (Q.stepC c x) W) := by
  obtain ⟨h1, h2, h3, h4, h5, h6, h7, h8⟩ := hok
  have hn : c.ps.length ≤ 6 := by omega
  have hpp : c.p = 1 ∨ c.p = 2 ∨ c.p = 3 ∨ c.p = 4 ∨ c.p = 5 ∨ c.p = 6 ∨ c.p = 7 := by omega
  obtain ⟨S, hs⟩ := Int.eq_ofNat_of_zero_le (show 0 ≤ c.s by omega)
  by_cases hx : x ∈ c.ps
  · rw [show decide (x ∉ c.ps) = false by simpa using hx, show Q.stepC c x = Q.hitC c (Q.pos x c.ps) from if_pos hx]
    rcases hpp with hp | hp | hp | hp | hp | hp | hp
    · rw [show Q.hitC c (Q.pos x c.ps) = { c with ps := c.ps.getD (Q.pos x c.ps) 0 :: c.ps.eraseIdx (Q.pos x c.ps) } by simp [Q.hitC, hp]]
      exact reqHit_1 h hbase hp hx hn
    · rw [show Q.hitC c (Q.pos x c.ps) = c by simp [Q.hitC, hp]]
      exact reqHit_2 h hbase hp hx hn
    · rw [show Q.hitC c (Q.pos x c.ps) = c by simp [Q.hitC, hp]]
      exact reqHit_3 h hbase hp hx hn
    · rw [show Q.hitC c (Q.pos x c.ps) = c by simp [Q.hitC, hp]]
      exact reqHit_4 h hbase hp hx hn
    · rw [show Q.hitC c (Q.pos x c.ps) = { c with ms := c.ms.set (Q.pos x c.ps) (min (c.ms.getD (Q.pos x c.ps) 0 + 1) 60) } by simp [Q.hitC, hp]]
      rw [if_pos hp] at h7
      exact reqHit_5 h hbase hp hx hn h7.1 h7.2
    · rw [show Q.hitC c (Q.pos x c.ps) = { c with ms := c.ms.set (Q.pos x c.ps) 1 } by simp [Q.hitC, hp]]
      rw [if_neg (by omega), if_pos hp] at h7
      exact reqHit_6 h hbase hp hx hn h7.1
    · rw [show Q.hitC c (Q.pos x c.ps) = { c with ps := c.ps.getD (Q.pos x c.ps) 0 :: c.ps.eraseIdx (Q.pos x c.ps) } by simp [Q.hitC, hp]]
      exact reqHit_7 h hbase hp hx hn
  · rw [show decide (x ∉ c.ps) = true by simpa using hx, show Q.stepC c x = Q.faultC c x from if_neg hx]
    by_cases hf : c.ps.length < S
    · have hf' : (c.ps.length : Int) < c.s := by omega
      rcases hpp with hp | hp | hp | hp | hp | hp | hp
      · rw [show Q.faultC c x = { c with ps := c.ps.take 0 ++ x :: c.ps.drop 0 } by simp [Q.faultC, hp, hf']]
        exact reqNew_1 h hbase hp hs (by omega) (by omega) hf hx
      · rw [show Q.faultC c x = { c with ps := c.ps.take 0 ++ x :: c.ps.drop 0 } by simp [Q.faultC, hp, hf']]
        exact reqNew_2 h hbase hp hs (by omega) (by omega) hf hx
      · rw [show Q.faultC c x = { c with ps := c.ps.take 0 ++ x :: c.ps.drop 0 } by simp [Q.faultC, hp, hf']]
        exact reqNew_3 h hbase hp hs (by omega) (by omega) hf hx
      · rw [show Q.faultC c x = { c with ps := c.ps.take 0 ++ x :: c.ps.drop 0 } by simp [Q.faultC, hp, hf']]
        exact reqNew_4 h hbase hp hs (by omega) (by omega) hf hx
      · rw [show Q.faultC c x = { c with ps := c.ps.take 0 ++ x :: c.ps.drop 0, ms := c.ms.take 0 ++ 1 :: c.ms.drop 0 } by simp [Q.faultC, hp, hf']]
        rw [if_pos hp] at h7
        exact reqNew_5 h hbase hp hs (by omega) (by omega) hf hx h7.1
      · rw [if_neg (by omega), if_pos hp] at h7
        rw [show Q.faultC c x = { c with ps := c.ps.take c.ps.length ++ x :: c.ps.drop c.ps.length, ms := c.ms.take c.ps.length ++ 1 :: c.ms.drop c.ps.length } by rw [← h7.1]; simp [Q.faultC, hp]; simp [h7.1, hf']]
        exact reqNew_6 h hbase hp hs (by omega) (by omega) hf hx h7.1
      · rw [show Q.faultC c x = { c with ps := c.ps.take 0 ++ x :: c.ps.drop 0 } by simp [Q.faultC, hp, hf']]
        exact reqNew_7 h hbase hp hs (by omega) (by omega) hf hx
    · have hf' : ¬ (c.ps.length : Int) < c.s := by omega
      have hfull : c.ps.length = S := by omega
      rcases hpp with hp | hp | hp | hp | hp | hp | hp
      · rw [show Q.faultC c x = { c with ps := (c.ps.eraseIdx (c.ps.length - 1)).take 0 ++ x :: (c.ps.eraseIdx (c.ps.length - 1)).drop 0 } by simp [Q.faultC, Q.roomC, hp, hf']]
        exact reqFull_1 h hbase hp hs (by omega) (by omega) hfull hx
      · rw [show Q.faultC c x = { c with ps := (c.ps.eraseIdx (c.ps.length - 1)).take 0 ++ x :: (c.ps.eraseIdx (c.ps.length - 1)).drop 0 } by simp [Q.faultC, Q.roomC, hp, hf']]
        exact reqFull_2 h hbase hp hs (by omega) (by omega) hfull hx
      · rw [show Q.faultC c x = { c with ps := (c.ps.eraseIdx 0).take 0 ++ x :: (c.ps.eraseIdx 0).drop 0 } by simp [Q.faultC, Q.roomC, hp, hf']]
        exact reqFull_3 h hbase hp hs (by omega) (by omega) hfull hx
      · rw [show Q.faultC c x = { c with ps := ([] : List Int).take 0 ++ x :: ([] : List Int).drop 0 } by simp [Q.faultC, Q.roomC, hp, hf']]
        exact reqFull_4 h hbase hp hs (by omega) (by omega) hfull hx
      · rw [if_pos hp] at h7
        rw [show Q.faultC c x = { c with ps := (c.ps.eraseIdx (Q.rare c.ms)).take 0 ++ x :: (c.ps.eraseIdx (Q.rare c.ms)).drop 0, ms := (c.ms.eraseIdx (Q.rare c.ms)).take 0 ++ 1 :: (c.ms.eraseIdx (Q.rare c.ms)).drop 0 } by simp [Q.faultC, Q.roomC, hp, hf']]
        exact reqFull_5 h hbase hp hs (by omega) (by omega) hfull hx h7.1
      · rw [if_neg (by omega), if_pos hp] at h7
        rw [if_pos ⟨hp, by omega⟩] at h8
        obtain ⟨hd, hh⟩ := Int.eq_ofNat_of_zero_le h8.1
        have hlt : hd < S := by omega
        have hpl := Q.pass_lt (ms := c.ms) (h := hd) (by omega)
        have hpn := Q.pass_len c.ms hd
        have hF := reqFull_6 h hbase hp hs (by omega) (by omega) hfull hx h7.1 hh hlt h7.2
        have e : Q.faultC c x = { c with ps := c.ps.set (Q.pass c.ms hd).1 x, ms := (Q.pass c.ms hd).2.set (Q.pass c.ms hd).1 1, h := (((Q.pass c.ms hd).1 + 1) % S : Nat) } := by
          unfold Q.faultC
          rw [if_pos hp, if_neg hf', hh, hs]
          rfl
        rw [e]
        have e1 := erase_ins x (show (Q.pass c.ms hd).1 < c.ps.length by omega)
        have e2 := erase_ins 1 (show (Q.pass c.ms hd).1 < (Q.pass c.ms hd).2.length by omega)
        rw [← e1, ← e2]
        exact hF
      · rw [show Q.faultC c x = { c with ps := (c.ps.eraseIdx 0).take 0 ++ x :: (c.ps.eraseIdx 0).drop 0 } by simp [Q.faultC, Q.roomC, hp, hf']]
        exact reqFull_7 h hbase hp hs (by omega) (by omega) hfull hx
end
end Go.Proofs.Ytdjafooabpcbmaa

/- A cache in a block of the call's own beside a row of the call's own: what a request and an append leave of both. -/
namespace Go.Proofs.Ytdjafooabpcbmaa
open Go.RowKit
set_option linter.unusedVariables false
theorem own_same {w w' : World} {base n : Nat} {e : TypeId} {v : Value} {xs : List Value} (h : w.ownsRow base e 1 v n xs) (hk : ∀ g, v.ownBlock = some g → w'.heap[g]? = w.heap[g]?) : w'.ownsRow base e 1 v n xs := by
  obtain ⟨hl, h⟩ := h
  refine ⟨hl, ?_⟩
  rcases h with hv | ⟨g, cap, cur, rfl, hb, hg, hr⟩
  · exact .inl hv
  · exact .inr ⟨g, cap, cur, rfl, hb, (hk g rfl).trans hg, hr⟩
theorem own_heap {w : World} {base n : Nat} {e : TypeId} {v : Value} {xs : List Value} (h : w.ownsRow base e 1 v n xs) {g : Nat} (hg : v.ownBlock = some g) : ∃ o, w.heap[g]? = some o := ⟨_, Array.getElem?_eq_getElem (h.lt g hg).2⟩
/-- The block of a row, as it is. -/
def keepZ (W : World) (v : Value) : Nat → Option Obj := fun k => if v.ownBlock = some k then W.heap[k]? else none
structure FB (b : Nat) (wr : World) (v : Value) (c : Ca) : Prop where
  ex : ∃ Z vp vm, CB wr b b { c with z := Z } vp vm ∧ ∀ g, v.ownBlock = some g → g ≠ b ∧ vp.ownBlock ≠ some g ∧ vm.ownBlock ≠ some g
namespace FB
variable {b m : Nat} {wr w1 : World} {v v' : Value} {c : Ca} {xs : List Value}
theorem hi (h : FB b wr v c) : b < wr.heap.size := by obtain ⟨Z, vp, vm, hc, _⟩ := h.ex; exact hc.hi
theorem zed (h : FB b wr v c) : ∃ vp vm, CB wr b b { c with z := keepZ wr v } vp vm := by
  obtain ⟨Z, vp, vm, hc, hd⟩ := h.ex
  refine ⟨vp, vm, hc.blk, hc.lo, hc.hi, hc.op, hc.om, hc.np, hc.nm, hc.ne, fun k o e => ?_⟩
  have e' : (if v.ownBlock = some k then wr.heap[k]? else none) = some o := e
  by_cases hk : v.ownBlock = some k
  · rw [if_pos hk] at e'
    exact ⟨e', hd k hk⟩
  · rw [if_neg hk] at e'
    cases e'
theorem request (h : FB b wr v c) {n x : Int} (hok : Q.okC n c) {B : Nat} (hv : wr.ownsRow B 3 1 v m xs) :
    Calls Try.prog 69 #[.pointer (some ⟨b, 0, none⟩), .int .i64 x] wr fun e w' => e = .returned (.bool (decide (x ∉ c.ps))) ∧ FB b w' v (Q.stepC c x) ∧ w'.ownsRow B 3 1 v m xs ∧ Below b wr w' := by
  obtain ⟨vp, vm, hc⟩ := h.zed
  refine (request_any (n := n) (x := x) hc (Nat.le_of_lt hc.hi) hok).mono ?_
  rintro e w' ⟨he, ⟨vp', vm', h'⟩, hb⟩
  rw [Q.stepC_z] at h'
  have hz : ∀ g, v.ownBlock = some g → w'.heap[g]? = wr.heap[g]? ∧ g ≠ b ∧ vp'.ownBlock ≠ some g ∧ vm'.ownBlock ≠ some g := fun g hg => by
    obtain ⟨o, ho⟩ := own_heap hv hg
    have h1 := h'.out g o (show (if v.ownBlock = some g then wr.heap[g]? else none) = some o by rw [if_pos hg, ho])
    exact ⟨h1.1.trans ho.symm, h1.2⟩
  exact ⟨he, ⟨_, vp', vm', h', fun g hg => (hz g hg).2⟩, own_same hv fun g hg => (hz g hg).1, hb⟩
theorem far (h : FB b wr v c) (hb : Below wr.heap.size wr w1) : FB b w1 v c := by
  obtain ⟨Z, vp, vm, hc, hd⟩ := h.ex
  exact ⟨Z, vp, vm, hc.below hb, hd⟩
/-- The row grows. -/
theorem app (h : FB b wr v c) (hg : wr.grownBy w1 v.ownBlock) (hn : atOrNew v wr v') : FB b w1 v' c := by
  obtain ⟨Z, vp, vm, hc, hd⟩ := h.ex
  have nb : v.ownBlock ≠ some b := fun e => (hd b e).1 rfl
  have kp : ∀ {u : Value}, (∀ g, v.ownBlock = some g → u.ownBlock ≠ some g) → u.ownBlock = none ∨ u.ownBlock ≠ v.ownBlock := fun {u} hu => by
    cases hv : u.ownBlock with
    | none => exact .inl rfl
    | some g => exact .inr fun e => hu g e.symm hv
  refine ⟨fun _ => none, vp, vm, ⟨hc.blk.kept (hg.block b hc.hi (fun e => nb e.symm)), hc.lo, Nat.lt_of_lt_of_le hc.hi hg.size, hc.op.kept hg (kp fun g e => (hd g e).2.1), hc.om.kept hg (kp fun g e => (hd g e).2.2), hc.np, hc.nm, hc.ne, fun k o e => by cases e⟩, fun g e => ?_⟩
  rcases hn with q | q
  · exact hd g (q ▸ e)
  · rw [q] at e
    injection e with e
    have h1 := hc.hi
    refine ⟨by omega, fun e' => ?_, fun e' => ?_⟩
    · have := (hc.op.lt g e').2; omega
    · have := (hc.om.lt g e').2; omega
end FB
end Go.Proofs.Ytdjafooabpcbmaa
