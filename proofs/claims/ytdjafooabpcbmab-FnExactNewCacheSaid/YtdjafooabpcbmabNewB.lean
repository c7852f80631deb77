/-
  The code's NewCache.
-/
import Derived.Test.YtdjafooabpcbmabIsc2
import Derived.Test.YtdjafooabpcbmabCacR
namespace Go.Proofs.Ytdjafooabpcbmab
open Go.RowKit
set_option linter.unusedVariables false
theorem Q.new_okC (n p s : Int) : Q.okC n (Q.newC p s) ↔ Q.okN n = true ∧ Q.sizes p s = true := by
  constructor
  · intro h
    have h' := (okC_iff n _).1 h
    refine ⟨Q.okN_iff.2 h'.1, ?_⟩
    have h2 := h'.2.1
    have h3 := h'.2.2.1
    simp only [Q.newC] at h2 h3
    simp [Q.sizes, h2, h3]
  · rintro ⟨h1, h2⟩
    have h3 : (1 ≤ p ∧ p ≤ 7) ∧ 1 ≤ s ∧ s ≤ 6 := by simpa [Q.sizes] using h2
    exact Q.new_ok (Q.okN_iff.1 h1) h3.1 h3.2
theorem heap_lt5 {W : World} {k : Nat} {o : Obj} (h : W.heap[k]? = some o) : k < W.heap.size := (Array.getElem?_eq_some_iff.1 h).1
/-- What is handed out: the empty cache and true, or nothing and false. -/
def newTup (p s : Int) : Bool → Value
  | true => .tuple #[.agg #[.int .i64 p, .int .i64 s, .slice none 0 0, .slice none 0 0, .int .i64 0], .bool true]
  | false => .tuple #[.agg #[.int .i64 0, .int .i64 0, .slice none 0 0, .slice none 0 0, .int .i64 0], .bool false]
theorem in_nil (W : World) (p s : Int) : CaIn W none 0 none 0 (Q.newC p s) := ⟨⟨Nat.le_refl _, Nat.zero_le _, fun h => absurd rfl h⟩, ⟨Nat.le_refl _, Nat.zero_le _, fun h => absurd rfl h⟩⟩
theorem al2 (W : World) (o0 o1 : Obj) : ((W.alloc o0).alloc o1).heap[W.heap.size]? = some o0 ∧ ((W.alloc o0).alloc o1).heap[W.heap.size + 1]? = some o1 ∧ ((W.alloc o0).alloc o1).heap.size = W.heap.size + 1 + 1 ∧ Below W.heap.size W ((W.alloc o0).alloc o1) := by
  have a1 : Below (W.alloc o0).heap.size (W.alloc o0) ((W.alloc o0).alloc o1) := (Below.refl _ _).alloc (Nat.le_refl _) _
  have s1 : (W.alloc o0).heap.size = W.heap.size + 1 := by simp
  refine ⟨?_, ?_, by simp, ((Below.refl W.heap.size W).alloc (Nat.le_refl _) _).alloc (by simp) _⟩
  · rw [a1.block _ (by omega)]
    exact heap_alloc_new W o0
  · rw [← s1]
    exact heap_alloc_new _ o1
set_option maxRecDepth 20000 in
set_option maxHeartbeats 800000 in
theorem impNew_any (n p s : Int) (W : World) : Calls Try.prog 19 #[.int .i64 n, .int .i64 p, .int .i64 s] W fun r W' => r = .returned (newTup p s (Q.okN n && Q.sizes p s)) ∧ Below W.heap.size W W' := by
  have hI := fun X => impIsCache_any (c := Q.newC p s) n (in_nil X p s) (Nat.zero_le _) (Nat.zero_le _)
  have hb : bo (Q.okC n (Q.newC p s)) = (Q.okN n && Q.sizes p s) := by
    cases h : (Q.okN n && Q.sizes p s)
    · exact bo_false fun h' => by have := (Q.new_okC n p s).1 h'; rw [this.1, this.2] at h; cases h
    · exact bo_true ((Q.new_okC n p s).2 ((Bool.and_eq_true _ _).mp h))
  unfold isSays at hI
  rw [hb] at hI
  have HI := Lib.hid hI
  unfold caV Q.newC at HI
  simp only [List.length_nil] at HI
  clear hI hb
  generalize (Q.okN n && Q.sizes p s) = ok at HI ⊢
  cases ok
  all_goals
    go_enter Try.func19, Try.ntmps19
    go_wp2_with fail
    have H2 := Lib.hid (al2 W (.cells #[.int .i64 0, .int .i64 0, .slice none 0 0, .slice none 0 0, .int .i64 0] 27) (.cells #[.int .i64 p, .int .i64 s, .slice none 0 0, .slice none 0 0, .int .i64 0] 27))
    generalize (W.alloc (.cells #[.int .i64 0, .int .i64 0, .slice none 0 0, .slice none 0 0, .int .i64 0] 27)).alloc (.cells #[.int .i64 p, .int .i64 s, .slice none 0 0, .slice none 0 0, .int .i64 0] 27) = X at H2 ⊢
    refine (HI.out X).mono ?_
    rintro r w1 ⟨rfl, hb1⟩
    have hsX := H2.out.2.2.1
    have HB0 := Lib.hid ((blk5_of H2.out.1).kept (hb1.block _ (by omega)))
    obtain ⟨c0, c1, c2, c3, c4, f0, f1, f2, f3, f4⟩ := HB0.out
    obtain ⟨d0, d1, d2, d3, d4, _, _, _, _, _⟩ := (blk5_of H2.out.2.1).kept (hb1.block _ (by omega))
    have HL := Lib.hid (H2.out.2.2.2.trans (hb1.mono (by omega)))
    clear hb1
    go_wp2
  · exact ret_ca rfl rfl rfl (HB0.out.all _ _ _ _ _) rfl ⟨rfl, below5 HL.out (Nat.le_refl _) _ _ _ _ _⟩
  · exact ret_ca rfl rfl rfl (HB0.out.all _ _ _ _ _) rfl ⟨rfl, below5 HL.out (Nat.le_refl _) _ _ _ _ _⟩
end Go.Proofs.Ytdjafooabpcbmab
