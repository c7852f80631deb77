/-
  The contract of the program's SplitString.
-/
import Derived.Test.YtopmmodekkfkdaaIter
import Derived.RangeFuncNested
namespace Go.Proofs.Ytopmmodekkfkdaa
open Go.RowKit Go.Shelf
attribute [local go_sem] Oper.semAt_some
abbrev svs' (ss : List ByteArray) : List Value := ss.map Value.string
theorem sp_len (s : ByteArray) (b : UInt8) : ∀ k, (sp s b k).1.length ≤ k
  | 0 => Nat.le_refl _
  | k + 1 => by
    have := sp_len s b k
    simp only [sp]
    split
    · rw [List.length_append, List.length_singleton]; omega
    · omega
theorem split_len (s : ByteArray) (b : UInt8) : (splitS s b).length ≤ s.size + 1 := by
  unfold splitS
  have := sp_len s b s.size
  rw [List.length_append, List.length_singleton]; omega
set_option maxRecDepth 100000 in
set_option maxHeartbeats 2000000 in
theorem splitGood_in (F : Fence) (n : Nat) (h3 : F.fn 10) (h4 : F.fn 27) (h5 : F.fn 36) (hro : F.round = none) (hn : 3 ≤ n)
    (s sep : ByteArray) (w : World) (hs : s.size ≤ 4000) (hs0 : 0 < sep.size) (hs1 : sep.size ≤ 1) :
    CallsIn F n Try.prog 10 #[.string s, .string sep] w fun e W' => ∃ v, e = .returned (.tuple #[v, .bool true]) ∧ W'.ownsRow w.heap.size 9 1 v (splitS s sep[0]).length (svs' (splitS s sep[0])) ∧ Below w.heap.size w W' := by
  have h1 : 1 ≤ n := by omega
  have hq : ((sep.size : Int) != 1) = false := by rw [bne_eq_false_iff_eq]; omega
  have hd : decide (4000 < (s.size : Int)) = false := by rw [decide_eq_false_iff_not]; omega
  have HL := Lib.hid (split_len s sep[0])
  obtain ⟨i0, hi, hz0, hz1, hz2⟩ := info_parts infoStr
  refine callsIn_of_wp_marks Try.func10 rfl h3 ?_ hro
  simp only [Try.ntmps10, List.size_toArray, List.length_cons, List.length_nil, Nat.reduceAdd, Nat.reduceSub, Array.replicate_succ, Array.replicate_zero, List.push_toArray, List.append_toArray, List.nil_append, List.cons_append]
  gi_wp2_with (gi_at_call 27; refine (partsOf_in F (n - 1) h4 hro _ _ _).mono ?_; rintro e w' ⟨rfl, rfl⟩)
  have b0 := ((((ownsRow_new w 9).alloc (.cells #[.slice (some ⟨w.heap.size, 0, none⟩) 0 0] 26)).alloc (.cells #[.string s] 9)).alloc (.cells #[.int .u8 (sep[0].toNat : Int)] 5))
  have bO := ((Boxed.new (w.alloc (.cells #[] 9)) 26 (.slice (some ⟨w.heap.size, 0, none⟩) 0 0)).alloc (.cells #[.string s] 9)).alloc (.cells #[.int .u8 (sep[0].toNat : Int)] 5)
  rw [World.size_alloc] at bO
  have bS := (Boxed.new ((w.alloc (.cells #[] 9)).alloc (.cells #[.slice (some ⟨w.heap.size, 0, none⟩) 0 0] 26)) 9 (.string s)).alloc (.cells #[.int .u8 (sep[0].toNat : Int)] 5)
  rw [World.size_alloc, World.size_alloc] at bS
  have bB := Boxed.new (((w.alloc (.cells #[] 9)).alloc (.cells #[.slice (some ⟨w.heap.size, 0, none⟩) 0 0] 26)).alloc (.cells #[.string s] 9)) 5 (.int .u8 (sep[0].toNat : Int))
  rw [World.size_alloc, World.size_alloc, World.size_alloc] at bB
  have hB0 : Below w.heap.size w ((((w.alloc (.cells #[] 9)).alloc (.cells #[.slice (some ⟨w.heap.size, 0, none⟩) 0 0] 26)).alloc (.cells #[.string s] 9)).alloc (.cells #[.int .u8 (sep[0].toNat : Int)] 5)) := ((((Below.refl _ w).alloc (Nat.le_refl _) _).alloc (by simp) _).alloc (by first | (simp; done) | (simp; omega)) _).alloc (by first | (simp; done) | (simp; omega)) _
  refine wpIn_rangeFunc_ownG hro h1 (gf := 36) (lb := #[.pointer (some ⟨w.heap.size + 1 + 1, 0, none⟩), .pointer (some ⟨w.heap.size + 1 + 1 + 1, 0, none⟩)]) rfl h5 (enters_of Try.func36 (by kernel_rfl) rfl)
    (parts_stops F (n - 1) h5 hro (by omega) (w.heap.size + 1 + 1) (w.heap.size + 1 + 1 + 1) s sep[0] hs _ (by first | (simp; done) | (simp; omega)) (by first | (simp; done) | (simp; omega)) bS.cell bB.cell) keepsCell_t (fun W l o o' _ h1 h2 _ => keepsCell_b _ W l o o' h1 h2) (Below.refl _ _) (fun _ => rfl)
    (fun pre W => (∃ v, Boxed W (w.heap.size + 1) 26 v ∧ W.ownsRow w.heap.size 9 1 v pre.length (svs' pre) ∧ True) ∧ Boxed W (w.heap.size + 1 + 1 + 1) 5 (.int .u8 (sep[0].toNat : Int)) ∧ Below w.heap.size w W)
    (fun _ _ _ => False)
    (OwnFrom.and (Own.from (holdsRow_own w.heap.size (w.heap.size + 1) 26 9 1 (fun pre : List ByteArray => pre.length) (fun pre => svs' pre) (fun _ _ => True)) _) (OwnFrom.and (Own.from (boxed_own _ _ _) _) (ownFrom_below (Nat.le_refl _) (by first | (simp; done) | (simp; omega)))))
    (fun _ _ _ _ _ hs _ _ => hs)
    ⟨⟨_, bO, b0, trivial⟩, bB, hB0⟩
    (fun x => { tmps := #[.string s, .string sep, undef, undef, .slice none 0 0, .bool false, .pointer (some ⟨w.heap.size + 1, 0, none⟩), .string x, .string s, .int .i64 s.size, .bool false, .bool false, .string sep, .int .i64 sep.size, .bool false, .bool false,
      undef, .slice (some ⟨w.heap.size, 0, none⟩) 0 0, .string s, .string sep, .int .u8 (sep[0].toNat : Int), .func (.func 36) #[] #[.pointer (some ⟨w.heap.size + 1 + 1, 0, none⟩), .pointer (some ⟨w.heap.size + 1 + 1 + 1, 0, none⟩)], .string x, undef, undef, undef, undef, undef], defers := [] }) ?assign ?body ?done ?stop
  case assign =>
    intro l x W K hK
    gi_wp2
    exact hK
  case body =>
    rintro l pre x W ⟨⟨v, hv, hrow, _⟩, hbx, hB⟩ hlt
    have hc := hv.cell
    have hpl := HL.out
    have hlen : pre.length + 1 ≤ 4001 := by omega
    clear hpl
    gi_wp2_with (gi_at_builtin; refine wpListIn_append_own _ rfl _ _ 26 rfl w.heap.size 9 i0 (.string ⟨#[]⟩) 1 16 Try.underlying26 hi hz0 hz1 hz2 rfl (by decide) _ _ _ rfl (hrow.alloc _) ⟨W.heap.size, 0, none⟩ 1 1 [.string x] rfl rfl (cell_one_new _ _ _) (by simp [Value.oneCell']) (by unfold maxLen; omega) (by omega) (by have := hB.size; simp; omega) ?_; intro v' w1 hown' hgrow _; obtain ⟨g', cap', rfl⟩ := ownsRow_succ hown'; obtain ⟨hv1, hv2, hr2, hk2, hb2⟩ := hv.appended (by decide) hrow hB.size (by omega) hown' hgrow; have hx1 := ((hbx.alloc _).kept hgrow (hbx.not_row (by decide) hrow)); have HX := Lib.hid (fun u : Value => hx1.other (B' := w.heap.size + 1) (by omega) u); clear hx1; have hc1 := hv1.cell; have hf1 := hv1.frozen)
    exact ⟨hk2.from _, fun u hu => by have e1 := hbx.cell; rw [hu] at e1; cases e1; exact (HX.out _).cell, ⟨_, hv2, by simpa using hr2, trivial⟩, HX.out _, hB.trans hb2⟩
  case done =>
    rintro D ys W hD rfl ⟨⟨v, hv, hrow, _⟩, _, hB⟩ hK
    have hc := hv.cell
    gi_wp2
    refine ⟨by simp, .inl ⟨_, _, rfl, run_takeDeferred hK, ?_⟩⟩
    exact ⟨_, results_tmp2 rfl _ _ _, v, rfl, ownsRow_putObj hrow _ hK rfl, hB.trans (belowK_b (w := w) (Nat.le_refl _) W D _ _ (by simp at hD; omega) hK rfl rfl)⟩
  case stop =>
    rintro D c pre W _ _ h _
    exact h.elim
theorem splitGood (s sep : ByteArray) (w : World) (hs : s.size ≤ 4000) (hs0 : 0 < sep.size) (hs1 : sep.size ≤ 1) :
    Calls Try.prog 10 #[.string s, .string sep] w fun e W' => ∃ v, e = .returned (.tuple #[v, .bool true]) ∧ W'.ownsRow w.heap.size 9 1 v (splitS s sep[0]).length (svs' (splitS s sep[0])) ∧ Below w.heap.size w W' :=
  (callsIn_wide (n := 3)).1 (splitGood_in Fence.wide 3 trivial trivial trivial rfl (by omega) s sep w hs hs0 hs1)
end Go.Proofs.Ytopmmodekkfkdaa
