/-
  What the model's draws hand back: small texts; nothing old has turned.
-/
import Derived.Test.YtopmmodekkfkdaaCur
import Derived.Laws.IdiomStrings
namespace Go.Proofs.Ytopmmodekkfkdaa
open Go.RowKit
set_option linter.unusedVariables false
theorem cur_new (w : World) (A : Option Addr) (n c : Nat) : Cur (w.alloc (.cells #[.slice A n c, .int .i64 0, .int .u64 0] 44)) w.heap.size A n c 0 0 := heap_alloc_new w _
theorem cur_grown {w w' : World} {g : Nat} {A : Option Addr} {n c i : Nat} {sd : Int} {row : Option Nat} (h : Cur w g A n c i sd) (hg : w.grownBy w' row) (hne : row = some g → False) : Cur w' g A n c i sd := (hg.block g h.lt (fun e => hne e.symm)).trans h
theorem tch_grown {g : Nat} {a w w' : World} {row : Option Nat} (h : Tch g a w) (hg : w.grownBy w' row) (hr : ∀ j, row = some j → a.heap.size ≤ j ∨ j = g) : Tch g a w' :=
  h.trans_from ⟨hg.os, hg.tape, hg.output, hg.size⟩ (fun k hk hne => hg.block k (Nat.lt_of_lt_of_le hk h.size) (fun e => by rcases hr k e.symm with h1 | h1 <;> omega))
/-- Two small texts. -/
def TwoSays (m n : Nat) (w : World) (e : Ending) (w' : World) : Prop :=
  ∃ s t : ByteArray, e = .returned (.tuple #[.string s, .string t]) ∧ s.size ≤ m ∧ t.size ≤ n ∧ Below w.heap.size w w'
set_option maxHeartbeats 1600000 in
theorem drawLess_any (A : Option Addr) (c : Nat) (bs : List UInt8) (w : World) (hn : bs.length ≤ 65536) (hr : Law.Row w A (bvs bs)) :
    Calls Try.prog 14 #[.slice A bs.length c] w (TwoSays 10 10 w) := by
  have HR := Lib.hid hr
  have HN := Lib.hid (row_far hr (Nat.le_refl _))
  clear hr
  go_enter Try.func14, Try.ntmps14
  go_wp2_with fail
  go_at_call 25
  refine (any1_any w.heap.size A c 0 0 bs _ (by omega) hn (row_alloc HR.out _) HN.out (cur_new w A _ c)).mono ?_
  rintro e w1 ⟨v1, i1, sd1, rfl, ⟨t1, rfl, ht1⟩, hc1, hi1, hT1⟩
  have HC1 := Lib.hid hc1
  have HT1 := Lib.hid (((Tch.refl w.heap.size w).alloc _).trans hT1)
  have HR1 := Lib.hid (row_tch HR.out HT1.out HN.out)
  clear hc1 hT1
  go_wp2_with fail
  go_at_call 25
  refine (any1_any w.heap.size A c i1 sd1 bs _ (by omega) hn HR1.out HN.out HC1.out).mono ?_
  rintro e w2 ⟨v2, i2, sd2, rfl, ⟨t2, rfl, ht2⟩, hc2, hi2, hT2⟩
  have HT2 := Lib.hid (HT1.out.trans hT2)
  clear hc2 hT2
  go_wp2
  go_ret2
  exact ⟨t1, t2, rfl, ht1, ht2, HT2.out.below (Nat.le_refl _) (Nat.le_refl _)⟩
abbrev sepL : List ByteArray := [⟨#[44]⟩, ⟨#[44]⟩, ⟨#[32]⟩, ⟨#[]⟩, ⟨#[44, 44]⟩]
theorem sepL_size : ∀ t ∈ sepL, t.size ≤ 2 := by decide
set_option maxHeartbeats 1600000 in
theorem drawSplit_any (A : Option Addr) (c : Nat) (bs : List UInt8) (w : World) (hn : bs.length ≤ 65536) (hr : Law.Row w A (bvs bs)) :
    Calls Try.prog 9 #[.slice A bs.length c] w (TwoSays 10 2 w) := by
  have HR := Lib.hid hr
  have HN := Lib.hid (row_far hr (Nat.le_refl _))
  clear hr
  go_enter Try.func9, Try.ntmps9
  go_wp2_with fail
  go_at_call 25
  refine (any1_any w.heap.size A c 0 0 bs _ (by omega) hn (row_alloc HR.out _) HN.out (cur_new w A _ c)).mono ?_
  rintro e w1 ⟨v1, i1, sd1, rfl, ⟨t1, rfl, ht1⟩, hc1, hi1, hT1⟩
  have HC1 := Lib.hid hc1
  have HT1 := Lib.hid (((Tch.refl w.heap.size w).alloc _).trans hT1)
  have HR1 := Lib.hid (row_tch HR.out HT1.out HN.out)
  clear hc1 hT1
  go_wp2_with fail
  go_at_call 26
  refine (of_any w.heap.size A _ c _ i1 sd1 bs sepL _ (by omega) hn (by decide) (by decide) (row_alloc HR1.out _) HN.out (row_lit w1 9 (svs sepL)) (row_lit_ne w.heap.size w1 _ HC1.out.lt) (HC1.out.alloc _)).mono ?_
  rintro e w2 ⟨v2, i2, sd2, rfl, ⟨t2, rfl, ht2⟩, hc2, hi2, hT2⟩
  have HT2 := Lib.hid ((HT1.out.alloc _).trans hT2)
  have HS := Lib.hid (sepL_size t2 ht2)
  clear hc2 hT2 ht2
  go_wp2
  go_ret2
  exact ⟨t1, t2, rfl, ht1, HS.out, HT2.out.below (Nat.le_refl _) (Nat.le_refl _)⟩
theorem own_tch {w w' : World} {base g : Nat} {e : TypeId} {v : Value} {n : Nat} {xs : List Value} (h : w.ownsRow base e 1 v n xs) (ht : Tch g w w') (hg : g < base) : w'.ownsRow base e 1 v n xs :=
  h.kept (row := some g) ⟨ht.os, ht.tape, ht.output, ht.size, fun i hi hne => ht.block i hi (fun e => hne (by rw [e]))⟩ (.inr (fun e => by have := (h.lt _ e).1; omega))
theorem own_below {w w' : World} {base : Nat} {e : TypeId} {v : Value} {n : Nat} {xs : List Value} (h : w.ownsRow base e 1 v n xs) (hb : Below w.heap.size w w') : w'.ownsRow base e 1 v n xs :=
  h.kept (row := none) ⟨hb.os, hb.tape, hb.output, hb.size, fun i hi _ => hb.block i hi⟩ (by cases hv : v.ownBlock <;> simp)
theorem own_new' (w : World) (e : TypeId) (base : Nat) (hb : base ≤ w.heap.size) : (w.alloc (.cells #[] e)).ownsRow base e 1 (.slice (some ⟨w.heap.size, 0, none⟩) 0 0) 0 [] :=
  ⟨rfl, .inr ⟨w.heap.size, 0, #[], rfl, hb, heap_alloc_new w _, Nat.le_refl _, Nat.zero_le _, rfl, rfl⟩⟩
theorem one_any (g : Nat) (A : Option Addr) (c i : Nat) (sd : Int) (bs : List UInt8) (m : Nat) (w : World) (hi : i ≤ 999998) (hn : bs.length ≤ 65536) (hm1 : 1 ≤ m) (hm : m ≤ 60000) (hr : Law.Row w A (bvs bs)) (hne : bvs bs ≠ [] → ∀ b off, A = some ⟨b, off, none⟩ → b ≠ g) (hc : Cur w g A bs.length c i sd) :
    Calls Try.prog 29 #[.pointer (some ⟨g, 0, none⟩), .int .i64 (m : Int)] w (CurSays g A bs.length c i 2 (fun v => ∃ b, v = .bool b) w) := by
  have HC := Lib.hid hc
  have HR := Lib.hid hr
  have HN := Lib.hid hne
  clear hc hr hne
  go_enter Try.func29, Try.ntmps29
  go_wp2_with fail
  go_at_call 28
  refine (pick_any g A c i sd bs m _ hi hn hm1 hm HR.out HN.out HC.out).mono ?_
  rintro e w1 ⟨v1, i1, sd1, rfl, ⟨x, rfl, hx⟩, hc1, hi1, ht1⟩
  have HC1 := Lib.hid hc1
  have HT1 := Lib.hid ht1
  clear hc1 ht1
  go_wp2
  go_ret
  exact ⟨_, i1, sd1, rfl, ⟨_, rfl⟩, HC1.out, hi1, HT1.out⟩
abbrev markL : List ByteArray := [⟨#[44]⟩, ⟨#[59]⟩, ⟨#[59]⟩, ⟨#[]⟩, ⟨#[97, 98]⟩]
theorem markL_size : ∀ t ∈ markL, t.size ≤ 2 := by decide
theorem mem_snoc_size {ps : List ByteArray} {x : ByteArray} {B : Nat} (h : ∀ s ∈ ps, s.size ≤ B) (hx : x.size ≤ B) : ∀ s ∈ ps ++ [x], s.size ≤ B := fun s hs => by
  rcases List.mem_append.1 hs with hs | hs
  · exact h s hs
  · obtain rfl := List.mem_singleton.1 hs; exact hx
theorem svs_snoc (ps : List ByteArray) (x : ByteArray) : svs (ps ++ [x]) = svs ps ++ [.string x] := by simp
theorem conv_zeros {base : Nat} (b n : Nat) (w : World) (h : w.ownsRow base 5 1 (.slice (some ⟨b, 0, none⟩) n n) n (madeCells #[.int .u8 0] n).toList) :
    ∃ Z : ByteArray, Z.size = n ∧ (convert 22 9 (.slice (some ⟨b, 0, none⟩) n n)).run Try.prog w = .ok (.string Z) w := by
  have hr := run_convert_bytes_back (P := Try.prog) w 22 9 5 ⟨b, 0, none⟩ n (List.replicate n (0 : UInt8)) Try.underlying22 Try.underlying5 Try.underlying9 (fun j hj => by
    rw [List.length_replicate] at hj
    rw [Law.add_plain, Nat.zero_add, h.cellAt j (by omega), toList_madeCells_one]
    simp [hj])
  rw [List.length_replicate] at hr
  exact ⟨_, by simp [ByteArray.size], hr⟩
/-- A few strings of moderate size, and a small one. -/
def JoinSays (w : World) (e : Ending) (w' : World) : Prop :=
  ∃ (v : Value) (ss : List ByteArray) (t : ByteArray), e = .returned (.tuple #[v, .string t]) ∧ w'.ownsRow (w.heap.size + 1) 9 1 v ss.length (svs ss) ∧ ss.length ≤ 5 ∧ (∀ s ∈ ss, s.size ≤ 4020) ∧ t.size ≤ 2 ∧ Below w.heap.size w w'
theorem infoU8 : (Try.prog.info? 5).map (fun i => (i.zero, i.size, i.bytes)) = some (some (.int .u8 0), 1, 1) := by kernel_rfl
set_option maxHeartbeats 3200000 in
theorem drawJoin_any (A : Option Addr) (c : Nat) (bs : List UInt8) (w : World) (hn : bs.length ≤ 65536) (hr : Law.Row w A (bvs bs)) :
    Calls Try.prog 11 #[.slice A bs.length c] w (JoinSays w) := by
  have HR := Lib.hid hr
  have HN := Lib.hid (row_far hr (Nat.le_refl _))
  obtain ⟨i0, hi, hz0, hz1, hz2⟩ := info_parts infoStrs
  obtain ⟨j0, hj, hy0, hy1, hy2⟩ := info_parts infoU8
  clear hr
  go_enter Try.func11, Try.ntmps11
  go_wp2_with fail
  go_at_call 28
  have HO0 := Lib.hid (own_new' (w.alloc (.cells #[.slice A bs.length c, .int .i64 0, .int .u64 0] 44)) 9 (w.heap.size + 1) (by simp))
  rw [World.size_alloc] at HO0
  refine (pick_any w.heap.size A c 0 0 bs 4 _ (by omega) hn (by omega) (by omega) (row_alloc (row_alloc HR.out _) _) HN.out ((cur_new w A _ c).alloc _)).mono ?_
  rintro e w1 ⟨v1, i1, sd1, rfl, ⟨x, rfl, hx⟩, hc1, hi1, hT1⟩
  have HC1 := Lib.hid hc1
  have HO1 := Lib.hid (own_tch HO0.out hT1 (Nat.lt_succ_self _))
  have HT1 := Lib.hid ((((Tch.refl w.heap.size w).alloc _).alloc _).trans hT1)
  clear hc1 hT1 HO0
  go_wp2_with fail
  go_loopw [5, 7] (fun v i wr => ∃ (k i' : Nat) (sd' : Int) (ps : List ByteArray), i = .int .i64 k ∧ k ≤ x ∧ i' ≤ 2 + 2 * k ∧ ps.length ≤ k ∧ Hid (wr.ownsRow (w.heap.size + 1) 9 1 v ps.length (svs ps)) ∧ Hid (∀ s ∈ ps, s.size ≤ 4020) ∧ Hid (Cur wr w.heap.size A bs.length c i' sd') ∧ Hid (Tch w.heap.size w wr)) (fun _ i _ => x - (intOf i).toNat)
  case atStart => exact ⟨0, i1, sd1, [], rfl, Nat.zero_le _, by omega, Nat.le_refl _, HO1.out, fun s hs => by simp at hs, HC1.out, HT1.out⟩
  case round =>
    obtain ⟨k, i2, sd2, ps, rfl, hk, hi2, hpl, HO2, HP2, HC2, HT2⟩ := hrel
    have HR2 := Lib.hid (row_tch HR.out HT2.out HN.out)
    by_cases hlt : k < x
    · go_wp2_with fail
      go_at_call 25
      refine (any1_any w.heap.size A c i2 sd2 bs _ (by omega) hn HR2.out HN.out HC2.out).mono ?_
      rintro e w3 ⟨v3, i3, sd3, rfl, ⟨t3, rfl, ht3⟩, hc3, hi3, hT3⟩
      have HC3 := Lib.hid hc3
      have ho3 := own_tch HO2.out hT3 (Nat.lt_succ_self _)
      have hs3 : w.heap.size + 1 ≤ w3.heap.size := by have := HC3.out.lt; omega
      have HT3 := Lib.hid (HT2.out.trans hT3)
      clear hc3 hT3
      go_wp2_with (at_builtin; refine wpList_append_own _ rfl _ _ 26 rfl (w.heap.size + 1) 9 i0 (.string ⟨#[]⟩) 1 16 Try.underlying26 hi hz0 hz1 hz2 rfl (by decide) _ _ _ rfl (ho3.alloc _) ⟨w3.heap.size, 0, none⟩ 1 1 [.string t3] rfl rfl ?c1 ?c2 ?c3 ?c4 ?c5 ?_)
      case c1 =>
        intro j u hj
        match j, hj with
        | 0, hj => simp at hj; subst hj; simp [Addr.add]
      case c2 => intro u hu; simp at hu; subst hu; rfl
      case c3 => unfold maxLen; omega
      case c4 => omega
      case c5 => simp; omega
      intro v4 w4 hown4 hg4 _
      have HO4 := Lib.hid hown4
      have HC4 := Lib.hid (cur_grown (HC3.out.alloc (.cells #[.string t3] 9)) hg4 (fun e => by have := (ho3.lt _ e).1; omega))
      have HT4 := Lib.hid (tch_grown (HT3.out.alloc (.cells #[.string t3] 9)) hg4 (fun j e => by have := (ho3.lt _ e).1; omega))
      clear hown4 hg4 ho3
      go_wp2
      go_roundw
      case rel => exact ⟨k + 1, i3, sd3, ps ++ [t3], by go_num, by omega, by omega, by simp; omega, (by rw [svs_snoc, List.length_append]; exact HO4.out), mem_snoc_size HP2.out (by omega), HC4.out, HT4.out⟩
      case measure => simp [intOf]; omega
    · go_wp2_with fail
      go_at_call 29
      refine (one_any w.heap.size A c i2 sd2 bs 20 _ (by omega) hn (by omega) (by omega) HR2.out HN.out HC2.out).mono ?_
      rintro e w3 ⟨v3, i3, sd3, rfl, ⟨b3, rfl⟩, hc3, hi3, hT3⟩
      have HC3 := Lib.hid hc3
      have HO3 := Lib.hid (own_tch HO2.out hT3 (Nat.lt_succ_self _))
      have HR3 := Lib.hid (row_tch HR2.out hT3 HN.out)
      have HT3 := Lib.hid (HT2.out.trans hT3)
      have HP3 := HP2
      have hl3 : ps.length ≤ 5 := by omega
      clear hc3 hT3
      cases b3
      · go_wp2_with fail
        go_at_call 26
        refine (of_any w.heap.size A _ c _ i3 sd3 bs markL _ (by omega) hn (by decide) (by decide) (row_alloc HR3.out _) HN.out (row_lit w3 9 (svs markL)) (row_lit_ne w.heap.size w3 _ HC3.out.lt) (HC3.out.alloc _)).mono ?_
        rintro e w9 ⟨v9, i9, sd9, rfl, ⟨t9, rfl, ht9⟩, hc9, hi9, hT9⟩
        have HT9 := Lib.hid ((HT3.out.alloc _).trans hT9)
        have HS := Lib.hid (markL_size t9 ht9)
        have HO9 := Lib.hid (own_tch (own_below HO3.out ((Below.refl _ w3).alloc (Nat.le_refl _) (.cells (svs markL).toArray 9))) hT9 (Nat.lt_succ_self _))
        clear hc9 hT9 ht9
        go_wp2
        go_ret2
        exact ⟨_, _, t9, rfl, HO9.out, hl3, HP3.out, HS.out, HT9.out.below (Nat.le_refl _) (Nat.le_refl _)⟩
      · go_wp2_with fail
        go_at_call 28
        refine (pick_any w.heap.size A c i3 sd3 bs 20 _ (by omega) hn (by omega) (by omega) HR3.out HN.out HC3.out).mono ?_
        rintro e w5 ⟨v5, i5, sd5, rfl, ⟨x5, rfl, hx5⟩, hc5, hi5, hT5⟩
        have HC5 := Lib.hid hc5
        have HO5 := Lib.hid (own_tch HO3.out hT5 (Nat.lt_succ_self _))
        have HR5 := Lib.hid (row_tch HR3.out hT5 HN.out)
        have HT5 := Lib.hid (HT3.out.trans hT5)
        have hs5 : w.heap.size + 1 ≤ w5.heap.size := by have := HC5.out.lt; omega
        clear hc5 hT5
        go_wp2_with (at_make; refine wpList_make_full _ rfl _ _ 22 rfl (w.heap.size + 1) 5 j0 (.int .u8 0) 1 Try.underlying22 hj hy0 hy1 .i64 .i64 _ _ (3990 + x5) rfl rfl rfl rfl ?m1 ?m2 ?m3 ?_)
        case m1 => rw [hy2]; omega
        case m2 => unfold maxLen; omega
        case m3 => exact hs5
        intro w6 hown6 hg6
        obtain ⟨Z, hZ, hconv⟩ := conv_zeros w5.heap.size (3990 + x5) w6 hown6
        have hZ' : Z.size ≤ 4020 := by omega
        have ho6 := HO5.out.kept hg6 (by cases hv : Value.ownBlock _ <;> simp)
        have HC6 := Lib.hid (cur_grown HC5.out hg6 (fun e => by cases e))
        have HT6 := Lib.hid (tch_grown HT5.out hg6 (fun j e => by cases e))
        have HR6 := Lib.hid (HR5.out.stays ((Below.refl _ _).grown hg6 (Nat.le_refl _) (fun k e => by cases e)))
        have hs6 : w.heap.size + 1 ≤ w6.heap.size := by have := hg6.size; omega
        clear hown6 hg6 hZ
        go_wp2_with (at_builtin; refine wpList_append_own _ rfl _ _ 26 rfl (w.heap.size + 1) 9 i0 (.string ⟨#[]⟩) 1 16 Try.underlying26 hi hz0 hz1 hz2 rfl (by decide) _ _ _ rfl (ho6.alloc _) ⟨w6.heap.size, 0, none⟩ 1 1 [.string Z] rfl rfl ?d1 ?d2 ?d3 ?d4 ?d5 ?_)
        case d1 =>
          intro j u hj
          match j, hj with
          | 0, hj => simp at hj; subst hj; simp [Addr.add]
        case d2 => intro u hu; simp at hu; subst hu; rfl
        case d3 => unfold maxLen; omega
        case d4 => omega
        case d5 => simp; omega
        intro v7 w7 hown7 hg7 _
        have HO7 : Hid (w7.ownsRow (w.heap.size + 1) 9 1 v7 (ps ++ [Z]).length (svs (ps ++ [Z]))) := by show World.ownsRow _ _ _ _ _ _ _; rw [svs_snoc, List.length_append]; exact hown7
        have HC7 := Lib.hid (cur_grown (HC6.out.alloc (.cells #[.string Z] 9)) hg7 (fun e => by have := (ho6.lt _ e).1; omega))
        have HT7 := Lib.hid (tch_grown (HT6.out.alloc (.cells #[.string Z] 9)) hg7 (fun j e => by have := (ho6.lt _ e).1; omega))
        have HR7 := Lib.hid (row_tch HR.out HT7.out HN.out)
        have HP7 := Lib.hid (mem_snoc_size HP3.out hZ')
        have hl7 : (ps ++ [Z]).length ≤ 5 := by simp; omega
        clear hown7 hg7 ho6 hconv
        go_wp2_with fail
        go_at_call 26
        refine (of_any w.heap.size A _ c _ i5 sd5 bs markL _ (by omega) hn (by decide) (by decide) (row_alloc HR7.out _) HN.out (row_lit w7 9 (svs markL)) (row_lit_ne w.heap.size w7 _ HC7.out.lt) (HC7.out.alloc _)).mono ?_
        rintro e w9 ⟨v9, i9, sd9, rfl, ⟨t9, rfl, ht9⟩, hc9, hi9, hT9⟩
        have HT9 := Lib.hid ((HT7.out.alloc _).trans hT9)
        have HS := Lib.hid (markL_size t9 ht9)
        have HO9 := Lib.hid (own_tch (own_below HO7.out ((Below.refl _ w7).alloc (Nat.le_refl _) (.cells (svs markL).toArray 9))) hT9 (Nat.lt_succ_self _))
        clear hc9 hT9 ht9
        go_wp2
        go_ret2
        exact ⟨_, _, t9, rfl, HO9.out, hl7, HP7.out, HS.out, HT9.out.below (Nat.le_refl _) (Nat.le_refl _)⟩
end Go.Proofs.Ytopmmodekkfkdaa
