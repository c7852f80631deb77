/-
  What the model's draws of FnStrings hand back: numbers and texts of moderate size; nothing old has turned.
-/
import Derived.Test.YtppmepajcdldkaaDoorCur
import Derived.Test.YtppmepajcdldkaaDoorNum
import Derived.Laws.IdiomStrings
namespace Go.Proofs.YtppmepajcdldkaaDoor
open Go.RowKit
set_option linter.unusedVariables false
theorem cur_new (w : World) (A : Option Addr) (n c : Nat) : Cur (w.alloc (.cells #[.slice A n c, .int .i64 0, .int .u64 0] 36)) w.heap.size A n c 0 0 := heap_alloc_new w _
theorem cur_grown {w w' : World} {g : Nat} {A : Option Addr} {n c i : Nat} {sd : Int} {row : Option Nat} (h : Cur w g A n c i sd) (hg : w.grownBy w' row) (hne : row = some g → False) : Cur w' g A n c i sd := (hg.block g h.lt (fun e => hne e.symm)).trans h
theorem tch_grown {g : Nat} {a w w' : World} {row : Option Nat} (h : Tch g a w) (hg : w.grownBy w' row) (hr : ∀ j, row = some j → a.heap.size ≤ j ∨ j = g) : Tch g a w' :=
  h.trans_from ⟨hg.os, hg.tape, hg.output, hg.size⟩ (fun k hk hne => hg.block k (Nat.lt_of_lt_of_le hk h.size) (fun e => by rcases hr k e.symm with h1 | h1 <;> omega))
theorem one_any (g : Nat) (A : Option Addr) (c i : Nat) (sd : Int) (bs : List UInt8) (m : Nat) (w : World) (hi : i ≤ 999998) (hn : bs.length ≤ 65536) (hm1 : 1 ≤ m) (hm : m ≤ 60000) (hr : Law.Row w A (bvs bs)) (hne : bvs bs ≠ [] → ∀ b off, A = some ⟨b, off, none⟩ → b ≠ g) (hc : Cur w g A bs.length c i sd) :
    Calls Tryd.prog 22 #[.pointer (some ⟨g, 0, none⟩), .int .i64 (m : Int)] w (CurSays g A bs.length c i 2 (fun v => ∃ b, v = .bool b) w) := by
  have HC := Lib.hid hc
  have HR := Lib.hid hr
  have HN := Lib.hid hne
  clear hc hr hne
  go_enter Tryd.func22, Tryd.ntmps22
  go_wp2_with fail
  go_at_call 18
  refine (pick_any g A c i sd bs m _ hi hn hm1 hm HR.out HN.out HC.out).mono ?_
  rintro e w1 ⟨v1, i1, sd1, rfl, ⟨x, rfl, hx⟩, hc1, hi1, ht1⟩
  have HC1 := Lib.hid hc1
  have HT1 := Lib.hid ht1
  clear hc1 ht1
  go_wp2
  go_ret
  exact ⟨_, i1, sd1, rfl, ⟨_, rfl⟩, HC1.out, hi1, HT1.out⟩
theorem infoU8 : (Tryd.prog.info? 5).map (fun i => (i.zero, i.size, i.bytes)) = some (some (.int .u8 0), 1, 1) := by kernel_rfl
theorem conv_zeros {base : Nat} (b n : Nat) (w : World) (h : w.ownsRow base 5 1 (.slice (some ⟨b, 0, none⟩) n n) n (madeCells #[.int .u8 0] n).toList) :
    ∃ Z : ByteArray, Z.size = n ∧ (convert 22 9 (.slice (some ⟨b, 0, none⟩) n n)).run Tryd.prog w = .ok (.string Z) w := by
  have hr := run_convert_bytes_back (P := Tryd.prog) w 22 9 5 ⟨b, 0, none⟩ n (List.replicate n (0 : UInt8)) Tryd.underlying22 Tryd.underlying5 Tryd.underlying9 (fun j hj => by
    rw [List.length_replicate] at hj
    rw [Law.add_plain, Nat.zero_add, h.cellAt j (by omega), toList_madeCells_one]
    simp [hj])
  rw [List.length_replicate] at hr
  exact ⟨_, by simp [ByteArray.size], hr⟩
abbrev ivs (zs : List Int) : List Value := zs.map (Value.int .i64)
theorem ivs_at {zs : List Int} {k : Nat} (h : k < zs.length) : (ivs zs)[k]? = some (.int .i64 zs[k]) := by
  rw [List.getElem?_map, List.getElem?_eq_getElem h]; rfl
set_option maxHeartbeats 1600000 in
theorem among_any (g : Nat) (A B : Option Addr) (c d i : Nat) (sd : Int) (bs : List UInt8) (zs : List Int) (w : World) (hi : i ≤ 999998) (hn : bs.length ≤ 65536) (hm1 : 1 ≤ zs.length) (hm : zs.length ≤ 60000) (hr : Law.Row w A (bvs bs)) (hne : bvs bs ≠ [] → ∀ b off, A = some ⟨b, off, none⟩ → b ≠ g)
    (hl : Law.Row w B (ivs zs)) (hnb : ivs zs ≠ [] → ∀ b off, B = some ⟨b, off, none⟩ → b ≠ g) (hc : Cur w g A bs.length c i sd) :
    Calls Tryd.prog 17 #[.pointer (some ⟨g, 0, none⟩), .slice B zs.length d] w (CurSays g A bs.length c i 2 (fun v => ∃ z, v = .int .i64 z ∧ z ∈ zs) w) := by
  have HC := Lib.hid hc
  have HR := Lib.hid hr
  have HN := Lib.hid hne
  have HL := Lib.hid hl
  have HNB := Lib.hid hnb
  clear hc hr hne hl hnb
  go_enter Tryd.func17, Tryd.ntmps17
  go_wp2_with fail
  go_at_call 18
  refine (pick_any g A c i sd bs zs.length _ hi hn hm1 hm HR.out HN.out HC.out).mono ?_
  rintro e w1 ⟨v1, i1, sd1, rfl, ⟨x, rfl, hx⟩, hc1, hi1, ht1⟩
  have HC1 := Lib.hid hc1
  have HT1 := Lib.hid ht1
  obtain ⟨b, off, rfl, hb, hcl⟩ := (row_tch HL.out ht1 HNB.out).at_ (ivs_at hx)
  clear hc1 ht1
  go_wp2
  go_ret
  exact ⟨_, i1, sd1, rfl, ⟨_, rfl, List.getElem_mem hx⟩, HC1.out, hi1, HT1.out⟩
/-- A number within a million. -/
def NumSays (w : World) (e : Ending) (w' : World) : Prop := ∃ z : Int, e = .returned (.int .i64 z) ∧ -1000000 ≤ z ∧ z ≤ 1000000 ∧ Below w.heap.size w w'
set_option maxHeartbeats 1600000 in
theorem drawFormat_any (A : Option Addr) (c : Nat) (bs : List UInt8) (w : World) (hn : bs.length ≤ 65536) (hr : Law.Row w A (bvs bs)) :
    Calls Tryd.prog 6 #[.slice A bs.length c] w (NumSays w) := by
  have HR := Lib.hid hr
  have HN := Lib.hid (row_far hr (Nat.le_refl _))
  clear hr
  go_enter Tryd.func6, Tryd.ntmps6
  go_wp2_with fail
  go_at_call 18
  refine (pick_any w.heap.size A c 0 0 bs 1000 _ (by omega) hn (by omega) (by omega) (row_alloc HR.out _) HN.out (cur_new w A _ c)).mono ?_
  rintro e w1 ⟨v1, i1, sd1, rfl, ⟨x, rfl, hx⟩, hc1, hi1, hT1⟩
  have HC1 := Lib.hid hc1
  have HT1 := Lib.hid (((Tch.refl w.heap.size w).alloc _).trans hT1)
  have HR1 := Lib.hid (row_tch HR.out HT1.out HN.out)
  clear hc1 hT1
  go_wp2_with fail
  go_at_call 17
  refine (among_any w.heap.size A _ c _ i1 sd1 bs [0, 1, -1, 10, 999999, -999999, 1000000, -1000000, (x : Int) - 500] _ (by omega) hn (by simp) (by simp) (row_alloc HR1.out _) HN.out (row_lit w1 3 (ivs [0, 1, -1, 10, 999999, -999999, 1000000, -1000000, (x : Int) - 500])) (row_lit_ne w.heap.size w1 _ HC1.out.lt) (HC1.out.alloc _)).mono ?_
  rintro e w2 ⟨v2, i2, sd2, rfl, ⟨z, rfl, hz⟩, hc2, hi2, hT2⟩
  have HT2 := Lib.hid ((HT1.out.alloc _).trans hT2)
  have hzb : -1000000 ≤ z ∧ z ≤ 1000000 := by
    simp only [List.mem_cons, List.not_mem_nil, or_false] at hz
    omega
  obtain ⟨hz1, hz2⟩ := hzb
  clear hc2 hT2 hz
  go_wp2
  go_ret
  exact ⟨z, rfl, hz1, hz2, HT2.out.below (Nat.le_refl _) (Nat.le_refl _)⟩
/-- A text of moderate size. -/
def TextSays (m : Nat) (w : World) (e : Ending) (w' : World) : Prop := ∃ s : ByteArray, e = .returned (.string s) ∧ s.size ≤ m ∧ Below w.heap.size w w'
abbrev parseL : List ByteArray := [⟨#[]⟩, ⟨#[45]⟩, ⟨#[45, 48]⟩, ⟨#[48, 48]⟩, ⟨#[48, 49]⟩, ⟨#[45, 45, 49]⟩, ⟨#[49, 120]⟩, ⟨#[57, 57, 57, 57, 57, 57]⟩, ⟨#[49, 48, 48, 48, 48, 48, 48]⟩, ⟨#[45, 57, 57, 57, 57, 57, 57]⟩, ⟨#[49, 56, 52, 52, 54, 55, 52, 52, 48, 55, 51, 55, 48, 57, 53, 53, 49, 54, 49, 55]⟩]
theorem parseL_size : ∀ t ∈ parseL, t.size ≤ 20 := by decide
set_option maxHeartbeats 1600000 in
theorem drawParse_any (A : Option Addr) (c : Nat) (bs : List UInt8) (w : World) (hn : bs.length ≤ 65536) (hr : Law.Row w A (bvs bs)) :
    Calls Tryd.prog 9 #[.slice A bs.length c] w (TextSays 20 w) := by
  have HR := Lib.hid hr
  have HN := Lib.hid (row_far hr (Nat.le_refl _))
  clear hr
  go_enter Tryd.func9, Tryd.ntmps9
  go_wp2_with fail
  go_at_call 22
  refine (one_any w.heap.size A c 0 0 bs 2 _ (by omega) hn (by omega) (by omega) (row_alloc HR.out _) HN.out (cur_new w A _ c)).mono ?_
  rintro e w1 ⟨v1, i1, sd1, rfl, ⟨b1, rfl⟩, hc1, hi1, hT1⟩
  have HC1 := Lib.hid hc1
  have HT1 := Lib.hid (((Tch.refl w.heap.size w).alloc _).trans hT1)
  have HR1 := Lib.hid (row_tch HR.out HT1.out HN.out)
  clear hc1 hT1
  cases b1
  · go_wp2_with fail
    go_at_call 18
    refine (pick_any w.heap.size A c i1 sd1 bs 2000 _ (by omega) hn (by omega) (by omega) HR1.out HN.out HC1.out).mono ?_
    rintro e w2 ⟨v2, i2, sd2, rfl, ⟨x, rfl, hx⟩, hc2, hi2, hT2⟩
    have HT2 := Lib.hid (HT1.out.trans hT2)
    clear hc2 hT2
    go_wp2_with (go_at_call 21; refine (l1Num_any _ _ (by omega) (by omega)).mono ?_; rintro e w' ⟨rfl, k, rfl⟩)
    go_ret
    exact ⟨_, rfl, numS_size _ (by omega) (by omega), (HT2.out.drewN k).below (Nat.le_refl _) (Nat.le_refl _)⟩
  · go_wp2_with fail
    go_at_call 23
    refine (of_any w.heap.size A _ c _ i1 sd1 bs parseL _ (by omega) hn (by decide) (by decide) (row_alloc HR1.out _) HN.out (row_lit w1 9 (svs parseL)) (row_lit_ne w.heap.size w1 _ HC1.out.lt) (HC1.out.alloc _)).mono ?_
    rintro e w2 ⟨v2, i2, sd2, rfl, ⟨t2, rfl, ht2⟩, hc2, hi2, hT2⟩
    have HT2 := Lib.hid ((HT1.out.alloc _).trans hT2)
    have HS := Lib.hid (parseL_size t2 ht2)
    clear hc2 hT2 ht2
    go_wp2
    go_ret
    exact ⟨_, rfl, HS.out, HT2.out.below (Nat.le_refl _) (Nat.le_refl _)⟩
set_option maxHeartbeats 1600000 in
theorem drawAppend_any (A : Option Addr) (c : Nat) (bs : List UInt8) (w : World) (hn : bs.length ≤ 65536) (hr : Law.Row w A (bvs bs)) :
    Calls Tryd.prog 12 #[.slice A bs.length c] w (TextSays 4020 w) := by
  have HR := Lib.hid hr
  have HN := Lib.hid (row_far hr (Nat.le_refl _))
  obtain ⟨j0, hj, hy0, hy1, hy2⟩ := info_parts infoU8
  clear hr
  go_enter Tryd.func12, Tryd.ntmps12
  go_wp2_with fail
  go_at_call 22
  refine (one_any w.heap.size A c 0 0 bs 20 _ (by omega) hn (by omega) (by omega) (row_alloc HR.out _) HN.out (cur_new w A _ c)).mono ?_
  rintro e w1 ⟨v1, i1, sd1, rfl, ⟨b1, rfl⟩, hc1, hi1, hT1⟩
  have HC1 := Lib.hid hc1
  have HT1 := Lib.hid (((Tch.refl w.heap.size w).alloc _).trans hT1)
  have HR1 := Lib.hid (row_tch HR.out HT1.out HN.out)
  clear hc1 hT1
  cases b1
  · go_wp2_with fail
    go_at_call 26
    refine (any1_any w.heap.size A c i1 sd1 bs _ (by omega) hn HR1.out HN.out HC1.out).mono ?_
    rintro e w2 ⟨v2, i2, sd2, rfl, ⟨t2, rfl, ht2⟩, hc2, hi2, hT2⟩
    have HT2 := Lib.hid (HT1.out.trans hT2)
    clear hc2 hT2
    go_wp2
    go_ret
    exact ⟨_, rfl, by omega, HT2.out.below (Nat.le_refl _) (Nat.le_refl _)⟩
  · go_wp2_with fail
    go_at_call 18
    refine (pick_any w.heap.size A c i1 sd1 bs 10 _ (by omega) hn (by omega) (by omega) HR1.out HN.out HC1.out).mono ?_
    rintro e w5 ⟨v5, i5, sd5, rfl, ⟨x5, rfl, hx5⟩, hc5, hi5, hT5⟩
    have HT5 := Lib.hid (HT1.out.trans hT5)
    clear hc5 hT5
    go_wp2_with (at_make; refine wpList_make_full _ rfl _ _ 22 rfl 0 5 j0 (.int .u8 0) 1 Tryd.underlying22 hj hy0 hy1 .i64 .i64 _ _ (3990 + x5) rfl rfl rfl rfl ?m1 ?m2 ?m3 ?_)
    case m1 => rw [hy2]; omega
    case m2 => unfold maxLen; omega
    case m3 => exact Nat.zero_le _
    intro w6 hown6 hg6
    obtain ⟨Z, hZ, hconv⟩ := conv_zeros w5.heap.size (3990 + x5) w6 hown6
    have HT6 := Lib.hid (tch_grown HT5.out hg6 (fun j e => by cases e))
    clear hown6 hg6
    go_wp2
    go_ret
    exact ⟨_, rfl, by omega, HT6.out.below (Nat.le_refl _) (Nat.le_refl _)⟩
theorem vAt_any (A : Option Addr) (c i : Nat) (bs : List UInt8) (w : World) (hn : bs.length ≤ 65536) (hi : i ≤ 1000) (hr : Law.Row w A (bvs bs)) :
    Calls Tryd.prog 16 #[.slice A bs.length c, .int .i64 (i : Int)] w fun e w' => (∃ x : Nat, x ≤ 255 ∧ e = .returned (.int .i64 (x : Int))) ∧ w = w' := by
  have HR := Lib.hid hr
  clear hr
  by_cases hlt : i < bs.length
  · obtain ⟨b, off, rfl, hb, hcl⟩ := HR.out.at_ (bvs_at hlt)
    have hltI : (i : Int) < (bs.length : Int) := by omega
    have hbt : (bs[i].toNat : Int) ≤ 255 := by have := bs[i].toNat_lt; omega
    go_enter Tryd.func16, Tryd.ntmps16
    go_wp2
    go_ret
    exact ⟨⟨bs[i].toNat, by omega, rfl⟩, rfl⟩
  · have hltI : ¬ (i : Int) < (bs.length : Int) := by omega
    go_enter Tryd.func16, Tryd.ntmps16
    go_wp2
    go_ret
    exact ⟨⟨(i * 7 + bs.length) % 256, by omega, rfl⟩, rfl⟩
end Go.Proofs.YtppmepajcdldkaaDoor
