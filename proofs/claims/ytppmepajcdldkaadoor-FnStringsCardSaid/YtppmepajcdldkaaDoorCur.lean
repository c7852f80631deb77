/-
  The model's cursor over choices: 'l1Cur.next', 'pick', 'one', 'of': what they hand back is within its bounds; nothing but the cursor's own block has turned.
-/
import Derived.Test.YtppmepajcdldkaaDoorSvs
import Derived.Deep.RegionHeld3
import Derived.StillTailTactics
import Derived.WalkLawsBesides
import Derived.Laws.OwnMore
namespace Go.Proofs.YtppmepajcdldkaaDoor
open Go.RowKit
set_option linter.unusedVariables false
abbrev bvs (bs : List UInt8) : List Value := bs.map fun b => Value.int .u8 (b.toNat : Int)
theorem bvs_at {bs : List UInt8} {k : Nat} (h : k < bs.length) : (bvs bs)[k]? = some (.int .u8 (bs[k].toNat : Int)) := by
  rw [List.getElem?_map, List.getElem?_eq_getElem h]; rfl
/-- The cursor's block. -/
def Cur (w : World) (g : Nat) (A : Option Addr) (n c : Nat) (i : Nat) (sd : Int) : Prop :=
  w.heap[g]? = some (.cells #[.slice A n c, .int .i64 (i : Int), .int .u64 sd] 36 (0, 0))
theorem Cur.lt {w : World} {g : Nat} {A : Option Addr} {n c i : Nat} {sd : Int} (h : Cur w g A n c i sd) : g < w.heap.size := (Array.getElem?_eq_some_iff.1 h).1
theorem Cur.c0 {w : World} {g : Nat} {A : Option Addr} {n c i : Nat} {sd : Int} (h : Cur w g A n c i sd) : w.cell? ⟨g, 0, none⟩ = some (.slice A n c) := by simp [World.cell?, show w.heap[g]? = _ from h]
theorem Cur.c1 {w : World} {g : Nat} {A : Option Addr} {n c i : Nat} {sd : Int} (h : Cur w g A n c i sd) : w.cell? ⟨g, 1, none⟩ = some (.int .i64 (i : Int)) := by simp [World.cell?, show w.heap[g]? = _ from h]
theorem Cur.c2 {w : World} {g : Nat} {A : Option Addr} {n c i : Nat} {sd : Int} (h : Cur w g A n c i sd) : w.cell? ⟨g, 2, none⟩ = some (.int .u64 sd) := by simp [World.cell?, show w.heap[g]? = _ from h]
theorem Cur.fr {w : World} {g : Nat} {A : Option Addr} {n c i : Nat} {sd : Int} (h : Cur w g A n c i sd) (k : Nat) : w.frozen? ⟨g, k, none⟩ = false := by simp [World.frozen?, show w.heap[g]? = _ from h]
theorem Cur.set1 {w : World} {g : Nat} {A : Option Addr} {n c i : Nat} {sd : Int} (h : Cur w g A n c i sd) (j : Nat) : Cur (w.setCell ⟨g, 1, none⟩ (.int .i64 (j : Int))) g A n c j sd := heap_setCell_same w g 1 _ _ _ h
theorem Cur.set2 {w : World} {g : Nat} {A : Option Addr} {n c i : Nat} {sd : Int} (h : Cur w g A n c i sd) (sd' : Int) : Cur (w.setCell ⟨g, 2, none⟩ (.int .u64 sd')) g A n c i sd' := heap_setCell_same w g 2 _ _ _ h
/-- Nothing old but block g has turned. -/
structure Tch (g : Nat) (w w' : World) : Prop where
  os : w'.os = w.os
  tape : w'.tape = w.tape
  output : w'.output = w.output
  size : w.heap.size ≤ w'.heap.size
  block : ∀ k, k < w.heap.size → k ≠ g → w'.heap[k]? = w.heap[k]?
theorem Tch.refl (g : Nat) (w : World) : Tch g w w := ⟨rfl, rfl, rfl, Nat.le_refl _, fun _ _ _ => rfl⟩
theorem Tch.trans {g : Nat} {a b c : World} (h : Tch g a b) (k : Tch g b c) : Tch g a c :=
  ⟨k.os.trans h.os, k.tape.trans h.tape, k.output.trans h.output, Nat.le_trans h.size k.size, fun i hi hne => (k.block i (Nat.lt_of_lt_of_le hi h.size) hne).trans (h.block i hi hne)⟩
theorem Tch.trans_from {g : Nat} {a b c : World} (h : Tch g a b) (k : c.os = b.os ∧ c.tape = b.tape ∧ c.output = b.output ∧ b.heap.size ≤ c.heap.size) (hk : ∀ i, i < a.heap.size → i ≠ g → c.heap[i]? = b.heap[i]?) : Tch g a c :=
  ⟨k.1.trans h.os, k.2.1.trans h.tape, k.2.2.1.trans h.output, Nat.le_trans h.size k.2.2.2, fun i hi hne => (hk i hi hne).trans (h.block i hi hne)⟩
theorem Tch.drewN {g : Nat} {a b : World} (h : Tch g a b) (m : Nat) : Tch g a (b.drewN m) := ⟨h.os, h.tape, h.output, h.size, h.block⟩
theorem Tch.set {g : Nat} {a b : World} (h : Tch g a b) (j : Nat) (u : Value) : Tch g a (b.setCell ⟨g, j, none⟩ u) :=
  h.trans ⟨rfl, rfl, rfl, by simp [World.setCell], fun k _ hne => Below.heap_setCell _ _ _ _ hne⟩
theorem Tch.of_below {g : Nat} {a b : World} (h : Below a.heap.size a b) : Tch g a b := ⟨h.os, h.tape, h.output, h.size, fun i hi _ => h.block i hi⟩
theorem Tch.below {g B : Nat} {a b : World} (h : Tch g a b) (hB : B ≤ g) (hs : B ≤ a.heap.size) : Below B a b := ⟨h.os, h.tape, h.output, h.size, fun i hi => h.block i (by omega) (by omega)⟩
theorem Tch.cell {g : Nat} {a b : World} (h : Tch g a b) {p : Addr} (hp : p.block < a.heap.size) (hne : p.block ≠ g) : b.cell? p = a.cell? p := World.cell?_of_block (h.block p.block hp hne)
/-- What a call on the cursor says: its result, the cursor behind it, all else as it was. -/
def CurSays (g : Nat) (A : Option Addr) (n c i d : Nat) (P : Value → Prop) (w : World) (e : Ending) (w' : World) : Prop :=
  ∃ v i' sd', e = .returned v ∧ P v ∧ Cur w' g A n c i' sd' ∧ i' ≤ i + d ∧ Tch g w w'
theorem and255 (y : Int) : 0 ≤ bits BinOp.and IntKind.u64 y 255 ∧ bits BinOp.and IntKind.u64 y 255 ≤ 255 := by
  have e : (BitVec.ofInt 64 255).toNat = 255 := by decide
  have h : ((BitVec.ofInt 64 y) &&& (BitVec.ofInt 64 255)).toNat ≤ 255 := by rw [BitVec.toNat_and, e]; exact Nat.and_le_right
  have e2 : bits BinOp.and IntKind.u64 y 255 = IntKind.u64.wrap ((((BitVec.ofInt 64 y) &&& (BitVec.ofInt 64 255)).toNat : Nat) : Int) := rfl
  rw [e2, IntKind.wrap_u64]
  omega
theorem row_tch {g : Nat} {w w' : World} {A : Option Addr} {xs : List Value} (h : Law.Row w A xs) (ht : Tch g w w') (hne : xs ≠ [] → ∀ b off, A = some ⟨b, off, none⟩ → b ≠ g) : Law.Row w' A xs := fun hx => by
  obtain ⟨b, off, e, hlt, hc⟩ := h hx
  exact ⟨b, off, e, Nat.lt_of_lt_of_le hlt ht.size, fun j u hu => (ht.cell (p := ⟨b, off + j, none⟩) hlt (hne hx b off e)).trans (hc j u hu)⟩
theorem cur_step {w : World} {g : Nat} {A : Option Addr} {n c i : Nat} {sd : Int} (h : Cur w g A n c i sd) (a b : Nat) (sd' : Int) :
    Cur ((((w.drewN a).setCell ⟨g, 1, none⟩ (.int .i64 ((i : Int) + 1))).setCell ⟨g, 2, none⟩ (.int .u64 sd')).drewN b) g A n c (i + 1) sd' ∧ Tch g w ((((w.drewN a).setCell ⟨g, 1, none⟩ (.int .i64 ((i : Int) + 1))).setCell ⟨g, 2, none⟩ (.int .u64 sd')).drewN b) :=
  ⟨((show Cur (w.drewN a) g A n c i sd from h).set1 (i + 1)).set2 sd', ((((Tch.refl g w).drewN a).set 1 _).set 2 _).drewN b⟩
set_option maxHeartbeats 1600000 in
theorem next_any (g : Nat) (A : Option Addr) (c i : Nat) (sd : Int) (bs : List UInt8) (w : World) (hi : i ≤ 1000000) (hn : bs.length ≤ 65536) (hr : Law.Row w A (bvs bs)) (hc : Cur w g A bs.length c i sd) :
    Calls Tryd.prog 32 #[.pointer (some ⟨g, 0, none⟩)] w (CurSays g A bs.length c i 1 (fun v => ∃ x : Int, v = .int .i64 x ∧ 0 ≤ x ∧ x ≤ 255) w) := by
  have h0 := hc.c0
  have h1 := hc.c1
  have h2 := hc.c2
  have f1 := hc.fr 1
  have f2 := hc.fr 2
  have HC := Lib.hid hc
  have HR := Lib.hid hr
  clear hc hr
  by_cases hlt : i < bs.length
  · obtain ⟨b, off, rfl, hb, hcl⟩ := HR.out.at_ (bvs_at hlt)
    have hltI : (i : Int) < (bs.length : Int) := by omega
    have hi1 : (i : Int) + 1 ≤ (bs.length : Int) := by omega
    have hbt : (bs[i].toNat : Int) ≤ 255 := by have := bs[i].toNat_lt; omega
    go_enter Tryd.func32, Tryd.ntmps32
    go_wp2
    go_quiet (fail)
    go_wp2
    go_quiet (fail)
    go_wp2
    go_quiet (fail)
    go_wp2
    go_ret
    exact ⟨_, i + 1, _, rfl, ⟨_, rfl, by omega, hbt⟩, (cur_step HC.out _ _ _).1, Nat.le_refl _, (cur_step HC.out _ _ _).2⟩
  · have hltI : ¬ (i : Int) < (bs.length : Int) := by omega
    have hi1 : ¬ (i : Int) + 1 ≤ (bs.length : Int) := by omega
    go_enter Tryd.func32, Tryd.ntmps32
    go_wp2
    go_quiet (fail)
    go_wp2
    go_quiet (fail)
    go_wp2
    go_ret
    refine ⟨_, i + 1, _, rfl, ?_, (cur_step HC.out _ _ _).1, Nat.le_refl _, (cur_step HC.out _ _ _).2⟩
    show ∃ x : Int, Value.int .i64 (wrap64 (bits BinOp.and IntKind.u64 (IntKind.u64.wrap (IntKind.u64.wrap (IntKind.u64.wrap (sd * 6364136223846793005)) + 462197) / 1099511627776) 255)) = .int .i64 x ∧ 0 ≤ x ∧ x ≤ 255
    have hb := and255 (IntKind.u64.wrap (IntKind.u64.wrap (IntKind.u64.wrap (sd * 6364136223846793005)) + 462197) / 1099511627776)
    rw [IntWalk.wrap64_in _ ⟨by omega, by omega⟩]
    exact ⟨_, rfl, hb.1, hb.2⟩
set_option maxHeartbeats 1600000 in
theorem pick_any (g : Nat) (A : Option Addr) (c i : Nat) (sd : Int) (bs : List UInt8) (m : Nat) (w : World) (hi : i ≤ 999998) (hn : bs.length ≤ 65536) (hm1 : 1 ≤ m) (hm : m ≤ 60000) (hr : Law.Row w A (bvs bs)) (hne : bvs bs ≠ [] → ∀ b off, A = some ⟨b, off, none⟩ → b ≠ g) (hc : Cur w g A bs.length c i sd) :
    Calls Tryd.prog 18 #[.pointer (some ⟨g, 0, none⟩), .int .i64 (m : Int)] w (CurSays g A bs.length c i 2 (fun v => ∃ x : Nat, v = .int .i64 (x : Int) ∧ x < m) w) := by
  have HC := Lib.hid hc
  have HR := Lib.hid hr
  have HN := Lib.hid hne
  clear hc hr hne
  by_cases h1 : m ≤ 1
  · have h1' : (m : Int) ≤ 1 := by omega
    go_enter Tryd.func18, Tryd.ntmps18
    go_wp2
    go_ret
    exact ⟨_, i, sd, rfl, ⟨0, rfl, by omega⟩, HC.out, by omega, Tch.refl _ _⟩
  · have h1' : ¬ (m : Int) ≤ 1 := by omega
    go_enter Tryd.func18, Tryd.ntmps18
    go_wp2_with fail
    go_at_call 32
    refine (next_any g A c i sd bs _ (by omega) hn HR.out HC.out).mono ?_
    rintro e w1 ⟨v1, i1, sd1, rfl, ⟨x1, rfl, hx0, hx1⟩, hc1, hi1, ht1⟩
    have HC1 := Lib.hid hc1
    have HT1 := Lib.hid ht1
    have HR1 := Lib.hid (row_tch HR.out ht1 HN.out)
    clear hc1 ht1
    by_cases h2 : m ≤ 200
    · have h2' : ¬ 200 < (m : Int) := by omega
      go_wp2
      go_ret
      exact ⟨_, i1, sd1, rfl, ⟨(x1 % (m : Int)).toNat, by rw [Int.toNat_of_nonneg (by exact Int.emod_nonneg _ (by omega))]; rfl, by have := Int.emod_lt_of_pos x1 (show 0 < (m : Int) by omega); omega⟩, HC1.out, by omega, HT1.out⟩
    · have h2' : 200 < (m : Int) := by omega
      go_wp2_with fail
      go_at_call 32
      refine (next_any g A c i1 sd1 bs _ (by omega) hn HR1.out HC1.out).mono ?_
      rintro e w2 ⟨v2, i2, sd2, rfl, ⟨x2, rfl, hy0, hy1⟩, hc2, hi2, ht2⟩
      have HC2 := Lib.hid hc2
      have HT2 := Lib.hid (HT1.out.trans ht2)
      clear hc2 ht2
      go_wp2
      go_ret
      exact ⟨_, i2, sd2, rfl, ⟨((x1 * 256 + x2) % (m : Int)).toNat, by rw [Int.toNat_of_nonneg (by exact Int.emod_nonneg _ (by omega))]; rfl, by have := Int.emod_lt_of_pos (x1 * 256 + x2) (show 0 < (m : Int) by omega); omega⟩, HC2.out, by omega, HT2.out⟩
set_option maxHeartbeats 1600000 in
theorem of_any (g : Nat) (A B : Option Addr) (c d i : Nat) (sd : Int) (bs : List UInt8) (ts : List ByteArray) (w : World) (hi : i ≤ 999998) (hn : bs.length ≤ 65536) (hm1 : 1 ≤ ts.length) (hm : ts.length ≤ 60000) (hr : Law.Row w A (bvs bs)) (hne : bvs bs ≠ [] → ∀ b off, A = some ⟨b, off, none⟩ → b ≠ g)
    (hl : Law.Row w B (svs ts)) (hnb : svs ts ≠ [] → ∀ b off, B = some ⟨b, off, none⟩ → b ≠ g) (hc : Cur w g A bs.length c i sd) :
    Calls Tryd.prog 23 #[.pointer (some ⟨g, 0, none⟩), .slice B ts.length d] w (CurSays g A bs.length c i 2 (fun v => ∃ t, v = .string t ∧ t ∈ ts) w) := by
  have HC := Lib.hid hc
  have HR := Lib.hid hr
  have HN := Lib.hid hne
  have HL := Lib.hid hl
  have HNB := Lib.hid hnb
  clear hc hr hne hl hnb
  go_enter Tryd.func23, Tryd.ntmps23
  go_wp2_with fail
  go_at_call 18
  refine (pick_any g A c i sd bs ts.length _ hi hn hm1 hm HR.out HN.out HC.out).mono ?_
  rintro e w1 ⟨v1, i1, sd1, rfl, ⟨x, rfl, hx⟩, hc1, hi1, ht1⟩
  have HC1 := Lib.hid hc1
  have HT1 := Lib.hid ht1
  obtain ⟨b, off, rfl, hb, hcl⟩ := (row_tch HL.out ht1 HNB.out).at_ (svs_at hx)
  clear hc1 ht1
  go_wp2
  go_ret
  exact ⟨_, i1, sd1, rfl, ⟨_, rfl, List.getElem_mem hx⟩, HC1.out, hi1, HT1.out⟩
theorem row_far {w : World} {A : Option Addr} {xs : List Value} {g : Nat} (h : Law.Row w A xs) (hg : w.heap.size ≤ g) : xs ≠ [] → ∀ b off, A = some ⟨b, off, none⟩ → b ≠ g := fun hx b off e => by
  obtain ⟨b', off', e', hlt, _⟩ := h hx
  cases e.symm.trans e'
  omega
theorem Cur.alloc {w : World} {g : Nat} {A : Option Addr} {n c i : Nat} {sd : Int} (h : Cur w g A n c i sd) (o : Obj) : Cur (w.alloc o) g A n c i sd := (Below.heap_alloc w o g h.lt).trans h
theorem Tch.alloc {g : Nat} {a b : World} (h : Tch g a b) (o : Obj) : Tch g a (b.alloc o) := h.trans (Tch.of_below ((Below.refl _ _).alloc (Nat.le_refl _) o))
theorem row_alloc {w : World} {A : Option Addr} {xs : List Value} (h : Law.Row w A xs) (o : Obj) : Law.Row (w.alloc o) A xs := h.stays ((Below.refl _ _).alloc (Nat.le_refl _) o)
theorem row_lit (w : World) (e : TypeId) (xs : List Value) : Law.Row (w.alloc (.cells xs.toArray e)) (some ⟨w.heap.size, 0, none⟩) xs := fun _ =>
  ⟨w.heap.size, 0, rfl, by simp, fun j u hu => by rw [World.cell?_alloc_new, Nat.zero_add]; simpa using hu⟩
theorem row_lit_ne (g : Nat) (w : World) (xs : List Value) (hg : g < w.heap.size) : xs ≠ [] → ∀ b off, (some ⟨w.heap.size, 0, none⟩ : Option Addr) = some ⟨b, off, none⟩ → b ≠ g := fun _ b off e => by cases e; omega
/-- The texts of 'any1'. -/
abbrev any1L : List ByteArray := [⟨#[]⟩, ⟨#[97]⟩, ⟨#[97, 44, 98]⟩, ⟨#[115, 111, 109, 101, 32, 119, 111, 114, 100, 115]⟩, ⟨#[120, 35, 121]⟩, ⟨#[45, 49, 50]⟩, ⟨#[0, 255]⟩, ⟨#[44, 44]⟩, ⟨#[48]⟩]
theorem any1L_size : ∀ t ∈ any1L, t.size ≤ 10 := by decide
set_option maxHeartbeats 1600000 in
theorem any1_any (g : Nat) (A : Option Addr) (c i : Nat) (sd : Int) (bs : List UInt8) (w : World) (hi : i ≤ 999998) (hn : bs.length ≤ 65536) (hr : Law.Row w A (bvs bs)) (hne : bvs bs ≠ [] → ∀ b off, A = some ⟨b, off, none⟩ → b ≠ g) (hc : Cur w g A bs.length c i sd) :
    Calls Tryd.prog 26 #[.pointer (some ⟨g, 0, none⟩)] w (CurSays g A bs.length c i 2 (fun v => ∃ t, v = .string t ∧ t.size ≤ 10) w) := by
  have HC := Lib.hid hc
  have HR := Lib.hid hr
  have HN := Lib.hid hne
  clear hc hr hne
  go_enter Tryd.func26, Tryd.ntmps26
  go_wp2_with fail
  go_at_call 23
  refine (of_any g A _ c _ i sd bs any1L _ hi hn (by decide) (by decide) (row_alloc HR.out _) HN.out (row_lit w 9 (svs any1L)) (row_lit_ne g w _ HC.out.lt) (HC.out.alloc _)).mono ?_
  rintro e w1 ⟨v1, i1, sd1, rfl, ⟨t, rfl, ht⟩, hc1, hi1, ht1⟩
  have HC1 := Lib.hid hc1
  have HT1 := Lib.hid (((Tch.refl g w).alloc _).trans ht1)
  have HS := Lib.hid (any1L_size t ht)
  clear hc1 ht1 ht
  go_wp2
  go_ret
  exact ⟨_, i1, sd1, rfl, ⟨t, rfl, HS.out⟩, HC1.out, hi1, HT1.out⟩
end Go.Proofs.YtppmepajcdldkaaDoor
