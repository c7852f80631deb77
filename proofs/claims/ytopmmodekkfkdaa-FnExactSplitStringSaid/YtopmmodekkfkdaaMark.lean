/-
  The laws' own helpers on marks: 'markText', 'markStringS', 'heldStringS'.
-/
import Derived.Test.YtopmmodekkfkdaaStrs
import Derived.Laws.IdiomStrings
import Derived.Laws.Concat
import Derived.Deep.RegionHeld3
namespace Go.Proofs.Ytopmmodekkfkdaa
open Go.RowKit
set_option linter.unusedVariables false
def digM (k : Nat) : ByteArray := ⟨#[UInt8.ofNat (48 + k % 10)]⟩
/-- The text of mark k: what is left to write, and what is written. -/
def mGo (k : Nat) (out : ByteArray) : ByteArray := if h : 0 < k then mGo (k / 10) (digM k ++ out) else ({ data := #[109] } : ByteArray) ++ out
termination_by k
decreasing_by omega
theorem mGo_pos {k : Nat} (h : 0 < k) (out : ByteArray) : mGo k out = mGo (k / 10) (digM k ++ out) := by rw [mGo, dif_pos h]
theorem mGo_zero (out : ByteArray) : mGo 0 out = ({ data := #[109] } : ByteArray) ++ out := by rw [mGo, dif_neg (by omega)]
/-- The text of a mark. -/
def mTxt (k : Nat) : ByteArray := mGo k ⟨#[]⟩
theorem ret_strM {a b : ByteArray} (h : a = b) : Ending.returned (.string a) = .returned (.string b) := by rw [h]
set_option maxHeartbeats 800000 in
theorem markText_any (k : Nat) (w : World) (hk : 0 < k) (hk2 : k ≤ 100000000) :
    Calls Try.prog 34 #[.int .i64 (k : Int)] w fun e w' => e = .returned (.string (mTxt k)) ∧ Below w.heap.size w w' := by
  go_enter Try.func34, Try.ntmps34
  go_wp2
  go_loopw [0, 3] (fun i o wr => ∃ (j : Nat) (out : ByteArray), i = .int .i64 (j : Int) ∧ o = .string out ∧ j ≤ 100000000 ∧ out.size + j ≤ 100000000 ∧ Hid (mGo j out = mTxt k) ∧ Below w.heap.size w wr) (fun i _ _ => (intOf i).toNat)
  case atStart => exact ⟨k, ⟨#[]⟩, rfl, rfl, hk2, (by show 0 + k ≤ _; omega), rfl, Below.refl _ _⟩
  case round =>
    obtain ⟨j, out, rfl, rfl, hj, hs, hm, hb⟩ := hrel
    have hsz := hb.size
    by_cases hj0 : 0 < j
    · have HM := Lib.hid ((mGo_pos hj0 out).symm.trans hm.out)
      clear hm
      have hconv := run_convert_bytes_back (P := Try.prog) (wr.alloc (.cells #[.int .u8 (48 + (j : Int) % 10)] 5)) 22 9 5 ⟨wr.heap.size, 0, none⟩ 1 [UInt8.ofNat (48 + j % 10)] Try.underlying22 Try.underlying5 Try.underlying9 (fun q hq => by
        obtain rfl : q = 0 := by simpa using hq
        have e1 : ((UInt8.ofNat (48 + j % 10)).toNat : Int) = 48 + (j : Int) % 10 := by rw [UInt8.toNat_ofNat']; omega
        show _ = some (Value.int .u8 ((UInt8.ofNat (48 + j % 10)).toNat : Int))
        rw [e1, Law.add_plain, World.cell?_alloc_new]
        rfl)
      have hconv' : (convert 22 9 (.slice (some ⟨wr.heap.size, 0, none⟩) 1 1)).run Try.prog (wr.alloc (.cells #[.int .u8 (48 + (j : Int) % 10)] 5)) = .ok (.string (digM j)) (wr.alloc (.cells #[.int .u8 (48 + (j : Int) % 10)] 5)) := hconv
      clear hconv
      have hd1 : (digM j).size ≤ 1 := Nat.le_refl _
      have HB := Lib.hid (hb.alloc hsz (.cells #[.int .u8 (48 + (j : Int) % 10)] 5))
      go_wp2
      go_roundw
      case rel => exact ⟨j / 10, digM j ++ out, by go_num, rfl, by omega, (by rw [ByteArray.size_append]; omega), HM.out, HB.out⟩
      case measure => simp [intOf]; omega
    · have hj00 : j = 0 := by omega
      have HM : Hid (({ data := #[109] } : ByteArray) ++ out = mTxt k) := by show _ = _; rw [← hm.out, hj00, mGo_zero]
      clear hj00 hm
      go_wp2
      go_ret
      exact ⟨ret_strM HM.out, hb⟩
/-- The marks k, k + 1, .. -/
def mks (k n : Nat) : List ByteArray := (List.range n).map fun i => mTxt (k + i)
theorem mks_len (k n : Nat) : (mks k n).length = n := by simp [mks]
theorem mks_at {k n j : Nat} (h : j < n) : (svs (mks k n))[j]? = some (.string (mTxt (k + j))) := by simp [mks, h]
theorem own_below {w w' : World} {base : Nat} {e : TypeId} {v : Value} {n : Nat} {xs : List Value} (h : w.ownsRow base e 1 v n xs) (hb : Below w.heap.size w w') : w'.ownsRow base e 1 v n xs :=
  h.kept (row := none) ⟨hb.os, hb.tape, hb.output, hb.size, fun i hi _ => hb.block i hi⟩ (by cases hv : v.ownBlock <;> simp)
/-- What 'markStringS' leaves. -/
def MarkSays (base k n : Nat) (v : Value) (w : World) (e : Ending) (w' : World) : Prop :=
  e = .returned (.int .i64 ((k + n : Nat) : Int)) ∧ w'.ownsRow base 9 1 v n (svs (mks k n)) ∧ Below base w w'
set_option maxHeartbeats 1600000 in
theorem markStr_any (base k n : Nat) (v : Value) (xs : List Value) (w : World) (hk : 0 < k) (hkn : k + n ≤ 1000000) (hb : base ≤ w.heap.size) (ho : w.ownsRow base 9 1 v n xs) :
    Calls Try.prog 19 #[v, .int .i64 (k : Int)] w (MarkSays base k n v w) := by
  obtain ⟨A, c, rfl, hc1, hc2, hxl⟩ := Law.own_len ho
  have HO := Lib.hid ho
  have HX := Lib.hid hxl
  unfold maxLen at hc2
  clear ho hxl
  go_enter Try.func19, Try.ntmps19
  go_wp2
  go_loopw [1, 5] (fun q i wr => ∃ j : Nat, j ≤ n ∧ i = .int .i64 j ∧ q = .int .i64 ((k + j : Nat) : Int) ∧ Hid (wr.ownsRow base 9 1 (.slice A n c) n (fillS (svs (mks k n)) xs j)) ∧ Hid (Below base w wr)) (fun _ i _ => n - (intOf i).toNat)
  case atStart => exact ⟨0, Nat.zero_le _, rfl, rfl, HO.out, Below.refl _ _⟩
  case round =>
    obtain ⟨j, hj, rfl, rfl, how, hbw⟩ := hrel
    have hbs := hbw.out.size
    by_cases hlt : j < n
    · obtain ⟨g, hA⟩ : ∃ g, A = some ⟨g, 0, none⟩ := by
        rcases how.out.2 with ⟨h, h0⟩ | ⟨g, cap, cur, h, _⟩
        · omega
        · injection h with h; exact ⟨g, h⟩
      subst hA
      have hgb : base ≤ g := (how.out.lt g rfl).1
      have hml : (svs (mks k n)).length = n := by simp [mks]
      have hl : (fillS (svs (mks k n)) xs j).length = n := by rw [fillS_length (by omega) (by rw [HX.out, hml])]; exact hml
      obtain ⟨u, hu⟩ : ∃ u, (fillS (svs (mks k n)) xs j)[j]? = some u := ⟨_, List.getElem?_eq_getElem (by omega)⟩
      have HF := Lib.hid (fillS_set (xs := svs (mks k n)) (zs := xs) (mks_at (k := k) hlt) (by rw [HX.out]; exact hlt))
      have HU := Lib.hid hu
      clear hu hl hml
      go_wp2_with fail
      go_at_call 34
      refine (markText_any (k + j) _ (by omega) (by omega)).mono ?_
      rintro e w1 ⟨rfl, hb1⟩
      have ho1 := own_below how.out hb1
      have hcO : w1.cell? ⟨g, j, none⟩ = some u := (ho1.cellAt j (by omega)).trans HU.out
      have hfO := ho1.frozenAt j
      have HS := Lib.hid (ho1.stored j (.string (mTxt (k + j)))).1
      have HB := Lib.hid ((hbw.out.trans (hb1.mono (by omega))).setCell (p := ⟨g, j, none⟩) hgb (.string (mTxt (k + j))))
      clear ho1 hb1 how hbw
      go_wp2
      go_roundw
      case rel => exact ⟨j + 1, by omega, by go_num, by go_num, (by show World.ownsRow _ _ _ _ _ _ _; rw [← HF.out]; exact HS.out), HB.out⟩
      case measure => simp [intOf]; omega
    · have hje : j = n := by omega
      have HF : Hid (fillS (svs (mks k n)) xs j = svs (mks k n)) := by show fillS _ _ _ = _; rw [hje]; exact fillS_all (by simp [mks]) (Nat.le_of_eq HX.out)
      have HJ := Lib.hid hje
      clear hje
      go_wp2
      go_ret
      refine ⟨by rw [HJ.out]; rfl, ?_, hbw.out⟩
      rw [← HF.out]
      exact how.out
theorem keep_call {w W w1 : World} {a : Addr} {x : Value} (h : W.cell? a = some x) (hb : Below w.heap.size w W) (hb1 : Below W.heap.size W w1) : w1.cell? a = some x ∧ Below w.heap.size w w1 :=
  ⟨(hb1.cell (Law.cell_in h)).trans h, hb.trans (hb1.mono hb.size)⟩
theorem keep_call2 {w W w1 : World} {a : Addr} {x : Value} (h : W.cell? a = some x ∧ Below w.heap.size w W) (hb1 : Below W.heap.size W w1) : w1.cell? a = some x ∧ Below w.heap.size w w1 := keep_call h.1 h.2 hb1
set_option maxHeartbeats 1600000 in
theorem heldStr_any (k n c : Nat) (A : Option Addr) (w : World) (hk : 0 < k) (hkn : k + n ≤ 1000000) (hr : Law.Row w A (svs (mks k n))) :
    Calls Try.prog 20 #[.slice A n c, .int .i64 (k : Int)] w fun e w' => e = .returned (.int .i64 ((k + n : Nat) : Int)) ∧ Below w.heap.size w w' := by
  have HR := Lib.hid hr
  clear hr
  go_enter Try.func20, Try.ntmps20
  go_wp2
  go_loopw [1, 5] (fun q i wr => ∃ j : Nat, j ≤ n ∧ i = .int .i64 j ∧ q = .int .i64 ((k + j : Nat) : Int) ∧ Hid (Below w.heap.size w wr)) (fun _ i _ => n - (intOf i).toNat)
  case atStart => exact ⟨0, Nat.zero_le _, rfl, rfl, Below.refl _ _⟩
  case round =>
    obtain ⟨j, hj, rfl, rfl, hbw⟩ := hrel
    by_cases hlt : j < n
    · obtain ⟨b, off, rfl, hbl, hcl⟩ := HR.out.at_ (mks_at hlt)
      have hcw : wr.cell? ⟨b, off + j, none⟩ = some (.string (mTxt (k + j))) := (hbw.out.cell (p := ⟨b, off + j, none⟩) hbl).trans hcl
      clear hcl
      have hltI : (j : Int) < (n : Int) := by omega
      go_wp2
      have hbW := hbw.out
      go_region_held3 (fun w' => w'.cell? ⟨b, off + j, none⟩ = some (.string (mTxt (k + j))) ∧ Below w.heap.size w w') ((first | exact ⟨hcw, hbW.drew⟩ | exact keep_call (by assumption) (by assumption) (by assumption) | exact keep_call2 (by assumption) (by assumption) | go_keep)) ((go_at_call 34; refine (markText_any (k + j) _ (by omega) (by omega)).mono ?_; rintro e w1 ⟨rfl, hb1⟩))
      all_goals
        have hh : w1.cell? ⟨b, off + j, none⟩ = some (.string (mTxt (k + j))) ∧ Below w.heap.size w w1 := by assumption
        have hlast := Lib.hid hh.2
        clear hh
        go_wp2
        go_roundw
        case rel => exact ⟨j + 1, by omega, by go_num, by go_num, hlast.out⟩
        case measure => simp [intOf]; omega
    · have hje : j = n := by omega
      have HJ := Lib.hid hje
      clear hje
      go_wp2
      go_ret
      exact ⟨by rw [HJ.out]; rfl, hbw.out⟩
theorem markStr_one (base n m : Nat) (v : Value) (xs : List Value) (w : World) (hkn : 1 + n ≤ 1000000) (hb : base ≤ w.heap.size) (ho : w.ownsRow base 9 1 v n xs) :
    Calls Try.prog 19 #[v, .int .i64 1] (w.drewN m) (MarkSays base 1 n v w) :=
  (markStr_any base 1 n v xs (w.drewN m) (by omega) hkn hb ho).mono fun e w' ⟨h1, h2, h3⟩ => ⟨h1, h2, Law.undraw h3⟩
theorem heldStr_one (n c : Nat) (A : Option Addr) (w : World) (hkn : 1 + n ≤ 1000000) (hr : Law.Row w A (svs (mks 1 n))) :
    Calls Try.prog 20 #[.slice A n c, .int .i64 1] w fun e w' => e = .returned (.int .i64 ((1 + n : Nat) : Int)) ∧ Below w.heap.size w w' :=
  heldStr_any 1 n c A w (by omega) hkn hr
end Go.Proofs.Ytopmmodekkfkdaa
