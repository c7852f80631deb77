/-
  The contract of the model's 'spec.l1Split': a row of the call's own that holds the parts between the bytes.
-/
import Derived.Test.YtgnfmbdomofgcaaRows
import Derived.Test.YtgnfmbdomofgcaaLaw
import Derived.Lib.Hide
import Derived.LoopTactic
import Derived.OwnWalk
import Derived.Laws.AppendOwn
import Derived.WalkSpells
import Derived.Lib.IndexBytes
import Derived.Laws.Strings
import Derived.Laws.Rows
namespace Go.Proofs.Ytgnfmbdomofgcaa
open Go.RowKit
/-- The parts that are complete behind k bytes, and where the next one begins. -/
def sp (s : ByteArray) (b : UInt8) : Nat → List ByteArray × Nat
  | 0 => ([], 0)
  | k + 1 => if s.data.toList.getD k 0 = b then ((sp s b k).1 ++ [s.extract (sp s b k).2 k], k + 1) else sp s b k
/-- The parts of a text between the bytes b. -/
def splitS (s : ByteArray) (b : UInt8) : List ByteArray := (sp s b s.size).1 ++ [s.extract (sp s b s.size).2 s.size]
theorem getD_byte {s : ByteArray} {k : Nat} (h : k < s.size) : s.data.toList.getD k 0 = s[k] := by
  rw [List.getD_eq_getElem?_getD, List.getElem?_eq_getElem (by simpa using h)]; rfl
theorem sp_hit {s : ByteArray} {b : UInt8} {k : Nat} {ps : List ByteArray} {f : Nat} (h : k < s.size) (hc : s[k] = b) (e : sp s b k = (ps, f)) : sp s b (k + 1) = (ps ++ [s.extract f k], k + 1) := by
  simp only [sp]; rw [if_pos (by rw [getD_byte h, hc]), e]
theorem sp_miss {s : ByteArray} {b : UInt8} {k : Nat} {ps : List ByteArray} {f : Nat} (h : k < s.size) (hc : s[k] ≠ b) (e : sp s b k = (ps, f)) : sp s b (k + 1) = (ps, f) := by
  simp only [sp]; rw [if_neg (by rw [getD_byte h]; exact hc), e]
theorem byte_eq {s : ByteArray} {k : Nat} {b : UInt8} (h : k < s.size) (hc : s[k] = b) : ((s[k].toNat : Int) == (b.toNat : Int)) = true := by rw [hc]; simp
theorem byte_ne {s : ByteArray} {k : Nat} {b : UInt8} (h : k < s.size) (hc : s[k] ≠ b) : ((s[k].toNat : Int) == (b.toNat : Int)) = false := by
  rw [beq_eq_false_iff_ne]
  intro e
  apply hc
  apply UInt8.toNat_inj.1
  omega
theorem infoStr : (Try.prog.info? 9).map (fun i => (i.zero, i.size, i.bytes)) = some (some (.string ⟨#[]⟩), 1, 16) := by kernel_rfl
theorem ownsRow_new (w : World) (e : TypeId) : (w.alloc (.cells #[] e)).ownsRow w.heap.size e 1 (.slice (some ⟨w.heap.size, 0, none⟩) 0 0) 0 [] :=
  ⟨rfl, .inr ⟨w.heap.size, 0, #[], rfl, Nat.le_refl _, heap_alloc_new w _, Nat.le_refl _, Nat.zero_le _, rfl, rfl⟩⟩
theorem parts_snoc (ps : List ByteArray) (x : ByteArray) : (ps ++ [x]).map Value.string = ps.map Value.string ++ [.string x] := by simp
set_option maxHeartbeats 1600000 in
theorem l1Split_any (s : ByteArray) (b : UInt8) (w : World) (hs : s.size ≤ 1048576) :
    Calls Try.prog 88 #[.string s, .int .u8 (b.toNat : Int)] w fun e w' =>
      ∃ v, e = .returned v ∧ w'.ownsRow w.heap.size 9 1 v (splitS s b).length ((splitS s b).map Value.string) ∧ Below w.heap.size w w' := by
  obtain ⟨i0, hi, hz0, hz1, hz2⟩ := info_parts infoStr
  have hbn : (b.toNat : Int) ≤ 255 := by have := b.toNat_lt; omega
  go_enter Try.func88, Try.ntmps88
  go_wp2
  go_loopw [5, 6, 7] (fun v f i wr => ∃ (k : Nat) (ps : List ByteArray) (fr : Nat), k ≤ s.size ∧ fr ≤ k ∧ ps.length ≤ k ∧ i = .int .i64 k ∧ f = .int .i64 fr ∧ Hid (sp s b k = (ps, fr)) ∧
      wr.ownsRow w.heap.size 9 1 v ps.length (ps.map Value.string) ∧ Below w.heap.size w wr)
    (fun _ _ i _ => s.size - (intOf i).toNat)
  case atStart => exact ⟨0, [], 0, Nat.zero_le _, Nat.le_refl _, Nat.le_refl _, rfl, rfl, rfl, ownsRow_new _ _, (Below.refl _ _).alloc (Nat.le_refl _) _⟩
  case round =>
    obtain ⟨k, ps, fr, hk, hfr, hpl, rfl, rfl, hsp, hown, hb⟩ := hrel
    have hsz := hb.size
    by_cases hlt : k < s.size
    · by_cases hc : s[k] = b
      · have ht := byte_eq hlt hc
        have H := Lib.hid (sp_hit hlt hc hsp.out)
        clear hc
        go_wp2_with (at_builtin; refine wpList_append_own _ rfl _ _ 72 rfl w.heap.size 9 i0 (.string ⟨#[]⟩) 1 16 Try.underlying72 hi hz0 hz1 hz2 rfl (by decide) _ _ _ rfl (hown.alloc _) ⟨wr.heap.size, 0, none⟩ 1 1 [.string (s.extract fr k)] rfl rfl ?c1 ?c2 ?c3 ?c4 ?c5 ?_)
        case c1 =>
          intro j u hj
          match j, hj with
          | 0, hj => simp at hj; subst hj; simp [Addr.add]
        case c2 => intro u hu; simp at hu; subst hu; rfl
        case c3 => unfold maxLen; omega
        case c4 => omega
        case c5 => simp; omega
        intro v' w1 hown' hgrow _
        have HO := Lib.hid hown'
        have HB := Lib.hid ((hb.alloc hsz (.cells #[.string (s.extract fr k)] 9)).grown hgrow (by simp; omega) (fun j e => (hown.lt j e).1))
        clear hown' hgrow hown hb hsp
        go_wp2
        go_roundw
        case rel => exact ⟨k + 1, ps ++ [s.extract fr k], k + 1, by omega, by omega, by simp; omega, by go_num, by go_num, H.out, by rw [parts_snoc, List.length_append]; exact HO.out, HB.out⟩
        case measure => simp [intOf]; omega
      · have ht := byte_ne hlt hc
        have H := Lib.hid (sp_miss hlt hc hsp.out)
        clear hc
        have HO := Lib.hid hown
        have HB := Lib.hid hb
        clear hown hb hsp
        go_wp2
        go_roundw
        case rel => exact ⟨k + 1, ps, fr, by omega, by omega, by omega, by go_num, rfl, H.out, HO.out, HB.out⟩
        case measure => simp [intOf]; omega
    · have hke : k = s.size := by omega
      have HS : Hid (splitS s b = ps ++ [s.extract fr s.size]) := by
        show splitS s b = _
        unfold splitS
        rw [← hke, hsp.out]
      clear hke
      have hfs : fr ≤ s.size := by omega
      go_wp2_with (at_builtin; refine wpList_append_own _ rfl _ _ 72 rfl w.heap.size 9 i0 (.string ⟨#[]⟩) 1 16 Try.underlying72 hi hz0 hz1 hz2 rfl (by decide) _ _ _ rfl (hown.alloc _) ⟨wr.heap.size, 0, none⟩ 1 1 [.string (s.extract fr s.size)] rfl rfl ?d1 ?d2 ?d3 ?d4 ?d5 ?_)
      case d1 =>
        intro j u hj
        match j, hj with
        | 0, hj => simp at hj; subst hj; simp [Addr.add]
      case d2 => intro u hu; simp at hu; subst hu; rfl
      case d3 => unfold maxLen; omega
      case d4 => omega
      case d5 => simp; omega
      intro v' w1 hown' hgrow _
      have HO := Lib.hid hown'
      have HB := Lib.hid ((hb.alloc hsz (.cells #[.string (s.extract fr s.size)] 9)).grown hgrow (by simp; omega) (fun j e => (hown.lt j e).1))
      clear hown' hgrow hown hb hsp
      go_wp2
      go_ret
      refine ⟨_, rfl, ?_, HB.out⟩
      rw [HS.out, parts_snoc, List.length_append]
      exact HO.out
end Go.Proofs.Ytgnfmbdomofgcaa
