/-
  The library's Grow and Concat of any rows of ints.
-/
import Derived.Test.YtphfjhnmnehfkaaApp
import Derived.Test.YtphfjhnmnehfkaaTb
import Derived.Lib.AppendZeros
namespace Go.Proofs.Ytphfjhnmnehfkaa
open Go.RowKit
set_option linter.unusedVariables false
set_option maxRecDepth 100000 in
theorem grow_any (n : Nat) (w : World) (h1 : 1 ≤ n) (h2 : n ≤ 1000) :
    Calls Try.prog 131 #[.slice none 0 0, .int .i64 n] w (rowSays1 [] w) := by
  obtain ⟨i0, hi, hz0, hz1, hz2⟩ := info_parts infoInts
  have hr := Lib.run_append_nil_zeros (P := Try.prog) w 25 3 25 3 i0 (.int .i64 0) .i64 .i64 Try.underlying25 Try.underlying3 hi hz0 n (by omega) (by omega) (by omega) (by rw [hz2]; omega)
  have hcap : grownCap w n 0 3 ≤ maxLen := grownCap_le_maxLen w n 0 _ (by unfold maxLen; omega)
  have hge := grownCap_ge w n 0 3
  have HR := Lib.hid hr
  have n1 : (1 : Int) ≤ (n : Int) := by omega
  have n0 : (0 : Int) < (n : Int) := by omega
  have nn : ¬ (n : Int) < 0 := by omega
  clear hr
  generalize grownCap w n 0 3 = cp at HR hcap hge
  go_enter Try.func131, Try.ntmps131
  go_wp2_with (at_builtin; refine Lib.wpList_append_run _ rfl _ _ 25 3 rfl (.slice none 0 0) (.int .i64 n) rfl rfl _ _ HR.out ?_)
  go_ret
  refine ⟨_, rfl, ?_, ((Below.refl _ _).alloc (Nat.le_refl _) _).drew⟩
  show World.ownsRow (w.alloc _) w.heap.size 3 1 (.slice (some ⟨w.heap.size, 0, none⟩) 0 cp) 0 []
  refine ⟨rfl, .inr ⟨w.heap.size, cp, _, rfl, Nat.le_refl _, heap_alloc_new w _, Nat.zero_le _, hcap, ?_, rfl⟩⟩
  rw [Array.size_append, size_zeroCells, size_zeroCells]
  show n * 1 + (cp - n) * 1 = cp * 1
  omega
theorem flat_take {L : List (List Int)} {k : Nat} {l : List Int} (h : L[k]? = some l) : (L.take (k + 1)).flatten = (L.take k).flatten ++ l := by
  obtain ⟨hl, e⟩ := List.getElem?_eq_some_iff.1 h
  rw [List.take_succ_eq_append_getElem hl, e, List.flatten_append]
  simp
theorem flat_len (L : List (List Int)) : L.flatten.length = totL L := by rw [List.length_flatten]; rfl
set_option maxRecDepth 100000 in
set_option maxHeartbeats 800000 in
theorem concat_all (A : Option Addr) (c : Nat) (xs : List Value) (L : List (List Int)) (w : World) (hln : L.length ≤ 1000) (htt : 1 ≤ totL L) (htl : totL L ≤ 1000) (hr : NRow w A xs L) :
    Calls Try.prog 116 #[.slice A L.length c] w (rowSays1 L.flatten w) := by
  obtain ⟨i0, hi, hz0, hz1, hz2⟩ := info_parts infoInts
  have HR := Lib.hid hr
  have htb : ∀ k, totL (L.take k) ≤ 1000 := fun k => Nat.le_trans (totL_le L k) htl
  have HTB := Lib.hid htb
  have HG := Lib.hid (grow_any (totL L) w htt (by omega))
  clear hr htb
  go_enter Try.func116, Try.ntmps116
  go_wp2
  go_loop [3, 11] (fun s i => ∃ k : Nat, k ≤ L.length ∧ i = .int .i64 (k : Int) ∧ s = .int .i64 ((totL (L.take k) : Nat) : Int)) (fun _ i => L.length - (intOf i).toNat)
  case atStart => exact ⟨0, Nat.zero_le _, rfl, by simp [totL]⟩
  case round =>
    obtain ⟨k, hk, rfl, rfl⟩ := hrel
    have hb := HTB.out k
    have hb2 := HTB.out (k + 1)
    by_cases hlt : k < L.length
    · have hltI : (k : Int) < (L.length : Int) := by omega
      obtain ⟨l, hl⟩ : ∃ l, L[k]? = some l := ⟨_, List.getElem?_eq_getElem hlt⟩
      obtain ⟨b, off, B, d, rfl, hbb, hc, _⟩ := HR.out.row_at hl
      have HT := Lib.hid (totL_take hl)
      rw [HT.out] at hb2
      clear hl
      generalize totL (L.take k) = tk at hb HT ⊢
      generalize l.length = ln at hb2 HT hc
      have hw : IntKind.i64.wrap ((tk : Int) + (ln : Int)) = (tk : Int) + (ln : Int) := IntWalk.i64_in _ (by omega)
      have hnn : ¬ (tk : Int) + (ln : Int) < 0 := by omega
      go_wp2
      go_round
      case rel => exact ⟨k + 1, by omega, by go_num, by rw [HT.out]; go_num⟩
      case measure => simp [intOf]; omega
    · have hke : k = L.length := by omega
      have hltI : ¬ (k : Int) < (L.length : Int) := by omega
      have HE : Hid (totL (L.take k) = totL L) := by show _ = _; rw [hke, List.take_length]
      rw [HE.out]
      clear hke hb hb2
      generalize totL L = tt at HG htt htl ⊢
      go_wp2_with fail
      go_at_call 131
      refine HG.out.mono ?_
      rintro e w1 ⟨v1, rfl, ho, hb⟩
      have HO1 := Lib.hid ho
      have HB1 := Lib.hid hb
      clear ho hb
      go_wp2
      go_loopw [6, 27] (fun v i wr => ∃ k : Nat, k ≤ L.length ∧ i = .int .i64 (k : Int) ∧ Hid (wr.ownsRow w.heap.size 3 1 v (L.take k).flatten.length (ivs (L.take k).flatten)) ∧ Hid (Below w.heap.size w wr)) (fun _ i _ => L.length - (intOf i).toNat)
      case atStart => exact ⟨0, Nat.zero_le _, rfl, HO1.out, HB1.out⟩
      case round =>
        obtain ⟨k, hk, rfl, ho, hb⟩ := hrel
        by_cases hlt : k < L.length
        · have hltI : (k : Int) < (L.length : Int) := by omega
          obtain ⟨l, hl⟩ : ∃ l, L[k]? = some l := ⟨_, List.getElem?_eq_getElem hlt⟩
          obtain ⟨b, off, B, d, rfl, hbb, hc, hrow⟩ := (HR.out.stays hb.out).row_at hl
          have hfb : (L.take k).flatten.length ≤ 1000 := by rw [flat_len]; exact HTB.out k
          have hfb2 : l.length ≤ 1000 := by have := HTB.out (k + 1); rw [totL_take hl] at this; omega
          have HT := Lib.hid (flat_take hl)
          have HRow := Lib.hid hrow
          have hszw := hb.out.size
          have HLen : Hid (l.length = l.length) := rfl
          clear hl hrow
          generalize (L.take k).flatten = fl at ho hfb HT
          go_wp2_with (at_builtin; refine list_app rfl _ _ 25 rfl Try.underlying25 hi hz0 hz1 hz2 rfl ho.out rfl HLen.out HRow.out hszw ?c2 ?_)
          case c2 => omega
          intro v9 w9 ho9 hg9
          have HB9 := Lib.hid (hb.out.grown hg9 hszw (fun k e => (ho.out.lt k e).1))
          have HO9 : Hid (w9.ownsRow w.heap.size 3 1 v9 (fl ++ l).length (ivs (fl ++ l))) := by show World.ownsRow _ _ _ _ _ _ _; rw [List.length_append]; first | exact ho9 | (rw [ivs, List.map_append]; exact ho9)
          clear ho9 hg9 ho hb hc hbb
          go_wp2
          go_roundw
          case rel => exact ⟨k + 1, by omega, by go_num, (by show World.ownsRow _ _ _ _ _ _ _; rw [HT.out]; exact HO9.out), HB9.out⟩
          case measure => simp [intOf]; omega
        · have hke : k = L.length := by omega
          have hltI : ¬ (k : Int) < (L.length : Int) := by omega
          have HF : Hid (L.take k = L) := by show _ = _; rw [hke, List.take_length]
          clear hke
          go_wp2
          go_ret
          have h := ho.out
          rw [HF.out] at h
          exact ⟨_, rfl, h, hb.out⟩
theorem two_rows {w : World} {Aa Aq : Option Addr} {ca cq : Nat} {a q : List Int} (ha : Law.Row w Aa (ivs a)) (hq : Law.Row w Aq (ivs q)) (t : TypeId) :
    NRow (w.alloc (.cells #[.slice Aa a.length ca, .slice Aq q.length cq] t)) (some ⟨w.heap.size, 0, none⟩) [.slice Aa a.length ca, .slice Aq q.length cq] [a, q] := by
  have hb : Below w.heap.size w (w.alloc (.cells #[.slice Aa a.length ca, .slice Aq q.length cq] t)) := (Below.refl _ _).alloc (Nat.le_refl _) _
  refine ⟨fun _ => ⟨w.heap.size, 0, rfl, by simp, fun j u hu => ?_⟩, rfl, fun j x l h1 h2 => ?_⟩
  · match j, hu with
    | 0, hu => simp at hu; subst hu; simp
    | 1, hu => simp at hu; subst hu; simp
  · match j, h1, h2 with
    | 0, h1, h2 => simp at h1 h2; subst h1 h2; exact ⟨Aa, ca, rfl, ha.stays hb⟩
    | 1, h1, h2 => simp at h1 h2; subst h1 h2; exact ⟨Aq, cq, rfl, hq.stays hb⟩
end Go.Proofs.Ytphfjhnmnehfkaa
