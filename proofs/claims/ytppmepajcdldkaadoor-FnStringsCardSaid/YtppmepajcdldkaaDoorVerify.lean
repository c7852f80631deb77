/-
  The contracts of the program's and of the model's VerifyChecksum: both end as 'vf' says.
-/
import Derived.Test.YtppmepajcdldkaaDoorSeal
import Derived.Test.YtppmepajcdldkaaDoorSplit
import Derived.Lib.IndexMore
import Derived.Lib.IndexLaws
import Derived.Lib.IndexBytes
namespace Go.Proofs.YtppmepajcdldkaaDoor
open Go.RowKit Go.Sort
/-- Place j is the first one of the byte b in s, or the end. -/
structure Fst (s : ByteArray) (b : UInt8) (j : Nat) : Prop where
  le : j ≤ s.size
  none_ : ∀ i (h : i < s.size), i < j → s[i] ≠ b
  at_ : ∀ h : j < s.size, s[j] = b
theorem Fst.uniq {s : ByteArray} {b : UInt8} {j j' : Nat} (h : Fst s b j) (h' : Fst s b j') : j = j' := by
  rcases Nat.lt_trichotomy j j' with hl | hl | hl
  · have hs : j < s.size := by have := h'.le; omega
    exact absurd (h.at_ hs) (h'.none_ j hs hl)
  · exact hl
  · have hs : j' < s.size := by have := h.le; omega
    exact absurd (h'.at_ hs) (h.none_ j' hs hl)
theorem sp_first (s : ByteArray) (b : UInt8) : ∀ k, k ≤ s.size → (∃ ps, sp s b k = (ps, 0) ∧ ps = [] ∧ ∀ i (h : i < s.size), i < k → s[i] ≠ b) ∨ (∃ ps fr j, sp s b k = (s.extract 0 j :: ps, fr) ∧ Fst s b j)
  | 0, _ => .inl ⟨[], rfl, rfl, fun i h hi => absurd hi (by omega)⟩
  | k + 1, hk => by
    have hlt : k < s.size := by omega
    rcases sp_first s b k (by omega) with ⟨ps, e, rfl, hno⟩ | ⟨ps, fr, j, e, hf⟩
    · by_cases hc : s[k] = b
      · exact .inr ⟨[], k + 1, k, by rw [sp_hit hlt hc e]; rfl, ⟨by omega, fun i h hi => hno i h hi, fun _ => hc⟩⟩
      · refine .inl ⟨[], sp_miss hlt hc e, rfl, fun i h hi => ?_⟩
        by_cases hik : i = k
        · subst hik; exact hc
        · exact hno i h (by omega)
    · by_cases hc : s[k] = b
      · exact .inr ⟨ps ++ [s.extract fr k], k + 1, j, by rw [sp_hit hlt hc e]; rfl, hf⟩
      · exact .inr ⟨ps, fr, j, sp_miss hlt hc e, hf⟩
theorem split_first (s : ByteArray) (b : UInt8) : ∃ j rest, Fst s b j ∧ splitS s b = s.extract 0 j :: rest := by
  unfold splitS
  rcases sp_first s b s.size (Nat.le_refl _) with ⟨ps, e, rfl, hno⟩ | ⟨ps, fr, j, e, hf⟩
  · exact ⟨s.size, [], ⟨Nat.le_refl _, fun i h hi => hno i h hi, fun h => absurd h (by omega)⟩, by rw [e]; rfl⟩
  · exact ⟨j, ps ++ [s.extract fr s.size], hf, by rw [e]; rfl⟩
theorem extract_zero (s : ByteArray) (j : Nat) : (⟨(s.data.toList.take j).toArray⟩ : ByteArray) = s.extract 0 j := by
  apply ByteArray.ext
  apply Array.toList_inj.1
  rw [Lib.extract_data]; simp
theorem cut_first (s : ByteArray) (b : UInt8) : ∃ j, Fst s b j ∧ (⟨(Lib.cut s.data.toList [b]).1.toArray⟩ : ByteArray) = s.extract 0 j := by
  have hl : s.data.toList.length = s.size := Array.length_toList
  unfold Lib.cut
  rw [Lib.index_one]
  by_cases h : 0 ≤ Lib.indexByte s.data.toList b
  · rw [if_pos h]
    obtain ⟨o, ho⟩ : ∃ o : Nat, Lib.indexByte s.data.toList b = o := ⟨(Lib.indexByte s.data.toList b).toNat, by omega⟩
    obtain ⟨h1, h2⟩ := Lib.indexByte_some ho
    have hlt : o < s.size := by
      have := (List.getElem?_eq_some_iff.1 h1).1
      omega
    refine ⟨o, ⟨by omega, fun i hi hio e => h2 i hio ?_, fun hh => ?_⟩, ?_⟩
    · rw [List.getElem?_eq_getElem (by omega)]
      exact congrArg some e
    · rw [List.getElem?_eq_getElem (by omega)] at h1
      exact Option.some.inj h1
    · rw [ho]; exact extract_zero s o
  · rw [if_neg h]
    have h1 : Lib.indexByte s.data.toList b = -1 := by have := Lib.indexByte_ge s.data.toList b; omega
    have h2 := Lib.indexByte_none h1
    refine ⟨s.size, ⟨Nat.le_refl _, fun i hi _ e => h2 i ?_, fun hh => absurd hh (by omega)⟩, ?_⟩
    · rw [List.getElem?_eq_getElem (by omega)]
      exact congrArg some e
    · rw [← extract_zero, List.take_of_length_le (by omega)]
/-- What stands ahead of the first '#'. -/
noncomputable def fstS (s : ByteArray) : ByteArray := s.extract 0 (Classical.choose (cut_first s 35))
theorem fstS_cut (s : ByteArray) : (⟨(Lib.cut s.data.toList [35]).1.toArray⟩ : ByteArray) = fstS s := (Classical.choose_spec (cut_first s 35)).2
theorem fstS_fst (s : ByteArray) : ∃ j, Fst s 35 j ∧ fstS s = s.extract 0 j := ⟨_, (Classical.choose_spec (cut_first s 35)).1, rfl⟩
theorem fstS_split (s : ByteArray) : ∃ rest, splitS s 35 = fstS s :: rest := by
  obtain ⟨j, rest, hf, e⟩ := split_first s 35
  obtain ⟨j', hf', e'⟩ := fstS_fst s
  obtain rfl := hf.uniq hf'
  exact ⟨rest, by rw [e, e']⟩
theorem fstS_size (s : ByteArray) : (fstS s).size ≤ s.size := by
  obtain ⟨j, hf, e⟩ := fstS_fst s
  rw [e, ByteArray.size_extract]; omega
theorem fstS_no (s : ByteArray) : hasB (fstS s).data.toList 35 = false := by
  obtain ⟨j, hf, e⟩ := fstS_fst s
  rw [Bool.eq_false_iff, e, ne_eq, hasB_iff, ← extract_zero]
  intro h
  have h' : (35 : UInt8) ∈ s.data.toList.take j := by simpa using h
  obtain ⟨i, hi, e'⟩ := List.getElem_of_mem h'
  have h1 : i < j := by rw [List.length_take] at hi; omega
  have h2 : i < s.size := by have := hf.le; omega
  refine hf.none_ i h2 h1 ?_
  rw [List.getElem_take] at e'
  exact e'
open Classical in
/-- How VerifyChecksum ends. -/
noncomputable def vf (s : ByteArray) : ByteArray × Bool := if s.size ≤ 4000 ∧ sealS (fstS s) = s then (fstS s, true) else (⟨#[]⟩, false)
theorem vf_yes {s : ByteArray} (h : s.size ≤ 4000) (e : sealS (fstS s) = s) : vf s = (fstS s, true) := by unfold vf; rw [if_pos ⟨h, e⟩]
theorem vf_no {s : ByteArray} (h : ¬ (s.size ≤ 4000 ∧ sealS (fstS s) = s)) : vf s = (⟨#[]⟩, false) := by unfold vf; rw [if_neg h]
/-- The library's variable MaxLen holds some int. -/
def Mx (w : World) : Prop := ∃ m, w.cell? ⟨0, 0, none⟩ = some (.int .i64 m)
theorem Mx.stays {w w' : World} (h : Mx w) (hb : Below w.heap.size w w') : Mx w' := by
  obtain ⟨m, h⟩ := h
  refine ⟨m, (hb.cell ?_).trans h⟩
  rcases Nat.lt_or_ge 0 w.heap.size with h' | h'
  · exact h'
  · unfold World.cell? at h
    rw [Array.getElem?_eq_none h'] at h
    simp at h
theorem mx_of_shaped {w : World} (h : w.ShapedOpen Tryd.prog) : Mx w := Tryd.laysM145.s1_3 w h
theorem cut_any (s : ByteArray) (w : World) (hs : s.size ≤ 1048576) (hm : Mx w) :
    Calls Tryd.prog 31 #[.string s, .string ⟨#[35]⟩] w fun e w' => ∃ x y, e = .returned (.tuple #[.string (fstS s), .string x, .bool y]) ∧ ∃ k, w' = w.drewN k := by
  obtain ⟨m, hm⟩ := hm
  refine (Any.strings_Cut { Tryd.laysM145 with } s ⟨#[35]⟩ m w (by omega) hm).mono ?_
  rintro e w' ⟨he, hk⟩
  have e1 : ({ data := #[35] } : ByteArray).data.toList = [35] := rfl
  rw [e1, fstS_cut s] at he
  exact ⟨_, _, he, hk⟩
theorem implAppend_at (s : ByteArray) (w : World) (hs : s.size ≤ 1048576) (ht : Tab w) {x : ByteArray} {ok : Bool} (h : ap s = (x, ok)) :
    Calls Tryd.prog 13 #[.string s] w fun e w' => e = .returned (.tuple #[.string x, .bool ok]) ∧ Below w.heap.size w w' := by
  have := implAppend_any s w hs ht
  rw [h] at this
  exact this
set_option maxHeartbeats 800000 in
theorem implVerify_any (s : ByteArray) (w : World) (hs : s.size ≤ 1048576) (ht : Tab w) (hm : Mx w) :
    Calls Tryd.prog 15 #[.string s] w fun e w' => e = .returned (.tuple #[.string (vf s).1, .bool (vf s).2]) ∧ Below w.heap.size w w' := by
  have HT := Lib.hid ht
  have HM := Lib.hid hm
  clear ht hm
  have hz := fstS_size s
  have hno := fstS_no s
  by_cases h1 : okAp (fstS s) = true
  · have hap : ap (fstS s) = (sealS (fstS s), true) := by unfold ap; rw [if_pos h1]
    have hs4 : (sealS (fstS s)).size ≤ 4000 := by
      unfold okAp at h1
      simp only [Bool.and_eq_true, decide_eq_true_eq] at h1
      exact h1.2
    have HA := Lib.hid hap
    have HS := Lib.hid hs4
    clear hap hs4 h1 hno
    by_cases h2 : sealS (fstS s) = s
    · have H2 := Lib.hid h2
      go_enter Tryd.func15, Tryd.ntmps15
      go_wp2_with (first | (go_at_call 31; refine (cut_any _ _ hs HM.out).mono ?_; rintro e w' ⟨x, y, rfl, k, rfl⟩) | (go_at_call 13; refine (implAppend_at _ _ (by omega) (HT.out.stays (below_draws _ k)) HA.out).mono ?_; rintro e w' ⟨rfl, hb⟩))
      go_ret2
      exact ⟨(ret_ap (vf_yes (by have := HS.out; rw [H2.out] at this; exact this) H2.out)).symm, below_then (below_draws _ k) hb⟩
    · have H2 := Lib.hid h2
      have h2' := neq_lists h2
      clear h2
      go_enter Tryd.func15, Tryd.ntmps15
      go_wp2_with (first | (go_at_call 31; refine (cut_any _ _ hs HM.out).mono ?_; rintro e w' ⟨x, y, rfl, k, rfl⟩) | (go_at_call 13; refine (implAppend_at _ _ (by omega) (HT.out.stays (below_draws _ k)) HA.out).mono ?_; rintro e w' ⟨rfl, hb⟩))
      go_ret2
      exact ⟨(ret_ap (vf_no (fun h => H2.out h.2))).symm, below_then (below_draws _ k) hb⟩
  · have HA : Hid (ap (fstS s) = (⟨#[]⟩, false)) := by show ap _ = _; unfold ap; rw [if_neg h1]
    have HN : Hid (¬ (s.size ≤ 4000 ∧ sealS (fstS s) = s)) := by
      rintro ⟨h3, h4⟩
      apply h1
      unfold okAp
      rw [h4, hno]
      simp [h3]; omega
    clear h1 hno
    go_enter Tryd.func15, Tryd.ntmps15
    go_wp2_with (first | (go_at_call 31; refine (cut_any _ _ hs HM.out).mono ?_; rintro e w' ⟨x, y, rfl, k, rfl⟩) | (go_at_call 13; refine (implAppend_at _ _ (by omega) (HT.out.stays (below_draws _ k)) HA.out).mono ?_; rintro e w' ⟨rfl, hb⟩))
    go_ret2
    exact ⟨(ret_ap (vf_no HN.out)).symm, below_then (below_draws _ k) hb⟩
/-- The first cell of a row of strings of the call's own. -/
theorem own_head {w : World} {base : Nat} {e : TypeId} {v : Value} {x : ByteArray} {r : List ByteArray} (h : w.ownsRow base e 1 v (x :: r).length ((x :: r).map Value.string)) :
    ∃ g n cap, v = .slice (some ⟨g, 0, none⟩) n cap ∧ 0 < n ∧ w.cell? ⟨g, 0, none⟩ = some (.string x) := by
  rcases h.2 with ⟨_, h0⟩ | ⟨g, cap, cur, rfl, _, hg, _, _, _, _⟩
  · simp at h0
  · refine ⟨g, _, cap, rfl, by simp, ?_⟩
    have := h.cells (g := g) rfl 0 (.string x) rfl
    simpa [Addr.add] using this
end Go.Proofs.YtppmepajcdldkaaDoor
