/-
  Plain mathematics: joining what was split gives the text; LessString is a strict order.
-/
import Derived.Test.YtopmmodekkfkdaaSplitBoth
import Derived.Test.YtopmmodekkfkdaaJoin
namespace Go.Proofs.Ytopmmodekkfkdaa
open Go.RowKit
set_option linter.unusedVariables false
theorem jp_app (ps : List ByteArray) (x sep : ByteArray) : ∀ k, k ≤ ps.length → jp (ps ++ [x]) sep k = jp ps sep k
  | 0, _ => rfl
  | k + 1, h => by
    have h1 : k < ps.length := by omega
    rw [jp_succ (ss := ps ++ [x]) (by simp; omega), jp_succ h1, jp_app ps x sep k (by omega), List.getElem_append_left h1]
theorem jp_snoc (ps : List ByteArray) (x sep : ByteArray) : jp (ps ++ [x]) sep (ps.length + 1) = (if 0 < ps.length then jp ps sep ps.length ++ sep else jp ps sep ps.length) ++ x := by
  rw [jp_succ (ss := ps ++ [x]) (by simp), jp_app ps x sep ps.length (Nat.le_refl _)]
  simp
theorem ext_list {x y : ByteArray} (h : x.data.toList = y.data.toList) : x = y := ByteArray.ext (Array.toList_inj.1 h)
theorem app_list (a b : ByteArray) : (a ++ b).data.toList = a.data.toList ++ b.data.toList := by simp
theorem extract_snoc {s : ByteArray} {f k : Nat} (hf : f ≤ k) (hk : k < s.size) : (s.extract f (k + 1)).data.toList = (s.extract f k).data.toList ++ [s[k]] := by
  rw [Lib.extract_data, Lib.extract_data]
  have h : k - f < (s.data.toList.drop f).length := by rw [List.length_drop, Array.length_toList]; show k - f < s.size - f; omega
  rw [show k + 1 - f = (k - f) + 1 by omega, List.take_succ_eq_append_getElem h]
  congr 2
  rw [List.getElem_drop]
  have : f + (k - f) = k := by omega
  simp only [this]
  rfl
theorem extract_same (s : ByteArray) (k : Nat) : (s.extract k k).data.toList = [] := by rw [Lib.extract_data]; simp
/-- What is known of the parts behind k bytes. -/
structure SJ (s : ByteArray) (sep : ByteArray) (b : UInt8) (ps : List ByteArray) (f k : Nat) : Prop where
  le : f ≤ k
  no : ∀ p ∈ ps, hasB p.data.toList b = false
  last : hasB (s.extract f k).data.toList b = false
  all : jp (ps ++ [s.extract f k]) sep (ps.length + 1) = s.extract 0 k
theorem sj_any (s sep : ByteArray) (b : UInt8) (hsep : sep = ⟨#[b]⟩) : ∀ k, k ≤ s.size → SJ s sep b (sp s b k).1 (sp s b k).2 k
  | 0, _ => ⟨Nat.le_refl _, fun p hp => by simp [sp] at hp, by show hasB (s.extract 0 0).data.toList b = false; rw [extract_same]; rfl, by
      show jp ([] ++ [s.extract 0 0]) sep (([] : List ByteArray).length + 1) = s.extract 0 0
      rw [jp_snoc [] (s.extract 0 0) sep]
      apply ext_list
      rw [if_neg (by simp), app_list]; rfl⟩
  | k + 1, hk => by
    have hlt : k < s.size := by omega
    have ih := sj_any s sep b hsep k (by omega)
    obtain ⟨ps, f, e⟩ : ∃ ps f, sp s b k = (ps, f) := ⟨_, _, rfl⟩
    rw [e] at ih
    obtain ⟨hle, hno, hlast, hall⟩ := ih
    by_cases hc : s[k] = b
    · rw [sp_hit hlt hc e]
      refine ⟨Nat.le_refl _, fun p hp => ?_, by show hasB (s.extract (k + 1) (k + 1)).data.toList b = false; rw [extract_same]; rfl, ?_⟩
      · rcases List.mem_append.1 hp with hp | hp
        · exact hno p hp
        · obtain rfl := List.mem_singleton.1 hp; exact hlast
      · show jp ((ps ++ [s.extract f k]) ++ [s.extract (k + 1) (k + 1)]) sep ((ps ++ [s.extract f k]).length + 1) = s.extract 0 (k + 1)
        rw [jp_snoc, if_pos (by simp)]
        have hl : (ps ++ [s.extract f k]).length = ps.length + 1 := by simp
        rw [hl, hall]
        apply ext_list
        rw [app_list, app_list, extract_same, List.append_nil, extract_snoc (Nat.zero_le _) hlt, hsep, hc]
    · rw [sp_miss hlt hc e]
      refine ⟨by show f ≤ k + 1; have : f ≤ k := hle; omega, hno, ?_, ?_⟩
      · show hasB (s.extract f (k + 1)).data.toList b = false
        rw [Bool.eq_false_iff, ne_eq, hasB_iff, extract_snoc hle hlt]
        intro h
        rcases List.mem_append.1 h with h | h
        · have h2 := Bool.eq_false_iff.1 hlast
          exact h2 ((hasB_iff _ _).2 h)
        · exact hc (List.mem_singleton.1 h).symm
      · show jp (ps ++ [s.extract f (k + 1)]) sep (ps.length + 1) = s.extract 0 (k + 1)
        have h1 := hall
        rw [jp_snoc] at h1 ⊢
        apply ext_list
        rw [app_list, extract_snoc hle hlt, ← List.append_assoc, ← app_list, h1, extract_snoc (Nat.zero_le _) hlt]
theorem split_join (s sep : ByteArray) (hs : s.size ≤ 4000) (h0 : 0 < sep.size) (h1 : sep.size ≤ 1) : jq (splitS s sep[0]) sep = (s, true) := by
  have hq := sj_any s sep sep[0] (sep_eq h0 (by omega)) s.size (Nat.le_refl _)
  have hw : s.extract 0 s.size = s := by apply ext_list; rw [Lib.extract_to_end, List.drop_zero]
  have hl : (splitS s sep[0]).length = (sp s sep[0] s.size).1.length + 1 := by unfold splitS; simp
  have hj : jp (splitS s sep[0]) sep (splitS s sep[0]).length = s := by
    rw [hl]
    have := hq.all
    rw [hw] at this
    exact this
  have hok : OkJ (splitS s sep[0]) sep sep[0] := by
    refine ⟨by omega, fun k hk => ?_, by rw [hj]; exact hs⟩
    have hm : (splitS s sep[0])[k] ∈ (sp s sep[0] s.size).1 ++ [s.extract (sp s sep[0] s.size).2 s.size] := List.getElem_mem hk
    rcases List.mem_append.1 hm with hm | hm
    · exact hq.no _ hm
    · rw [List.mem_singleton.1 hm]; exact hq.last
  rw [jq_good (by omega) h0, jn_yes hok, hj]
end Go.Proofs.Ytopmmodekkfkdaa
