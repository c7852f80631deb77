/-
  Plain mathematics: what is sealed is verified; a sealed text with one byte changed is not.
-/
import Derived.Test.YtppmepajcdldkaaDoorVerify
namespace Go.Proofs.YtppmepajcdldkaaDoor
open Go.RowKit
set_option linter.unusedVariables false
theorem cut_unique : ∀ (a a' b b' : List UInt8), a ++ 35 :: b = a' ++ 35 :: b' → (35 : UInt8) ∉ a → (35 : UInt8) ∉ a' → a = a' ∧ b = b'
  | [], [], b, b', h, _, _ => by simpa using h
  | [], x :: a', b, b', h, _, h2 => by
    simp only [List.nil_append, List.cons_append, List.cons.injEq] at h
    exact absurd (by rw [← h.1]; simp) h2
  | x :: a, [], b, b', h, h1, _ => by
    simp only [List.nil_append, List.cons_append, List.cons.injEq] at h
    exact absurd (by rw [h.1]; simp) h1
  | x :: a, y :: a', b, b', h, h1, h2 => by
    simp only [List.cons_append, List.cons.injEq] at h
    obtain ⟨rfl, h⟩ := h
    have := cut_unique a a' b b' h (fun hh => h1 (List.mem_cons_of_mem _ hh)) (fun hh => h2 (List.mem_cons_of_mem _ hh))
    exact ⟨by rw [this.1], this.2⟩
def stp (h : Int) (c : UInt8) : Int := (41 * h + (c.toNat : Int) + 1) % 999979
theorem stp_bd (h : Int) (c : UInt8) : 0 ≤ stp h c ∧ stp h c < 999979 := by unfold stp; omega
theorem stp_inj {h h' : Int} (c : UInt8) (a : 0 ≤ h ∧ h < 999979) (b : 0 ≤ h' ∧ h' < 999979) (e : stp h c = stp h' c) : h = h' := by unfold stp at e; omega
theorem fold_inj : ∀ (S : List UInt8) (h h' : Int), 0 ≤ h ∧ h < 999979 → 0 ≤ h' ∧ h' < 999979 → S.foldl stp h = S.foldl stp h' → h = h'
  | [], h, h', _, _, e => e
  | c :: S, h, h', a, b, e => stp_inj c a b (fold_inj S (stp h c) (stp h' c) (stp_bd h c) (stp_bd h' c) e)
theorem ck_fold (l : List UInt8) : M.ck l = l.foldl stp 7 := rfl
theorem ck_set_ne {l : List UInt8} {k : Nat} {c : UInt8} (hk : k < l.length) (hc : c ≠ l[k]) : M.ck (l.set k c) ≠ M.ck l := by
  intro e
  have e1 : l = l.take k ++ l[k] :: l.drop (k + 1) := by rw [← List.drop_eq_getElem_cons hk, List.take_append_drop]
  have e2 : l.set k c = l.take k ++ c :: l.drop (k + 1) := List.set_eq_take_append_cons_drop ▸ by rw [if_pos hk]
  rw [e2, ck_fold, ck_fold] at e
  conv at e => rhs; rw [e1]
  rw [List.foldl_append, List.foldl_append, List.foldl_cons, List.foldl_cons] at e
  have h := fold_inj _ _ _ (stp_bd _ _) (stp_bd _ _) e
  apply hc
  apply UInt8.toNat_inj.1
  have h1 := c.toNat_lt
  have h2 := l[k].toNat_lt
  unfold stp at h
  omega
theorem numS_dec {n : Int} (h : 0 ≤ n) : (numS n).data.toList = Lib.decDigits n.toNat := by
  rw [numS_list]; unfold Lib.itoa; rw [if_neg (by omega)]
theorem no_hash (u : Nat) : (35 : UInt8) ∉ Lib.decDigits u := fun h => by
  have := dec_dig u _ h
  unfold isDig at this
  exact absurd this.1 (by decide)
theorem seal_list (t : ByteArray) : (sealS t).data.toList = t.data.toList ++ 35 :: Lib.decDigits (M.ck t.data.toList).toNat := by
  unfold sealS
  have app : ∀ a b : ByteArray, (a ++ b).data.toList = a.data.toList ++ b.data.toList := fun a b => by simp
  rw [app, app, numS_dec (M.ck_bd _).1]
  simp
theorem no_of_has {t : ByteArray} (h : hasB t.data.toList 35 = false) : (35 : UInt8) ∉ t.data.toList := fun hh => by
  rw [(hasB_iff _ _).2 hh] at h; cases h
/-- A changed byte is found out. -/
theorem bad_byte {x : ByteArray} {k : Nat} {c : UInt8} {y' : ByteArray} (hx : hasB x.data.toList 35 = false) (hk : k < (sealS x).data.toList.length) (hc : c ≠ (sealS x).data.toList[k]) (hy : y'.data.toList = (sealS x).data.toList.set k c) :
    ¬ sealS (fstS y') = y' := by
  intro e
  have hX := no_of_has hx
  have hT := no_of_has (fstS_no y')
  have h1 := seal_list (fstS y')
  rw [e, hy] at h1
  obtain ⟨T, hTe⟩ : ∃ T, T = (fstS y').data.toList := ⟨_, rfl⟩
  rw [← hTe] at h1 hT
  obtain ⟨X, hXe⟩ : ∃ X, X = x.data.toList := ⟨_, rfl⟩
  have hs := seal_list x
  rw [← hXe] at hs hX
  obtain ⟨D, hD⟩ : ∃ D, D = Lib.decDigits (M.ck X).toNat := ⟨_, rfl⟩
  have hDn : (35 : UInt8) ∉ D := by rw [hD]; exact no_hash _
  have hDn' := no_hash (M.ck T).toNat
  rw [← hD] at hs
  obtain ⟨Y, hY⟩ : ∃ Y, Y = (sealS x).data.toList := ⟨_, rfl⟩
  rw [← hY] at hs h1
  have hkY : k < Y.length := by rw [hY]; exact hk
  have hcY : c ≠ Y[k] := by
    intro e
    apply hc
    rw [e]
    simp only [hY]
  clear hY hk hc hy
  subst hs
  rcases Nat.lt_trichotomy k X.length with hlt | heq | hgt
  · rw [List.set_append, if_pos hlt] at h1
    have hcX : c ≠ X[k] := by rw [List.getElem_append_left hlt] at hcY; exact hcY
    by_cases h35 : c = 35
    · have hcnt := congrArg (List.count (35 : UInt8)) h1
      have hpos : 0 < List.count (35 : UInt8) (X.set k c) := List.count_pos_iff.2 (by rw [h35]; exact List.mem_set hlt 35)
      rw [List.count_append, List.count_append, List.count_cons_self, List.count_cons_self, List.count_eq_zero.2 hDn, List.count_eq_zero.2 hDn', List.count_eq_zero.2 hT] at hcnt
      omega
    · have hXs : (35 : UInt8) ∉ X.set k c := fun hh => by
        rcases List.mem_or_eq_of_mem_set hh with hh | hh
        · exact hX hh
        · exact h35 hh.symm
      obtain ⟨hTX, hDD⟩ := cut_unique _ _ _ _ h1 hXs hT
      have hv := congrArg dval hDD
      rw [hD, dec_val, dec_val, ← hTX] at hv
      have b1 := M.ck_bd X
      have b2 := M.ck_bd (X.set k c)
      exact ck_set_ne hlt hcX (by omega)
  · subst heq
    rw [List.set_append, if_neg (by omega), Nat.sub_self, List.set_cons_zero] at h1
    have hc35 : c ≠ 35 := by
      rw [List.getElem_append_right (Nat.le_refl _)] at hcY
      simpa using hcY
    have hmem : (35 : UInt8) ∈ X ++ c :: D := by rw [h1]; simp
    rcases List.mem_append.1 hmem with hm | hm
    · exact hX hm
    · rcases List.mem_cons.1 hm with hm | hm
      · exact hc35 hm.symm
      · exact hDn hm
  · rw [List.set_append, if_neg (by omega)] at h1
    obtain ⟨j, hj⟩ : ∃ j, k - X.length = j + 1 := ⟨k - X.length - 1, by omega⟩
    rw [hj, List.set_cons_succ] at h1
    obtain ⟨hTX, hDD⟩ := cut_unique _ _ _ _ h1 hX hT
    rw [← hTX, ← hD] at hDD
    have hjD : j < D.length := by
      rw [List.length_append, List.length_cons] at hkY
      omega
    apply hcY
    rw [List.getElem_append_right (by omega)]
    simp only [hj, List.getElem_cons_succ]
    have := congrArg (fun l => l[j]?) hDD
    simp only [List.getElem?_set_self hjD, List.getElem?_eq_getElem hjD] at this
    exact Option.some.inj this
theorem fst_list (s : ByteArray) : (s.data.toList = (fstS s).data.toList ∨ ∃ r, s.data.toList = (fstS s).data.toList ++ 35 :: r) := by
  obtain ⟨j, hf, e⟩ := fstS_fst s
  rw [e, ← extract_zero]
  simp only []
  by_cases hj : j < s.size
  · right
    have hl : j < s.data.toList.length := by simpa using hj
    refine ⟨s.data.toList.drop (j + 1), ?_⟩
    have h35 : s.data.toList[j] = 35 := hf.at_ hj
    conv => lhs; rw [← List.take_append_drop j s.data.toList, List.drop_eq_getElem_cons hl, h35]
  · left
    rw [List.take_of_length_le (by simp; omega)]
/-- What is sealed is verified. -/
theorem fst_seal {x : ByteArray} (hx : hasB x.data.toList 35 = false) : fstS (sealS x) = x := by
  apply ByteArray.ext
  apply Array.toList_inj.1
  have h := fst_list (sealS x)
  have hT := no_of_has (fstS_no (sealS x))
  have hs := seal_list x
  rcases h with h | ⟨r, h⟩
  · rw [← h, hs] at hT
    exact absurd (by simp) hT
  · rw [hs] at h
    exact (cut_unique _ _ _ _ h (no_of_has hx) hT).1.symm
end Go.Proofs.YtppmepajcdldkaaDoor
