/-
  Caches as step machines: a request leads from a valid cache to a valid one. Nothing of the program stands here.
-/
import Derived.Test.YtdjafooabpcbmabCacM
namespace Go.Proofs.Ytdjafooabpcbmab
namespace Q
theorem erase_perm {l : List Int} {k : Nat} {x : Int} (h : l[k]? = some x) : (x :: l.eraseIdx k).Perm l := by
  obtain ⟨hl, e⟩ := List.getElem?_eq_some_iff.1 h
  have h1 : l = l.take k ++ x :: l.drop (k + 1) := by
    conv => lhs; rw [← List.take_append_drop k l, List.drop_eq_getElem_cons hl, e]
  rw [List.eraseIdx_eq_take_drop_succ]
  conv => rhs; rw [h1]
  exact List.perm_middle.symm
theorem erase_mem {l : List Int} {k : Nat} {z : Int} (h : z ∈ l.eraseIdx k) : z ∈ l := List.mem_of_mem_eraseIdx h
theorem erase_nodup {l : List Int} (k : Nat) (h : l.Nodup) : (l.eraseIdx k).Nodup := h.sublist (List.eraseIdx_sublist _ _)
theorem set_nodup {l : List Int} {k : Nat} {x : Int} (h : l.Nodup) (hx : x ∉ l) : (l.set k x).Nodup := by
  by_cases hk : k < l.length
  · rw [List.set_eq_take_append_cons_drop, if_pos hk]
    have hp : (l.take k ++ x :: l.drop (k + 1)).Perm (x :: (l.take k ++ l.drop (k + 1))) := List.perm_middle
    rw [hp.nodup_iff, List.nodup_cons]
    refine ⟨fun hm => ?_, ?_⟩
    · rcases List.mem_append.1 hm with h' | h'
      · exact hx (List.mem_of_mem_take h')
      · exact hx (List.mem_of_mem_drop h')
    · rw [← List.eraseIdx_eq_take_drop_succ]
      exact erase_nodup k h
  · rwa [List.set_eq_of_length_le (by omega)]
theorem hit_ok {n : Int} {c : Ca} (h : okC n c) {x : Int} (hx : x ∈ c.ps) : okC n (hitC c (pos x c.ps)) := by
  obtain ⟨p, s, ps, ms, hd, zz⟩ := c
  obtain ⟨h1, h2, h3, h4, h5, h6, h7, h8⟩ := h
  simp only at h1 h2 h3 h4 h5 h6 h7 h8 hx
  have hk := pos_lt hx
  have hat := pos_at hx
  unfold hitC
  simp only []
  split
  · rename_i hp
    have hgd : ps.getD (pos x ps) 0 = x := by rw [List.getD_eq_getElem?_getD, hat]; rfl
    have hpm := erase_perm hat
    rw [hgd]
    have hlen : (x :: ps.eraseIdx (pos x ps)).length = ps.length := hpm.length_eq
    refine ⟨h1, h2, h3, by simp only []; omega, fun z hz => h5 z (hpm.mem_iff.1 hz), hpm.nodup_iff.2 h6, ?_, ?_⟩
    · rw [if_neg (by omega), if_neg (by omega)] at h7
      show if p = 5 then _ else if p = 6 then _ else ms = []
      rw [if_neg (by omega), if_neg (by omega)]
      exact h7
    · rw [if_neg (by omega)] at h8
      show if p = 6 ∧ _ then _ else hd = 0
      rw [if_neg (by omega)]
      exact h8
  · split
    · rename_i hp
      subst hp
      simp only [if_true] at h7
      refine ⟨h1, h2, h3, h4, h5, h6, ?_, h8⟩
      simp only [if_true, List.length_set]
      refine ⟨h7.1, fun z hz => ?_⟩
      rcases List.mem_or_eq_of_mem_set hz with e | e
      · exact h7.2 z e
      · have hm : 1 ≤ ms.getD (pos x ps) 0 := by
          have hl : pos x ps < ms.length := by omega
          rw [List.getD_eq_getElem?_getD, List.getElem?_eq_getElem hl]
          exact (h7.2 _ (List.getElem_mem hl)).1
        omega
    · split
      · rename_i hp
        subst hp
        simp only [if_true] at h7
        refine ⟨h1, h2, h3, h4, h5, h6, ?_, h8⟩
        simp only [if_true, List.length_set]
        refine ⟨h7.1, fun z hz => ?_⟩
        rcases List.mem_or_eq_of_mem_set hz with e | e
        · exact h7.2 z e
        · omega
      · exact ⟨h1, h2, h3, h4, h5, h6, h7, h8⟩
theorem fault_ok {n : Int} {c : Ca} (h : okC n c) {x : Int} (hx : x ∉ c.ps) (hx0 : 0 ≤ x ∧ x ≤ n - 1) : okC n (faultC c x) := by
  obtain ⟨p, s, ps, ms, hd, zz⟩ := c
  obtain ⟨h1, h2, h3, h4, h5, h6, h7, h8⟩ := h
  simp only at h1 h2 h3 h4 h5 h6 h7 h8 hx
  unfold faultC
  simp only []
  by_cases hp : p = 6
  · subst hp
    rw [if_neg (by decide), if_pos rfl] at h7
    rw [if_pos rfl]
    by_cases hf : (ps.length : Int) < s
    · rw [if_pos hf]
      simp [show ¬ ((ps.length : Int) = s) by omega] at h8
      subst h8
      refine ⟨h1, h2, h3, by simp; omega, fun z hz => ?_, ?_, ?_, ?_⟩
      · rcases List.mem_append.1 hz with e | e
        · exact h5 z e
        · simp at e; omega
      · rw [(List.perm_append_comm).nodup_iff]
        simpa using ⟨hx, h6⟩
      · simp
        refine ⟨h7.1, fun z hz => ?_⟩
        rcases hz with e | e
        · exact h7.2 z e
        · omega
      · simp
        omega
    · rw [if_neg hf]
      have hfull : (ps.length : Int) = s := by omega
      simp [hfull] at h8
      have h7a := h7.1
      have hlt : hd.toNat < ms.length := by omega
      have hpl := pass_lt hlt
      refine ⟨h1, h2, h3, by simp; omega, fun z hz => ?_, set_nodup h6 hx, ?_, ?_⟩
      · rcases List.mem_or_eq_of_mem_set hz with e | e
        · exact h5 z e
        · omega
      · simp [pass_len]
        refine ⟨h7.1, fun z hz => ?_⟩
        rcases List.mem_or_eq_of_mem_set hz with e | e
        · have : z = 0 ∨ z ∈ ms := by
            unfold pass at e
            split at e
            · exact clr_mem e
            · rcases clr_mem e with e | e
              · exact .inl e
              · exact clr_mem e
          rcases this with e | e
          · omega
          · exact h7.2 z e
        · omega
      · simp [hfull]
        have hm := Nat.mod_lt ((pass ms hd.toNat).1 + 1) (show 0 < s.toNat by omega)
        have e : ((((pass ms hd.toNat).1 + 1) % s.toNat : Nat) : Int) = ((pass ms hd.toNat).1 + 1 : Int) % max s 0 := by
          rw [Int.natCast_emod, Int.natCast_add, Int.ofNat_toNat]; rfl
        rw [← e]
        omega
  · rw [if_neg hp]
    have h8' : hd = 0 := by rw [if_neg (by omega)] at h8; exact h8
    subst h8'
    -- what stands before the item is put in
    have key : ∀ d : Ca, d.p = p → d.s = s → d.h = 0 → (d.ps.length : Int) < s → (∀ z ∈ d.ps, z ∈ ps) → d.ps.Nodup → (if p = 5 then d.ms.length = d.ps.length ∧ ∀ z ∈ d.ms, z ∈ ms else d.ms = []) →
        okC n { d with ps := x :: d.ps, ms := if p = 5 then 1 :: d.ms else d.ms } := by
      intro d e1 e2 e3 e4 e5 e6 e7
      obtain ⟨dp, ds, dps, dms, dh⟩ := d
      simp only [] at e1 e2 e3 e4 e5 e6 e7
      subst e1 e2 e3
      refine ⟨h1, h2, h3, by simp; omega, fun z hz => ?_, ?_, ?_, ?_⟩
      · rcases List.mem_cons.1 hz with e | e
        · omega
        · exact h5 z (e5 z e)
      · exact List.nodup_cons.2 ⟨fun e => hx (e5 x e), e6⟩
      · simp only []
        by_cases h5' : dp = 5
        · rw [if_pos h5'] at e7 h7 ⊢
          rw [if_pos h5']
          refine ⟨by simp [e7.1], fun z hz => ?_⟩
          rcases List.mem_cons.1 hz with e | e
          · omega
          · exact h7.2 z (e7.2 z e)
        · rw [if_neg h5'] at e7 ⊢
          rw [if_neg hp, if_neg h5']
          exact e7
      · simp only []
        rw [if_neg (by omega)]
        trivial
    by_cases hf : (ps.length : Int) < s
    · rw [if_pos hf]
      refine key ⟨p, s, ps, ms, 0, zz⟩ rfl rfl rfl hf (fun z hz => hz) h6 ?_
      by_cases h5' : p = 5
      · rw [if_pos h5'] at h7 ⊢; exact ⟨h7.1, fun z hz => hz⟩
      · rw [if_neg h5', if_neg hp] at h7; rw [if_neg h5']; exact h7
    · rw [if_neg hf]
      have hfull : (ps.length : Int) = s := by omega
      have hpos : 0 < ps.length := by omega
      have hms : p ≠ 5 → ms = [] := fun e => by rwa [if_neg e, if_neg hp] at h7
      have one : ∀ k, k < ps.length → ((ps.eraseIdx k).length : Int) < s := fun k hk => by rw [List.length_eraseIdx, if_pos hk]; omega
      have hE : ∀ d : Ca, d = roomC ⟨p, s, ps, ms, 0, zz⟩ → d.p = p ∧ okC n { d with ps := x :: d.ps, ms := if p = 5 then 1 :: d.ms else d.ms } := by
        intro d hd
        unfold roomC at hd
        simp only [] at hd
        split at hd
        · subst hd
          rename_i e
          exact ⟨rfl, key ⟨p, s, [], ms, 0, zz⟩ rfl rfl rfl (by simp; omega) (fun z hz => by simp at hz) List.nodup_nil (by rw [if_neg (by omega)]; exact hms (by omega))⟩
        · split at hd
          · subst hd
            rename_i e
            rw [if_pos e] at h7
            have hr : rare ms < ms.length := rare_lt (by omega)
            refine ⟨rfl, key ⟨p, s, ps.eraseIdx (rare ms), ms.eraseIdx (rare ms), 0, zz⟩ rfl rfl rfl (one _ (by omega)) (fun z hz => erase_mem hz) (erase_nodup _ h6) ?_⟩
            rw [if_pos e]
            refine ⟨?_, fun z hz => erase_mem hz⟩
            simp only [List.length_eraseIdx]
            rw [if_pos hr, if_pos (by omega)]
            omega
          · split at hd
            · subst hd
              rename_i e5 e
              exact ⟨rfl, key ⟨p, s, ps.eraseIdx 0, ms, 0, zz⟩ rfl rfl rfl (one _ (by omega)) (fun z hz => erase_mem hz) (erase_nodup _ h6) (by rw [if_neg e5]; exact hms e5)⟩
            · subst hd
              rename_i e5 e
              exact ⟨rfl, key ⟨p, s, ps.eraseIdx (ps.length - 1), ms, 0, zz⟩ rfl rfl rfl (one _ (by omega)) (fun z hz => erase_mem hz) (erase_nodup _ h6) (by rw [if_neg e5]; exact hms e5)⟩
      exact (hE _ rfl).2
theorem step_ok {n : Int} {c : Ca} (h : okC n c) {x : Int} (hx : 0 ≤ x ∧ x ≤ n - 1) : okC n (stepC c x) := by
  unfold stepC
  split
  · rename_i hm; exact hit_ok h hm
  · rename_i hm; exact fault_ok h hm hx
end Q
end Go.Proofs.Ytdjafooabpcbmab
