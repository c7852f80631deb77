/-
  The walk of the model's reading 'spec.l1Read'.
-/
import Derived.Test.YtgnfmbdomofgcaaRead
import Derived.WalkSpells
namespace Go.Proofs.Ytgnfmbdomofgcaa
open Go.RowKit
theorem rd_dig {s t : ByteArray} {neg : Bool} (h : Rest s t neg) {k : Nat} (hk : k < t.size) (hd : ¬ isDig t[k]) : rd s = (0, false) :=
  rd_no fun ⟨_, hn⟩ => hd (h.dig hn k hk)
theorem rd_len {s t : ByteArray} {neg : Bool} (h : Rest s t neg) (hd : ¬ (1 ≤ (t.size : Int) ∧ (t.size : Int) ≤ 6)) : rd s = (0, false) :=
  rd_no fun ⟨_, hn⟩ => hd (by have := h.len hn; omega)
theorem rd_other {s t : ByteArray} {neg : Bool} (h : Rest s t neg) (hd : ¬ numS (if neg then -dval t.data.toList else dval t.data.toList) = s) : rd s = (0, false) :=
  rd_no fun ⟨n, hn⟩ => hd (by rw [h.val hn]; exact hn.2.2.symm)
/-- All bytes ahead of place k are digits. -/
def digs (t : ByteArray) (k : Nat) : Prop := ∀ c ∈ t.data.toList.take k, isDig c
theorem digs_snoc {t : ByteArray} {k : Nat} (h : digs t k) (hk : k < t.size) (h1 : 48 ≤ (t[k].toNat : Int)) (h2 : (t[k].toNat : Int) ≤ 57) : digs t (k + 1) := by
  intro c hc
  rw [List.take_succ_eq_append_getElem (by simpa using hk)] at hc
  rcases List.mem_append.1 hc with hc | hc
  · exact h c hc
  · obtain rfl := List.mem_singleton.1 hc
    exact ⟨by show 48 ≤ t[k].toNat; omega, by show t[k].toNat ≤ 57; omega⟩
theorem digs_bd {t : ByteArray} {k : Nat} (h : digs t k) (hk : k ≤ t.size) (h6 : (t.size : Int) ≤ 6) : 0 ≤ dval (t.data.toList.take k) ∧ dval (t.data.toList.take k) ≤ 999999 :=
  dval_bd _ h (by rw [List.length_take]; omega)
theorem take_whole (t : ByteArray) {k : Nat} (h : k = t.size) : t.data.toList.take k = t.data.toList := by
  subst h; exact List.take_of_length_le (by simp)
set_option maxHeartbeats 1000000 in
theorem l1Read_pos (s : ByteArray) (w : World) (hs : s.size ≤ 1048576) (hp : s.size ≤ 1 ∨ ∃ h : 0 < s.size, (((s[0].toNat : Int) == 45) = false ∧ 1 < s.size)) (hr0 : Rest s s false) :
    Calls Try.prog 89 #[.string s] w fun e w' => e = .returned (.tuple #[.int .i64 (rd s).1, .bool (rd s).2]) ∧ ∃ k, w' = w.drewN k := by
  have HR := Lib.hid hr0
  clear hr0
  by_cases hl : 1 ≤ (s.size : Int) ∧ (s.size : Int) ≤ 6
  · obtain ⟨hl1, hl6⟩ := hl
    rcases hp with hp | ⟨hp0, hp1, hp2⟩
    all_goals
      go_enter Try.func89, Try.ntmps89
      go_wp2_with (go_at_call 74; refine (l1In_yes _ _ _ _ hl1 hl6).mono ?_; rintro e w' ⟨rfl, rfl⟩)
      go_loop [5, 6] (fun n i => ∃ k : Nat, k ≤ s.size ∧ digs s k ∧ i = .int .i64 k ∧ n = .int .i64 (dval (s.data.toList.take k))) (fun _ i => s.size - (intOf i).toNat)
      case atStart => exact ⟨0, Nat.zero_le _, fun c hc => by simp at hc, rfl, rfl⟩
      case round =>
        obtain ⟨k, hk, hdg, rfl, rfl⟩ := hrel
        obtain ⟨hb1, hb2⟩ := digs_bd hdg hk hl6
        have HD := Lib.hid hdg
        clear hdg
        by_cases hlt : k < s.size
        · have hc : (s[k].toNat : Int) ≤ 255 := by have := s[k].toNat_lt; omega
          by_cases hc1 : (s[k].toNat : Int) < 48
          · go_wp2
            go_ret2
            exact ⟨(ret_rd (rd_dig HR.out hlt (fun h => by have := h.1; omega))).symm, 0, rfl⟩
          · by_cases hc2 : 57 < (s[k].toNat : Int)
            · go_wp2
              go_ret2
              exact ⟨(ret_rd (rd_dig HR.out hlt (fun h => by have := h.2; omega))).symm, 0, rfl⟩
            · have hc1' : 48 ≤ (s[k].toNat : Int) := by omega
              have H := Lib.hid (dval_take s k hlt)
              go_wp2
              go_round
              case rel => exact ⟨k + 1, by omega, digs_snoc HD.out hlt hc1' (by omega), by go_num, by rw [H.out]⟩
              case measure => simp [intOf]; omega
        · have HE := Lib.hid (take_whole s (k := k) (by omega))
          have HV := digs_bd HD.out hk hl6
          obtain ⟨hv1, hv2⟩ := HV
          by_cases hn : numS (dval (s.data.toList.take k)) = s
          · go_wp2_with (go_at_call 101; refine (l1Num_any _ _ (by omega) (by omega)).mono ?_; rintro e w' ⟨rfl, q, rfl⟩)
            go_ret2
            exact ⟨(ret_rd (rd_yes ⟨by omega, hv2, hn.symm⟩)).symm, q, rfl⟩
          · have hn' := neq_lists hn
            have HN := Lib.hid hn
            clear hn
            go_wp2_with (go_at_call 101; refine (l1Num_any _ _ (by omega) (by omega)).mono ?_; rintro e w' ⟨rfl, q, rfl⟩)
            go_ret2
            refine ⟨(ret_rd (rd_other HR.out ?_)).symm, q, rfl⟩
            have := HN.out
            rw [HE.out] at this
            exact this
  · have HL := Lib.hid hl
    have hl' : (s.size : Int) < 1 ∨ 6 < (s.size : Int) := by omega
    have HL' := Lib.hid hl'
    clear hl hl'
    rcases hp with hp | ⟨hp0, hp1, hp2⟩
    all_goals
      go_enter Try.func89, Try.ntmps89
      go_wp2_with (go_at_call 74; refine (l1In_no _ _ _ _ HL'.out).mono ?_; rintro e w' ⟨rfl, rfl⟩)
      go_ret2
      exact ⟨(ret_rd (rd_len HR.out HL.out)).symm, 0, rfl⟩
set_option maxHeartbeats 1000000 in
theorem l1Read_neg (s t : ByteArray) (w : World) (hs : s.size ≤ 1048576) (hT : s.extract 1 s.size = t) (hp0 : 0 < s.size) (hp1 : ((s[0].toNat : Int) == 45) = true) (hp2 : 1 < s.size) (hts : t.size < s.size) (hr0 : Rest s t true) :
    Calls Try.prog 89 #[.string s] w fun e w' => e = .returned (.tuple #[.int .i64 (rd s).1, .bool (rd s).2]) ∧ ∃ k, w' = w.drewN k := by
  have HR := Lib.hid hr0
  clear hr0
  by_cases hl : 1 ≤ (t.size : Int) ∧ (t.size : Int) ≤ 6
  · obtain ⟨hl1, hl6⟩ := hl
    go_enter Try.func89, Try.ntmps89
    go_wp2_with (go_at_call 74; refine (l1In_yes _ _ _ _ hl1 hl6).mono ?_; rintro e w' ⟨rfl, rfl⟩)
    go_loop [5, 6] (fun n i => ∃ k : Nat, k ≤ t.size ∧ digs t k ∧ i = .int .i64 k ∧ n = .int .i64 (dval (t.data.toList.take k))) (fun _ i => t.size - (intOf i).toNat)
    case atStart => exact ⟨0, Nat.zero_le _, fun c hc => by simp at hc, rfl, rfl⟩
    case round =>
      obtain ⟨k, hk, hdg, rfl, rfl⟩ := hrel
      obtain ⟨hb1, hb2⟩ := digs_bd hdg hk hl6
      have HD := Lib.hid hdg
      clear hdg
      by_cases hlt : k < t.size
      · have hc : (t[k].toNat : Int) ≤ 255 := by have := t[k].toNat_lt; omega
        by_cases hc1 : (t[k].toNat : Int) < 48
        · go_wp2
          go_ret2
          exact ⟨(ret_rd (rd_dig HR.out hlt (fun h => by have := h.1; omega))).symm, 0, rfl⟩
        · by_cases hc2 : 57 < (t[k].toNat : Int)
          · go_wp2
            go_ret2
            exact ⟨(ret_rd (rd_dig HR.out hlt (fun h => by have := h.2; omega))).symm, 0, rfl⟩
          · have hc1' : 48 ≤ (t[k].toNat : Int) := by omega
            have H := Lib.hid (dval_take t k hlt)
            go_wp2
            go_round
            case rel => exact ⟨k + 1, by omega, digs_snoc HD.out hlt hc1' (by omega), by go_num, by rw [H.out]⟩
            case measure => simp [intOf]; omega
      · have HE := Lib.hid (take_whole t (k := k) (by omega))
        have HV := digs_bd HD.out hk hl6
        obtain ⟨hv1, hv2⟩ := HV
        by_cases hn : numS (-dval (t.data.toList.take k)) = s
        · go_wp2_with (go_at_call 101; refine (l1Num_any _ _ (by omega) (by omega)).mono ?_; rintro e w' ⟨rfl, q, rfl⟩)
          go_ret2
          exact ⟨(ret_rd (rd_yes ⟨by omega, by omega, hn.symm⟩)).symm, q, rfl⟩
        · have hn' := neq_lists hn
          have HN := Lib.hid hn
          clear hn
          go_wp2_with (go_at_call 101; refine (l1Num_any _ _ (by omega) (by omega)).mono ?_; rintro e w' ⟨rfl, q, rfl⟩)
          go_ret2
          refine ⟨(ret_rd (rd_other HR.out ?_)).symm, q, rfl⟩
          have := HN.out
          rw [HE.out] at this
          exact this
  · have HL := Lib.hid hl
    have hl' : (t.size : Int) < 1 ∨ 6 < (t.size : Int) := by omega
    have HL' := Lib.hid hl'
    clear hl hl'
    go_enter Try.func89, Try.ntmps89
    go_wp2_with (go_at_call 74; refine (l1In_no _ _ _ _ HL'.out).mono ?_; rintro e w' ⟨rfl, rfl⟩)
    go_ret2
    exact ⟨(ret_rd (rd_len HR.out HL.out)).symm, 0, rfl⟩
theorem l1Read_any (s : ByteArray) (w : World) (hs : s.size ≤ 1048576) :
    Calls Try.prog 89 #[.string s] w fun e w' => e = .returned (.tuple #[.int .i64 (rd s).1, .bool (rd s).2]) ∧ ∃ k, w' = w.drewN k := by
  by_cases h1 : s.size ≤ 1
  · exact l1Read_pos s w hs (.inl h1) (Rest.short h1)
  · have h0 : 0 < s.size := by omega
    obtain ⟨r, hr⟩ := first_byte h0
    by_cases hc : s[0] = 45
    · refine l1Read_neg s _ w hs rfl h0 (by rw [hc]; rfl) (by omega) ?_ (Rest.neg (r := r) (by rw [hr, hc]))
      rw [ByteArray.size_extract]; omega
    · refine l1Read_pos s w hs (.inr ⟨h0, ?_, by omega⟩) (Rest.pos fun r' e => hc ?_)
      · rw [beq_eq_false_iff_ne]
        intro e
        apply hc
        apply UInt8.toNat_inj.1
        show s[0].toNat = 45
        omega
      · rw [hr] at e
        injection e
end Go.Proofs.Ytgnfmbdomofgcaa
