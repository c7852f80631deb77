/-
  JoinRequests: the model's and the code's.
-/
import Derived.Test.YtgnfmbdomofgcabApp
import Derived.Test.YtgnfmbdomofgcabGood
import Derived.Test.YtgnfmbdomofgcabImpQ
import Derived.Laws.CopyOwn
namespace Go.Proofs.Ytgnfmbdomofgcab
open Go.RowKit
set_option linter.unusedVariables false
namespace Q
def joinOk (n : Int) (a b : List Int) : Bool := good n a && (good n b && decide (a.length + b.length ≤ 60))
def joinQ (n : Int) (a b : List Int) : List Int × Bool := if joinOk n a b then (a ++ b, true) else ([], false)
theorem joinOk_len {n : Int} {a b : List Int} (h : joinOk n a b = true) : a.length + b.length ≤ 60 := by simpa using ((Bool.and_eq_true _ _).mp ((Bool.and_eq_true _ _).mp h).2).2
end Q
/-- A row of the call's own whose length is its capacity is its block. -/
theorem own_whole {w : World} {base g n : Nat} {e : TypeId} {zs : List Int} (h : w.ownsRow base e 1 (.slice (some ⟨g, 0, none⟩) n n) n (ivs zs)) : w.heap[g]? = some (.cells (ivs zs).toArray e (0, 0)) := by
  rcases h.2 with ⟨hv, _⟩ | ⟨g', cap, cur, hv, _, hg, hnc, _, hcs, htk⟩
  · cases hv
  · injection hv with e1 _ e3
    injection e1 with e1
    injection e1 with e1
    subst e1 e3
    rw [hg, ← htk, List.take_of_length_le (by simp; omega)]
theorem whole_own {w : World} {base g n : Nat} {e : TypeId} {zs : List Int} (h : w.heap[g]? = some (.cells (ivs zs).toArray e (0, 0))) (hb : base ≤ g) (hn : zs.length = n) (hm : n ≤ maxLen) : w.ownsRow base e 1 (.slice (some ⟨g, 0, none⟩) n n) n (ivs zs) :=
  ⟨by simp [ivs, hn], .inr ⟨g, n, (ivs zs).toArray, rfl, hb, h, Nat.le_refl _, hm, by simp [ivs, hn], by rw [List.take_of_length_le (by simp [ivs, hn])]⟩⟩
theorem row_cells {w : World} {A : Option Addr} {zs : List Int} (h : Law.Row w A (ivs zs)) (hp : 0 < (ivs zs).length) : ∃ ad, A = some ad ∧ ∀ j v, (ivs zs)[j]? = some v → w.cell? (ad.add j) = some v := by
  obtain ⟨b, off, rfl, _, hc⟩ := h (fun e => by rw [e] at hp; simp at hp)
  exact ⟨_, rfl, fun j v hv => by rw [Law.add_plain]; exact hc j v hv⟩
theorem ivs_one {zs : List Int} : ∀ v ∈ ivs zs, v.oneCell' = true := fun v hv => by
  obtain ⟨x, _, rfl⟩ := List.mem_map.1 hv; rfl
theorem join_splice (a b : List Int) : splice (splice (ivs (List.replicate (a.length + b.length) 0)) 0 (ivs a)) a.length (ivs b) = ivs (a ++ b) := by
  have hA : (ivs a).length = a.length := ivs_len a
  have hB : (ivs b).length = b.length := ivs_len b
  have hZ : (ivs (List.replicate (a.length + b.length) 0)).length = a.length + b.length := by rw [ivs_len, List.length_replicate]
  generalize ivs (List.replicate (a.length + b.length) 0) = Z at hZ
  rw [show ivs (a ++ b) = ivs a ++ ivs b from List.map_append]
  generalize ivs a = ra at hA
  generalize ivs b = rb at hB
  unfold splice
  rw [List.take_zero, List.nil_append, Nat.zero_add, List.take_append_of_le_length (by omega), List.take_of_length_le (by omega), List.drop_of_length_le (by rw [List.length_append, List.length_drop]; omega), List.append_nil]
theorem infoSize : (Try.prog.info? 3).map (·.size) = some 1 := by kernel_rfl
set_option maxHeartbeats 800000 in
theorem l1Own_any (A : Option Addr) (c : Nat) (zs : List Int) (w : World) (h3 : zs.length ≤ 1000000) (hr : Law.Row w A (ivs zs)) :
    Calls Try.prog 37 #[.slice A zs.length c] w (rowSays1 zs w) := by
  obtain ⟨i0, hi, hz0, hz1, hz2⟩ := info_parts infoInts
  have b0 : Below w.heap.size w (w.alloc (.cells #[] 3)) := (Below.refl _ _).alloc (Nat.le_refl _) _
  have HR := Lib.hid (hr.stays b0)
  have H0 : Hid ((w.alloc (.cells #[] 3)).ownsRow w.heap.size 3 1 (.slice (some ⟨w.heap.size, 0, none⟩) 0 0) 0 (ivs [])) := ownsRow_nil w 3
  have HB0 := Lib.hid b0
  clear hr b0
  go_enter Try.func37, Try.ntmps37
  go_wp2_with (at_builtin; refine list_app rfl _ _ 22 rfl Try.underlying22 hi hz0 hz1 hz2 rfl H0.out rfl rfl HR.out ?c1 ?c2 ?_)
  case c1 => simp
  case c2 => omega
  intro v w1 ho hg
  have HB := Lib.hid (HB0.out.grown hg (by simp) (fun k e => (H0.out.lt k e).1))
  have HO := Lib.hid ho
  clear ho hg
  go_wp2
  go_ret
  exact ⟨_, rfl, HO.out, HB.out⟩
set_option maxHeartbeats 800000 in
theorem specJoin_any (n : Int) (a b : List Int) (A : Option Addr) (c : Nat) (hl : a.length ≤ 1048576) (B : Option Addr) (d : Nat) (hl' : b.length ≤ 1048576) (w : World) (hr : Law.Row w A (ivs a)) (hs : Law.Row w B (ivs b)) :
    Calls Try.prog 20 #[.int .i64 n, .slice A a.length c, .slice B b.length d] w (rowSays (Q.joinQ n a b) w) := by
  obtain ⟨i0, hi, hz0, hz1, hz2⟩ := info_parts infoInts
  have HQ := Lib.hid (l3Good_any n A c a w hl hr)
  have HQ2 := Lib.hid (l3Good_any n B d b w hl' hs)
  have hla : (a.length : Int) ≤ 1048576 := by omega
  have hlb : (b.length : Int) ≤ 1048576 := by omega
  cases hg : Q.good n a
  · rw [show Q.joinQ n a b = ([], false) from if_neg (by simp [Q.joinOk, hg])]
    rw [hg] at HQ
    clear hr hs hg
    go_enter Try.func20, Try.ntmps20
    go_wp2_with fail
    go_at_call 28
    refine (HQ.out).mono ?_
    rintro e w' ⟨rfl, hw'⟩
    obtain rfl := hw'.symm
    clear hw'
    go_wp2
    go_ret2
    exact ⟨_, rfl, ownsRow_nil _ _, (Below.refl _ _).alloc (Nat.le_refl _) _⟩
  · rw [hg] at HQ
    cases hg' : Q.good n b
    · rw [show Q.joinQ n a b = ([], false) from if_neg (by simp [Q.joinOk, hg'])]
      rw [hg'] at HQ2
      clear hr hs hg hg'
      go_enter Try.func20, Try.ntmps20
      go_wp2_with fail
      go_at_call 28
      refine (HQ.out).mono ?_
      rintro e w' ⟨rfl, hw'⟩
      obtain rfl := hw'.symm
      clear hw'
      go_wp2_with fail
      go_at_call 28
      refine (HQ2.out).mono ?_
      rintro e w' ⟨rfl, hw'⟩
      obtain rfl := hw'.symm
      clear hw'
      go_wp2
      go_ret2
      exact ⟨_, rfl, ownsRow_nil _ _, (Below.refl _ _).alloc (Nat.le_refl _) _⟩
    · rw [hg'] at HQ2
      by_cases hs6 : a.length + b.length ≤ 60
      · rw [show Q.joinQ n a b = (a ++ b, true) from if_pos (by simp [Q.joinOk, hg, hg', hs6])]
        have hsI : (a.length : Int) + (b.length : Int) ≤ 60 := by omega
        have HO := Lib.hid (l1Own_any A c a w (by omega) hr)
        have HS := Lib.hid hs
        clear hr hs hg hg'
        go_enter Try.func20, Try.ntmps20
        go_wp2_with fail
        go_at_call 28
        refine (HQ.out).mono ?_
        rintro e w' ⟨rfl, hw'⟩
        obtain rfl := hw'.symm
        clear hw'
        go_wp2_with fail
        go_at_call 28
        refine (HQ2.out).mono ?_
        rintro e w' ⟨rfl, hw'⟩
        obtain rfl := hw'.symm
        clear hw'
        go_wp2_with fail
        go_at_call 37
        refine HO.out.mono ?_
        rintro e w1 ⟨v1, rfl, ho, hb⟩
        have H1 := Lib.hid ho
        have HB1 := Lib.hid hb
        have hsz := hb.size
        clear ho hb
        go_wp2_with (at_builtin; refine list_app rfl _ _ 22 rfl Try.underlying22 hi hz0 hz1 hz2 rfl H1.out rfl rfl (HS.out.stays HB1.out) ?c1 ?c2 ?_)
        case c1 => omega
        case c2 => omega
        intro v2 w2 ho hg
        have HB := Lib.hid (HB1.out.grown hg hsz (fun k e => (H1.out.lt k e).1))
        have H2 := Lib.hid ho
        clear ho hg
        go_wp2
        go_ret2
        refine ⟨v2, rfl, ?_, HB.out⟩
        show World.ownsRow _ _ _ _ _ (a ++ b).length (ivs (a ++ b))
        rw [List.length_append]
        simpa [ivs] using H2.out
      · rw [show Q.joinQ n a b = ([], false) from if_neg (by simp [Q.joinOk, hs6])]
        have hsI : ¬ (a.length : Int) + (b.length : Int) ≤ 60 := by omega
        clear hr hs hg hg'
        go_enter Try.func20, Try.ntmps20
        go_wp2_with fail
        go_at_call 28
        refine (HQ.out).mono ?_
        rintro e w' ⟨rfl, hw'⟩
        obtain rfl := hw'.symm
        clear hw'
        go_wp2_with fail
        go_at_call 28
        refine (HQ2.out).mono ?_
        rintro e w' ⟨rfl, hw'⟩
        obtain rfl := hw'.symm
        clear hw'
        go_wp2
        go_ret2
        exact ⟨_, rfl, ownsRow_nil _ _, (Below.refl _ _).alloc (Nat.le_refl _) _⟩
set_option maxHeartbeats 1600000 in
theorem impJoin_any (n : Int) (a b : List Int) (A : Option Addr) (c : Nat) (hl : a.length ≤ 1048576) (B : Option Addr) (d : Nat) (hl' : b.length ≤ 1048576) (w : World) (hr : Law.Row w A (ivs a)) (hs : Law.Row w B (ivs b)) :
    Calls Try.prog 21 #[.int .i64 n, .slice A a.length c, .slice B b.length d] w (rowSays (Q.joinQ n a b) w) := by
  obtain ⟨i0, hi, hz0, hz1, hz2⟩ := info_parts infoInts
  have HQ := Lib.hid (impIsReq_any n A c a w hl hr)
  have HQ2 := Lib.hid (impIsReq_any n B d b w hl' hs)
  have HL := Lib.hid (isLength_any ((a.length : Int) + (b.length : Int)) w)
  have hla : (a.length : Int) ≤ 1048576 := by omega
  have hlb : (b.length : Int) ≤ 1048576 := by omega
  cases hg : Q.good n a
  · rw [show Q.joinQ n a b = ([], false) from if_neg (by simp [Q.joinOk, hg])]
    rw [hg] at HQ
    clear hr hs hg
    go_enter Try.func21, Try.ntmps21
    go_wp2_with fail
    go_at_call 30
    refine (HQ.out).mono ?_
    rintro e w' ⟨rfl, hw'⟩
    obtain rfl := hw'.symm
    clear hw'
    go_wp2
    go_ret2
    exact ⟨_, rfl, ownsRow_nil _ _, (Below.refl _ _).alloc (Nat.le_refl _) _⟩
  · rw [hg] at HQ
    cases hg' : Q.good n b
    · rw [show Q.joinQ n a b = ([], false) from if_neg (by simp [Q.joinOk, hg'])]
      rw [hg'] at HQ2
      clear hr hs hg hg'
      go_enter Try.func21, Try.ntmps21
      go_wp2_with fail
      go_at_call 30
      refine (HQ.out).mono ?_
      rintro e w' ⟨rfl, hw'⟩
      obtain rfl := hw'.symm
      clear hw'
      go_wp2_with fail
      go_at_call 30
      refine (HQ2.out).mono ?_
      rintro e w' ⟨rfl, hw'⟩
      obtain rfl := hw'.symm
      clear hw'
      go_wp2
      go_ret2
      exact ⟨_, rfl, ownsRow_nil _ _, (Below.refl _ _).alloc (Nat.le_refl _) _⟩
    · rw [hg'] at HQ2
      by_cases hs6 : a.length + b.length ≤ 60
      · rw [show Q.joinQ n a b = (a ++ b, true) from if_pos (by simp [Q.joinOk, hg, hg', hs6])]
        rw [show (decide ((0 : Int) ≤ (a.length : Int) + (b.length : Int)) && decide ((a.length : Int) + (b.length : Int) ≤ 60)) = true by simp; omega] at HL
        have hsI : (a.length : Int) + (b.length : Int) ≤ 60 := by omega
        have HR := Lib.hid hr
        have HS := Lib.hid hs
        have HP := Lib.hid (join_splice a b)
        obtain ⟨ra, hra⟩ : ∃ ra, ra = ivs a := ⟨_, rfl⟩
        obtain ⟨rb, hrb⟩ : ∃ rb, rb = ivs b := ⟨_, rfl⟩
        have HRa := Lib.hid hra
        have HRb := Lib.hid hrb
        rw [← hra, ← hrb] at HP
        clear hr hs hg hg' hra hrb
        go_enter Try.func21, Try.ntmps21
        go_wp2_with fail
        go_at_call 30
        refine (HQ.out).mono ?_
        rintro e w' ⟨rfl, hw'⟩
        obtain rfl := hw'.symm
        clear hw'
        go_wp2_with fail
        go_at_call 30
        refine (HQ2.out).mono ?_
        rintro e w' ⟨rfl, hw'⟩
        obtain rfl := hw'.symm
        clear hw'
        go_wp2_with fail
        go_at_call 38
        refine (HL.out).mono ?_
        rintro e w' ⟨rfl, hw'⟩
        obtain rfl := hw'.symm
        clear hw'
        go_wp2_with (at_make; refine wpList_make_full _ rfl _ _ 22 rfl w.heap.size 3 i0 (.int .i64 0) 1 Try.underlying22 hi hz0 hz1 .i64 .i64 _ _ (a.length + b.length) rfl rfl rfl rfl ?cm1a ?cm1b ?cm1c ?_)
        case cm1a => rw [hz2]; omega
        case cm1b => unfold maxLen; omega
        case cm1c => first | exact Nat.le_refl _ | omega | (simp; omega)
        intro w1 hm1 hg1
        replace hm1 := made_own (w := w1) hm1
        have HB := Lib.hid ((Below.refl _ _).grown hg1 (Nat.le_refl _) (fun k e => by cases e) : Below w.heap.size w w1)
        have HG := Lib.hid (own_whole hm1)
        obtain ⟨cur, hcur⟩ : ∃ cur, cur = ivs (List.replicate (a.length + b.length) 0) := ⟨_, rfl⟩
        have hcl : cur.length = a.length + b.length := by rw [hcur]; simp [ivs]
        have hral : ra.length = a.length := by rw [HRa.out]; simp [ivs]
        have hrbl : rb.length = b.length := by rw [HRb.out]; simp [ivs]
        rw [← hcur] at HG HP
        have HCL := Lib.hid hcl
        have HAL := Lib.hid hral
        have HBL := Lib.hid hrbl
        clear hm1 hg1 hcur hcl hral hrbl
        have HC1 : Hid (0 < ra.length → ∃ ad, A = some ad ∧ ∀ j v, ra[j]? = some v → w1.cell? (ad.add j) = some v) := by
          rw [HRa.out]; exact Lib.hid fun h => row_cells (HR.out.stays HB.out) h
        have HO1 : Hid (∀ v ∈ ra, v.oneCell' = true) := by rw [HRa.out]; exact Lib.hid ivs_one
        have HO2 : Hid (∀ v ∈ rb, v.oneCell' = true) := by rw [HRb.out]; exact Lib.hid ivs_one
        go_wp2_with (with_reducible refine wpList_copy_splice rfl (.tmp 35) (.tmp 36) 22 22 rfl 3 Try.underlying22 infoSize _ _ _ _ _ _ rfl rfl w.heap.size 0 cur 3 HG.out ra ?p1 ?p2 ?p3 HO1.out w.heap.size w HB.out (Nat.le_refl _) ?_)
        case p1 => rw [HAL.out]; simp
        case p2 => first | exact HC1.out | exact fun h => ⟨rfl, HC1.out h⟩
        case p3 => rw [HAL.out, HCL.out]; omega
        intro w2 HG2 hb2
        have HB2 := Lib.hid hb2
        clear hb2
        have HC2 : Hid (0 < rb.length → ∃ ad, B = some ad ∧ ∀ j v, rb[j]? = some v → w2.cell? (ad.add j) = some v) := by
          rw [HRb.out]; exact Lib.hid fun h => row_cells (HS.out.stays HB2.out) h
        have HSL : Hid ((splice cur 0 ra).length = a.length + b.length) := by show _ = _; rw [length_splice _ _ _ (by rw [HAL.out, HCL.out]; omega)]; exact HCL.out
        have hla2 : (a.length : Int) ≤ (a.length : Int) + (b.length : Int) := by omega
        go_wp2_with (with_reducible refine wpList_copy_splice rfl (.tmp 41) (.tmp 42) 22 22 rfl 3 Try.underlying22 infoSize _ _ _ _ _ _ rfl rfl w.heap.size a.length (splice cur 0 ra) 3 HG2.out rb ?q1 ?q2 ?q3 HO2.out w.heap.size w HB2.out (Nat.le_refl _) ?_)
        case q1 => rw [HBL.out]; simp
        case q2.inl =>
          intro h
          have hq : b = [] := by assumption
          rw [HBL.out, hq] at h
          exact absurd h (by simp)
        case q2.inr => exact HC2.out
        case q3 => rw [HSL.out, HBL.out]; exact Nat.le_refl _
        case inl =>
          intro w3 HG3 hb3
          have HB3 := Lib.hid hb3
          clear hb3
          have H3 : Hid (w3.ownsRow w.heap.size 3 1 (.slice (some ⟨w.heap.size, 0, none⟩) (a.length + b.length) (a.length + b.length)) (a.length + b.length) (ivs (a ++ b))) :=
            Lib.hid (whole_own (by rw [← HP.out]; exact HG3.out) (Nat.le_refl _) (by simp) (by unfold maxLen; omega))
          have hq : b = [] := by assumption
          have HQ0 : Hid (a.length + b.length = a.length) := Lib.hid (by rw [hq]; rfl)
          go_wp2
          go_ret2
          refine ⟨.slice (some ⟨w.heap.size, 0, none⟩) a.length a.length, rfl, ?_, HB3.out⟩
          have h := H3.out
          rw [HQ0.out] at h
          simp only [List.length_append]
          rw [HQ0.out]
          exact h
        case inr =>
          intro w3 HG3 hb3
          have HB3 := Lib.hid hb3
          clear hb3
          have H3 : Hid (w3.ownsRow w.heap.size 3 1 (.slice (some ⟨w.heap.size, 0, none⟩) (a.length + b.length) (a.length + b.length)) (a.length + b.length) (ivs (a ++ b))) :=
            Lib.hid (whole_own (by rw [← HP.out]; exact HG3.out) (Nat.le_refl _) (by simp) (by unfold maxLen; omega))
          go_wp2
          go_ret2
          refine ⟨.slice (some ⟨w.heap.size, 0, none⟩) (a.length + b.length) (a.length + b.length), rfl, ?_, HB3.out⟩
          simp only [List.length_append]
          exact H3.out
      · rw [show Q.joinQ n a b = ([], false) from if_neg (by simp [Q.joinOk, hs6])]
        rw [show (decide ((0 : Int) ≤ (a.length : Int) + (b.length : Int)) && decide ((a.length : Int) + (b.length : Int) ≤ 60)) = false by rw [Bool.eq_false_iff]; simp; omega] at HL
        clear hr hs hg hg'
        go_enter Try.func21, Try.ntmps21
        go_wp2_with fail
        go_at_call 30
        refine (HQ.out).mono ?_
        rintro e w' ⟨rfl, hw'⟩
        obtain rfl := hw'.symm
        clear hw'
        go_wp2_with fail
        go_at_call 30
        refine (HQ2.out).mono ?_
        rintro e w' ⟨rfl, hw'⟩
        obtain rfl := hw'.symm
        clear hw'
        go_wp2_with fail
        go_at_call 38
        refine (HL.out).mono ?_
        rintro e w' ⟨rfl, hw'⟩
        obtain rfl := hw'.symm
        clear hw'
        go_wp2
        go_ret2
        exact ⟨_, rfl, ownsRow_nil _ _, (Below.refl _ _).alloc (Nat.le_refl _) _⟩
namespace LJoinRequests
theorem lenX (n : Int) (a b : List Int) : (Q.joinQ n a b).1.length ≤ 1048576 := by
  unfold Q.joinQ
  split
  · rename_i h
    have := Q.joinOk_len h
    rw [List.length_append]; omega
  · simp
end LJoinRequests
end Go.Proofs.Ytgnfmbdomofgcab
