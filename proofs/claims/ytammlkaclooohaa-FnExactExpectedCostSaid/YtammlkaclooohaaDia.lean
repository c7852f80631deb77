/-
  DiameterOf: both sides; the library's Grow and Concat of rows of ints.
-/
import Derived.Test.YtammlkaclooohaaMtS
import Derived.Test.YtammlkaclooohaaApp
import Derived.Lib.AppendZeros
namespace Go.Proofs.Ytammlkaclooohaa
open Go.RowKit
set_option linter.unusedVariables false
namespace Q
theorem met_sqr {L : List (List Int)} (h : metQ L = true) : tabQ false L = true ∧ (1 ≤ L.length ∧ L.length ≤ 6) ∧ (∀ l ∈ L, l.length = L.length) := by
  simp only [metQ, Bool.and_eq_true] at h
  have h2 := sqr_iff.1 (tab_iff.1 h.1).1
  exact ⟨h.1, h2.1, h2.2⟩
theorem fold_le : ∀ (l : List Int) (a : Int), a ≤ l.foldl max a ∧ ∀ z ∈ l, z ≤ l.foldl max a
  | [], a => ⟨Int.le_refl _, fun z h => by simp at h⟩
  | y :: l, a => by
    obtain ⟨h1, h2⟩ := fold_le l (max a y)
    refine ⟨?_, fun z hz => ?_⟩
    · show a ≤ l.foldl max (max a y)
      omega
    · show z ≤ l.foldl max (max a y)
      rcases List.mem_cons.1 hz with e | hz
      · omega
      · exact h2 z hz
theorem fold_mem : ∀ (l : List Int) (a : Int), l.foldl max a = a ∨ l.foldl max a ∈ l
  | [], a => .inl rfl
  | y :: l, a => by
    show l.foldl max (max a y) = a ∨ l.foldl max (max a y) ∈ y :: l
    rcases fold_mem l (max a y) with h | h
    · rw [h]
      by_cases e : a ≤ y
      · exact .inr (by rw [show max a y = y by omega]; exact List.mem_cons_self ..)
      · exact .inl (by omega)
    · exact .inr (List.mem_cons_of_mem _ h)
theorem max_mem {l : List Int} (h : l ≠ []) : Lib.maxOf l ∈ l ∧ ∀ z ∈ l, z ≤ Lib.maxOf l := by
  cases l with
  | nil => exact absurd rfl h
  | cons y l =>
    refine ⟨?_, fun z hz => ?_⟩
    · rcases fold_mem (y :: l) y with e | e
      · show (y :: l).foldl max y ∈ y :: l
        rw [e]
        exact List.mem_cons_self ..
      · exact e
    · exact (fold_le (y :: l) y).2 z hz
noncomputable def diaQ (L : List (List Int)) : Int × Bool := if metQ L then (Lib.maxOf L.flatten, true) else (0, false)
theorem dia_no {L : List (List Int)} (h : metQ L = false) : diaQ L = (0, false) := if_neg (by simp [h])
theorem dia_yes {L : List (List Int)} (h : metQ L = true) : diaQ L = (Lib.maxOf L.flatten, true) := if_pos h
theorem flat_mem {L : List (List Int)} (hs : ∀ l ∈ L, l.length = L.length) {d : Int} : d ∈ L.flatten ↔ ∃ x y, x < L.length ∧ y < L.length ∧ d = dst L x y := by
  rw [List.mem_flatten]
  constructor
  · rintro ⟨l, hl, hd⟩
    obtain ⟨x, hx, rfl⟩ := List.mem_iff_getElem.1 hl
    obtain ⟨y, hy, rfl⟩ := List.mem_iff_getElem.1 hd
    have hlen := hs _ (List.getElem_mem hx)
    refine ⟨x, y, hx, by omega, ?_⟩
    rw [dst, List.getD_eq_getElem?_getD (l := L), List.getElem?_eq_getElem hx]
    simp [List.getElem?_eq_getElem hy]
  · rintro ⟨x, y, hx, hy, rfl⟩
    obtain ⟨l, h1, h2, h3⟩ := sqr_at hs hx hy
    exact ⟨l, List.mem_of_getElem? h1, List.mem_of_getElem? h3⟩
theorem max_is {L : List (List Int)} (hs : ∀ l ∈ L, l.length = L.length) (hn : 1 ≤ L.length) {M : Int} (h1 : ∀ x y, x < L.length → y < L.length → dst L x y ≤ M) (h2 : ∃ x y, x < L.length ∧ y < L.length ∧ M = dst L x y) : Lib.maxOf L.flatten = M := by
  have hne : L.flatten ≠ [] := fun e => by
    have := (flat_mem hs (d := dst L 0 0)).2 ⟨0, 0, by omega, by omega, rfl⟩
    rw [e] at this
    simp at this
  obtain ⟨g1, g2⟩ := max_mem hne
  obtain ⟨x, y, hx, hy, e⟩ := (flat_mem hs).1 g1
  have a := h1 x y hx hy
  have b := g2 M ((flat_mem hs).2 h2)
  omega
end Q
theorem tot_by (m : Nat) : ∀ (L : List (List Int)), (∀ l ∈ L, l.length ≤ m) → totL L ≤ m * L.length
  | [], _ => by simp [totL]
  | l :: L, h => by
    have ih := tot_by m L fun m hm => h m (List.mem_cons_of_mem _ hm)
    have := h l (List.mem_cons_self ..)
    simp only [totL, List.map_cons, List.sum_cons, List.length_cons, Nat.mul_succ] at ih ⊢
    omega
theorem max_row {w : World} {A : Option Addr} {c : Nat} {zs : List Int} (hr : Law.Row w A (ivs zs)) (h1 : 1 ≤ zs.length) (hn : zs.length ≤ 1048576) :
    Calls Try.prog 122 #[.slice A zs.length c] w fun e w' => e = .returned (.int .i64 (Lib.maxOf zs)) ∧ w' = w := by
  obtain ⟨b, off, rfl, _, hc⟩ := hr (by intro e; have : zs.length = 0 := by have := congrArg List.length e; simpa [ivs] using this
                                        omega)
  have h := Try.slices_Max_int b off zs.length c zs w (by omega) (Nat.le_refl _) (by omega) (fun j hj => hc j _ (by rw [ivs, List.getElem?_map, List.getElem?_eq_getElem hj, List.getD_eq_getElem?_getD, List.getElem?_eq_getElem hj]; rfl))
  rw [List.take_length] at h
  exact h
set_option maxRecDepth 100000 in
theorem grow_any (n : Nat) (w : World) (h1 : 1 ≤ n) (h2 : n ≤ 1000) :
    Calls Try.prog 195 #[.slice none 0 0, .int .i64 n] w (rowSays1 [] w) := by
  obtain ⟨i0, hi, hz0, hz1, hz2⟩ := info_parts infoInts
  have hr := Lib.run_append_nil_zeros (P := Try.prog) w 25 3 25 3 i0 (.int .i64 0) .i64 .i64 Try.underlying25 Try.underlying3 hi hz0 n (by omega) (by omega) (by omega) (by rw [hz2]; omega)
  have hcap : grownCap w n 0 3 ≤ maxLen := grownCap_le_maxLen w n 0 _ (by unfold maxLen; omega)
  have hge := grownCap_ge w n 0 3
  have HR := Lib.hid hr
  have n1 : (1 : Int) ≤ (n : Int) := by omega
  have n0 : (0 : Int) < (n : Int) := by omega
  have nn : ¬ (n : Int) < 0 := by omega
  clear hr
  generalize grownCap w n 0 3 = cp at HR hcap hge
  go_enter Try.func195, Try.ntmps195
  go_wp2_with (at_builtin; refine Lib.wpList_append_run _ rfl _ _ 25 3 rfl (.slice none 0 0) (.int .i64 n) rfl rfl _ _ HR.out ?_)
  go_ret
  refine ⟨_, rfl, ?_, ((Below.refl _ _).alloc (Nat.le_refl _) _).drew⟩
  show World.ownsRow (w.alloc _) w.heap.size 3 1 (.slice (some ⟨w.heap.size, 0, none⟩) 0 cp) 0 []
  refine ⟨rfl, .inr ⟨w.heap.size, cp, _, rfl, Nat.le_refl _, heap_alloc_new w _, Nat.zero_le _, hcap, ?_, rfl⟩⟩
  rw [Array.size_append, size_zeroCells, size_zeroCells]
  show n * 1 + (cp - n) * 1 = cp * 1
  omega
theorem flat_take {L : List (List Int)} {k : Nat} {l : List Int} (h : L[k]? = some l) : (L.take (k + 1)).flatten = (L.take k).flatten ++ l := by
  obtain ⟨hl, e⟩ := List.getElem?_eq_some_iff.1 h
  rw [List.take_succ_eq_append_getElem hl, e, List.flatten_append]
  simp
theorem flat_len (L : List (List Int)) : L.flatten.length = totL L := by rw [List.length_flatten]; rfl
set_option maxHeartbeats 800000 in
theorem concat_any (A : Option Addr) (c : Nat) (xs : List Value) (L : List (List Int)) (w : World) (hn : 1 ≤ L.length) (h6 : L.length ≤ 6) (hs : ∀ l ∈ L, l.length = L.length) (hr : NRow w A xs L) :
    Calls Try.prog 176 #[.slice A L.length c] w (rowSays1 L.flatten w) := by
  obtain ⟨i0, hi, hz0, hz1, hz2⟩ := info_parts infoInts
  have HR := Lib.hid hr
  have HS := Lib.hid hs
  have htot : ∀ k, k ≤ L.length → totL (L.take k) = k * L.length := by
    intro k
    induction k with
    | zero => intro _; simp [totL]
    | succ k ih =>
      intro hk
      have hx : L[k]? = some L[k] := List.getElem?_eq_getElem (by omega)
      rw [totL_take hx, ih (by omega), hs _ (List.getElem_mem (by omega)), Nat.succ_mul]
  have htb : ∀ k, k ≤ L.length → totL (L.take k) ≤ 36 := fun k hk => by
    rw [htot k hk]
    exact Nat.le_trans (Nat.mul_le_mul (Nat.le_trans hk h6) h6) (by decide)
  have htt : 1 ≤ totL L := by
    have := htot L.length (Nat.le_refl _)
    rw [List.take_length] at this
    rw [this]
    exact Nat.le_trans (by decide) (Nat.mul_le_mul hn hn)
  have htl : totL L ≤ 36 := by
    have := htb L.length (Nat.le_refl _)
    rwa [List.take_length] at this
  have HTB := Lib.hid htb
  have HG := Lib.hid (grow_any (totL L) w htt (by omega))
  clear hr hs htot htb
  go_enter Try.func176, Try.ntmps176
  go_wp2
  go_loop [3, 11] (fun s i => ∃ k : Nat, k ≤ L.length ∧ i = .int .i64 (k : Int) ∧ s = .int .i64 ((totL (L.take k) : Nat) : Int)) (fun _ i => L.length - (intOf i).toNat)
  case atStart => exact ⟨0, Nat.zero_le _, rfl, by simp [totL]⟩
  case round =>
    obtain ⟨k, hk, rfl, rfl⟩ := hrel
    have hb := HTB.out k hk
    by_cases hlt : k < L.length
    · have hltI : (k : Int) < (L.length : Int) := by omega
      obtain ⟨l, hl⟩ : ∃ l, L[k]? = some l := ⟨_, List.getElem?_eq_getElem hlt⟩
      obtain ⟨b, off, B, d, rfl, hbb, hc, _⟩ := HR.out.row_at hl
      have hlen := HS.out l (List.mem_of_getElem? hl)
      have HT := Lib.hid (totL_take hl)
      clear hl
      generalize totL (L.take k) = tk at hb HT ⊢
      generalize l.length = ln at hlen HT hc
      have hw : IntKind.i64.wrap ((tk : Int) + (ln : Int)) = (tk : Int) + (ln : Int) := IntWalk.i64_in _ (by omega)
      have hnn : ¬ (tk : Int) + (ln : Int) < 0 := by omega
      have HLN := Lib.hid hlen
      clear hlen
      go_wp2
      go_round
      case rel => exact ⟨k + 1, by omega, by go_num, by rw [HT.out]; go_num⟩
      case measure => simp [intOf]; omega
    · have hke : k = L.length := by omega
      have hltI : ¬ (k : Int) < (L.length : Int) := by omega
      have HE : Hid (totL (L.take k) = totL L) := by show _ = _; rw [hke, List.take_length]
      rw [HE.out]
      clear hke hb
      generalize totL L = tt at HG htt htl ⊢
      go_wp2_with fail
      go_at_call 195
      refine HG.out.mono ?_
      rintro e w1 ⟨v1, rfl, ho, hb⟩
      have HO1 := Lib.hid ho
      have HB1 := Lib.hid hb
      clear ho hb
      go_wp2
      go_loopw [6, 27] (fun v i wr => ∃ k : Nat, k ≤ L.length ∧ i = .int .i64 (k : Int) ∧ Hid (wr.ownsRow w.heap.size 3 1 v (L.take k).flatten.length (ivs (L.take k).flatten)) ∧ Hid (Below w.heap.size w wr)) (fun _ i _ => L.length - (intOf i).toNat)
      case atStart => exact ⟨0, Nat.zero_le _, rfl, HO1.out, HB1.out⟩
      case round =>
        obtain ⟨k, hk, rfl, ho, hb⟩ := hrel
        by_cases hlt : k < L.length
        · have hltI : (k : Int) < (L.length : Int) := by omega
          obtain ⟨l, hl⟩ : ∃ l, L[k]? = some l := ⟨_, List.getElem?_eq_getElem hlt⟩
          obtain ⟨b, off, B, d, rfl, hbb, hc, hrow⟩ := (HR.out.stays hb.out).row_at hl
          have hlen := HS.out l (List.mem_of_getElem? hl)
          have hfb : (L.take k).flatten.length ≤ 36 := by rw [flat_len]; exact HTB.out k hk
          have HT := Lib.hid (flat_take hl)
          have HRow := Lib.hid hrow
          have hszw := hb.out.size
          have HLen := Lib.hid hlen
          rw [hlen] at hc
          clear hl hrow hlen
          generalize (L.take k).flatten = fl at ho hfb HT
          go_wp2_with (at_builtin; refine list_app rfl _ _ 25 rfl Try.underlying25 hi hz0 hz1 hz2 rfl ho.out rfl HLen.out HRow.out ?c1 ?c2 ?_)
          case c1 => exact hszw
          case c2 => omega
          intro v9 w9 ho9 hg9
          have HB9 := Lib.hid (hb.out.grown hg9 hszw (fun k e => (ho.out.lt k e).1))
          have HO9 : Hid (w9.ownsRow w.heap.size 3 1 v9 (fl ++ l).length (ivs (fl ++ l))) := by show World.ownsRow _ _ _ _ _ _ _; rw [List.length_append, HLen.out]; first | exact ho9 | (rw [ivs, List.map_append]; exact ho9)
          clear ho9 hg9 ho hb hc hbb
          go_wp2
          go_roundw
          case rel => exact ⟨k + 1, by omega, by go_num, (by show World.ownsRow _ _ _ _ _ _ _; rw [HT.out]; exact HO9.out), HB9.out⟩
          case measure => simp [intOf]; omega
        · have hke : k = L.length := by omega
          have hltI : ¬ (k : Int) < (L.length : Int) := by omega
          have HF : Hid (L.take k = L) := by show _ = _; rw [hke, List.take_length]
          clear hke
          go_wp2
          go_ret
          have h := ho.out
          rw [HF.out] at h
          exact ⟨_, rfl, h, hb.out⟩
theorem most_max (a b : Int) (w : World) : Calls Try.prog 165 #[.int .i64 a, .int .i64 b] w fun e w' => e = .returned (.int .i64 (max a b)) ∧ w' = w := by
  by_cases h : a ≤ b
  · rw [show max a b = b by omega]
    exact l1Most_hi a b w h
  · rw [show max a b = a by omega]
    exact l1Most_lo a b w (by omega)
end Go.Proofs.Ytammlkaclooohaa
