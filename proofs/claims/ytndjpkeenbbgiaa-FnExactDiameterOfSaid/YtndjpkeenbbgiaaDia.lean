/-
  DiameterOf: both sides; the library's Grow and Concat of rows of ints.
-/
import Derived.Test.YtndjpkeenbbgiaaMtS
import Derived.Test.YtndjpkeenbbgiaaApp
import Derived.Lib.AppendZeros
namespace Go.Proofs.Ytndjpkeenbbgiaa
open Go.RowKit
set_option linter.unusedVariables false
namespace Q
theorem met_sqr {L : List (List Int)} (h : metQ L = true) : tabQ false L = true ∧ (1 ≤ L.length ∧ L.length ≤ 6) ∧ (∀ l ∈ L, l.length = L.length) := by
  simp only [metQ, Bool.and_eq_true] at h
  have h2 := sqr_iff.1 (tab_iff.1 h.1).1
  exact ⟨h.1, h2.1, h2.2⟩
theorem fold_le : ∀ (l : List Int) (a : Int), a ≤ l.foldl max a ∧ ∀ z ∈ l, z ≤ l.foldl max a
  | [], a => ⟨Int.le_refl _, fun z h => by simp at h⟩
  | y :: l, a => by
    obtain ⟨h1, h2⟩ := fold_le l (max a y)
    refine ⟨?_, fun z hz => ?_⟩
    · show a ≤ l.foldl max (max a y)
      omega
    · show z ≤ l.foldl max (max a y)
      rcases List.mem_cons.1 hz with e | hz
      · omega
      · exact h2 z hz
theorem fold_mem : ∀ (l : List Int) (a : Int), l.foldl max a = a ∨ l.foldl max a ∈ l
  | [], a => .inl rfl
  | y :: l, a => by
    show l.foldl max (max a y) = a ∨ l.foldl max (max a y) ∈ y :: l
    rcases fold_mem l (max a y) with h | h
    · rw [h]
      by_cases e : a ≤ y
      · exact .inr (by rw [show max a y = y by omega]; exact List.mem_cons_self ..)
      · exact .inl (by omega)
    · exact .inr (List.mem_cons_of_mem _ h)
theorem max_mem {l : List Int} (h : l ≠ []) : Lib.maxOf l ∈ l ∧ ∀ z ∈ l, z ≤ Lib.maxOf l := by
  cases l with
  | nil => exact absurd rfl h
  | cons y l =>
    refine ⟨?_, fun z hz => ?_⟩
    · rcases fold_mem (y :: l) y with e | e
      · show (y :: l).foldl max y ∈ y :: l
        rw [e]
        exact List.mem_cons_self ..
      · exact e
    · exact (fold_le (y :: l) y).2 z hz
noncomputable def diaQ (L : List (List Int)) : Int × Bool := if metQ L then (Lib.maxOf L.flatten, true) else (0, false)
theorem dia_no {L : List (List Int)} (h : metQ L = false) : diaQ L = (0, false) := if_neg (by simp [h])
theorem dia_yes {L : List (List Int)} (h : metQ L = true) : diaQ L = (Lib.maxOf L.flatten, true) := if_pos h
theorem flat_mem {L : List (List Int)} (hs : ∀ l ∈ L, l.length = L.length) {d : Int} : d ∈ L.flatten ↔ ∃ x y, x < L.length ∧ y < L.length ∧ d = dst L x y := by
  rw [List.mem_flatten]
  constructor
  · rintro ⟨l, hl, hd⟩
    obtain ⟨x, hx, rfl⟩ := List.mem_iff_getElem.1 hl
    obtain ⟨y, hy, rfl⟩ := List.mem_iff_getElem.1 hd
    have hlen := hs _ (List.getElem_mem hx)
    refine ⟨x, y, hx, by omega, ?_⟩
    rw [dst, List.getD_eq_getElem?_getD (l := L), List.getElem?_eq_getElem hx]
    simp [List.getElem?_eq_getElem hy]
  · rintro ⟨x, y, hx, hy, rfl⟩
    obtain ⟨l, h1, h2, h3⟩ := sqr_at hs hx hy
    exact ⟨l, List.mem_of_getElem? h1, List.mem_of_getElem? h3⟩
theorem max_is {L : List (List Int)} (hs : ∀ l ∈ L, l.length = L.length) (hn : 1 ≤ L.length) {M : Int} (h1 : ∀ x y, x < L.length → y < L.length → dst L x y ≤ M) (h2 : ∃ x y, x < L.length ∧ y < L.length ∧ M = dst L x y) : Lib.maxOf L.flatten = M := by
  have hne : L.flatten ≠ [] := fun e => by
    have := (flat_mem hs (d := dst L 0 0)).2 ⟨0, 0, by omega, by omega, rfl⟩
    rw [e] at this
    simp at this
  obtain ⟨g1, g2⟩ := max_mem hne
  obtain ⟨x, y, hx, hy, e⟩ := (flat_mem hs).1 g1
  have a := h1 x y hx hy
  have b := g2 M ((flat_mem hs).2 h2)
  omega
end Q
theorem tot_by (m : Nat) : ∀ (L : List (List Int)), (∀ l ∈ L, l.length ≤ m) → totL L ≤ m * L.length
  | [], _ => by simp [totL]
  | l :: L, h => by
    have ih := tot_by m L fun m hm => h m (List.mem_cons_of_mem _ hm)
    have := h l (List.mem_cons_self ..)
    simp only [totL, List.map_cons, List.sum_cons, List.length_cons, Nat.mul_succ] at ih ⊢
    omega
theorem max_row {w : World} {A : Option Addr} {c : Nat} {zs : List Int} (hr : Law.Row w A (ivs zs)) (h1 : 1 ≤ zs.length) (hn : zs.length ≤ 1048576) :
    Calls Try.prog 83 #[.slice A zs.length c] w fun e w' => e = .returned (.int .i64 (Lib.maxOf zs)) ∧ w' = w := by
  obtain ⟨b, off, rfl, _, hc⟩ := hr (by intro e; have : zs.length = 0 := by have := congrArg List.length e; simpa [ivs] using this
                                        omega)
  have h := Try.slices_Max_int b off zs.length c zs w (by omega) (Nat.le_refl _) (by omega) (fun j hj => hc j _ (by rw [ivs, List.getElem?_map, List.getElem?_eq_getElem hj, List.getD_eq_getElem?_getD, List.getElem?_eq_getElem hj]; rfl))
  rw [List.take_length] at h
  exact h
theorem grow_any (n : Nat) (w : World) (h1 : 1 ≤ n) (h2 : n ≤ 1000) :
    Calls Try.prog 102 #[.slice none 0 0, .int .i64 n] w (rowSays1 [] w) := by
  obtain ⟨i0, hi, hz0, hz1, hz2⟩ := info_parts infoInts
  have hr := Lib.run_append_nil_zeros (P := Try.prog) w 22 3 22 3 i0 (.int .i64 0) .i64 .i64 Try.underlying22 Try.underlying3 hi hz0 n (by omega) (by omega) (by omega) (by rw [hz2]; omega)
  have hcap : grownCap w n 0 3 ≤ maxLen := grownCap_le_maxLen w n 0 _ (by unfold maxLen; omega)
  have hge := grownCap_ge w n 0 3
  have HR := Lib.hid hr
  have n1 : (1 : Int) ≤ (n : Int) := by omega
  have n0 : (0 : Int) < (n : Int) := by omega
  have nn : ¬ (n : Int) < 0 := by omega
  clear hr
  generalize grownCap w n 0 3 = cp at HR hcap hge
  go_enter Try.func102, Try.ntmps102
  go_wp2_with (at_builtin; refine Lib.wpList_append_run _ rfl _ _ 22 3 rfl (.slice none 0 0) (.int .i64 n) rfl rfl _ _ HR.out ?_)
  go_ret
  refine ⟨_, rfl, ?_, ((Below.refl _ _).alloc (Nat.le_refl _) _).drew⟩
  show World.ownsRow (w.alloc _) w.heap.size 3 1 (.slice (some ⟨w.heap.size, 0, none⟩) 0 cp) 0 []
  refine ⟨rfl, .inr ⟨w.heap.size, cp, _, rfl, Nat.le_refl _, heap_alloc_new w _, Nat.zero_le _, hcap, ?_, rfl⟩⟩
  rw [Array.size_append, size_zeroCells, size_zeroCells]
  show n * 1 + (cp - n) * 1 = cp * 1
  omega
theorem flat_take {L : List (List Int)} {k : Nat} {l : List Int} (h : L[k]? = some l) : (L.take (k + 1)).flatten = (L.take k).flatten ++ l := by
  obtain ⟨hl, e⟩ := List.getElem?_eq_some_iff.1 h
  rw [List.take_succ_eq_append_getElem hl, e, List.flatten_append]
  simp
theorem flat_len (L : List (List Int)) : L.flatten.length = totL L := by rw [List.length_flatten]; rfl
set_option maxHeartbeats 800000 in
theorem concat_any (A : Option Addr) (c : Nat) (xs : List Value) (L : List (List Int)) (w : World) (hn : 1 ≤ L.length) (h6 : L.length ≤ 6) (hs : ∀ l ∈ L, l.length = L.length) (hr : NRow w A xs L) :
    Calls Try.prog 84 #[.slice A L.length c] w (rowSays1 L.flatten w) := by
  obtain ⟨i0, hi, hz0, hz1, hz2⟩ := info_parts infoInts
  have HR := Lib.hid hr
  have HS := Lib.hid hs
  have htot : ∀ k, k ≤ L.length → totL (L.take k) = k * L.length := by
    intro k
    induction k with
    | zero => intro _; simp [totL]
    | succ k ih =>
      intro hk
      have hx : L[k]? = some L[k] := List.getElem?_eq_getElem (by omega)
      rw [totL_take hx, ih (by omega), hs _ (List.getElem_mem (by omega)), Nat.succ_mul]
  have htb : ∀ k, k ≤ L.length → totL (L.take k) ≤ 36 := fun k hk => by
    rw [htot k hk]
    exact Nat.le_trans (Nat.mul_le_mul (Nat.le_trans hk h6) h6) (by decide)
  have htt : 1 ≤ totL L := by
    have := htot L.length (Nat.le_refl _)
    rw [List.take_length] at this
    rw [this]
    exact Nat.le_trans (by decide) (Nat.mul_le_mul hn hn)
  have htl : totL L ≤ 36 := by
    have := htb L.length (Nat.le_refl _)
    rwa [List.take_length] at this
  have HTB := Lib.hid htb
  have HG := Lib.hid (grow_any (totL L) w htt (by omega))
  clear hr hs htot htb
  go_enter Try.func84, Try.ntmps84
  go_wp2
  go_loop [3, 11] (fun s i => ∃ k : Nat, k ≤ L.length ∧ i = .int .i64 (k : Int) ∧ s = .int .i64 ((totL (L.take k) : Nat) : Int)) (fun _ i => L.length - (intOf i).toNat)
  case atStart => exact ⟨0, Nat.zero_le _, rfl, by simp [totL]⟩
  case round =>
    obtain ⟨k, hk, rfl, rfl⟩ := hrel
    have hb := HTB.out k hk
    by_cases hlt : k < L.length
    · have hltI : (k : Int) < (L.length : Int) := by omega
      obtain ⟨l, hl⟩ : ∃ l, L[k]? = some l := ⟨_, List.getElem?_eq_getElem hlt⟩
      obtain ⟨b, off, B, d, rfl, hbb, hc, _⟩ := HR.out.row_at hl
      have hlen := HS.out l (List.mem_of_getElem? hl)
      have HT := Lib.hid (totL_take hl)
      clear hl
      generalize totL (L.take k) = tk at hb HT ⊢
      generalize l.length = ln at hlen HT hc
      have hw : IntKind.i64.wrap ((tk : Int) + (ln : Int)) = (tk : Int) + (ln : Int) := IntWalk.i64_in _ (by omega)
      have hnn : ¬ (tk : Int) + (ln : Int) < 0 := by omega
      have HLN := Lib.hid hlen
      clear hlen
      go_wp2
      go_round
      case rel => exact ⟨k + 1, by omega, by go_num, by rw [HT.out]; go_num⟩
      case measure => simp [intOf]; omega
    · have hke : k = L.length := by omega
      have hltI : ¬ (k : Int) < (L.length : Int) := by omega
      have HE : Hid (totL (L.take k) = totL L) := by show _ = _; rw [hke, List.take_length]
      rw [HE.out]
      clear hke hb
      generalize totL L = tt at HG htt htl ⊢
      go_wp2_with fail
      go_at_call 102
      refine HG.out.mono ?_
      rintro e w1 ⟨v1, rfl, ho, hb⟩
      have HO1 := Lib.hid ho
      have HB1 := Lib.hid hb
      clear ho hb
      go_wp2
      go_loopw [6, 27] (fun v i wr => ∃ k : Nat, k ≤ L.length ∧ i = .int .i64 (k : Int) ∧ Hid (wr.ownsRow w.heap.size 3 1 v (L.take k).flatten.length (ivs (L.take k).flatten)) ∧ Hid (Below w.heap.size w wr)) (fun _ i _ => L.length - (intOf i).toNat)
      case atStart => exact ⟨0, Nat.zero_le _, rfl, HO1.out, HB1.out⟩
      case round =>
        obtain ⟨k, hk, rfl, ho, hb⟩ := hrel
        by_cases hlt : k < L.length
        · have hltI : (k : Int) < (L.length : Int) := by omega
          obtain ⟨l, hl⟩ : ∃ l, L[k]? = some l := ⟨_, List.getElem?_eq_getElem hlt⟩
          obtain ⟨b, off, B, d, rfl, hbb, hc, hrow⟩ := (HR.out.stays hb.out).row_at hl
          have hlen := HS.out l (List.mem_of_getElem? hl)
          have hfb : (L.take k).flatten.length ≤ 36 := by rw [flat_len]; exact HTB.out k hk
          have HT := Lib.hid (flat_take hl)
          have HRow := Lib.hid hrow
          have hszw := hb.out.size
          have HLen := Lib.hid hlen
          rw [hlen] at hc
          clear hl hrow hlen
          generalize (L.take k).flatten = fl at ho hfb HT
          go_wp2_with (at_builtin; refine list_app rfl _ _ 22 rfl Try.underlying22 hi hz0 hz1 hz2 rfl ho.out rfl HLen.out HRow.out ?c1 ?c2 ?_)
          case c1 => exact hszw
          case c2 => omega
          intro v9 w9 ho9 hg9
          have HB9 := Lib.hid (hb.out.grown hg9 hszw (fun k e => (ho.out.lt k e).1))
          have HO9 : Hid (w9.ownsRow w.heap.size 3 1 v9 (fl ++ l).length (ivs (fl ++ l))) := by show World.ownsRow _ _ _ _ _ _ _; rw [List.length_append, HLen.out]; first | exact ho9 | (rw [ivs, List.map_append]; exact ho9)
          clear ho9 hg9 ho hb hc hbb
          go_wp2
          go_roundw
          case rel => exact ⟨k + 1, by omega, by go_num, (by show World.ownsRow _ _ _ _ _ _ _; rw [HT.out]; exact HO9.out), HB9.out⟩
          case measure => simp [intOf]; omega
        · have hke : k = L.length := by omega
          have hltI : ¬ (k : Int) < (L.length : Int) := by omega
          have HF : Hid (L.take k = L) := by show _ = _; rw [hke, List.take_length]
          clear hke
          go_wp2
          go_ret
          have h := ho.out
          rw [HF.out] at h
          exact ⟨_, rfl, h, hb.out⟩
set_option maxHeartbeats 400000 in
theorem impDia_any (A : Option Addr) (c : Nat) (xs : List Value) (L : List (List Int)) (w : World) (hll : ∀ l ∈ L, l.length ≤ 1048576) (hr : NRow w A xs L) :
    Calls Try.prog 50 #[mv A L.length c] w fun e w' => e = .returned (.tuple #[.int .i64 (Q.diaQ L).1, .bool (Q.diaQ L).2]) ∧ Below w.heap.size w w' := by
  have HM := Lib.hid (MetIn.start (c := c) hr 43)
  have HG := Lib.hid (impMet_any A c xs L _ hll HM.out.rows)
  clear hr hll
  cases hg : Q.metQ L
  · rw [Q.dia_no hg]
    rw [hg] at HG
    clear hg
    go_enter Try.func50, Try.ntmps50
    go_wp2_with fail
    generalize w.alloc (.cells #[.slice A L.length c] 43) = wa at HM HG ⊢
    go_at_call 46
    refine HG.out.mono ?_
    rintro e w1 ⟨rfl, hb⟩
    have HB := Lib.hid (HM.out.on hb).bl
    clear hb
    go_wp2
    go_ret2
    exact ⟨rfl, HB.out⟩
  · rw [Q.dia_yes hg]
    rw [hg] at HG
    obtain ⟨_, ⟨h1, h6⟩, hsq⟩ := Q.met_sqr hg
    have HC := Lib.hid fun (W : World) (h : NRow W A xs L) => concat_any A c xs L W h1 h6 hsq h
    have hne : L.flatten ≠ [] := fun e => by
      have := (Q.flat_mem hsq (d := Q.dst L 0 0)).2 ⟨0, 0, by omega, by omega, rfl⟩
      rw [e] at this
      simp at this
    have hln : L.flatten.length ≤ 1048576 := by
      have : ∀ l ∈ L, l.length ≤ 6 := fun l hl => by rw [hsq l hl]; exact h6
      have h2 := tot_by 6 L this
      rw [flat_len]
      omega
    clear hg hsq
    generalize L.flatten = fl at HC hne hln ⊢
    obtain ⟨mx, hmx⟩ : ∃ mx, mx = Lib.maxOf fl := ⟨_, rfl⟩
    rw [← hmx]
    have HMX := Lib.hid hmx
    clear hmx
    have hpos : 0 < fl.length := List.length_pos_iff.2 hne
    go_enter Try.func50, Try.ntmps50
    go_wp2_with fail
    generalize w.alloc (.cells #[.slice A L.length c] 43) = wa at HM HG ⊢
    go_at_call 46
    refine HG.out.mono ?_
    rintro e w1 ⟨rfl, hb⟩
    have HM1 := Lib.hid (HM.out.on hb)
    clear hb
    obtain ⟨hk0, hk1, hk2⟩ := HM1.out.bk
    go_wp2_with fail
    go_at_call 84
    refine (HC.out w1 HM1.out.rows).mono ?_
    rintro e w2 ⟨v, rfl, ho, hb⟩
    obtain ⟨A2, c2, rfl, _, _, _⟩ := Law.own_len ho
    have HMx := Lib.hid (max_row (Law.Row.own ho) (c := c2) (by omega) hln)
    have HB := Lib.hid (HM1.out.on hb).bl
    clear ho hb hne
    rw [← HMX.out] at HMx
    go_wp2_with fail
    go_at_call 83
    refine (HMx.out).mono ?_
    rintro e w' ⟨rfl, hw'⟩
    obtain rfl := hw'.symm
    clear hw'
    go_wp2
    go_ret2
    exact ⟨rfl, HB.out⟩
theorem most_max (a b : Int) (w : World) : Calls Try.prog 82 #[.int .i64 a, .int .i64 b] w fun e w' => e = .returned (.int .i64 (max a b)) ∧ w' = w := by
  by_cases h : a ≤ b
  · rw [show max a b = b by omega]
    exact l1Most_hi a b w h
  · rw [show max a b = a by omega]
    exact l1Most_lo a b w (by omega)
set_option maxHeartbeats 800000 in
theorem specDia_any (A : Option Addr) (c : Nat) (xs : List Value) (L : List (List Int)) (w : World) (hr : NRow w A xs L) :
    Calls Try.prog 49 #[mv A L.length c] w fun e w' => e = .returned (.tuple #[.int .i64 (Q.diaQ L).1, .bool (Q.diaQ L).2]) ∧ Below w.heap.size w w' := by
  have HM := Lib.hid (MetIn.start (c := c) hr 43)
  have HG := Lib.hid (l6Good_any A c xs L _ HM.out.rows)
  clear hr
  cases hg : Q.metQ L
  · rw [Q.dia_no hg]
    rw [hg] at HG
    clear hg
    go_enter Try.func49, Try.ntmps49
    go_wp2_with fail
    generalize w.alloc (.cells #[.slice A L.length c] 43) = wa at HM HG ⊢
    go_at_call 77
    refine HG.out.mono ?_
    rintro e w1 ⟨rfl, hb⟩
    have HB := Lib.hid (HM.out.on hb).bl
    clear hb
    go_wp2
    go_ret2
    exact ⟨rfl, HB.out⟩
  · rw [Q.dia_yes hg]
    rw [hg] at HG
    obtain ⟨htab, ⟨h1, h6⟩, hsq⟩ := Q.met_sqr hg
    have HS := Lib.hid hsq
    have HBd := Lib.hid (fun x y => Q.tab_bd htab (x := x) (y := y))
    have HMax : Hid (∀ M : Int, (∀ x y, x < L.length → y < L.length → Q.dst L x y ≤ M) → (∃ x y, x < L.length ∧ y < L.length ∧ M = Q.dst L x y) → Lib.maxOf L.flatten = M) := fun M a b => Q.max_is hsq h1 a b
    have H00 : Hid (Q.dst L 0 0 = 0) := by
      show _ = _
      have := (Q.tab_iff.1 htab).2 0 (by omega) 0 (by omega)
      simp [Q.okD] at this
      exact this
    generalize Lib.maxOf L.flatten = V at HMax ⊢
    clear hg htab hsq
    go_enter Try.func49, Try.ntmps49
    go_wp2_with fail
    generalize w.alloc (.cells #[.slice A L.length c] 43) = wa at HM HG ⊢
    go_at_call 77
    refine HG.out.mono ?_
    rintro e w1 ⟨rfl, hb⟩
    have HM1 := Lib.hid (HM.out.on hb)
    clear hb HM HG
    obtain ⟨hk0, hk1, hk2⟩ := HM1.out.bk
    go_wp2
    go_loop [4, 5] (fun m i => ∃ (x : Nat) (M : Int), x ≤ L.length ∧ i = .int .i64 (x : Int) ∧ m = .int .i64 M ∧ Hid (∀ u v, u < x → v < L.length → Q.dst L u v ≤ M) ∧ Hid (∃ x y, x < L.length ∧ y < L.length ∧ M = Q.dst L x y)) (fun _ i => L.length - (intOf i).toNat)
    case atStart => exact ⟨0, 0, Nat.zero_le _, rfl, rfl, fun u v h => by omega, ⟨0, 0, by omega, by omega, H00.out.symm⟩⟩
    case round =>
      obtain ⟨x, M, hx, rfl, rfl, hm1, hm2⟩ := hrel
      by_cases hltx : x < L.length
      · have hltxI : (x : Int) < (L.length : Int) := by omega
        go_wp2
        go_loop [4, 6] (fun m i => ∃ (y : Nat) (M' : Int), y ≤ L.length ∧ i = .int .i64 (y : Int) ∧ m = .int .i64 M' ∧ Hid (∀ u v, u < x → v < L.length → Q.dst L u v ≤ M') ∧ Hid (∀ v, v < y → Q.dst L x v ≤ M') ∧ Hid (∃ x y, x < L.length ∧ y < L.length ∧ M' = Q.dst L x y)) (fun _ i => L.length - (intOf i).toNat)
        case atStart => exact ⟨0, M, Nat.zero_le _, rfl, rfl, hm1, fun v h => by omega, hm2⟩
        case round =>
          obtain ⟨y, M', hy, rfl, rfl, hn1, hn2, hn3⟩ := hrel
          by_cases hlty : y < L.length
          · have hltyI : (y : Int) < (L.length : Int) := by omega
            obtain ⟨b, off, bx, ox, dx, rfl, hbb, hcx, hbx, hcxy⟩ := HM1.out.rows.dst_at HS.out hltx hlty
            have HD : Hid ((∀ u v, u < x → v < L.length → Q.dst L u v ≤ max M' (Q.dst L x y)) ∧ (∀ v, v < y + 1 → Q.dst L x v ≤ max M' (Q.dst L x y)) ∧ (∃ x' y', x' < L.length ∧ y' < L.length ∧ max M' (Q.dst L x y) = Q.dst L x' y')) := by
              refine ⟨fun u v h1 h2 => ?_, fun v hv => ?_, ?_⟩
              · have := hn1.out u v h1 h2
                omega
              · by_cases e : v = y
                · rw [e]; omega
                · have := hn2.out v (by omega)
                  omega
              · by_cases e : M' ≤ Q.dst L x y
                · exact ⟨x, y, hltx, hlty, by omega⟩
                · obtain ⟨x', y', a, b, e2⟩ := hn3.out
                  exact ⟨x', y', a, b, by omega⟩
            have HI := Lib.hid fun W => most_max M' (Q.dst L x y) W
            generalize Q.dst L x y = D at *
            generalize max M' D = MM at HD HI
            obtain ⟨g1, g2, g3⟩ := HD.out
            have G1 := Lib.hid g1
            have G2 := Lib.hid g2
            have G3 := Lib.hid g3
            clear HD g1 g2 g3 hn1 hn2 hn3
            go_wp2_with (go_at_call 82; refine (HI.out _).mono ?_; rintro e w' ⟨rfl, hw'⟩; subst hw')
            go_round
            case rel => exact ⟨y + 1, MM, by omega, by go_num, rfl, G1.out, G2.out, G3.out⟩
            case measure => simp [intOf]; omega
          · have hye : y = L.length := by omega
            have hltyI : ¬ (y : Int) < (L.length : Int) := by omega
            have HN : Hid (∀ u v, u < x + 1 → v < L.length → Q.dst L u v ≤ M') := fun u v h1 h2 => by
              by_cases e : u = x
              · rw [e]; exact hn2.out v (by omega)
              · exact hn1.out u v (by omega) h2
            clear hye
            go_wp2
            go_round
            case rel => exact ⟨x + 1, M', by omega, by go_num, rfl, HN.out, hn3.out⟩
            case measure => simp [intOf]; omega
      · have hxe : x = L.length := by omega
        have hltxI : ¬ (x : Int) < (L.length : Int) := by omega
        have HV := Lib.hid (HMax.out M (fun u v hu hv => hm1.out u v (by omega) hv) hm2.out)
        clear hxe hm1 hm2
        go_wp2
        go_ret2
        exact ⟨by rw [HV.out]; rfl, HM1.out.bl⟩
end Go.Proofs.Ytndjpkeenbbgiaa
