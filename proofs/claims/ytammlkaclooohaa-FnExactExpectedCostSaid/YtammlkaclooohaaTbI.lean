/-
  Tables of distances: the code's isTable and isWholeTable.
-/
import Derived.Test.YtammlkaclooohaaDet
import Derived.Test.YtammlkaclooohaaShelf
namespace Go.Proofs.Ytammlkaclooohaa
open Go.RowKit
set_option linter.unusedVariables false
namespace Q
def okI (L : List (List Int)) (x y : Nat) : Bool := (decide (dst L x y = 0) == decide (x = y)) && decide (dst L x y = dst L y x)
def inW (L : List (List Int)) : Prop := ∀ l ∈ L, within (-1) 99 l = true
theorem inW_at {L : List (List Int)} (h : inW L) {x y : Nat} (hs : ∀ l ∈ L, l.length = L.length) (hx : x < L.length) (hy : y < L.length) : -1 ≤ dst L x y ∧ dst L x y ≤ 99 := by
  obtain ⟨l, h1, h2, h3⟩ := sqr_at hs hx hy
  obtain ⟨d, e, h4, h5⟩ := within_at (h l (List.mem_of_getElem? h1)) (k := y) (by omega)
  rw [h3] at e
  cases e
  exact ⟨h4, h5⟩
theorem okI_ok {L : List (List Int)} {x y : Nat} (h : -1 ≤ dst L x y ∧ dst L x y ≤ 99) : okI L x y = okD true L x y := by
  unfold okI okD
  rw [Bool.eq_iff_iff]
  by_cases e : x = y
  · simp [e]
  · simp [e]
    constructor
    · rintro ⟨h1, h2⟩
      refine ⟨h2, ?_⟩
      omega
    · rintro ⟨h1, h2⟩
      exact ⟨by omega, h1⟩
theorem within_of {L : List (List Int)} (h : tabQ true L = true) : inW L := fun l hl => by
  obtain ⟨hs, ha⟩ := tab_iff.1 h
  obtain ⟨⟨_, _⟩, hs⟩ := sqr_iff.1 hs
  obtain ⟨x, hx, rfl⟩ := List.mem_iff_getElem.1 hl
  refine List.all_eq_true.2 fun d hd => ?_
  obtain ⟨y, hy, rfl⟩ := List.mem_iff_getElem.1 hd
  have hlen := hs _ (List.getElem_mem hx)
  have h1 := ha x hx y (by omega)
  have e : dst L x y = L[x][y] := by
    rw [dst, List.getD_eq_getElem?_getD (l := L), List.getElem?_eq_getElem hx]
    simp [List.getElem?_eq_getElem hy]
  unfold okD at h1
  rw [e] at h1
  by_cases exy : x = y
  · rw [if_pos exy] at h1
    simp at h1
    have := h1.2
    simp [okW]
    omega
  · rw [if_neg exy] at h1
    simp at h1
    simp [okW]
    omega
theorem tabI_iff {L : List (List Int)} : tabQ true L = true ↔ sqr L = true ∧ inW L ∧ ∀ x, x < L.length → ∀ y, y < L.length → okI L x y = true := by
  constructor
  · intro h
    have hw := within_of h
    obtain ⟨hs, ha⟩ := tab_iff.1 h
    have hs' := (sqr_iff.1 hs).2
    exact ⟨hs, hw, fun x hx y hy => by rw [okI_ok (inW_at hw hs' hx hy)]; exact ha x hx y hy⟩
  · rintro ⟨hs, hw, ha⟩
    have hs' := (sqr_iff.1 hs).2
    exact tab_iff.2 ⟨hs, fun x hx y hy => by rw [← okI_ok (inW_at hw hs' hx hy)]; exact ha x hx y hy⟩
/-- A whole table is a table without -1. -/
theorem whole_iff {L : List (List Int)} : tabQ false L = true ↔ tabQ true L = true ∧ ∀ l ∈ L, ¬ (-1 : Int) ∈ l := by
  constructor
  · intro h
    obtain ⟨hs, ha⟩ := tab_iff.1 h
    have hs' := (sqr_iff.1 hs).2
    refine ⟨tab_iff.2 ⟨hs, fun x hx y hy => ?_⟩, fun l hl hm => ?_⟩
    · have := ha x hx y hy
      unfold okD at this ⊢
      by_cases e : x = y
      · rw [if_pos e] at this ⊢
        exact this
      · rw [if_neg e] at this ⊢
        simp at this ⊢
        exact ⟨this.1, .inl this.2⟩
    · obtain ⟨x, hx, rfl⟩ := List.mem_iff_getElem.1 hl
      obtain ⟨y, hy, e⟩ := List.mem_iff_getElem.1 hm
      have hlen := hs' _ (List.getElem_mem hx)
      have h1 := tab_bd h (x := x) (y := y) hx (by omega)
      rw [dst, List.getD_eq_getElem?_getD (l := L), List.getElem?_eq_getElem hx] at h1
      simp [List.getElem?_eq_getElem hy, e] at h1
  · rintro ⟨h, hno⟩
    obtain ⟨hs, ha⟩ := tab_iff.1 h
    have hs' := (sqr_iff.1 hs).2
    refine tab_iff.2 ⟨hs, fun x hx y hy => ?_⟩
    have h1 := ha x hx y hy
    have hne : ¬ dst L x y = -1 := fun e => by
      obtain ⟨l, g1, g2, g3⟩ := sqr_at hs' hx hy
      rw [e] at g3
      exact hno l (List.mem_of_getElem? g1) (List.mem_of_getElem? g3)
    unfold okD at h1 ⊢
    split at h1
    · rename_i e
      simp [e] at h1 ⊢
      omega
    · rename_i e
      simp [e, hne] at h1 ⊢
      omega
end Q
/-- slices.Contains of a row. -/
theorem has_row {w : World} {A : Option Addr} {c : Nat} {zs : List Int} (hr : Law.Row w A (ivs zs)) (hn : zs.length ≤ 1048576) (x : Int) :
    Calls Try.prog 200 #[.slice A zs.length c, .int .i64 x] w fun e w' => e = .returned (.bool (decide (x ∈ zs))) ∧ w' = w := by
  by_cases h0 : zs = []
  · subst h0
    have h := Try.slices_Contains_int_empty A c x w
    simpa using h
  · obtain ⟨b, off, rfl, _, hc⟩ := hr (by simpa [ivs] using h0)
    have h := Try.slices_Contains_int b off zs.length c zs x w (Nat.le_refl _) (by omega) (fun j hj => hc j _ (by rw [ivs, List.getElem?_map, List.getElem?_eq_getElem hj, List.getD_eq_getElem?_getD, List.getElem?_eq_getElem hj]; rfl))
    rw [List.take_length, show zs.contains x = decide (x ∈ zs) by simp] at h
    exact h
theorem noWay_any (B : Option Addr) (c : Nat) (l : List Int) (w : World) (hn : l.length ≤ 1048576) (hr : Law.Row w B (ivs l)) :
    Calls Try.prog 199 #[.slice B l.length c] w fun e w' => e = .returned (.bool (decide ((-1 : Int) ∈ l))) ∧ w' = w := by
  have HH := Lib.hid (has_row hr hn (-1) (c := c))
  generalize decide ((-1 : Int) ∈ l) = b at HH ⊢
  clear hr
  go_enter Try.func199, Try.ntmps199
  go_wp2_with fail
  go_at_call 200
  refine (HH.out).mono ?_
  rintro e w' ⟨rfl, hw'⟩
  obtain rfl := hw'.symm
  clear hw'
  go_wp2
  go_ret
  exact ⟨rfl, rfl⟩
abbrev noWay : Value := .func (.func 199) #[] #[]
set_option maxHeartbeats 400000 in
theorem indexNo_any (A : Option Addr) (c : Nat) (xs : List Value) (L : List (List Int)) (w : World) (h6 : L.length ≤ 6) (hs : ∀ l ∈ L, l.length = L.length) (hr : NRow w A xs L) :
    Calls Try.prog 187 #[.slice A L.length c, noWay] w fun e w' => (∃ i : Int, e = .returned (.int .i64 i) ∧ ((∀ l ∈ L, ¬ (-1 : Int) ∈ l) → i < 0) ∧ ((¬ ∀ l ∈ L, ¬ (-1 : Int) ∈ l) → 0 ≤ i)) ∧ w' = w := by
  have HR := Lib.hid hr
  have HS := Lib.hid hs
  clear hr hs
  go_enter Try.func187, Try.ntmps187
  go_wp2
  go_loop [8] (fun i => ∃ k : Nat, k ≤ L.length ∧ i = .int .i64 (k : Int) ∧ Hid (∀ j l, j < k → L[j]? = some l → ¬ (-1 : Int) ∈ l)) (fun i => L.length - (intOf i).toNat)
  case atStart => exact ⟨0, Nat.zero_le _, rfl, fun j l hj => by omega⟩
  case round =>
    obtain ⟨k, hk, rfl, hall⟩ := hrel
    by_cases hlt : k < L.length
    · have hltI : (k : Int) < (L.length : Int) := by omega
      obtain ⟨l, hl⟩ : ∃ l, L[k]? = some l := ⟨_, List.getElem?_eq_getElem hlt⟩
      obtain ⟨b, off, B, d, rfl, hb, hc, hrow⟩ := HR.out.row_at hl
      have hll := HS.out l (List.mem_of_getElem? hl)
      have HC := Lib.hid (noWay_any B d l w (by omega) hrow)
      have HL := Lib.hid hl
      clear hl hrow hll
      by_cases hm : (-1 : Int) ∈ l
      · rw [show decide ((-1 : Int) ∈ l) = true from decide_eq_true hm] at HC
        have HM := Lib.hid hm
        clear hm hall
        generalize l.length = n at HC hc
        go_wp2_with (go_at_call 199; refine (HC.out).mono ?_; rintro e w' ⟨rfl, hw'⟩; subst hw')
        go_ret
        exact ⟨⟨_, rfl, fun h => absurd HM.out (h l (List.mem_of_getElem? HL.out)), fun _ => by omega⟩, rfl⟩
      · rw [show decide ((-1 : Int) ∈ l) = false from decide_eq_false hm] at HC
        have HN : Hid (∀ j l, j < k + 1 → L[j]? = some l → ¬ (-1 : Int) ∈ l) := fun j l' hj hl' => by
          by_cases e : j = k
          · subst e
            rw [HL.out] at hl'
            cases hl'
            exact hm
          · exact hall.out j l' (by omega) hl'
        clear hm hall
        generalize l.length = n at HC hc
        go_wp2_with (go_at_call 199; refine (HC.out).mono ?_; rintro e w' ⟨rfl, hw'⟩; subst hw')
        go_round
        case rel => exact ⟨k + 1, by omega, by go_num, HN.out⟩
        case measure => simp [intOf]; omega
    · have hke : k = L.length := by omega
      have hltI : ¬ (k : Int) < (L.length : Int) := by omega
      have HN : Hid (∀ l ∈ L, ¬ (-1 : Int) ∈ l) := fun l hl => by
        obtain ⟨j, hj, rfl⟩ := List.mem_iff_getElem.1 hl
        exact hall.out j _ (by omega) (List.getElem?_eq_getElem hj)
      clear hke hall
      go_wp2
      go_ret
      exact ⟨⟨_, rfl, fun _ => (by decide), fun l hl hm => absurd hm (HN.out l hl)⟩, rfl⟩
open Classical in
theorem hasNo_any (A : Option Addr) (c : Nat) (xs : List Value) (L : List (List Int)) (w : World) (h6 : L.length ≤ 6) (hs : ∀ l ∈ L, l.length = L.length) (hr : NRow w A xs L) :
    Calls Try.prog 154 #[.slice A L.length c, noWay] w fun e w' => e = .returned (.bool (!decide (∀ l ∈ L, ¬ (-1 : Int) ∈ l))) ∧ w' = w := by
  have HI := Lib.hid (indexNo_any A c xs L w h6 hs hr)
  clear hr hs
  by_cases h : ∀ l ∈ L, ¬ (-1 : Int) ∈ l
  · have HH := Lib.hid h
    rw [decide_eq_true h]
    clear h
    go_enter Try.func154, Try.ntmps154
    go_wp2_with fail
    go_at_call 187
    refine HI.out.mono ?_
    rintro e w' ⟨⟨i, rfl, h1, h2⟩, hw'⟩
    obtain rfl := hw'.symm
    have hi : ¬ 0 ≤ i := by have := h1 HH.out; omega
    clear h1 h2 hw'
    go_wp2
    go_ret
    exact ⟨by show Ending.returned (.bool (decide (0 ≤ i))) = _; rw [decide_eq_false (show ¬ 0 ≤ i by omega)]; rfl, rfl⟩
  · have HH := Lib.hid h
    rw [decide_eq_false h]
    clear h
    go_enter Try.func154, Try.ntmps154
    go_wp2_with fail
    go_at_call 187
    refine HI.out.mono ?_
    rintro e w' ⟨⟨i, rfl, h1, h2⟩, hw'⟩
    obtain rfl := hw'.symm
    have hi : 0 ≤ i := h2 HH.out
    clear h1 h2 hw'
    go_wp2
    go_ret
    exact ⟨rfl, rfl⟩
set_option maxHeartbeats 1600000 in
theorem isTable_any (A : Option Addr) (c : Nat) (xs : List Value) (L : List (List Int)) (w : World) (hll : ∀ l ∈ L, l.length ≤ 1048576) (hr : NRow w A xs L) :
    Calls Try.prog 198 #[mv A L.length c] w fun e w' => e = .returned (.bool (Q.tabQ true L)) ∧ Below w.heap.size w w' := by
  have HM := Lib.hid (MetIn.start (c := c) hr 150)
  have HLL := Lib.hid hll
  clear hr hll
  by_cases hlo : 1 ≤ L.length ∧ L.length ≤ 6
  · obtain ⟨g1, g6⟩ := hlo
    have g1I : ¬ (L.length : Int) < 1 := by omega
    have g6I : ¬ (6 : Int) < (L.length : Int) := by omega
    have hlo : 1 ≤ L.length ∧ L.length ≤ 6 := ⟨g1, g6⟩
    have HLO := Lib.hid hlo
    clear hlo
    go_enter Try.func198, Try.ntmps198
    go_wp2_with fail
    generalize w.alloc (.cells #[.slice A L.length c] 150) = wa at HM ⊢
    obtain ⟨hk0, hk1, hk2⟩ := HM.out.bk
    have hbl := Lib.hid HM.out.bl
    go_loop [22] (fun i => ∃ k : Nat, k ≤ L.length ∧ i = .int .i64 (k : Int) ∧ Hid (∀ j l, j < k → L[j]? = some l → l.length = L.length ∧ Q.within (-1) 99 l = true)) (fun i => L.length - (intOf i).toNat)
    case atStart => exact ⟨0, Nat.zero_le _, rfl, fun j l hj => by omega⟩
    case round =>
      obtain ⟨k, hk, rfl, hall⟩ := hrel
      by_cases hlt : k < L.length
      · have hltI : (k : Int) < (L.length : Int) := by omega
        obtain ⟨l, hl⟩ : ∃ l, L[k]? = some l := ⟨_, List.getElem?_eq_getElem hlt⟩
        obtain ⟨b, off, B, d, rfl, hb, hc, hrow⟩ := HM.out.rows.row_at hl
        have HL := Lib.hid hl
        have hl20 := HLL.out l (List.mem_of_getElem? hl)
        clear hl
        by_cases hlen : l.length = L.length
        · have HW := Lib.hid (isWithin_any B d l (-1) 99 wa hl20 hrow)
          rw [hlen] at hc HW
          cases hw : Q.within (-1) 99 l
          · have HN : Hid (Q.tabQ true L = false) := by
              show _ = _
              rw [Bool.eq_false_iff]
              intro h
              have := (Q.tabI_iff.1 h).2.1 l (List.mem_of_getElem? HL.out)
              rw [hw] at this
              cases this
            rw [hw] at HW
            clear hlen hall hw hrow
            go_wp2_with (go_at_call 152; refine (HW.out).mono ?_; rintro e w' ⟨rfl, hw'⟩; subst hw')
            go_ret
            exact ⟨by rw [HN.out]; rfl, hbl.out⟩
          · have HN : Hid (∀ j l, j < k + 1 → L[j]? = some l → l.length = L.length ∧ Q.within (-1) 99 l = true) := fun j l' hj hl' => by
              by_cases e : j = k
              · subst e
                rw [HL.out] at hl'
                cases hl'
                exact ⟨hlen, hw⟩
              · exact hall.out j l' (by omega) hl'
            rw [hw] at HW
            clear hlen hall hw hrow
            go_wp2_with (go_at_call 152; refine (HW.out).mono ?_; rintro e w' ⟨rfl, hw'⟩; subst hw')
            go_round
            case rel => exact ⟨k + 1, by omega, by go_num, HN.out⟩
            case measure => simp [intOf]; omega
        · have HN : Hid (Q.tabQ true L = false) := by
            show _ = _
            rw [Bool.eq_false_iff]
            intro h
            exact hlen ((Q.sqr_iff.1 (Q.tab_iff.1 h).1).2 l (List.mem_of_getElem? HL.out))
          have hI : ¬ (l.length : Int) = (L.length : Int) := by omega
          clear hlen hall hrow
          generalize l.length = ln at hI hc
          go_wp2
          go_ret
          exact ⟨by rw [HN.out]; rfl, hbl.out⟩
      · have hke : k = L.length := by omega
        have hltI : ¬ (k : Int) < (L.length : Int) := by omega
        have HS : Hid (∀ l ∈ L, l.length = L.length) := fun l hl => by
          obtain ⟨j, hj, rfl⟩ := List.mem_iff_getElem.1 hl
          exact (hall.out j _ (by omega) (List.getElem?_eq_getElem hj)).1
        have HWi : Hid (Q.inW L) := fun l hl => by
          obtain ⟨j, hj, rfl⟩ := List.mem_iff_getElem.1 hl
          exact (hall.out j _ (by omega) (List.getElem?_eq_getElem hj)).2
        obtain ⟨b, off, _, _, rfl, _⟩ : ∃ b off, ∃ (_ : Nat) (_ : Nat), A = some ⟨b, off, none⟩ ∧ True := by
          obtain ⟨b, off, _, _, _, e, _⟩ := HM.out.rows.dst_at HS.out (x := 0) (y := 0) (by omega) (by omega)
          exact ⟨b, off, 0, 0, e, trivial⟩
        have HD : Hid (∀ x y, x < L.length → y < L.length → ∃ b' off' d, wa.cell? ⟨b, off + x, none⟩ = some (.slice (some ⟨b', off', none⟩) L.length d) ∧ wa.cell? ⟨b', off' + y, none⟩ = some (.int .i64 (Q.dst L x y))) := fun x y hx hy => by
          obtain ⟨b1, off1, b', off', d, e, _, h1, _, h2⟩ := HM.out.rows.dst_at HS.out hx hy
          cases e
          exact ⟨b', off', d, h1, h2⟩
        clear hke hall
        go_wp2
        go_loop [39] (fun i => ∃ k : Nat, k ≤ L.length ∧ i = .int .i64 (k : Int) ∧ Hid (∀ x y, x < k → y < L.length → Q.okI L x y = true)) (fun i => L.length - (intOf i).toNat)
        case atStart => exact ⟨0, Nat.zero_le _, rfl, fun x y hj => by omega⟩
        case round =>
          obtain ⟨x, hx, rfl, hall⟩ := hrel
          by_cases hltx : x < L.length
          · have hltxI : (x : Int) < (L.length : Int) := by omega
            obtain ⟨b1, o1, d1, hc1, _⟩ := HD.out x x hltx hltx
            go_wp2
            go_loop [46] (fun i => ∃ k : Nat, k ≤ L.length ∧ i = .int .i64 (k : Int) ∧ Hid (∀ y, y < k → Q.okI L x y = true)) (fun i => L.length - (intOf i).toNat)
            case atStart => exact ⟨0, Nat.zero_le _, rfl, fun y hj => by omega⟩
            case round =>
              obtain ⟨y, hy, rfl, hall2⟩ := hrel
              by_cases hlty : y < L.length
              · have hltyI : (y : Int) < (L.length : Int) := by omega
                obtain ⟨b1', o1', d1', hc1', hc2⟩ := HD.out x y hltx hlty
                rw [hc1] at hc1'
                cases hc1'
                obtain ⟨b2, o2, d2, hc3, hc4⟩ := HD.out y x hlty hltx
                have HNo : Hid (Q.okI L x y = false → Q.tabQ true L = false) := fun h => by
                  rw [Bool.eq_false_iff]
                  intro ht
                  have := (Q.tabI_iff.1 ht).2.2 x hltx y hlty
                  rw [h] at this
                  cases this
                have HYes : Hid (Q.okI L x y = true → ∀ y', y' < y + 1 → Q.okI L x y' = true) := fun h y' hy' => by
                  by_cases e : y' = y
                  · rw [e]; exact h
                  · exact hall2.out y' (by omega)
                have HE : Hid (Q.okI L x y = ((decide (Q.dst L x y = 0) == decide (x = y)) && decide (Q.dst L x y = Q.dst L y x))) := rfl
                generalize Q.okI L x y = OK at HNo HYes HE
                clear hall2
                by_cases hxy : x = y
                · subst hxy
                  rw [hc1] at hc3
                  cases hc3
                  rw [hc2] at hc4
                  clear hc4
                  generalize Q.dst L x x = D at *
                  by_cases hD : D = 0
                  · subst hD
                    have HN := Lib.hid (HYes.out (by rw [HE.out]; simp))
                    clear HNo HYes HE
                    go_wp2
                    go_round
                    case rel => exact ⟨x + 1, by omega, by go_num, HN.out⟩
                    case measure => simp [intOf]; omega
                  · have HN := Lib.hid (HNo.out (by rw [HE.out]; simp [hD]))
                    clear HNo HYes HE
                    go_wp2
                    go_ret
                    exact ⟨by rw [HN.out]; rfl, hbl.out⟩
                · have hxyI : ¬ (x : Int) = (y : Int) := by omega
                  generalize Q.dst L x y = D at *
                  generalize Q.dst L y x = E at *
                  by_cases hD : D = 0
                  · subst hD
                    have HN := Lib.hid (HNo.out (by rw [HE.out]; simp [hxy]))
                    clear HNo HYes HE hxy
                    go_wp2
                    go_ret
                    exact ⟨by rw [HN.out]; rfl, hbl.out⟩
                  · have hD0 : (D == 0) = false := by simpa using hD
                    have hxy0 : ((x : Int) == (y : Int)) = false := by simpa using hxyI
                    by_cases hDE : D = E
                    · subst hDE
                      have HN := Lib.hid (HYes.out (by rw [HE.out]; simp [hxy, hD]))
                      clear HNo HYes HE hxy
                      go_wp2
                      go_round
                      case rel => exact ⟨y + 1, by omega, by go_num, HN.out⟩
                      case measure => simp [intOf]; omega
                    · have HN := Lib.hid (HNo.out (by rw [HE.out]; simp [hDE]))
                      clear HNo HYes HE hxy
                      go_wp2
                      go_ret
                      exact ⟨by rw [HN.out]; rfl, hbl.out⟩
              · have hye : y = L.length := by omega
                have hltyI : ¬ (y : Int) < (L.length : Int) := by omega
                have HN : Hid (∀ x' y', x' < x + 1 → y' < L.length → Q.okI L x' y' = true) := fun x' y' h1 h2 => by
                  by_cases e : x' = x
                  · rw [e]; exact hall2.out y' (by omega)
                  · exact hall.out x' y' (by omega) h2
                clear hye hall hall2
                go_wp2
                go_round
                case rel => exact ⟨x + 1, by omega, by go_num, HN.out⟩
                case measure => simp [intOf]; omega
          · have hxe : x = L.length := by omega
            have hltxI : ¬ (x : Int) < (L.length : Int) := by omega
            have HN : Hid (Q.tabQ true L = true) := Q.tabI_iff.2 ⟨Q.sqr_iff.2 ⟨HLO.out, HS.out⟩, HWi.out, fun x' h1 y' h2 => hall.out x' y' (by omega) h2⟩
            clear hxe hall
            go_wp2
            go_ret
            exact ⟨by rw [HN.out]; rfl, hbl.out⟩
  · have HN : Hid (Q.tabQ true L = false) := by
      show _ = _
      rw [Bool.eq_false_iff]
      intro h
      exact hlo (Q.sqr_iff.1 (Q.tab_iff.1 h).1).1
    have hbl := Lib.hid HM.out.bl
    by_cases g1 : 1 ≤ L.length
    · have g1I : ¬ (L.length : Int) < 1 := by omega
      have g6I : (6 : Int) < (L.length : Int) := by omega
      clear hlo
      go_enter Try.func198, Try.ntmps198
      go_wp2
      go_ret
      exact ⟨by rw [HN.out]; rfl, hbl.out⟩
    · have g1I : (L.length : Int) < 1 := by omega
      clear hlo
      go_enter Try.func198, Try.ntmps198
      go_wp2
      go_ret
      exact ⟨by rw [HN.out]; rfl, hbl.out⟩
end Go.Proofs.Ytammlkaclooohaa
