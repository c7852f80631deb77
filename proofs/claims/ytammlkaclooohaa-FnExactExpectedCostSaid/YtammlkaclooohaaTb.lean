/-
  Tables of distances: the mathematics; a metric that a call was given; the model's l6Table.
-/
import Derived.Test.YtammlkaclooohaaMet
namespace Go.Proofs.Ytammlkaclooohaa
open Go.RowKit
set_option linter.unusedVariables false
namespace Q
def dst (L : List (List Int)) (x y : Nat) : Int := (L.getD x []).getD y 0
def okD (o : Bool) (L : List (List Int)) (x y : Nat) : Bool := decide (dst L x y = dst L y x) && (if x = y then decide (dst L x y = 0) else (decide (1 ≤ dst L x y) && decide (dst L x y ≤ 99)) || (o && decide (dst L x y = -1)))
def sqr (L : List (List Int)) : Bool := (decide (1 ≤ L.length) && decide (L.length ≤ 6)) && L.all fun l => decide (l.length = L.length)
def tabQ (o : Bool) (L : List (List Int)) : Bool := sqr L && (List.range L.length).all fun x => (List.range L.length).all fun y => okD o L x y
theorem sqr_iff {L : List (List Int)} : sqr L = true ↔ (1 ≤ L.length ∧ L.length ≤ 6) ∧ ∀ l ∈ L, l.length = L.length := by simp [sqr]
theorem tab_iff {o : Bool} {L : List (List Int)} : tabQ o L = true ↔ sqr L = true ∧ ∀ x, x < L.length → ∀ y, y < L.length → okD o L x y = true := by simp [tabQ]
theorem tab_no {o : Bool} {L : List (List Int)} {x y : Nat} (hx : x < L.length) (hy : y < L.length) (h : okD o L x y = false) : tabQ o L = false := by
  rw [Bool.eq_false_iff]
  intro ht
  have := (tab_iff.1 ht).2 x hx y hy
  rw [h] at this
  cases this
theorem sqr_row {L : List (List Int)} (h : ∀ l ∈ L, l.length = L.length) {x : Nat} (hx : x < L.length) : ∃ l, L[x]? = some l ∧ l.length = L.length := ⟨_, List.getElem?_eq_getElem hx, h _ (List.getElem_mem hx)⟩
theorem sqr_at {L : List (List Int)} (h : ∀ l ∈ L, l.length = L.length) {x y : Nat} (hx : x < L.length) (hy : y < L.length) : ∃ l, L[x]? = some l ∧ l.length = L.length ∧ l[y]? = some (dst L x y) := by
  obtain ⟨l, h1, h2⟩ := sqr_row h hx
  refine ⟨l, h1, h2, ?_⟩
  rw [dst, List.getD_eq_getElem?_getD (l := L), h1]
  simp [List.getElem?_eq_getElem (show y < l.length by omega)]
end Q
/-- What a call knows of the metric that it was given by value. -/
structure MetIn (w W : World) (A : Option Addr) (c : Nat) (xs : List Value) (L : List (List Int)) : Prop where
  bk : Bk1 W w.heap.size (.slice A L.length c)
  rows : NRow W A xs L
  bl : Below w.heap.size w W
theorem MetIn.on {w W W' : World} {A : Option Addr} {c : Nat} {xs : List Value} {L : List (List Int)} (h : MetIn w W A c xs L) (hb : Below W.heap.size W W') : MetIn w W' A c xs L :=
  ⟨h.bk.on hb, h.rows.stays hb, Law.then_ h.bl hb⟩
theorem MetIn.drewN {w W : World} {A : Option Addr} {c : Nat} {xs : List Value} {L : List (List Int)} (h : MetIn w W A c xs L) (m : Nat) : MetIn w (W.drewN m) A c xs L := h.on (Law.up (Below.refl _ _) m)
theorem MetIn.start {w : World} {A : Option Addr} {c : Nat} {xs : List Value} {L : List (List Int)} (h : NRow w A xs L) (t : TypeId) : MetIn w (w.alloc (.cells #[.slice A L.length c] t)) A c xs L :=
  ⟨Bk1.new _ _ _, h.stays ((Below.refl _ _).alloc (Nat.le_refl _) _), (Below.refl _ _).alloc (Nat.le_refl _) _⟩
/-- The cells of a row, and of a distance. -/
theorem NRow.row_at {w : World} {A : Option Addr} {xs : List Value} {L : List (List Int)} (h : NRow w A xs L) {x : Nat} {l : List Int} (hx : L[x]? = some l) :
    ∃ b off B d, A = some ⟨b, off, none⟩ ∧ b < w.heap.size ∧ w.cell? ⟨b, off + x, none⟩ = some (.slice B l.length d) ∧ Law.Row w B (ivs l) := by
  have hlt : x < xs.length := by rw [h.len]; exact (List.getElem?_eq_some_iff.1 hx).1
  obtain ⟨B, d, e, hr⟩ := h.at_ x xs[x] l (List.getElem?_eq_getElem hlt) hx
  obtain ⟨b, off, eA, hb, hc⟩ := h.row.at_ (List.getElem?_eq_getElem hlt)
  rw [e] at hc
  exact ⟨b, off, B, d, eA, hb, hc, hr⟩
theorem NRow.dst_at {w : World} {A : Option Addr} {xs : List Value} {L : List (List Int)} (h : NRow w A xs L) (hs : ∀ l ∈ L, l.length = L.length) {x y : Nat} (hx : x < L.length) (hy : y < L.length) :
    ∃ b off b' off' d, A = some ⟨b, off, none⟩ ∧ b < w.heap.size ∧ w.cell? ⟨b, off + x, none⟩ = some (.slice (some ⟨b', off', none⟩) L.length d) ∧ b' < w.heap.size ∧ w.cell? ⟨b', off' + y, none⟩ = some (.int .i64 (Q.dst L x y)) := by
  obtain ⟨l, h1, h2, h3⟩ := Q.sqr_at hs hx hy
  obtain ⟨b, off, B, d, eA, hb, hc, hr⟩ := h.row_at h1
  obtain ⟨b', off', eB, hb', hc'⟩ := hr.at_ (ivs_some h3)
  rw [h2, eB] at hc
  exact ⟨b, off, b', off', d, eA, hb, hc, hb', hc'⟩
set_option maxHeartbeats 800000 in
theorem l6Table_any (o : Bool) (A : Option Addr) (c : Nat) (xs : List Value) (L : List (List Int)) (w : World) (hr : NRow w A xs L) :
    Calls Try.prog 182 #[mv A L.length c, .bool o] w fun e w' => e = .returned (.bool (Q.tabQ o L)) ∧ Below w.heap.size w w' := by
  have HM := Lib.hid (MetIn.start (c := c) hr 150)
  have HI := Lib.hid fun W => l1In_any L.length 1 6 W
  clear hr
  by_cases hlo : 1 ≤ L.length ∧ L.length ≤ 6
  · rw [show (decide ((1 : Int) ≤ (L.length : Int)) && decide ((L.length : Int) ≤ 6)) = true by simp; omega] at HI
    have hlo2 := hlo.2
    go_enter Try.func182, Try.ntmps182
    go_wp2_with fail
    generalize w.alloc (.cells #[.slice A L.length c] 150) = wa at HM ⊢
    obtain ⟨hk0, hk1, hk2⟩ := HM.out.bk
    have hrw := HM.out.rows
    clear hrw
    go_at_call 83
    refine (HI.out _).mono ?_
    rintro e w' ⟨rfl, hw'⟩
    obtain rfl := hw'.symm
    clear hw'
    go_wp2
    go_loop [6] (fun i => ∃ k : Nat, k ≤ L.length ∧ i = .int .i64 (k : Int) ∧ Hid (∀ j l, j < k → L[j]? = some l → l.length = L.length)) (fun i => L.length - (intOf i).toNat)
    case atStart => exact ⟨0, Nat.zero_le _, rfl, fun j l hj => by omega⟩
    case round =>
      obtain ⟨k, hk, rfl, hall⟩ := hrel
      by_cases hlt : k < L.length
      · have hltI : (k : Int) < (L.length : Int) := by omega
        obtain ⟨l, hl⟩ : ∃ l, L[k]? = some l := ⟨_, List.getElem?_eq_getElem hlt⟩
        obtain ⟨b, off, B, d, rfl, hb, hc, _⟩ := HM.out.rows.row_at hl
        have HL := Lib.hid hl
        clear hl
        by_cases hlen : l.length = L.length
        · have HN : Hid (∀ j l, j < k + 1 → L[j]? = some l → l.length = L.length) := fun j l' hj hl' => by
            by_cases e : j = k
            · subst e
              rw [HL.out] at hl'
              cases hl'
              exact hlen
            · exact hall.out j l' (by omega) hl'
          rw [hlen] at hc
          clear hlen hall
          go_wp2
          go_round
          case rel => exact ⟨k + 1, by omega, by go_num, HN.out⟩
          case measure => simp [intOf]; omega
        · have HN : Hid (Q.tabQ o L = false) := by
            show _ = _
            rw [Bool.eq_false_iff]
            intro h
            exact hlen ((Q.sqr_iff.1 (Q.tab_iff.1 h).1).2 l (List.mem_of_getElem? HL.out))
          have hI : ¬ (l.length : Int) = (L.length : Int) := by omega
          have hbl := Lib.hid HM.out.bl
          clear hlen hall
          generalize l.length = ln at hI hc
          go_wp2
          go_ret
          exact ⟨by rw [HN.out]; rfl, hbl.out⟩
      · have hke : k = L.length := by omega
        have hltI : ¬ (k : Int) < (L.length : Int) := by omega
        have HS : Hid (∀ l ∈ L, l.length = L.length) := fun l hl => by
          obtain ⟨j, hj, rfl⟩ := List.mem_iff_getElem.1 hl
          exact hall.out j _ (by omega) (List.getElem?_eq_getElem hj)
        obtain ⟨b, off, _, _, rfl, _⟩ : ∃ b off, ∃ (_ : Nat) (_ : Nat), A = some ⟨b, off, none⟩ ∧ True := by
          obtain ⟨b, off, _, _, _, e, _⟩ := HM.out.rows.dst_at HS.out (x := 0) (y := 0) (by omega) (by omega)
          exact ⟨b, off, 0, 0, e, trivial⟩
        have HD : Hid (∀ x y, x < L.length → y < L.length → ∃ b' off' d, wa.cell? ⟨b, off + x, none⟩ = some (.slice (some ⟨b', off', none⟩) L.length d) ∧ wa.cell? ⟨b', off' + y, none⟩ = some (.int .i64 (Q.dst L x y))) := fun x y hx hy => by
          obtain ⟨b1, off1, b', off', d, e, _, h1, _, h2⟩ := HM.out.rows.dst_at HS.out hx hy
          cases e
          exact ⟨b', off', d, h1, h2⟩
        clear hke hall
        go_wp2
        go_loop [7] (fun i => ∃ k : Nat, k ≤ L.length ∧ i = .int .i64 (k : Int) ∧ Hid (∀ x y, x < k → y < L.length → Q.okD o L x y = true)) (fun i => L.length - (intOf i).toNat)
        case atStart => exact ⟨0, Nat.zero_le _, rfl, fun x y hj => by omega⟩
        case round =>
          obtain ⟨x, hx, rfl, hall⟩ := hrel
          by_cases hltx : x < L.length
          · have hltxI : (x : Int) < (L.length : Int) := by omega
            go_wp2
            go_loop [8] (fun i => ∃ k : Nat, k ≤ L.length ∧ i = .int .i64 (k : Int) ∧ Hid (∀ y, y < k → Q.okD o L x y = true)) (fun i => L.length - (intOf i).toNat)
            case atStart => exact ⟨0, Nat.zero_le _, rfl, fun y hj => by omega⟩
            case round =>
              obtain ⟨y, hy, rfl, hall2⟩ := hrel
              by_cases hlty : y < L.length
              · have hltyI : (y : Int) < (L.length : Int) := by omega
                obtain ⟨b1, o1, d1, hc1, hc2⟩ := HD.out x y hltx hlty
                obtain ⟨b2, o2, d2, hc3, hc4⟩ := HD.out y x hlty hltx
                have HNo : Hid (Q.okD o L x y = false → Q.tabQ o L = false) := Q.tab_no hltx hlty
                have HYes : Hid (Q.okD o L x y = true → ∀ y', y' < y + 1 → Q.okD o L x y' = true) := fun h y' hy' => by
                  by_cases e : y' = y
                  · rw [e]; exact h
                  · exact hall2.out y' (by omega)
                have HE : Hid (Q.okD o L x y = (decide (Q.dst L x y = Q.dst L y x) && (if x = y then decide (Q.dst L x y = 0) else (decide (1 ≤ Q.dst L x y) && decide (Q.dst L x y ≤ 99)) || (o && decide (Q.dst L x y = -1))))) := rfl
                have hbl := Lib.hid HM.out.bl
                generalize Q.okD o L x y = OK at HNo HYes HE
                clear hall2 HD
                by_cases hxy : x = y
                · subst hxy
                  rw [hc1] at hc3
                  cases hc3
                  rw [hc2] at hc4
                  clear hc4
                  generalize Q.dst L x x = D at *
                  by_cases hD : D = 0
                  · subst hD
                    have HN := Lib.hid (HYes.out (by rw [HE.out]; simp))
                    clear HNo HYes HE
                    go_wp2
                    go_round
                    case rel => exact ⟨x + 1, by omega, by go_num, HN.out⟩
                    case measure => simp [intOf]; omega
                  · have HN := Lib.hid (HNo.out (by rw [HE.out]; simp [hD]))
                    clear HNo HYes HE
                    go_wp2
                    go_ret
                    exact ⟨by rw [HN.out]; rfl, hbl.out⟩
                · have hxyI : ¬ (x : Int) = (y : Int) := by omega
                  rw [if_neg hxy] at HE
                  generalize Q.dst L x y = D at *
                  generalize Q.dst L y x = E at *
                  by_cases hDE : D = E
                  · subst hDE
                    have HI2 := Lib.hid fun W => l1In_any D 1 99 W
                    generalize (decide (1 ≤ D) && decide (D ≤ 99)) = bb at HI2 HE
                    cases bb
                    · by_cases hD : D = -1
                      · subst hD
                        cases o
                        · have HN := Lib.hid (HNo.out (by rw [HE.out]; simp))
                          clear HNo HYes HE hxy
                          go_wp2_with (go_at_call 83; refine (HI2.out _).mono ?_; rintro e w' ⟨rfl, hw'⟩; subst hw')
                          go_ret
                          exact ⟨by rw [HN.out]; rfl, hbl.out⟩
                        · have HN := Lib.hid (HYes.out (by rw [HE.out]; simp))
                          clear HNo HYes HE hxy
                          go_wp2_with (go_at_call 83; refine (HI2.out _).mono ?_; rintro e w' ⟨rfl, hw'⟩; subst hw')
                          go_round
                          case rel => exact ⟨y + 1, by omega, by go_num, HN.out⟩
                          case measure => simp [intOf]; omega
                      · have HN := Lib.hid (HNo.out (by rw [HE.out]; simp [hD]))
                        have hDb : (D == -1) = false := by simpa using hD
                        clear HNo HYes HE hxy hD
                        cases o
                        · go_wp2_with (go_at_call 83; refine (HI2.out _).mono ?_; rintro e w' ⟨rfl, hw'⟩; subst hw')
                          go_ret
                          exact ⟨by rw [HN.out]; rfl, hbl.out⟩
                        · go_wp2_with (go_at_call 83; refine (HI2.out _).mono ?_; rintro e w' ⟨rfl, hw'⟩; subst hw')
                          go_ret
                          exact ⟨by rw [HN.out]; rfl, hbl.out⟩
                    · have HN := Lib.hid (HYes.out (by rw [HE.out]; simp))
                      clear HNo HYes HE hxy
                      go_wp2_with (go_at_call 83; refine (HI2.out _).mono ?_; rintro e w' ⟨rfl, hw'⟩; subst hw')
                      go_round
                      case rel => exact ⟨y + 1, by omega, by go_num, HN.out⟩
                      case measure => simp [intOf]; omega
                  · have HN := Lib.hid (HNo.out (by rw [HE.out]; simp [hDE]))
                    clear HNo HYes HE hxy
                    go_wp2
                    go_ret
                    exact ⟨by rw [HN.out]; rfl, hbl.out⟩
              · have hye : y = L.length := by omega
                have hltyI : ¬ (y : Int) < (L.length : Int) := by omega
                have HN : Hid (∀ x' y', x' < x + 1 → y' < L.length → Q.okD o L x' y' = true) := fun x' y' h1 h2 => by
                  by_cases e : x' = x
                  · rw [e]; exact hall2.out y' (by omega)
                  · exact hall.out x' y' (by omega) h2
                clear hye hall hall2
                go_wp2
                go_round
                case rel => exact ⟨x + 1, by omega, by go_num, HN.out⟩
                case measure => simp [intOf]; omega
          · have hxe : x = L.length := by omega
            have hltxI : ¬ (x : Int) < (L.length : Int) := by omega
            have HN : Hid (Q.tabQ o L = true) := Q.tab_iff.2 ⟨Q.sqr_iff.2 ⟨hlo, HS.out⟩, fun x' h1 y' h2 => hall.out x' y' (by omega) h2⟩
            have hbl := Lib.hid HM.out.bl
            clear hxe hall
            go_wp2
            go_ret
            exact ⟨by rw [HN.out]; rfl, hbl.out⟩
  · have HN : Hid (Q.tabQ o L = false) := by
      show _ = _
      rw [Bool.eq_false_iff]
      intro h
      exact hlo (Q.sqr_iff.1 (Q.tab_iff.1 h).1).1
    rw [show (decide ((1 : Int) ≤ (L.length : Int)) && decide ((L.length : Int) ≤ 6)) = false by
      rw [Bool.eq_false_iff]; simp; omega] at HI
    clear hlo
    go_enter Try.func182, Try.ntmps182
    go_wp2_with fail
    generalize w.alloc (.cells #[.slice A L.length c] 150) = wa at HM ⊢
    obtain ⟨hk0, hk1, hk2⟩ := HM.out.bk
    have hbl := Lib.hid HM.out.bl
    go_at_call 83
    refine (HI.out _).mono ?_
    rintro e w' ⟨rfl, hw'⟩
    obtain rfl := hw'.symm
    clear hw'
    go_wp2
    go_ret
    exact ⟨by rw [HN.out]; rfl, hbl.out⟩
end Go.Proofs.Ytammlkaclooohaa
