/-
  IsIsometry: a list of each point once; both sides.
-/
import Derived.Test.YtndjpkeenbbgiabIcf
import Derived.Test.YtndjpkeenbbgiabDifI
import Derived.Test.YtndjpkeenbbgiabImpQ
import Derived.Test.YtndjpkeenbbgiabOwnS
import Derived.BigQuiet
namespace Go.Proofs.Ytndjpkeenbbgiab
open Go.RowKit
set_option linter.unusedVariables false
namespace Q
/-- A list that has each item once. -/
def order (n : Int) (to : List Int) : Bool := decide ((to.length : Int) = n) && (okList n to && decide ((dif to : Int) = n))
def eachQ (n : Int) (to : List Int) : Bool := good n to && order n to
end Q
set_option maxHeartbeats 800000 in
theorem eachOnce_any (n : Int) (B : Option Addr) (d : Nat) (to : List Int) (w : World) (hl : to.length ≤ 1048576) (hs : Law.Row w B (ivs to)) :
    Calls Try.prog 58 #[.int .i64 n, .slice B to.length d] w fun e w' => e = .returned (.bool (Q.eachQ n to)) ∧ Below w.heap.size w w' := by
  have HQ2 := Lib.hid (impIsReq_any n B d to w hl hs)
  cases hgt : Q.good n to
  · have HN : Hid (Q.eachQ n to = false) := by show _ = _; simp [Q.eachQ, hgt]
    rw [hgt] at HQ2
    clear hs hgt
    go_enter Try.func58, Try.ntmps58
    go_wp2_with fail
    go_at_call 98
    refine (HQ2.out).mono ?_
    rintro e w' ⟨rfl, hw'⟩
    obtain rfl := hw'.symm
    clear hw'
    go_wp2
    go_ret
    exact ⟨by rw [HN.out]; rfl, Below.refl _ _⟩
  · rw [hgt] at HQ2
    obtain ⟨M, rfl, _, _, h3, hx⟩ := Q.good_nat hgt
    have hok : Q.okList M to = true := by
      have := ((Bool.and_eq_true _ _).mp ((Bool.and_eq_true _ _).mp hgt).2).2
      exact this
    by_cases hlen : to.length = M
    · have HD := Lib.hid (difItems_any B d to w h3 (fun k hk => by
        obtain ⟨y, hy, hy8⟩ := hx k hk
        exact ⟨y, hy, by omega⟩) hs)
      have HN : Hid (Q.eachQ M to = ((Q.dif to : Int) == (M : Int))) := by
        show _ = _
        rw [show ((Q.dif to : Int) == (M : Int)) = decide ((Q.dif to : Int) = (M : Int)) from by rw [Bool.eq_iff_iff]; simp]
        simp [Q.eachQ, hgt, Q.order, hok, hlen]
      generalize Q.dif to = q at HD HN
      generalize Q.eachQ M to = E at HN ⊢
      subst hlen
      clear hs hgt hx hok
      go_enter Try.func58, Try.ntmps58
      go_wp2_with fail
      go_at_call 98
      refine (HQ2.out).mono ?_
      rintro e w' ⟨rfl, hw'⟩
      obtain rfl := hw'.symm
      clear hw'
      go_wp2_with fail
      go_at_call 99
      refine HD.out.mono ?_
      rintro e w0 ⟨rfl, hb0⟩
      have HB0 := Lib.hid hb0
      clear hb0
      go_wp2
      go_ret
      exact ⟨by rw [HN.out]; rfl, HB0.out⟩
    · have HN : Hid (Q.eachQ M to = false) := by
        show _ = _
        simp [Q.eachQ, Q.order]
        intro _ h
        omega
      have hqb : ((to.length : Int) == (M : Int)) = false := by simpa using (show ¬ (to.length : Int) = (M : Int) by omega)
      clear hs hgt hx hok
      go_enter Try.func58, Try.ntmps58
      go_wp2_with fail
      go_at_call 98
      refine (HQ2.out).mono ?_
      rintro e w' ⟨rfl, hw'⟩
      obtain rfl := hw'.symm
      clear hw'
      go_wp2
      go_ret
      exact ⟨by rw [HN.out]; rfl, Below.refl _ _⟩
namespace Q
theorem dif_nodup (l : List Int) : Q.dif l = l.length ↔ l.Nodup := by
  have key : ∀ m : List Int, Q.difR m ≤ m.length ∧ (Q.difR m = m.length ↔ m.Nodup) := by
    intro m
    induction m with
    | nil => simp [Q.difR]
    | cons x m ih =>
      obtain ⟨h1, h2⟩ := ih
      unfold Q.difR
      by_cases hx : x ∈ m
      · simp [hx]; omega
      · simp [hx, ← h2]; omega
  have := (key l.reverse).2
  rw [(List.reverse_perm l).nodup_iff, List.length_reverse] at this
  exact this
theorem pig_le : ∀ (n : Nat) (l : List Int), l.Nodup → (∀ z ∈ l, 0 ≤ z ∧ z < (n : Int)) → l.length ≤ n
  | 0, l, _, h => by
    cases l with
    | nil => simp
    | cons z l =>
      have := h z (List.mem_cons_self ..)
      omega
  | n + 1, l, hn, h => by
    by_cases hm : (n : Int) ∈ l
    · have hp := List.perm_cons_erase hm
      have h1 := pig_le n (l.erase (n : Int)) (hn.erase _) (fun z hz => by
        have h2 := h z (List.mem_of_mem_erase hz)
        have h3 : z ≠ (n : Int) := fun e => by
          rw [e] at hz
          exact hn.not_mem_erase hz
        omega)
      have h2 := hp.length_eq
      simp at h2
      omega
    · have := pig_le n l hn (fun z hz => by
        have h2 := h z hz
        have h3 : z ≠ (n : Int) := fun e => hm (e ▸ hz)
        omega)
      omega
theorem pig_all {n : Nat} {l : List Int} (hn : l.Nodup) (h : ∀ z ∈ l, 0 ≤ z ∧ z < (n : Int)) (hl : l.length = n) {x : Nat} (hx : x < n) : (x : Int) ∈ l := by
  apply Classical.byContradiction
  intro hm
  have := pig_le n ((x : Int) :: l) (List.nodup_cons.2 ⟨hm, hn⟩) (fun z hz => by
    rcases List.mem_cons.1 hz with e | hz
    · omega
    · exact h z hz)
  simp at this
  omega
theorem pig_of : ∀ (n : Nat) (l : List Int), l.length = n → (∀ x : Nat, x < n → (x : Int) ∈ l) → l.Nodup ∧ ∀ z ∈ l, 0 ≤ z ∧ z < (n : Int)
  | 0, l, hl, _ => by
    obtain rfl := List.length_eq_zero_iff.1 hl
    simp
  | n + 1, l, hl, h => by
    have hm := h n (by omega)
    have hp := List.perm_cons_erase hm
    have h2 := hp.length_eq
    simp at h2
    obtain ⟨i1, i2⟩ := pig_of n (l.erase (n : Int)) (by omega) (fun x hx => by
      have := h x (by omega)
      rcases List.mem_cons.1 (hp.mem_iff.1 this) with e | e
      · omega
      · exact e)
    refine ⟨hp.nodup_iff.2 (List.nodup_cons.2 ⟨fun e => by have := i2 _ e; omega, i1⟩), fun z hz => ?_⟩
    rcases List.mem_cons.1 (hp.mem_iff.1 hz) with e | e
    · omega
    · have := i2 z e
      omega
/-- Each point once, the model's way. -/
def permQ (n : Nat) (to : List Int) : Bool := decide (to.length = n) && (List.range n).all fun x => decide ((x : Int) ∈ to)
theorem perm_iff {n : Nat} {to : List Int} : permQ n to = true ↔ to.length = n ∧ ∀ x : Nat, x < n → (x : Int) ∈ to := by simp [permQ]
theorem each_perm {n : Nat} (h1 : 1 ≤ n) (h6 : n ≤ 6) (to : List Int) : eachQ n to = permQ n to := by
  rw [Bool.eq_iff_iff, perm_iff]
  have hI : ∀ z : Int, okItem n z = true ↔ 0 ≤ z ∧ z < (n : Int) := fun z => by simp [okItem]; omega
  constructor
  · intro h
    simp only [eachQ, Bool.and_eq_true, order, decide_eq_true_eq] at h
    obtain ⟨_, hl, ho, hd⟩ := h
    have hnd := (dif_nodup to).1 (by omega)
    exact ⟨by omega, fun x hx => pig_all hnd (fun z hz => (hI z).1 (List.all_eq_true.1 ho z hz)) (by omega) hx⟩
  · rintro ⟨hl, h⟩
    obtain ⟨hnd, hb⟩ := pig_of n to hl h
    have hd := (dif_nodup to).2 hnd
    have ho : okList n to = true := List.all_eq_true.2 fun z hz => (hI z).2 (hb z hz)
    simp only [eachQ, Bool.and_eq_true, order, decide_eq_true_eq, good, okN]
    exact ⟨⟨by omega, by omega, ho⟩, by omega, ho, by omega⟩
/-- It keeps all distances. -/
def okT (L : List (List Int)) (to : List Int) (x y : Nat) : Bool := decide (dst L x y = dst L (to.getD x 0).toNat (to.getD y 0).toNat)
def keeps (L : List (List Int)) (to : List Int) : Bool := (List.range L.length).all fun x => (List.range L.length).all fun y => okT L to x y
theorem keeps_iff {L : List (List Int)} {to : List Int} : keeps L to = true ↔ ∀ x, x < L.length → ∀ y, y < L.length → okT L to x y = true := by simp [keeps]
theorem keeps_no {L : List (List Int)} {to : List Int} {x y : Nat} (hx : x < L.length) (hy : y < L.length) (h : okT L to x y = false) : keeps L to = false := by
  rw [Bool.eq_false_iff]
  intro ht
  have := keeps_iff.1 ht x hx y hy
  rw [h] at this
  cases this
noncomputable def isoQ (L : List (List Int)) (to : List Int) : Bool × Bool := if metQ L && permQ L.length to then (keeps L to, true) else (false, false)
end Q
set_option maxHeartbeats 400000 in
theorem l6Perm_any (n : Nat) (B : Option Addr) (d : Nat) (to : List Int) (w : World) (h6 : n ≤ 6) (hl : to.length ≤ 1048576) (hr : Law.Row w B (ivs to)) :
    Calls Try.prog 57 #[.int .i64 n, .slice B to.length d] w fun e w' => e = .returned (.bool (Q.permQ n to)) ∧ w' = w := by
  have HH := Lib.hid fun (x : Nat) => l1Has_any B d to (x : Int) w hl hr
  clear hr
  by_cases hlen : to.length = n
  · have HI : Hid (Q.permQ n to = true ↔ ∀ x : Nat, x < n → (x : Int) ∈ to) := by
      show _ ↔ _
      rw [Q.perm_iff]
      exact ⟨fun h => h.2, fun h => ⟨hlen, h⟩⟩
    rw [hlen] at HH ⊢
    generalize Q.permQ n to = V at HI ⊢
    clear hlen hl
    go_enter Try.func57, Try.ntmps57
    go_wp2
    go_loop [5] (fun i => ∃ k : Nat, k ≤ n ∧ i = .int .i64 (k : Int) ∧ Hid (∀ x : Nat, x < k → (x : Int) ∈ to)) (fun i => n - (intOf i).toNat)
    case atStart => exact ⟨0, Nat.zero_le _, rfl, fun x h => by omega⟩
    case round =>
      obtain ⟨k, hk, rfl, hall⟩ := hrel
      by_cases hlt : k < n
      · have hltI : (k : Int) < (n : Int) := by omega
        have HC := Lib.hid (HH.out k)
        by_cases hm : (k : Int) ∈ to
        · rw [show decide ((k : Int) ∈ to) = true from decide_eq_true hm] at HC
          have HN : Hid (∀ x : Nat, x < k + 1 → (x : Int) ∈ to) := fun x hx => by
            by_cases e : x = k
            · rw [e]; exact hm
            · exact hall.out x (by omega)
          clear hm hall HH
          go_wp2_with (go_at_call 73; refine (HC.out).mono ?_; rintro e w' ⟨rfl, hw'⟩; subst hw')
          go_round
          case rel => exact ⟨k + 1, by omega, by go_num, HN.out⟩
          case measure => simp [intOf]; omega
        · rw [show decide ((k : Int) ∈ to) = false from decide_eq_false hm] at HC
          have HN : Hid (V = false) := by
            show _ = _
            rw [Bool.eq_false_iff]
            intro h
            exact hm (HI.out.1 h k hlt)
          clear hm hall HH
          go_wp2_with (go_at_call 73; refine (HC.out).mono ?_; rintro e w' ⟨rfl, hw'⟩; subst hw')
          go_ret
          exact ⟨by rw [HN.out]; rfl, rfl⟩
      · have hke : k = n := by omega
        have hltI : ¬ (k : Int) < (n : Int) := by omega
        have HN : Hid (V = true) := HI.out.2 (by rw [← hke]; exact hall.out)
        clear hke hall
        go_wp2
        go_ret
        exact ⟨by rw [HN.out]; rfl, rfl⟩
  · have HN : Hid (Q.permQ n to = false) := by show _ = _; simp [Q.permQ, hlen]
    have hI : ¬ (to.length : Int) = (n : Int) := by omega
    generalize Q.permQ n to = V at HN ⊢
    generalize to.length = ln at hI HH ⊢
    clear hlen HH
    go_enter Try.func57, Try.ntmps57
    go_wp2
    go_ret
    exact ⟨by rw [HN.out]; rfl, rfl⟩
end Go.Proofs.Ytndjpkeenbbgiab
