/-
  Rows of servers: isWithin, IsSorted, isServers, isRow, apart; l6Places, l6List, l6Ascending, l6Row, l1Most.
-/
import Derived.Test.YtammlkaclooohaaOwn
import Derived.Deep.RegionLaw
namespace Go.Proofs.Ytammlkaclooohaa
open Go.RowKit
set_option linter.unusedVariables false
namespace Q
def okW (lo hi z : Int) : Bool := decide (lo ≤ z) && decide (z ≤ hi)
def within (lo hi : Int) (l : List Int) : Bool := l.all (okW lo hi)
def asc (l : List Int) : Bool := decide (∀ i, i < l.length - 1 → l.getD i 0 ≤ l.getD (i + 1) 0)
theorem asc_iff {l : List Int} : asc l = true ↔ ∀ i, i < l.length - 1 → l.getD i 0 ≤ l.getD (i + 1) 0 := by simp [asc]
theorem asc_not {l : List Int} {i : Nat} {x y : Int} (hx : l[i]? = some x) (hy : l[i + 1]? = some y) (h : y < x) : asc l = false := by
  rw [Bool.eq_false_iff]
  intro ha
  have hl : i + 1 < l.length := by
    have := (List.getElem?_eq_some_iff.1 hy).1
    exact this
  have := asc_iff.1 ha i (by omega)
  rw [List.getD_eq_getElem?_getD, List.getD_eq_getElem?_getD, hx, hy] at this
  simp at this
  omega
def servers (most : Int) (l : List Int) : Bool := (decide (1 ≤ l.length) && decide (l.length ≤ 3)) && (within 0 most l && asc l)
def rowQ (l : List Int) : Bool := servers 99 l
def ap (a b : Int) : Int := if a ≤ b then b - a else a - b
theorem within_not {lo hi : Int} {l : List Int} {z : Int} (hm : z ∈ l) (h : okW lo hi z = false) : within lo hi l = false := by
  rw [Bool.eq_false_iff]
  intro ha
  have := List.all_eq_true.1 ha _ hm
  rw [h] at this
  cases this
theorem within_next {lo hi : Int} {l : List Int} {k : Nat} (h : k < l.length) (ha : ∀ z ∈ l.take k, okW lo hi z = true) (hz : okW lo hi l[k] = true) : ∀ z ∈ l.take (k + 1), okW lo hi z = true := fun z hzm => by
  rw [List.take_succ_eq_append_getElem h] at hzm
  rcases List.mem_append.1 hzm with h | h
  · exact ha z h
  · obtain rfl := List.mem_singleton.1 h
    exact hz
theorem within_all {lo hi : Int} {l : List Int} (ha : ∀ z ∈ l.take l.length, okW lo hi z = true) : within lo hi l = true :=
  List.all_eq_true.2 fun z hz => ha z (by rw [List.take_length]; exact hz)
end Q
set_option maxHeartbeats 400000 in
theorem isWithin_any (A : Option Addr) (c : Nat) (zs : List Int) (lo hi : Int) (w : World) (hn : zs.length ≤ 1048576) (hr : Law.Row w A (ivs zs)) :
    Calls Try.prog 152 #[.slice A zs.length c, .int .i64 lo, .int .i64 hi] w fun e w' => e = .returned (.bool (Q.within lo hi zs)) ∧ w' = w := by
  have HR := Lib.hid hr
  clear hr
  go_enter Try.func152, Try.ntmps152
  go_wp2
  go_loop [11] (fun i => ∃ k : Nat, k ≤ zs.length ∧ i = .int .i64 (k : Int) ∧ Hid (∀ z ∈ zs.take k, Q.okW lo hi z = true)) (fun i => zs.length - (intOf i).toNat)
  case atStart => exact ⟨0, Nat.zero_le _, rfl, fun z hz => by simp at hz⟩
  case round =>
    obtain ⟨k, hk, rfl, hall⟩ := hrel
    by_cases hlt : k < zs.length
    · obtain ⟨b, off, rfl, hbl, hc⟩ := HR.out.at_ (ivs_at hlt)
      have hltI : (k : Int) < (zs.length : Int) := by omega
      have hm : zs[k] ∈ zs := List.getElem_mem hlt
      have HN0 : Hid (Q.okW lo hi zs[k] = false → Q.within lo hi zs = false) := Q.within_not hm
      have HN1 : Hid (Q.okW lo hi zs[k] = true → ∀ z ∈ zs.take (k + 1), Q.okW lo hi z = true) := Q.within_next hlt hall.out
      clear hm
      obtain ⟨Z, hZ⟩ : ∃ Z, Z = zs[k] := ⟨_, rfl⟩
      rw [← hZ] at HN0 HN1 hc
      clear hZ
      by_cases h1 : Z < lo
      · have HN : Hid (Q.within lo hi zs = false) := HN0.out (by simp [Q.okW, show ¬ lo ≤ Z from by omega])
        go_wp2
        go_ret
        exact ⟨by rw [HN.out]; rfl, rfl⟩
      · by_cases h2 : hi < Z
        · have HN : Hid (Q.within lo hi zs = false) := HN0.out (by simp [Q.okW, show ¬ Z ≤ hi from by omega])
          go_wp2
          go_ret
          exact ⟨by rw [HN.out]; rfl, rfl⟩
        · have HN := Lib.hid (HN1.out (by simp [Q.okW, show lo ≤ Z from by omega, show Z ≤ hi from by omega]))
          clear HN0 HN1
          go_wp2
          go_round
          case rel => exact ⟨k + 1, by omega, by go_num, HN.out⟩
          case measure => simp [intOf]; omega
    · have hke : k = zs.length := by omega
      have hltI : ¬ (k : Int) < (zs.length : Int) := by omega
      have HN : Hid (Q.within lo hi zs = true) := Q.within_all (by rw [← hke]; exact hall.out)
      clear hke hall
      go_wp2
      go_ret
      exact ⟨by rw [HN.out]; rfl, rfl⟩
end Go.Proofs.Ytammlkaclooohaa
