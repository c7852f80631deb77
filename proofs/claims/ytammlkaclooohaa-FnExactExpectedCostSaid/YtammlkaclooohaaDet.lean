/-
  Detours: the mathematics; the model's l6Detour, l6Good, IsMetric, FirstDetour.
-/
import Derived.Test.YtammlkaclooohaaTb
namespace Go.Proofs.Ytammlkaclooohaa
open Go.RowKit
set_option linter.unusedVariables false
namespace Q
def bad (L : List (List Int)) (x y z : Nat) : Prop := dst L x y + dst L y z < dst L x z
/-- No three points ahead of these are a detour. -/
def NoB (L : List (List Int)) (x y z : Nat) : Prop := ∀ x' y' z', x' < L.length → y' < L.length → z' < L.length → (x' < x ∨ x' = x ∧ (y' < y ∨ y' = y ∧ z' < z)) → ¬ bad L x' y' z'
def IsDet (L : List (List Int)) (r : List Int) : Prop := (r = [] ∧ NoB L L.length 0 0) ∨ ∃ x y z : Nat, x < L.length ∧ y < L.length ∧ z < L.length ∧ r = [(x : Int), (y : Int), (z : Int)] ∧ bad L x y z ∧ NoB L x y z
theorem IsDet.unique {L : List (List Int)} {r r' : List Int} (h : IsDet L r) (h' : IsDet L r') : r = r' := by
  rcases h with ⟨rfl, h⟩ | ⟨x, y, z, hx, hy, hz, rfl, hb, hn⟩
  · rcases h' with ⟨rfl, _⟩ | ⟨x, y, z, hx, hy, hz, rfl, hb, hn⟩
    · rfl
    · exact absurd hb (h x y z hx hy hz (.inl hx))
  · rcases h' with ⟨rfl, h'⟩ | ⟨x', y', z', hx', hy', hz', rfl, hb', hn'⟩
    · exact absurd hb (h' x y z hx hy hz (.inl hx))
    · have h1 : ¬ (x < x' ∨ x = x' ∧ (y < y' ∨ y = y' ∧ z < z')) := fun h => hn' x y z hx hy hz h hb
      have h2 : ¬ (x' < x ∨ x' = x ∧ (y' < y ∨ y' = y ∧ z' < z)) := fun h => hn x' y' z' hx' hy' hz' h hb'
      have e1 : x = x' := by omega
      have e2 : y = y' := by omega
      have e3 : z = z' := by omega
      rw [e1, e2, e3]
open Classical in
noncomputable def det (L : List (List Int)) : List Int := if h : ∃ r, IsDet L r then h.choose else []
theorem det_of {L : List (List Int)} {r : List Int} (h : IsDet L r) : det L = r := by
  have hx : ∃ r, IsDet L r := ⟨r, h⟩
  rw [det, dif_pos hx]
  exact hx.choose_spec.unique h
theorem NoB.zero (L : List (List Int)) : NoB L 0 0 0 := fun x' y' z' _ _ _ h => by omega
theorem NoB.z {L : List (List Int)} {x y z : Nat} (h : NoB L x y z) (hb : ¬ bad L x y z) : NoB L x y (z + 1) := fun x' y' z' h1 h2 h3 h4 => by
  by_cases e : x' = x ∧ y' = y ∧ z' = z
  · obtain ⟨rfl, rfl, rfl⟩ := e
    exact hb
  · exact h x' y' z' h1 h2 h3 (by omega)
theorem NoB.y {L : List (List Int)} {x y : Nat} (h : NoB L x y L.length) : NoB L x (y + 1) 0 := fun x' y' z' h1 h2 h3 h4 => h x' y' z' h1 h2 h3 (by omega)
theorem NoB.x {L : List (List Int)} {x : Nat} (h : NoB L x L.length 0) : NoB L (x + 1) 0 0 := fun x' y' z' h1 h2 h3 h4 => h x' y' z' h1 h2 h3 (by omega)
theorem det_len {L : List (List Int)} : (det L).length ≤ 3 := by
  unfold det
  split
  · rename_i h
    rcases h.choose_spec with ⟨e, _⟩ | ⟨x, y, z, _, _, _, e, _⟩ <;> (rw [e]; simp)
  · simp
/-- Distances of a whole table are small. -/
theorem tab_bd {L : List (List Int)} (h : tabQ false L = true) {x y : Nat} (hx : x < L.length) (hy : y < L.length) : 0 ≤ dst L x y ∧ dst L x y ≤ 99 := by
  have := (tab_iff.1 h).2 x hx y hy
  unfold okD at this
  by_cases e : x = y
  · rw [if_pos e] at this
    simp at this
    omega
  · rw [if_neg e] at this
    simp at this
    omega
noncomputable def metQ (L : List (List Int)) : Bool := tabQ false L && decide ((det L).length = 0)
noncomputable def fdQ (L : List (List Int)) : List Int × Bool := if tabQ false L then (det L, decide (0 < (det L).length)) else ([], false)
end Q
theorem row_lit3 (w : World) (a b c : Value) (t : TypeId) : (w.alloc (.cells #[a, b, c] t)).ownsRow w.heap.size t 1 (.slice (some ⟨w.heap.size, 0, none⟩) 3 3) 3 [a, b, c] :=
  ⟨rfl, .inr ⟨w.heap.size, 3, #[a, b, c], rfl, Nat.le_refl _, heap_alloc_new w _, Nat.le_refl _, by unfold maxLen; omega, rfl, rfl⟩⟩
set_option maxHeartbeats 800000 in
theorem l6Detour_any (A : Option Addr) (c : Nat) (xs : List Value) (L : List (List Int)) (w : World) (ht : Q.tabQ false L = true) (hr : NRow w A xs L) :
    Calls Try.prog 183 #[mv A L.length c] w (rowSays1 (Q.det L) w) := by
  obtain ⟨hsq, _⟩ := Q.tab_iff.1 ht
  obtain ⟨⟨hl1, hl6⟩, hs⟩ := Q.sqr_iff.1 hsq
  have HM := Lib.hid (MetIn.start (c := c) hr 150)
  have HBd := Lib.hid (fun x y => Q.tab_bd ht (x := x) (y := y))
  have HS := Lib.hid hs
  have HDet : Hid (∀ r, Q.IsDet L r → Q.det L = r) := fun r h => Q.det_of h
  generalize Q.det L = R at HDet ⊢
  clear hr ht hsq hs
  go_enter Try.func183, Try.ntmps183
  go_wp2_with fail
  generalize w.alloc (.cells #[.slice A L.length c] 150) = wa at HM ⊢
  go_loopw [4] (fun i wr => ∃ x : Nat, x ≤ L.length ∧ i = .int .i64 (x : Int) ∧ Hid (Q.NoB L x 0 0) ∧ Hid (MetIn w wr A c xs L)) (fun i _ => L.length - (intOf i).toNat)
  case atStart => exact ⟨0, Nat.zero_le _, rfl, Q.NoB.zero L, HM.out⟩
  case round =>
    obtain ⟨x, hx, rfl, hn1, hm1⟩ := hrel
    by_cases hltx : x < L.length
    · have hltxI : (x : Int) < (L.length : Int) := by omega
      obtain ⟨wo, hwo⟩ : ∃ wo, wo = wr := ⟨_, rfl⟩
      rw [← hwo] at hm1 ⊢
      clear hwo
      go_wp2
      go_loopw [5] (fun i wr => ∃ y : Nat, y ≤ L.length ∧ i = .int .i64 (y : Int) ∧ Hid (Q.NoB L x y 0) ∧ Hid (MetIn w wr A c xs L)) (fun i _ => L.length - (intOf i).toNat)
      case atStart => exact ⟨0, Nat.zero_le _, rfl, hn1, hm1⟩
      case round =>
        obtain ⟨y, hy, rfl, hn2, hm2⟩ := hrel
        by_cases hlty : y < L.length
        · have hltyI : (y : Int) < (L.length : Int) := by omega
          obtain ⟨wp, hwp⟩ : ∃ wp, wp = wr := ⟨_, rfl⟩
          rw [← hwp] at hm2 ⊢
          clear hwp
          go_wp2
          go_loopw [6] (fun i wr => ∃ z : Nat, z ≤ L.length ∧ i = .int .i64 (z : Int) ∧ Hid (Q.NoB L x y z) ∧ Hid (MetIn w wr A c xs L)) (fun i _ => L.length - (intOf i).toNat)
          case atStart => exact ⟨0, Nat.zero_le _, rfl, hn2, hm2⟩
          case round =>
            obtain ⟨z, hz, rfl, hn3, hm3⟩ := hrel
            by_cases hltz : z < L.length
            · have hltzI : (z : Int) < (L.length : Int) := by omega
              obtain ⟨hk0, hk1, hk2⟩ := hm3.out.bk
              obtain ⟨b, off, bx, ox, dx, rfl, hb, hcx, hbx, hcxy⟩ := hm3.out.rows.dst_at HS.out hltx hlty
              obtain ⟨_, _, bx', ox', dx', e, _, hcx', _, hcxz⟩ := hm3.out.rows.dst_at HS.out hltx hltz
              cases e
              rw [hcx] at hcx'
              cases hcx'
              obtain ⟨_, _, by_, oy, dy, e, _, hcy, hby, hcyz⟩ := hm3.out.rows.dst_at HS.out hlty hltz
              cases e
              have hb1 := HBd.out x y hltx hlty
              have hb2 := HBd.out y z hlty hltz
              have hb3 := HBd.out x z hltx hltz
              have HBad : Hid (Q.bad L x y z ↔ Q.dst L x y + Q.dst L y z < Q.dst L x z) := Iff.rfl
              generalize Q.dst L x y = D1 at *
              generalize Q.dst L y z = D2 at *
              generalize Q.dst L x z = D3 at *
              by_cases hbad : D1 + D2 < D3
              · have HR := Lib.hid (HDet.out _ (.inr ⟨x, y, z, hltx, hlty, hltz, rfl, HBad.out.2 hbad, hn3.out⟩))
                have HL3 : Hid (∀ m, World.ownsRow ((wr.drewN m).alloc (.cells #[.int .i64 x, .int .i64 y, .int .i64 z] 3)) wr.heap.size 3 1 (.slice (some ⟨wr.heap.size, 0, none⟩) 3 3) 3 [.int .i64 x, .int .i64 y, .int .i64 z]) := fun m => row_lit3 (wr.drewN m) _ _ _ _
                go_wp2
                go_quiet (fail)
                go_wp2
                go_ret
                rw [HR.out]
                exact ⟨_, rfl, own_down (HL3.out _) hm3.out.bl.size, (Law.up hm3.out.bl _).alloc hm3.out.bl.size _⟩
              · have HN := Lib.hid (hn3.out.z (fun h => hbad (HBad.out.1 h)))
                go_wp2
                go_quiet (fail)
                go_wp2
                go_roundw
                case rel => exact ⟨z + 1, by omega, by go_num, HN.out, hm3.out.drewN _⟩
                case measure => simp [intOf]; omega
            · have hze : z = L.length := by omega
              have hltzI : ¬ (z : Int) < (L.length : Int) := by omega
              have HN : Hid (Q.NoB L x (y + 1) 0) := Q.NoB.y (by rw [← hze]; exact hn3.out)
              clear hze
              go_wp2
              go_roundw
              case rel => exact ⟨y + 1, by omega, by go_num, HN.out, hm3.out⟩
              case measure => simp [intOf]; omega
        · have hye : y = L.length := by omega
          have hltyI : ¬ (y : Int) < (L.length : Int) := by omega
          have HN : Hid (Q.NoB L (x + 1) 0 0) := Q.NoB.x (by rw [← hye]; exact hn2.out)
          clear hye
          go_wp2
          go_roundw
          case rel => exact ⟨x + 1, by omega, by go_num, HN.out, hm2.out⟩
          case measure => simp [intOf]; omega
    · have hxe : x = L.length := by omega
      have hltxI : ¬ (x : Int) < (L.length : Int) := by omega
      have HR := Lib.hid (HDet.out [] (.inl ⟨rfl, by rw [← hxe]; exact hn1.out⟩))
      clear hxe
      go_wp2
      go_ret
      rw [HR.out]
      exact ⟨_, rfl, own_down (ownsRow_nil _ _) hm1.out.bl.size, hm1.out.bl.alloc hm1.out.bl.size _⟩
end Go.Proofs.Ytammlkaclooohaa
