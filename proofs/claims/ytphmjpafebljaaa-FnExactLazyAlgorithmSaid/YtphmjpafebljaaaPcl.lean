/-
  Where the numbers of a problem lie.
-/
import Derived.Test.YtphmjpafebljaaaPr2
namespace Go.Proofs.Ytphmjpafebljaaa
open Go.RowKit
set_option linter.unusedVariables false
/-- The cells of a table: L's rows, all n long, behind ⟨b, off⟩. -/
def Tab (W : World) (b off n : Nat) (L : List (List Int)) : Prop :=
  ∀ x, x < L.length → ∃ b' o' d, W.cell? ⟨b, off + x, none⟩ = some (.slice (some ⟨b', o', none⟩) n d) ∧ ∀ y, y < n → W.cell? ⟨b', o' + y, none⟩ = some (.int .i64 (Q.dst L x y))
theorem NRow.tab {w : World} {b off n : Nat} {xs : List Value} {L : List (List Int)} (h : NRow w (some ⟨b, off, none⟩) xs L) (hs : ∀ l ∈ L, l.length = n) (hn : 1 ≤ n) : Tab w b off n L := fun x hx => by
  obtain ⟨b1, o1, b', o', d, e, _, hc, _, _⟩ := h.ent hs hx (y := 0) (by omega)
  cases e
  refine ⟨b', o', d, hc, fun y hy => ?_⟩
  obtain ⟨b2, o2, b3, o3, d3, e, _, hc3, _, hv⟩ := h.ent hs hx hy
  cases e
  rw [hc] at hc3
  cases hc3
  exact hv
theorem NRow.some_ {w : World} {A : Option Addr} {xs : List Value} {L : List (List Int)} (h : NRow w A xs L) (hL : 1 ≤ L.length) : ∃ b off, A = some ⟨b, off, none⟩ := by
  obtain ⟨b, off, B, d, e, _⟩ := h.row_at (List.getElem?_eq_getElem (show 0 < L.length by omega))
  exact ⟨b, off, e⟩
theorem Tab.drewN {W : World} {b off n : Nat} {L : List (List Int)} (h : Tab W b off n L) (m : Nat) : Tab (W.drewN m) b off n L := h
namespace Q
/-- How many of the first k states serve request r. -/
def cntK (S : List (List Int)) (r : Nat) : Nat → Nat
  | 0 => 0
  | k + 1 => cntK S r k + (if dst S r k = -1 then 0 else 1)
theorem cntK_le (S : List (List Int)) (r : Nat) : ∀ k, cntK S r k ≤ k
  | 0 => Nat.le_refl _
  | k + 1 => by
    have := cntK_le S r k
    show cntK S r k + _ ≤ k + 1
    split <;> omega
/-- The number of choices for the first r requests. -/
def algK (n : Nat) (S : List (List Int)) : Nat → Nat
  | 0 => 1
  | r + 1 => algK n S r * cntK S r n ^ n
theorem pow_bd {c j : Nat} (hc : c ≤ 4) (hj : j ≤ 4) : c ^ j ≤ 256 :=
  Nat.le_trans (Nat.pow_le_pow_left hc j) (Nat.le_trans (Nat.pow_le_pow_right (by omega) hj) (by decide))
theorem algK_le {n : Nat} {S : List (List Int)} (hn : n ≤ 4) : ∀ r, algK n S r ≤ 256 ^ r
  | 0 => Nat.le_refl _
  | r + 1 => by
    have h1 := algK_le (S := S) hn r
    have h2 : cntK S r n ^ n ≤ 256 := pow_bd (Nat.le_trans (cntK_le S r n) hn) hn
    show algK n S r * _ ≤ 256 ^ (r + 1)
    rw [Nat.pow_succ]
    exact Nat.mul_le_mul h1 h2
theorem alg_part {n : Nat} {S : List (List Int)} (hn : n ≤ 4) {r j : Nat} (hr : r ≤ 4) (hj : j ≤ 4) : algK n S r * cntK S r n ^ j ≤ 4294967296 * 256 := by
  refine Nat.mul_le_mul (Nat.le_trans (algK_le hn r) ?_) (pow_bd (Nat.le_trans (cntK_le S r n) hn) hj)
  exact Nat.le_trans (Nat.pow_le_pow_right (by omega) hr) (by decide)
noncomputable def cnt8 (L S : List (List Int)) : Int × Bool := if prQ L S then ((algK L.length S S.length : Nat), true) else (0, false)
theorem cnt8_no {L S : List (List Int)} (h : prQ L S = false) : cnt8 L S = (0, false) := if_neg (by simp [h])
theorem cnt8_yes {L S : List (List Int)} (h : prQ L S = true) : cnt8 L S = (((algK L.length S S.length : Nat) : Int), true) := if_pos h
end Q
set_option maxHeartbeats 1600000 in
theorem impCnt_any (A : Option Addr) (c : Nat) (xs : List Value) (L : List (List Int)) (B : Option Addr) (d : Nat) (ys : List Value) (S : List (List Int)) (w : World) (hlL : ∀ l ∈ L, l.length ≤ 1048576) (hlS : ∀ l ∈ S, l.length ≤ 1048576) (hL : NRow w A xs L) (hS : NRow w B ys S) :
    Calls Try.prog 51 #[pv A L.length c B S.length d] w fun e w' => e = .returned (.tuple #[.int .i64 (Q.cnt8 L S).1, .bool (Q.cnt8 L S).2]) ∧ Below w.heap.size w w' := by
  have HP := Lib.hid (PIn.start (c := c) (d := d) hL hS 27)
  have HG := Lib.hid fun (W : World) (h : NRow W A xs L) (h2 : NRow W B ys S) => impPr_any A c xs L B d ys S W hlL hlS h h2
  clear hlL hlS
  cases hp : Q.prQ L S
  · rw [Q.cnt8_no hp]
    rw [hp] at HG
    clear hp hL hS
    go_enter Try.func51, Try.ntmps51
    go_wp2_with fail
    generalize w.alloc (.cells #[.slice A L.length c, .slice B S.length d] 27) = wa at HP ⊢
    obtain ⟨p0, p1, _, _, _⟩ := HP.out.bk
    go_wp2_with fail
    go_at_call 18
    refine (HG.out _ HP.out.mv HP.out.sv).mono ?_
    rintro e w1 ⟨rfl, hb⟩
    have HP1 := Lib.hid (HP.out.on hb)
    clear p0 p1 hb
    go_wp2
    go_ret2
    exact ⟨rfl, HP1.out.bl⟩
  · have hpr := Q.pr_iff.1 hp
    rw [Q.cnt8_yes hp]
    rw [hp] at HG
    obtain ⟨bB, oB, rfl⟩ := hS.some_ hpr.m1
    have HT := Lib.hid fun (W : World) (h : NRow W (some ⟨bB, oB, none⟩) ys S) => h.tab hpr.rows hpr.n1
    have HBd := Lib.hid fun (r j : Nat) (hr : r ≤ 4) (hj : j ≤ 4) => Q.alg_part (S := S) hpr.n4 (r := r) (j := j) hr hj
    have HSr := Lib.hid fun (r s : Nat) (hr : r < S.length) (hs : s < L.length) => hpr.srv hr hs
    have HC := Lib.hid fun r k => Q.cntK_le S r k
    have hn4 := hpr.n4
    have hm4 := hpr.m4
    clear hp hL hS hpr
    go_enter Try.func51, Try.ntmps51
    go_wp2_with fail
    generalize w.alloc (.cells #[.slice A L.length c, .slice (some ⟨bB, oB, none⟩) S.length d] 27) = wa at HP ⊢
    obtain ⟨p0, p1, _, _, _⟩ := HP.out.bk
    go_wp2_with fail
    go_at_call 18
    refine (HG.out _ HP.out.mv HP.out.sv).mono ?_
    rintro e w1 ⟨rfl, hb⟩
    have HP1 := Lib.hid (HP.out.on hb)
    clear p0 p1 hb
    obtain ⟨p0, p1, _, _, _⟩ := HP1.out.bk
    go_wp2
    go_loop [4, 16] (fun q i => ∃ (r P : Nat), r ≤ S.length ∧ i = .int .i64 (r : Int) ∧ q = .int .i64 (P : Int) ∧ Hid (P = Q.algK L.length S r)) (fun _ i => S.length - (intOf i).toNat)
    case atStart => exact ⟨0, 1, Nat.zero_le _, rfl, rfl, by show _ = _; rfl⟩
    case round =>
      obtain ⟨r, P, hr, rfl, rfl, hP⟩ := hrel
      by_cases hlt : r < S.length
      · have hltI : (r : Int) < (S.length : Int) := by omega
        obtain ⟨b', o', dX, hc, hcs⟩ := HT.out w1 HP1.out.sv r hlt
        have HCs := Lib.hid hcs
        clear hcs
        go_wp2
        go_loop [7, 22] (fun q i => ∃ (k C : Nat), k ≤ L.length ∧ i = .int .i64 (k : Int) ∧ q = .int .i64 (C : Int) ∧ C ≤ k ∧ Hid (C = Q.cntK S r k)) (fun _ i => L.length - (intOf i).toNat)
        case atStart => exact ⟨0, 0, Nat.zero_le _, rfl, rfl, Nat.le_refl _, by show _ = _; rfl⟩
        case round =>
          obtain ⟨k, C, hk, rfl, rfl, hCk, hC⟩ := hrel
          by_cases hlk : k < L.length
          · have hlkI : (k : Int) < (L.length : Int) := by omega
            have hcell := HCs.out k hlk
            have hE : Q.cntK S r (k + 1) = Q.cntK S r k + (if Q.dst S r k = -1 then 0 else 1) := rfl
            generalize Q.dst S r k = D at hcell hE
            by_cases hD : D = -1
            · subst hD
              have HN : Hid (C = Q.cntK S r (k + 1)) := by show _ = _; rw [hE, hC.out]; simp
              clear hE hC
              go_wp2
              go_round
              case rel => exact ⟨k + 1, C, by omega, by go_num, rfl, by omega, HN.out⟩
              case measure => simp [intOf]; omega
            · have HN : Hid (C + 1 = Q.cntK S r (k + 1)) := by show _ = _; rw [hE, hC.out, if_neg hD]
              have hDb : (D != -1) = true := by simpa using hD
              clear hE hC
              go_wp2
              go_round
              case rel => exact ⟨k + 1, C + 1, by omega, by go_num, by go_num, by omega, HN.out⟩
              case measure => simp [intOf]; omega
          · have hke : k = L.length := by omega
            have hlkI : ¬ (k : Int) < (L.length : Int) := by omega
            have hC2 : Hid (C = Q.cntK S r L.length) := by rw [← hke]; exact hC
            have HBr : Hid (∀ j, j ≤ 4 → P * C ^ j ≤ 4294967296 * 256) := fun j hj => by rw [hP.out, hC2.out]; exact HBd.out r j (by omega) hj
            have HNx : Hid (P * C ^ L.length = Q.algK L.length S (r + 1)) := by show _ = _; rw [hP.out, hC2.out]; rfl
            clear hke hC hP
            go_wp2
            go_loop [4, 34] (fun q i => ∃ (j T : Nat), j ≤ L.length ∧ i = .int .i64 (j : Int) ∧ q = .int .i64 (T : Int) ∧ Hid (T = P * C ^ j)) (fun _ i => L.length - (intOf i).toNat)
            case atStart => exact ⟨0, P, Nat.zero_le _, rfl, rfl, by show _ = _; simp⟩
            case round =>
              obtain ⟨j, T, hj, rfl, rfl, hT⟩ := hrel
              by_cases hlj : j < L.length
              · have hljI : (j : Int) < (L.length : Int) := by omega
                have h1 := HBr.out (j + 1) (by omega)
                have e1 : P * C ^ (j + 1) = T * C := by rw [hT.out, Nat.pow_succ, Nat.mul_assoc]
                rw [e1] at h1
                have HN : Hid (T * C = P * C ^ (j + 1)) := Lib.hid e1.symm
                have hw : IntKind.i64.wrap ((T : Int) * (C : Int)) = ((T * C : Nat) : Int) := by
                  rw [← Int.natCast_mul]
                  exact IntWalk.i64_in _ (by omega)
                clear e1 h1 hT
                generalize T * C = T' at hw HN
                go_wp2
                go_round
                case rel => exact ⟨j + 1, T', by omega, by go_num, rfl, HN.out⟩
                case measure => simp [intOf]; omega
              · have hje : j = L.length := by omega
                have hljI : ¬ (j : Int) < (L.length : Int) := by omega
                have HN : Hid (T = Q.algK L.length S (r + 1)) := by show _ = _; rw [hT.out, hje, HNx.out]
                clear hje hT
                go_wp2
                go_round
                case rel => exact ⟨r + 1, T, by omega, by go_num, rfl, HN.out⟩
                case measure => simp [intOf]; omega
      · have hre : r = S.length := by omega
        have hltI : ¬ (r : Int) < (S.length : Int) := by omega
        have HN : Hid (P = Q.algK L.length S S.length) := by rw [← hre]; exact hP
        have HB := Lib.hid HP1.out.bl
        clear hre hP
        go_wp2
        go_ret2
        exact ⟨by rw [← HN.out]; rfl, HB.out⟩
set_option maxHeartbeats 1600000 in
theorem specCnt_any (A : Option Addr) (c : Nat) (xs : List Value) (L : List (List Int)) (B : Option Addr) (d : Nat) (ys : List Value) (S : List (List Int)) (w : World) (hlS : ∀ l ∈ S, l.length ≤ 1048576) (hL : NRow w A xs L) (hS : NRow w B ys S) :
    Calls Try.prog 50 #[pv A L.length c B S.length d] w fun e w' => e = .returned (.tuple #[.int .i64 (Q.cnt8 L S).1, .bool (Q.cnt8 L S).2]) ∧ Below w.heap.size w w' := by
  have HP := Lib.hid (PIn.start (c := c) (d := d) hL hS 27)
  have HG := Lib.hid fun (W : World) (h : NRow W A xs L) (h2 : NRow W B ys S) => l8Good_any A c xs L B d ys S W hlS h h2
  clear hlS
  cases hp : Q.prQ L S
  · rw [Q.cnt8_no hp]
    rw [hp] at HG
    clear hp hL hS
    go_enter Try.func50, Try.ntmps50
    go_wp2_with fail
    generalize w.alloc (.cells #[.slice A L.length c, .slice B S.length d] 27) = wa at HP ⊢
    obtain ⟨p0, p1, _, _, _⟩ := HP.out.bk
    go_wp2_with fail
    go_at_call 52
    refine (HG.out _ HP.out.mv HP.out.sv).mono ?_
    rintro e w1 ⟨rfl, hb⟩
    have HP1 := Lib.hid (HP.out.on hb)
    clear p0 p1 hb
    go_wp2
    go_ret2
    exact ⟨rfl, HP1.out.bl⟩
  · have hpr := Q.pr_iff.1 hp
    rw [Q.cnt8_yes hp]
    rw [hp] at HG
    obtain ⟨bB, oB, rfl⟩ := hS.some_ hpr.m1
    have HT := Lib.hid fun (W : World) (h : NRow W (some ⟨bB, oB, none⟩) ys S) => h.tab hpr.rows hpr.n1
    have HBd := Lib.hid fun (r j : Nat) (hr : r ≤ 4) (hj : j ≤ 4) => Q.alg_part (S := S) hpr.n4 (r := r) (j := j) hr hj
    have HSr := Lib.hid fun (r s : Nat) (hr : r < S.length) (hs : s < L.length) => hpr.srv hr hs
    have hn4 := hpr.n4
    have hm4 := hpr.m4
    clear hp hL hS hpr
    go_enter Try.func50, Try.ntmps50
    go_wp2_with fail
    generalize w.alloc (.cells #[.slice A L.length c, .slice (some ⟨bB, oB, none⟩) S.length d] 27) = wa at HP ⊢
    obtain ⟨p0, p1, _, _, _⟩ := HP.out.bk
    go_wp2_with fail
    go_at_call 52
    refine (HG.out _ HP.out.mv HP.out.sv).mono ?_
    rintro e w1 ⟨rfl, hb⟩
    have HP1 := Lib.hid (HP.out.on hb)
    clear p0 p1 hb
    obtain ⟨p0, p1, _, _, _⟩ := HP1.out.bk
    go_wp2
    go_loop [4, 5] (fun q i => ∃ (r P : Nat), r ≤ S.length ∧ i = .int .i64 (r : Int) ∧ q = .int .i64 (P : Int) ∧ Hid (P = Q.algK L.length S r)) (fun _ i => S.length - (intOf i).toNat)
    case atStart => exact ⟨0, 1, Nat.zero_le _, rfl, rfl, by show _ = _; rfl⟩
    case round =>
      obtain ⟨r, P, hr, rfl, rfl, hP⟩ := hrel
      by_cases hlt : r < S.length
      · have hltI : (r : Int) < (S.length : Int) := by omega
        obtain ⟨b', o', dX, hc, hcs⟩ := HT.out w1 HP1.out.sv r hlt
        have HCs := Lib.hid hcs
        clear hcs
        go_wp2
        go_loop [6, 7] (fun q i => ∃ (k C : Nat), k ≤ L.length ∧ i = .int .i64 (k : Int) ∧ q = .int .i64 (C : Int) ∧ C ≤ k ∧ Hid (C = Q.cntK S r k)) (fun _ i => L.length - (intOf i).toNat)
        case atStart => exact ⟨0, 0, Nat.zero_le _, rfl, rfl, Nat.le_refl _, by show _ = _; rfl⟩
        case round =>
          obtain ⟨k, C, hk, rfl, rfl, hCk, hC⟩ := hrel
          by_cases hlk : k < L.length
          · have hlkI : (k : Int) < (L.length : Int) := by omega
            have hcell := HCs.out k hlk
            have hE : Q.cntK S r (k + 1) = Q.cntK S r k + (if Q.dst S r k = -1 then 0 else 1) := rfl
            have hDr := HSr.out r k hlt hlk
            generalize Q.dst S r k = D at hcell hE hDr
            by_cases hD : D = -1
            · subst hD
              have HN : Hid (C = Q.cntK S r (k + 1)) := by show _ = _; rw [hE, hC.out]; simp
              clear hE hC
              go_wp2
              go_round
              case rel => exact ⟨k + 1, C, by omega, by go_num, rfl, by omega, HN.out⟩
              case measure => simp [intOf]; omega
            · have HN : Hid (C + 1 = Q.cntK S r (k + 1)) := by show _ = _; rw [hE, hC.out, if_neg hD]
              have hD0 : 0 ≤ D := by omega
              clear hE hC hD
              go_wp2
              go_round
              case rel => exact ⟨k + 1, C + 1, by omega, by go_num, by go_num, by omega, HN.out⟩
              case measure => simp [intOf]; omega
          · have hke : k = L.length := by omega
            have hlkI : ¬ (k : Int) < (L.length : Int) := by omega
            have hC2 : Hid (C = Q.cntK S r L.length) := by rw [← hke]; exact hC
            have HBr : Hid (∀ j, j ≤ 4 → P * C ^ j ≤ 4294967296 * 256) := fun j hj => by rw [hP.out, hC2.out]; exact HBd.out r j (by omega) hj
            have HNx : Hid (P * C ^ L.length = Q.algK L.length S (r + 1)) := by show _ = _; rw [hP.out, hC2.out]; rfl
            clear hke hC hP
            go_wp2
            go_loop [4, 8] (fun q i => ∃ (j T : Nat), j ≤ L.length ∧ i = .int .i64 (j : Int) ∧ q = .int .i64 (T : Int) ∧ Hid (T = P * C ^ j)) (fun _ i => L.length - (intOf i).toNat)
            case atStart => exact ⟨0, P, Nat.zero_le _, rfl, rfl, by show _ = _; simp⟩
            case round =>
              obtain ⟨j, T, hj, rfl, rfl, hT⟩ := hrel
              by_cases hlj : j < L.length
              · have hljI : (j : Int) < (L.length : Int) := by omega
                have h1 := HBr.out (j + 1) (by omega)
                have e1 : P * C ^ (j + 1) = T * C := by rw [hT.out, Nat.pow_succ, Nat.mul_assoc]
                rw [e1] at h1
                have HN : Hid (T * C = P * C ^ (j + 1)) := Lib.hid e1.symm
                have hw : IntKind.i64.wrap ((T : Int) * (C : Int)) = ((T * C : Nat) : Int) := by
                  rw [← Int.natCast_mul]
                  exact IntWalk.i64_in _ (by omega)
                clear e1 h1 hT
                generalize T * C = T' at hw HN
                go_wp2
                go_round
                case rel => exact ⟨j + 1, T', by omega, by go_num, rfl, HN.out⟩
                case measure => simp [intOf]; omega
              · have hje : j = L.length := by omega
                have hljI : ¬ (j : Int) < (L.length : Int) := by omega
                have HN : Hid (T = Q.algK L.length S (r + 1)) := by show _ = _; rw [hT.out, hje, HNx.out]
                clear hje hT
                go_wp2
                go_round
                case rel => exact ⟨r + 1, T, by omega, by go_num, rfl, HN.out⟩
                case measure => simp [intOf]; omega
      · have hre : r = S.length := by omega
        have hltI : ¬ (r : Int) < (S.length : Int) := by omega
        have HN : Hid (P = Q.algK L.length S S.length) := by rw [← hre]; exact hP
        have HB := Lib.hid HP1.out.bl
        clear hre hP
        go_wp2
        go_ret2
        exact ⟨by rw [← HN.out]; rfl, HB.out⟩
end Go.Proofs.Ytphmjpafebljaaa
