/-
  BallOf: both sides.
-/
import Derived.Test.YtndjpkeenbbgiabIcf
import Derived.Test.YtndjpkeenbbgiabApp
namespace Go.Proofs.Ytndjpkeenbbgiab
open Go.RowKit
set_option linter.unusedVariables false
namespace Q
def ballK (L : List (List Int)) (x : Nat) (r : Int) : Nat → List Int
  | 0 => []
  | y + 1 => if dst L x y ≤ r then ballK L x r y ++ [(y : Int)] else ballK L x r y
theorem ballK_len (L : List (List Int)) (x : Nat) (r : Int) : ∀ y, (ballK L x r y).length ≤ y
  | 0 => by simp [ballK]
  | y + 1 => by
    have := ballK_len L x r y
    unfold ballK
    split
    · simp; omega
    · omega
def okP (L : List (List Int)) (x : Int) : Bool := decide (0 ≤ x) && decide (x < (L.length : Int))
noncomputable def balQ (L : List (List Int)) (x r : Int) : List Int × Bool := if metQ L && okP L x then (ballK L x.toNat r L.length, true) else ([], false)
theorem bal_no1 {L : List (List Int)} {x r : Int} (h : metQ L = false) : balQ L x r = ([], false) := if_neg (by simp [h])
theorem bal_no2 {L : List (List Int)} {x r : Int} (h : okP L x = false) : balQ L x r = ([], false) := if_neg (by simp [h])
theorem bal_yes {L : List (List Int)} {x r : Int} (h1 : metQ L = true) (h2 : okP L x = true) : balQ L x r = (ballK L x.toNat r L.length, true) := if_pos (by simp [h1, h2])
end Q
theorem isPoint_any (A : Option Addr) (n c : Nat) (x : Int) (w : World) :
    Calls Try.prog 56 #[mv A n c, .int .i64 x] w fun e w' => e = .returned (.bool (decide (0 ≤ x) && decide (x < (n : Int)))) ∧ Below w.heap.size w w' := by
  by_cases h : 0 ≤ x
  · go_enter Try.func56, Try.ntmps56
    go_wp2
    go_ret
    exact ⟨by simp [h], (Below.refl _ _).alloc (Nat.le_refl _) _⟩
  · go_enter Try.func56, Try.ntmps56
    go_wp2
    go_ret
    exact ⟨by simp [show ¬ 0 ≤ x by omega], (Below.refl _ _).alloc (Nat.le_refl _) _⟩
namespace LBallOf
theorem lenX (L : List (List Int)) (x r : Int) : (Q.balQ L x r).1.length ≤ 1048576 := by
  cases h1 : Q.metQ L
  · rw [Q.bal_no1 h1]; simp
  · cases h2 : Q.okP L x
    · rw [Q.bal_no2 h2]; simp
    · rw [Q.bal_yes h1 h2]
      obtain ⟨_, ⟨_, h6⟩, _⟩ := Q.met_sqr h1
      have := Q.ballK_len L x.toNat r L.length
      show (Q.ballK L x.toNat r L.length).length ≤ _
      omega
end LBallOf
set_option maxHeartbeats 800000 in
theorem specBal_any (A : Option Addr) (c : Nat) (xs : List Value) (L : List (List Int)) (x r : Int) (w : World) (hr : NRow w A xs L) :
    Calls Try.prog 16 #[mv A L.length c, .int .i64 x, .int .i64 r] w (rowSays (Q.balQ L x r) w) := by
  obtain ⟨i0, hi, hz0, hz1, hz2⟩ := info_parts infoInts
  have HMa := Lib.hid (MetIn.start (c := c) hr 29)
  have hba : Below (w.alloc (.cells #[.slice A L.length c] 29)).heap.size (w.alloc (.cells #[.slice A L.length c] 29)) ((w.alloc (.cells #[.slice A L.length c] 29)).alloc (.cells #[] 3)) := (Below.refl _ _).alloc (Nat.le_refl _) _
  have HM := Lib.hid (HMa.out.on hba)
  have HB0 := Lib.hid hba
  have HO := Lib.hid (ownsRow_nil (w.alloc (.cells #[.slice A L.length c] 29)) 3)
  have HG := Lib.hid (l6Good_any A c xs L _ HM.out.rows)
  clear hba hr
  cases hg : Q.metQ L
  · rw [Q.bal_no1 hg]
    rw [hg] at HG
    clear hg
    go_enter Try.func16, Try.ntmps16
    go_wp2_with fail
    go_at_call 53
    refine HG.out.mono ?_
    rintro e w1 ⟨rfl, hb⟩
    have HM1 := Lib.hid (HM.out.on hb)
    have HO1 := Lib.hid (own_down (own_past HO.out hb) HMa.out.bl.size)
    clear hb
    rw [show (w.alloc (.cells #[.slice A L.length c] 29)).heap.size = w.heap.size + 1 by simp] at HO1
    obtain ⟨hk0, hk1, hk2⟩ := HM1.out.bk
    go_wp2
    go_ret2
    exact ⟨_, rfl, HO1.out, HM1.out.bl⟩
  · obtain ⟨_, ⟨h1, h6⟩, hsq⟩ := Q.met_sqr hg
    have HI := Lib.hid fun W => l1In_any x 0 ((L.length : Int) - 1) W
    rw [show (decide (0 ≤ x) && decide (x ≤ (L.length : Int) - 1)) = Q.okP L x by rw [Bool.eq_iff_iff]; simp [Q.okP]; omega] at HI
    have hw : IntKind.i64.wrap ((L.length : Int) - 1) = (L.length : Int) - 1 := IntWalk.i64_in _ (by omega)
    rw [hg] at HG
    cases hp : Q.okP L x
    · rw [Q.bal_no2 hp]
      rw [hp] at HI
      clear hg hp hsq
      go_enter Try.func16, Try.ntmps16
      go_wp2_with fail
      go_at_call 53
      refine HG.out.mono ?_
      rintro e w1 ⟨rfl, hb⟩
      have HM1 := Lib.hid (HM.out.on hb)
      have HO1 := Lib.hid (own_down (own_past HO.out hb) HMa.out.bl.size)
      clear hb
      rw [show (w.alloc (.cells #[.slice A L.length c] 29)).heap.size = w.heap.size + 1 by simp] at HO1
      obtain ⟨hk0, hk1, hk2⟩ := HM1.out.bk
      go_wp2_with fail
      go_at_call 54
      refine (HI.out _).mono ?_
      rintro e w' ⟨rfl, hw'⟩
      obtain rfl := hw'.symm
      clear hw'
      go_wp2
      go_ret2
      exact ⟨_, rfl, HO1.out, HM1.out.bl⟩
    · rw [Q.bal_yes hg hp]
      rw [hp] at HI
      simp only [Q.okP, Bool.and_eq_true, decide_eq_true_eq] at hp
      obtain ⟨X, rfl⟩ := Int.eq_ofNat_of_zero_le hp.1
      have hX : X < L.length := by omega
      have hXI : (X : Int) < (L.length : Int) := by omega
      rw [Int.toNat_natCast]
      have HS := Lib.hid hsq
      clear hg hp hsq
      go_enter Try.func16, Try.ntmps16
      go_wp2_with fail
      go_at_call 53
      refine HG.out.mono ?_
      rintro e w1 ⟨rfl, hb⟩
      have HM1 := Lib.hid (HM.out.on hb)
      have HO1 := Lib.hid (own_past HO.out hb)
      have HB1 := Lib.hid (Law.then_ HB0.out hb)
      clear hb HG HM
      obtain ⟨hk0, hk1, hk2⟩ := HM1.out.bk
      go_wp2_with fail
      go_at_call 54
      refine (HI.out _).mono ?_
      rintro e w' ⟨rfl, hw'⟩
      obtain rfl := hw'.symm
      clear hw'
      generalize hwa : w.alloc (.cells #[.slice A L.length c] 29) = wa at HMa HO HO1 HB0 HB1 ⊢
      have hsa : wa.heap.size = w.heap.size + 1 := by rw [← hwa]; simp
      rw [← hsa]
      clear hwa hsa
      go_wp2
      go_loopw [8, 9] (fun v i wr => ∃ y : Nat, y ≤ L.length ∧ i = .int .i64 (y : Int) ∧ Hid (wr.ownsRow wa.heap.size 3 1 v (Q.ballK L X r y).length (ivs (Q.ballK L X r y))) ∧ Hid (Below wa.heap.size wa wr)) (fun _ i _ => L.length - (intOf i).toNat)
      case atStart => exact ⟨0, Nat.zero_le _, rfl, HO1.out, HB1.out⟩
      case round =>
        obtain ⟨y, hy, rfl, ho, hb⟩ := hrel
        have HMr := Lib.hid (HMa.out.on hb.out)
        obtain ⟨hk0', hk1', hk2'⟩ := HMr.out.bk
        by_cases hlt : y < L.length
        · have hltI : (y : Int) < (L.length : Int) := by omega
          obtain ⟨b, off, bx, ox, dx, rfl, hbb, hcx, _, hcxy⟩ := HMr.out.rows.dst_at HS.out hX hlt
          have hln := Q.ballK_len L X r y
          have HT : Hid (Q.ballK L X r (y + 1) = if Q.dst L X y ≤ r then Q.ballK L X r y ++ [(y : Int)] else Q.ballK L X r y) := rfl
          generalize Q.ballK L X r y = l at ho hln HT
          generalize Q.dst L X y = D at hcxy HT
          by_cases hD : D ≤ r
          · rw [if_pos hD] at HT
            have hoo := ho.out
            have hbo := hb.out
            clear ho hb
            have hsz9 := (hbo).size
            go_wp2_with (at_builtin; refine wpList_append_own _ rfl _ _ 26 rfl (wa.heap.size) 3 i0 (.int .i64 0) 1 8 Try.underlying26 hi hz0 hz1 hz2 rfl (by decide) _ _ _ rfl ((hoo).alloc _) ⟨(wr).heap.size, 0, none⟩ 1 1 [.int .i64 (y)] rfl rfl ?ca9a ?ca9b ?ca9c ?ca9d ?ca9e ?_)
            case ca9a =>
              intro j' u hj'
              match j', hj' with
              | 0, hj' => simp at hj'; subst hj'; simp [Addr.add]
            case ca9b => intro u hu; simp at hu; subst hu; rfl
            case ca9c => unfold maxLen; omega
            case ca9d => omega
            case ca9e => simp; omega
            intro v9 w9 hm9 hg9 _
            have HB9 := Lib.hid (((hbo).alloc hsz9 (.cells #[.int .i64 (y)] 3)).grown hg9 (by simp; omega) (fun j e => Nat.le_trans (by omega) ((hoo).lt j e).1))
            have HO9 : Hid (w9.ownsRow wa.heap.size 3 1 v9 (l ++ [(y : Int)]).length (ivs (l ++ [(y : Int)]))) := by show World.ownsRow _ _ _ _ _ _ _; rw [ivs_snoc, show (l ++ [(y : Int)]).length = l.length + 1 by simp]; exact hm9
            clear hm9 hg9 hoo hbo hk0' hk1' hk2' hbb hcx hcxy
            go_wp2
            go_roundw
            case rel => exact ⟨y + 1, by omega, by go_num, (by show World.ownsRow _ _ _ _ _ _ _; rw [HT.out]; exact HO9.out), HB9.out⟩
            case measure => simp [intOf]; omega
          · rw [if_neg hD] at HT
            go_wp2
            go_roundw
            case rel => exact ⟨y + 1, by omega, by go_num, (by show World.ownsRow _ _ _ _ _ _ _; rw [HT.out]; exact ho.out), hb.out⟩
            case measure => simp [intOf]; omega
        · have hye : y = L.length := by omega
          have hltI : ¬ (y : Int) < (L.length : Int) := by omega
          have HE := Lib.hid hye
          clear hye
          go_wp2
          go_ret2
          have h := ho.out
          rw [HE.out] at h
          exact ⟨_, rfl, own_down h HMa.out.bl.size, HMr.out.bl⟩
set_option maxHeartbeats 800000 in
theorem impBal_any (A : Option Addr) (c : Nat) (xs : List Value) (L : List (List Int)) (x r : Int) (w : World) (hll : ∀ l ∈ L, l.length ≤ 1048576) (hr : NRow w A xs L) :
    Calls Try.prog 18 #[mv A L.length c, .int .i64 x, .int .i64 r] w (rowSays (Q.balQ L x r) w) := by
  obtain ⟨i0, hi, hz0, hz1, hz2⟩ := info_parts infoInts
  have HM := Lib.hid (MetIn.start (c := c) hr 29)
  have HG := Lib.hid (impMet_any A c xs L _ hll HM.out.rows)
  clear hr hll
  cases hg : Q.metQ L
  · rw [Q.bal_no1 hg]
    rw [hg] at HG
    clear hg
    go_enter Try.func18, Try.ntmps18
    go_wp2_with fail
    generalize w.alloc (.cells #[.slice A L.length c] 29) = wa at HM HG ⊢
    go_at_call 55
    refine HG.out.mono ?_
    rintro e w1 ⟨rfl, hb⟩
    have HB := Lib.hid (HM.out.on hb).bl
    clear hb
    go_wp2
    go_ret2
    exact ⟨_, rfl, own_down (ownsRow_nil _ _) HB.out.size, HB.out.alloc HB.out.size _⟩
  · obtain ⟨_, ⟨h1, h6⟩, hsq⟩ := Q.met_sqr hg
    have HI : Hid (∀ W, Calls Try.prog 56 #[mv A L.length c, .int .i64 x] W fun e w' => e = .returned (.bool (Q.okP L x)) ∧ Below W.heap.size W w') := fun W => isPoint_any A L.length c x W
    rw [hg] at HG
    cases hp : Q.okP L x
    · rw [Q.bal_no2 hp]
      rw [hp] at HI
      clear hg hp hsq
      go_enter Try.func18, Try.ntmps18
      go_wp2_with fail
      generalize w.alloc (.cells #[.slice A L.length c] 29) = wa at HM HG ⊢
      go_at_call 55
      refine HG.out.mono ?_
      rintro e w1 ⟨rfl, hb⟩
      have HM1 := Lib.hid (HM.out.on hb)
      clear hb
      obtain ⟨hk0, hk1, hk2⟩ := HM1.out.bk
      go_wp2_with fail
      go_at_call 56
      refine (HI.out w1).mono ?_
      rintro e w2 ⟨rfl, hb⟩
      have HB := Lib.hid (HM1.out.on hb).bl
      clear hb
      go_wp2
      go_ret2
      exact ⟨_, rfl, own_down (ownsRow_nil _ _) HB.out.size, HB.out.alloc HB.out.size _⟩
    · rw [Q.bal_yes hg hp]
      rw [hp] at HI
      simp only [Q.okP, Bool.and_eq_true, decide_eq_true_eq] at hp
      obtain ⟨X, rfl⟩ := Int.eq_ofNat_of_zero_le hp.1
      have hX : X < L.length := by omega
      have hXI : (X : Int) < (L.length : Int) := by omega
      rw [Int.toNat_natCast]
      have HS := Lib.hid hsq
      clear hg hp hsq
      go_enter Try.func18, Try.ntmps18
      go_wp2_with fail
      generalize w.alloc (.cells #[.slice A L.length c] 29) = wa at HM HG ⊢
      go_at_call 55
      refine HG.out.mono ?_
      rintro e w1 ⟨rfl, hb⟩
      have HM1 := Lib.hid (HM.out.on hb)
      clear hb
      obtain ⟨hk0, hk1, hk2⟩ := HM1.out.bk
      go_wp2_with fail
      go_at_call 56
      refine (HI.out w1).mono ?_
      rintro e w2 ⟨rfl, hb⟩
      have HM2 := Lib.hid (HM1.out.on hb)
      clear hb hk0 hk1 hk2
      have HO2 := Lib.hid (ownsRow_nil w2 3)
      have HB2 : Hid (Below w2.heap.size w2 (w2.alloc (.cells #[] 3))) := (Below.refl _ _).alloc (Nat.le_refl _) _
      have HM3 := Lib.hid (HM2.out.on HB2.out)
      obtain ⟨hk0, hk1, hk2⟩ := HM3.out.bk
      obtain ⟨b, off, bx, ox, dx, rfl, hbb, hcx, hbx, _⟩ := HM3.out.rows.dst_at HS.out hX hX
      have HCX : Hid (∀ W, Below w2.heap.size w2 W → ∀ z, z < L.length → W.cell? ⟨bx, ox + z, none⟩ = some (.int .i64 (Q.dst L X z))) := fun W hB z hz => by
        obtain ⟨b1, off1, bx1, ox1, dx1, e, hb1, hcx1, _, _⟩ := HM2.out.rows.dst_at HS.out hX hX
        cases e
        have h2 := (HB2.out.cell (p := ⟨b, off + X, none⟩) hb1).trans hcx1
        rw [hcx] at h2
        cases h2
        obtain ⟨_, _, bx', ox', dx', e, _, hcx', _, hcxz⟩ := (HM2.out.on hB).rows.dst_at HS.out hX hz
        cases e
        rw [(hB.cell (p := ⟨b, off + X, none⟩) hb1).trans hcx1] at hcx'
        cases hcx'
        exact hcxz
      go_wp2
      go_loopw [8, 28] (fun v i wr => ∃ y : Nat, y ≤ L.length ∧ i = .int .i64 (y : Int) ∧ Hid (wr.ownsRow w2.heap.size 3 1 v (Q.ballK L X r y).length (ivs (Q.ballK L X r y))) ∧ Hid (Below w2.heap.size w2 wr)) (fun _ i _ => L.length - (intOf i).toNat)
      case atStart => exact ⟨0, Nat.zero_le _, rfl, HO2.out, HB2.out⟩
      case round =>
        obtain ⟨y, hy, rfl, ho, hb⟩ := hrel
        by_cases hlt : y < L.length
        · have hltI : (y : Int) < (L.length : Int) := by omega
          have hcxy := HCX.out _ hb.out y hlt
          have hln := Q.ballK_len L X r y
          have HT : Hid (Q.ballK L X r (y + 1) = if Q.dst L X y ≤ r then Q.ballK L X r y ++ [(y : Int)] else Q.ballK L X r y) := rfl
          generalize Q.ballK L X r y = l at ho hln HT
          generalize Q.dst L X y = D at hcxy HT
          clear hk0 hk1 hk2 hbb hcx hbx
          by_cases hD : D ≤ r
          · rw [if_pos hD] at HT
            have hoo := ho.out
            have hbo := hb.out
            clear ho hb
            have hsz9 := (hbo).size
            go_wp2_with (at_builtin; refine wpList_append_own _ rfl _ _ 26 rfl (w2.heap.size) 3 i0 (.int .i64 0) 1 8 Try.underlying26 hi hz0 hz1 hz2 rfl (by decide) _ _ _ rfl ((hoo).alloc _) ⟨(wr).heap.size, 0, none⟩ 1 1 [.int .i64 (y)] rfl rfl ?ca9a ?ca9b ?ca9c ?ca9d ?ca9e ?_)
            case ca9a =>
              intro j' u hj'
              match j', hj' with
              | 0, hj' => simp at hj'; subst hj'; simp [Addr.add]
            case ca9b => intro u hu; simp at hu; subst hu; rfl
            case ca9c => unfold maxLen; omega
            case ca9d => omega
            case ca9e => simp; omega
            intro v9 w9 hm9 hg9 _
            have HB9 := Lib.hid (((hbo).alloc hsz9 (.cells #[.int .i64 (y)] 3)).grown hg9 (by simp; omega) (fun j e => Nat.le_trans (by omega) ((hoo).lt j e).1))
            have HO9 : Hid (w9.ownsRow w2.heap.size 3 1 v9 (l ++ [(y : Int)]).length (ivs (l ++ [(y : Int)]))) := by show World.ownsRow _ _ _ _ _ _ _; rw [ivs_snoc, show (l ++ [(y : Int)]).length = l.length + 1 by simp]; exact hm9
            clear hm9 hg9 hoo hbo hcxy
            go_wp2
            go_roundw
            case rel => exact ⟨y + 1, by omega, by go_num, (by show World.ownsRow _ _ _ _ _ _ _; rw [HT.out]; exact HO9.out), HB9.out⟩
            case measure => simp [intOf]; omega
          · rw [if_neg hD] at HT
            go_wp2
            go_roundw
            case rel => exact ⟨y + 1, by omega, by go_num, (by show World.ownsRow _ _ _ _ _ _ _; rw [HT.out]; exact ho.out), hb.out⟩
            case measure => simp [intOf]; omega
        · have hye : y = L.length := by omega
          have hltI : ¬ (y : Int) < (L.length : Int) := by omega
          have HE := Lib.hid hye
          clear hye
          go_wp2
          go_ret2
          have h := ho.out
          rw [HE.out] at h
          exact ⟨_, rfl, own_down h HM2.out.bl.size, (HM2.out.on hb.out).bl⟩
end Go.Proofs.Ytndjpkeenbbgiab
