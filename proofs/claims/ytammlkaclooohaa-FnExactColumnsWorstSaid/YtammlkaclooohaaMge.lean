/-
  RowsWorst of the model and of the code. ColumnsWorst of the model and of the code.
-/
import Derived.Test.YtammlkaclooohaaMgc
import Derived.Test.YtammlkaclooohaaMgd
import Derived.Test.YtammlkaclooohaaWw8
/- RowsWorst of the model and of the code. -/
namespace Go.Proofs.Ytammlkaclooohaa
open Go.RowKit
set_option linter.unusedVariables false
/-- The block of a Frac that is returned, not written yet. -/
structure Rb (w W : World) : Prop where
  k : Blk W w.heap.size (.int .i64 0) (.int .i64 0)
  b : Below w.heap.size w W
  s : w.heap.size < W.heap.size
theorem Rb.start (w : World) (t : TypeId) : Rb w (w.alloc (.cells #[.int .i64 0, .int .i64 0] t)) := ⟨⟨by simp, by simp, by simp, by simp⟩, (Below.refl _ _).alloc (Nat.le_refl _) _, by simp⟩
theorem Rb.on {w W W' : World} (h : Rb w W) (hb : Below W.heap.size W W') : Rb w W' := ⟨h.k.below hb h.s, Law.then_ h.b hb, Nat.lt_of_lt_of_le h.s hb.size⟩
theorem Rb.fin {w W : World} (h : Rb w W) (x y : Value) : Below w.heap.size w ((W.setCell ⟨w.heap.size, 0, none⟩ x).setCell ⟨w.heap.size, 1, none⟩ y) :=
  (h.b.setCell (p := ⟨w.heap.size, 0, none⟩) (Nat.le_refl _) x).setCell (p := ⟨w.heap.size, 1, none⟩) (Nat.le_refl _) y
noncomputable def rwQ (M : List (List Int)) (ws : List Int) : Int × Int × Bool := if (Q.mxQ M && Q.shQ M.length ws) = true then F.mk (Lib.maxOf (Q.colS M ws (M.getD 0 []).length)) (Q.sumK ws ws.length) else (0, 0, false)
section
variable (A : Option Addr) (c : Nat) (xs : List Value) (M : List (List Int)) (V : Option Addr) (dv : Nat) (ws : List Int) (w : World)
set_option maxRecDepth 100000 in
set_option maxHeartbeats 800000 in
theorem impRw_any (hl : ∀ l ∈ M, l.length ≤ 1048576) (hn : M.length ≤ 1048576) (hwl : ws.length ≤ 1048576) (hM : NRow w A xs M) (hV : Law.Row w V (ivs ws)) :
    Calls Try.prog 56 #[.slice A M.length c, .slice V ws.length dv] w fun e w' => e = .returned (res (rwQ M ws)) ∧ Below w.heap.size w w' := by
  have HR := Lib.hid (Rb.start w 32)
  have HI := Lib.hid fun (W : World) (h : Below w.heap.size w W) => isMatrix_any A c xs M W hl hn (hM.stays h)
  cases hm : Q.mxQ M
  · have HV : Hid (rwQ M ws = (0, 0, false)) := if_neg (by simp [hm])
    generalize rwQ M ws = X at HV ⊢
    rw [hm] at HI
    clear hm hM hV hl
    go_enter Try.func56, Try.ntmps56
    go_wp2_with fail
    generalize w.alloc (.cells #[.int .i64 0, .int .i64 0] 32) = wa at HR ⊢
    go_at_call 121
    refine (HI.out wa HR.out.b).mono ?_
    rintro e w1 ⟨rfl, hb⟩
    have HR1 := Lib.hid (HR.out.on hb)
    clear hb
    obtain ⟨k0, k1, kf0, kf1⟩ := HR1.out.k
    go_wp2
    refine ret_frac rfl rfl rfl (Blk.set2 HR1.out.k _ _) rfl ⟨by rw [HV.out]; rfl, HR1.out.fin _ _⟩
  · rw [hm] at HI
    have HSh := Lib.hid fun (W : World) (h : Below w.heap.size w W) => isShared_any V dv ws W M.length hwl (hV.stays h)
    cases hs : Q.shQ M.length ws
    · have HV : Hid (rwQ M ws = (0, 0, false)) := if_neg (by simp [hm, hs])
      generalize rwQ M ws = X at HV ⊢
      rw [hs] at HSh
      clear hm hs hM hV hl
      go_enter Try.func56, Try.ntmps56
      go_wp2_with fail
      generalize w.alloc (.cells #[.int .i64 0, .int .i64 0] 32) = wa at HR ⊢
      go_at_call 121
      refine (HI.out wa HR.out.b).mono ?_
      rintro e w1 ⟨rfl, hb⟩
      have HR1 := Lib.hid (HR.out.on hb)
      clear hb
      go_wp2_with fail
      go_at_call 115
      refine (HSh.out _ HR1.out.b).mono ?_
      rintro e w' ⟨rfl, hw'⟩
      obtain rfl := hw'.symm
      clear hw'
      obtain ⟨k0, k1, kf0, kf1⟩ := HR1.out.k
      go_wp2
      refine ret_frac rfl rfl rfl (Blk.set2 HR1.out.k _ _) rfl ⟨by rw [HV.out]; rfl, HR1.out.fin _ _⟩
    · rw [hs] at HSh
      have hx := Q.mx_iff.1 hm
      obtain ⟨s1, s2, s3⟩ := Q.sh_iff.1 hs
      have HC := Lib.hid fun (W : World) (h : Below w.heap.size w W) => columnSums_any A c xs M V dv ws W (M.getD 0 []).length hx s2 s1 (hM.stays h) (hV.stays h)
      have HTo := Lib.hid fun (W : World) (h : Below w.heap.size w W) => total_any V dv ws W 0 (Int.le_refl _) s2 hwl (hV.stays h)
      have HX : Hid (rwQ M ws = F.mk (Lib.maxOf (Q.colS M ws (M.getD 0 []).length)) (Q.sumK ws ws.length)) := if_pos (by simp [hm, hs])
      have hvl := Q.colS_vals hx s2 s1
      have hcl := Q.colS_len M ws (M.getD 0 []).length
      have hm1 := hx.m1
      have hm3 := hx.m3
      have hn3 := hx.n3
      have hsb := (Q.sum_bd s2 (Int.le_refl _) (Nat.le_refl ws.length))
      generalize Q.colS M ws (M.getD 0 []).length = cs at HC HX hvl hcl
      generalize (M.getD 0 []).length = m at hcl hm1 hm3
      have hmx := hvl _ (Q.max_mem (l := cs) (by intro e; subst e; simp at hcl; omega)).1
      have HMx := Lib.hid fun (B : Option Addr) (d : Nat) (W : World) (hr : Law.Row W B (ivs cs)) => max_row (c := d) hr (by omega) (by omega)
      generalize Lib.maxOf cs = mx at HX hmx HMx
      generalize Q.sumK ws ws.length = sm at HTo HX hsb s3
      have HRd := Lib.hid fun W => reduced_any mx sm W (by omega) (by omega) (by omega) (by omega)
      rw [← HX.out] at HRd
      generalize rwQ M ws = X at HRd ⊢
      obtain ⟨N, D, ok⟩ := X
      replace HRd : Hid (∀ W, Calls Try.prog 89 #[.int .i64 mx, .int .i64 sm] W fun e w' => e = .returned (.tuple #[.agg #[.int .i64 N, .int .i64 D], .bool ok]) ∧ Below W.heap.size W w') := HRd
      clear hm hs hM hV hl hx s1 s2 s3 HX hvl hsb hcl
      go_enter Try.func56, Try.ntmps56
      go_wp2_with fail
      generalize w.alloc (.cells #[.int .i64 0, .int .i64 0] 32) = wa at HR ⊢
      go_at_call 121
      refine (HI.out wa HR.out.b).mono ?_
      rintro e w1 ⟨rfl, hb⟩
      have HR1 := Lib.hid (HR.out.on hb)
      clear hb
      go_wp2_with fail
      go_at_call 115
      refine (HSh.out _ HR1.out.b).mono ?_
      rintro e w' ⟨rfl, hw'⟩
      obtain rfl := hw'.symm
      clear hw'
      go_wp2_with fail
      go_at_call 123
      refine (HC.out w1 HR1.out.b).mono ?_
      rintro e w2 ⟨v2, rfl, ho, hb⟩
      obtain ⟨A2, c2, rfl, _, _, _⟩ := Law.own_len ho
      have HRow := Lib.hid (Law.Row.own ho)
      have HR2 := Lib.hid (HR1.out.on hb)
      clear ho hb
      go_wp2_with fail
      go_at_call 122
      refine (HMx.out _ _ _ HRow.out).mono ?_
      rintro e w' ⟨rfl, hw'⟩
      obtain rfl := hw'.symm
      clear hw'
      go_wp2_with fail
      go_at_call 81
      refine (HTo.out _ HR2.out.b).mono ?_
      rintro e w' ⟨rfl, hw'⟩
      obtain rfl := hw'.symm
      clear hw'
      go_wp2_with fail
      go_at_call 89
      refine (HRd.out w2).mono ?_
      rintro e w3 ⟨rfl, hb⟩
      have HR3 := Lib.hid (HR2.out.on hb)
      clear hb
      obtain ⟨k0, k1, kf0, kf1⟩ := HR3.out.k
      go_wp2
      refine ret_frac rfl rfl rfl (Blk.set2 HR3.out.k _ _) rfl ⟨rfl, HR3.out.fin _ _⟩
set_option maxRecDepth 100000 in
set_option maxHeartbeats 800000 in
theorem specRw_any (hl : ∀ l ∈ M, l.length ≤ 1048576) (hn : M.length ≤ 1048576) (hwl : ws.length ≤ 1048576) (hM : NRow w A xs M) (hV : Law.Row w V (ivs ws)) :
    Calls Try.prog 55 #[.slice A M.length c, .slice V ws.length dv] w fun e w' => e = .returned (res (rwQ M ws)) ∧ Below w.heap.size w w' := by
  have HR := Lib.hid (Rb.start w 32)
  have HI := Lib.hid fun (W : World) (h : Below w.heap.size w W) => l11Matrix_any A c xs M W hl hn (hM.stays h)
  cases hm : Q.mxQ M
  · have HV : Hid (rwQ M ws = (0, 0, false)) := if_neg (by simp [hm])
    generalize rwQ M ws = X at HV ⊢
    rw [hm] at HI
    clear hm hM hV hl
    go_enter Try.func55, Try.ntmps55
    go_wp2_with fail
    generalize w.alloc (.cells #[.int .i64 0, .int .i64 0] 32) = wa at HR ⊢
    go_at_call 117
    refine (HI.out wa HR.out.b).mono ?_
    rintro e w1 ⟨rfl, mq, hq⟩
    have hb : Below wa.heap.size wa w1 := by rw [hq]; exact Law.up (Below.refl _ _) mq
    clear hq
    have HR1 := Lib.hid (HR.out.on hb)
    clear hb
    obtain ⟨k0, k1, kf0, kf1⟩ := HR1.out.k
    go_wp2
    refine ret_frac rfl rfl rfl (Blk.set2 HR1.out.k _ _) rfl ⟨by rw [HV.out]; rfl, HR1.out.fin _ _⟩
  · rw [hm] at HI
    have HSh := Lib.hid fun (W : World) (h : Below w.heap.size w W) => l11Mixed_any V dv ws W (.slice A M.length c) M.length hwl (hV.stays h)
    cases hs : Q.shQ M.length ws
    · have HV : Hid (rwQ M ws = (0, 0, false)) := if_neg (by simp [hm, hs])
      generalize rwQ M ws = X at HV ⊢
      rw [hs] at HSh
      clear hm hs hM hV hl
      go_enter Try.func55, Try.ntmps55
      go_wp2_with fail
      generalize w.alloc (.cells #[.int .i64 0, .int .i64 0] 32) = wa at HR ⊢
      go_at_call 117
      refine (HI.out wa HR.out.b).mono ?_
      rintro e w1 ⟨rfl, mq, hq⟩
      have hb : Below wa.heap.size wa w1 := by rw [hq]; exact Law.up (Below.refl _ _) mq
      clear hq
      have HR1 := Lib.hid (HR.out.on hb)
      clear hb
      go_wp2_with fail
      go_at_call 118
      refine (HSh.out _ HR1.out.b).mono ?_
      rintro e w' ⟨rfl, hw'⟩
      obtain rfl := hw'.symm
      clear hw'
      obtain ⟨k0, k1, kf0, kf1⟩ := HR1.out.k
      go_wp2
      refine ret_frac rfl rfl rfl (Blk.set2 HR1.out.k _ _) rfl ⟨by rw [HV.out]; rfl, HR1.out.fin _ _⟩
    · rw [hs] at HSh
      have hx := Q.mx_iff.1 hm
      obtain ⟨s1, s2, s3⟩ := Q.sh_iff.1 hs
      have HC := Lib.hid fun (W : World) (h : Below w.heap.size w W) => l11Products_any A c xs M V dv ws W (M.getD 0 []).length hx s2 s1 (hM.stays h) (hV.stays h)
      have HTo := Lib.hid fun (W : World) (h : Below w.heap.size w W) => l11Sum_any V dv ws W 0 (Int.le_refl _) s2 hwl (hV.stays h)
      have HX : Hid (rwQ M ws = F.mk (Lib.maxOf (Q.colS M ws (M.getD 0 []).length)) (Q.sumK ws ws.length)) := if_pos (by simp [hm, hs])
      have hvl := Q.colS_vals hx s2 s1
      have hcl := Q.colS_len M ws (M.getD 0 []).length
      have hm1 := hx.m1
      have hm3 := hx.m3
      have hn3 := hx.n3
      have hsb := (Q.sum_bd s2 (Int.le_refl _) (Nat.le_refl ws.length))
      generalize Q.colS M ws (M.getD 0 []).length = cs at HC HX hvl hcl
      generalize (M.getD 0 []).length = m at hcl hm1 hm3
      have hmx := hvl _ (Q.max_mem (l := cs) (by intro e; subst e; simp at hcl; omega)).1
      have HMx := Lib.hid fun (B : Option Addr) (d : Nat) (W : World) (hr : Law.Row W B (ivs cs)) => l7Greatest_any B d cs W (by omega) (fun z hz => (hvl z hz).1) (by intro e; subst e; simp at hcl; omega) hr
      generalize Lib.maxOf cs = mx at HX hmx HMx
      generalize Q.sumK ws ws.length = sm at HTo HX hsb s3
      have HRd := Lib.hid fun W => l2Make_any mx sm W (by omega) (by omega) (by omega) (by omega)
      rw [← HX.out] at HRd
      generalize rwQ M ws = X at HRd ⊢
      obtain ⟨N, D, ok⟩ := X
      replace HRd : Hid (∀ W, Calls Try.prog 67 #[.int .i64 mx, .int .i64 sm] W fun e w' => e = .returned (.tuple #[.agg #[.int .i64 N, .int .i64 D], .bool ok]) ∧ Below W.heap.size W w') := HRd
      clear hm hs hM hV hl hx s1 s2 s3 HX hvl hsb hcl
      go_enter Try.func55, Try.ntmps55
      go_wp2_with fail
      generalize w.alloc (.cells #[.int .i64 0, .int .i64 0] 32) = wa at HR ⊢
      go_at_call 117
      refine (HI.out wa HR.out.b).mono ?_
      rintro e w1 ⟨rfl, mq, hq⟩
      have hb : Below wa.heap.size wa w1 := by rw [hq]; exact Law.up (Below.refl _ _) mq
      clear hq
      have HR1 := Lib.hid (HR.out.on hb)
      clear hb
      go_wp2_with fail
      go_at_call 118
      refine (HSh.out _ HR1.out.b).mono ?_
      rintro e w' ⟨rfl, hw'⟩
      obtain rfl := hw'.symm
      clear hw'
      go_wp2_with fail
      go_at_call 120
      refine (HC.out w1 HR1.out.b).mono ?_
      rintro e w2 ⟨v2, rfl, ho, hb⟩
      obtain ⟨A2, c2, rfl, _, _, _⟩ := Law.own_len ho
      have HRow := Lib.hid (Law.Row.own ho)
      have HR2 := Lib.hid (HR1.out.on hb)
      clear ho hb
      go_wp2_with fail
      go_at_call 119
      refine (HMx.out _ _ _ HRow.out).mono ?_
      rintro e w' ⟨rfl, hw'⟩
      obtain rfl := hw'.symm
      clear hw'
      go_wp2_with fail
      go_at_call 78
      refine (HTo.out _ HR2.out.b).mono ?_
      rintro e w' ⟨rfl, hw'⟩
      obtain rfl := hw'.symm
      clear hw'
      go_wp2_with fail
      go_at_call 67
      refine (HRd.out w2).mono ?_
      rintro e w3 ⟨rfl, hb⟩
      have HR3 := Lib.hid (HR2.out.on hb)
      clear hb
      obtain ⟨k0, k1, kf0, kf1⟩ := HR3.out.k
      go_wp2
      refine ret_frac rfl rfl rfl (Blk.set2 HR3.out.k _ _) rfl ⟨rfl, HR3.out.fin _ _⟩
end
end Go.Proofs.Ytammlkaclooohaa

/- ColumnsWorst of the model and of the code. -/
namespace Go.Proofs.Ytammlkaclooohaa
open Go.RowKit
set_option linter.unusedVariables false
noncomputable def cwQ (M : List (List Int)) (ws : List Int) : Int × Int × Bool := if (Q.mxQ M && Q.shQ (M.getD 0 []).length ws) = true then F.mk (Lib.minOf (Q.colS (Q.trQ M (M.getD 0 []).length) ws M.length)) (Q.sumK ws ws.length) else (0, 0, false)
theorem l1LeastN_any (a b : Int) (w : World) : Calls Try.prog 169 #[.int .i64 a, .int .i64 b] w fun e w' => e = .returned (.int .i64 (min a b)) ∧ w' = w := by
  by_cases h : a < b
  · have HE : Hid (min a b = a) := by show _ = _; omega
    generalize min a b = V at HE ⊢
    go_enter Try.func169, Try.ntmps169
    go_wp2
    go_ret
    exact ⟨by rw [HE.out]; rfl, rfl⟩
  · have HE : Hid (min a b = b) := by show _ = _; omega
    generalize min a b = V at HE ⊢
    go_enter Try.func169, Try.ntmps169
    go_wp2
    go_ret
    exact ⟨by rw [HE.out]; rfl, rfl⟩
set_option maxHeartbeats 400000 in
theorem l7Least_any (A : Option Addr) (c : Nat) (l : List Int) (w : World) (hn : l.length ≤ 1048576) (h1 : 1 ≤ l.length) (hr : Law.Row w A (ivs l)) :
    Calls Try.prog 124 #[.slice A l.length c] w fun e w' => e = .returned (.int .i64 (Lib.minOf l)) ∧ w' = w := by
  have HR := Lib.hid hr
  rw [Q.minOf_least h1]
  obtain ⟨z0, hz0⟩ : ∃ z, l[0]? = some z := ⟨_, List.getElem?_eq_getElem (by omega)⟩
  have HS : Hid (∀ k z, l[k]? = some z → Q.leastK l (k + 1) = min (Q.leastK l k) z) := fun k z h => by
    show min (Q.leastK l k) (l.getD k 0) = _
    rw [List.getD_eq_getElem?_getD, h]
    rfl
  have HZ : Hid (Q.leastK l 1 = z0) := by
    show min (l.getD 0 0) (l.getD 0 0) = _
    rw [List.getD_eq_getElem?_getD, hz0]
    simp
  have HK : Hid (∀ k, k < l.length → ∃ z, l[k]? = some z) := fun k hk => ⟨_, List.getElem?_eq_getElem hk⟩
  generalize Q.leastK l = K at *
  obtain ⟨b0, o0, rfl, hb0, hc0⟩ := HR.out.at_ (ivs_some hz0)
  rw [Nat.add_zero] at hc0
  have HM := Lib.hid fun x y W => l1LeastN_any x y W
  have h1I : (0 : Int) < (l.length : Int) := by omega
  clear hr hz0 hb0
  go_enter Try.func124, Try.ntmps124
  go_wp2
  go_loop [3, 4] (fun s i => ∃ k : Nat, 1 ≤ k ∧ k ≤ l.length ∧ i = .int .i64 (k : Int) ∧ s = .int .i64 (K k)) (fun _ i => l.length - (intOf i).toNat)
  case atStart => exact ⟨1, Nat.le_refl _, h1, rfl, by rw [HZ.out]⟩
  case round =>
    obtain ⟨k, hk1, hk, rfl, rfl⟩ := hrel
    by_cases hlt : k < l.length
    · have hltI : (k : Int) < (l.length : Int) := by omega
      obtain ⟨z, hz⟩ := HK.out k hlt
      obtain ⟨b, off, e, hbl, hc⟩ := HR.out.at_ (ivs_some hz)
      cases e
      have HN := Lib.hid (HS.out k z hz)
      clear hz hbl
      go_wp2_with (go_at_call 169; refine (HM.out _ _ _).mono ?_; rintro e w' ⟨rfl, hw'⟩; subst hw')
      go_round
      case rel => exact ⟨k + 1, by omega, by omega, by go_num, by rw [HN.out]⟩
      case measure => simp [intOf]; omega
    · have hke : k = l.length := by omega
      have hltI : ¬ (k : Int) < (l.length : Int) := by omega
      subst hke
      go_wp2
      go_ret
      exact ⟨rfl, rfl⟩
section
variable (A : Option Addr) (c : Nat) (xs : List Value) (M : List (List Int)) (V : Option Addr) (dv : Nat) (ws : List Int) (w : World)
set_option maxRecDepth 100000 in
set_option maxHeartbeats 800000 in
theorem impCw_any (hl : ∀ l ∈ M, l.length ≤ 1048576) (hn : M.length ≤ 1048576) (hwl : ws.length ≤ 1048576) (hM : NRow w A xs M) (hV : Law.Row w V (ivs ws)) :
    Calls Try.prog 58 #[.slice A M.length c, .slice V ws.length dv] w fun e w' => e = .returned (res (cwQ M ws)) ∧ Below w.heap.size w w' := by
  have HR := Lib.hid (Rb.start w 32)
  have HI := Lib.hid fun (W : World) (h : Below w.heap.size w W) => isMatrix_any A c xs M W hl hn (hM.stays h)
  cases hm : Q.mxQ M
  · have HV : Hid (cwQ M ws = (0, 0, false)) := if_neg (by simp [hm])
    generalize cwQ M ws = X at HV ⊢
    rw [hm] at HI
    clear hm hM hV hl
    go_enter Try.func58, Try.ntmps58
    go_wp2_with fail
    generalize w.alloc (.cells #[.int .i64 0, .int .i64 0] 32) = wa at HR ⊢
    go_at_call 121
    refine (HI.out wa HR.out.b).mono ?_
    rintro e w1 ⟨rfl, hb⟩
    have HR1 := Lib.hid (HR.out.on hb)
    clear hb
    obtain ⟨k0, k1, kf0, kf1⟩ := HR1.out.k
    go_wp2
    refine ret_frac rfl rfl rfl (Blk.set2 HR1.out.k _ _) rfl ⟨by rw [HV.out]; rfl, HR1.out.fin _ _⟩
  · rw [hm] at HI
    have hx := Q.mx_iff.1 hm
    obtain ⟨l0, hl0⟩ : ∃ l0, M[0]? = some l0 := ⟨_, List.getElem?_eq_getElem (by have := hx.n1; omega)⟩
    have hl0e : M.getD 0 [] = l0 := by rw [List.getD_eq_getElem?_getD, hl0]; rfl
    obtain ⟨b1, o1, X0, d0, e1, hbb, hc0w, _⟩ := hM.row_at hl0
    subst e1
    rw [Nat.add_zero] at hc0w
    have HC0 := Lib.hid fun (W : World) (hb : Below w.heap.size w W) => (hb.cell (p := ⟨b1, o1, none⟩) hbb).trans hc0w
    have h1M := hx.n1
    have h1MI : (0 : Int) < (M.length : Int) := by omega
    rw [hl0e] at hx
    have HQ : Hid (cwQ M ws = if (Q.mxQ M && Q.shQ l0.length ws) = true then F.mk (Lib.minOf (Q.colS (Q.trQ M l0.length) ws M.length)) (Q.sumK ws ws.length) else (0, 0, false)) := by show _ = _; rw [← hl0e]; rfl
    obtain ⟨m, hme⟩ : ∃ m, m = l0.length := ⟨_, rfl⟩
    rw [← hme] at hx HC0 HQ
    clear hl0 hl0e hbb hc0w hme
    have HSh := Lib.hid fun (W : World) (h : Below w.heap.size w W) => isShared_any V dv ws W m hwl (hV.stays h)
    cases hs : Q.shQ m ws
    · have HV : Hid (cwQ M ws = (0, 0, false)) := by show _ = _; rw [HQ.out]; exact if_neg (by simp [hs])
      generalize cwQ M ws = X at HV ⊢
      rw [hs] at HSh
      clear hm hs hM hV hl hx HQ
      go_enter Try.func58, Try.ntmps58
      go_wp2_with fail
      generalize w.alloc (.cells #[.int .i64 0, .int .i64 0] 32) = wa at HR ⊢
      go_at_call 121
      refine (HI.out wa HR.out.b).mono ?_
      rintro e w1 ⟨rfl, hb⟩
      have HR1 := Lib.hid (HR.out.on hb)
      clear hb
      have hc0 := HC0.out _ HR1.out.b
      go_wp2_with fail
      go_at_call 115
      refine (HSh.out _ HR1.out.b).mono ?_
      rintro e w' ⟨rfl, hw'⟩
      obtain rfl := hw'.symm
      clear hw'
      clear hc0
      obtain ⟨k0, k1, kf0, kf1⟩ := HR1.out.k
      go_wp2
      refine ret_frac rfl rfl rfl (Blk.set2 HR1.out.k _ _) rfl ⟨by rw [HV.out]; rfl, HR1.out.fin _ _⟩
    · rw [hs] at HSh
      obtain ⟨s1, s2, s3⟩ := Q.sh_iff.1 hs
      have HTr := Lib.hid fun (W : World) (h : Below w.heap.size w W) => transposed_any (some ⟨b1, o1, none⟩) c xs M W m hx (hM.stays h)
      have hxt := hx.turn
      have HC := Lib.hid fun (A2 : Option Addr) (c2 : Nat) (ys : List Value) (W : World) (h : Below w.heap.size w W) (hr : NRow W A2 ys (Q.trQ M m)) => columnSums_any A2 c2 ys (Q.trQ M m) V dv ws W M.length hxt s2 (by rw [Q.trQ_len]; exact s1) hr (hV.stays h)
      have HTo := Lib.hid fun (W : World) (h : Below w.heap.size w W) => total_any V dv ws W 0 (Int.le_refl _) s2 hwl (hV.stays h)
      have HX : Hid (cwQ M ws = F.mk (Lib.minOf (Q.colS (Q.trQ M m) ws M.length)) (Q.sumK ws ws.length)) := by show _ = _; rw [HQ.out]; exact if_pos (by simp [hm, hs])
      have hvl := Q.colS_vals hxt s2 (by rw [Q.trQ_len]; exact s1)
      have hcl := Q.colS_len (Q.trQ M m) ws M.length
      have HTl := Lib.hid (Q.trQ_len M m)
      have hm1 := hx.m1
      have hm3 := hx.m3
      have hn3 := hx.n3
      have hsb := (Q.sum_bd s2 (Int.le_refl _) (Nat.le_refl ws.length))
      generalize Q.colS (Q.trQ M m) ws M.length = cs at HC HX hvl hcl
      generalize Q.trQ M m = TM at HTr HC hxt HTl
      have hmx := hvl _ (Q.min_mem (l := cs) (by intro e; subst e; simp at hcl; omega)).1
      have HMx := Lib.hid fun (B : Option Addr) (d : Nat) (W : World) (hr : Law.Row W B (ivs cs)) => min_row (c := d) hr (by omega) (by omega)
      generalize Lib.minOf cs = mx at HX hmx HMx
      generalize Q.sumK ws ws.length = sm at HTo HX hsb s3
      have HRd := Lib.hid fun W => reduced_any mx sm W (by omega) (by omega) (by omega) (by omega)
      rw [← HX.out] at HRd
      generalize cwQ M ws = X at HRd ⊢
      obtain ⟨N, D, ok⟩ := X
      replace HRd : Hid (∀ W, Calls Try.prog 89 #[.int .i64 mx, .int .i64 sm] W fun e w' => e = .returned (.tuple #[.agg #[.int .i64 N, .int .i64 D], .bool ok]) ∧ Below W.heap.size W w') := HRd
      clear hm hs hM hV hl hx hxt s1 s2 s3 HX hvl hsb hcl HQ
      go_enter Try.func58, Try.ntmps58
      go_wp2_with fail
      generalize w.alloc (.cells #[.int .i64 0, .int .i64 0] 32) = wa at HR ⊢
      go_at_call 121
      refine (HI.out wa HR.out.b).mono ?_
      rintro e w1 ⟨rfl, hb⟩
      have HR1 := Lib.hid (HR.out.on hb)
      clear hb
      have hc0 := HC0.out _ HR1.out.b
      go_wp2_with fail
      go_at_call 115
      refine (HSh.out _ HR1.out.b).mono ?_
      rintro e w' ⟨rfl, hw'⟩
      obtain rfl := hw'.symm
      clear hw'
      clear hc0
      go_wp2_with fail
      go_at_call 126
      refine (HTr.out w1 HR1.out.b).mono ?_
      rintro e w5 ⟨v5, ys5, rfl, ho, hn, hb⟩
      rw [HTl.out] at ho
      obtain ⟨A5, c5, rfl, _, _, _⟩ := Law.own_len ho
      have HN5 := Lib.hid (NRow.of ho hn)
      have HR5 := Lib.hid (HR1.out.on hb)
      clear ho hn hb
      have HC5 := Lib.hid (HC.out A5 c5 ys5 w5 HR5.out.b HN5.out)
      rw [HTl.out] at HC5
      go_wp2_with fail
      go_at_call 123
      refine HC5.out.mono ?_
      rintro e w2 ⟨v2, rfl, ho, hb⟩
      obtain ⟨A2, c2, rfl, _, _, _⟩ := Law.own_len ho
      have HRow := Lib.hid (Law.Row.own ho)
      have HR2 := Lib.hid (HR5.out.on hb)
      clear ho hb
      go_wp2_with fail
      go_at_call 103
      refine (HMx.out _ _ _ HRow.out).mono ?_
      rintro e w' ⟨rfl, hw'⟩
      obtain rfl := hw'.symm
      clear hw'
      go_wp2_with fail
      go_at_call 81
      refine (HTo.out _ HR2.out.b).mono ?_
      rintro e w' ⟨rfl, hw'⟩
      obtain rfl := hw'.symm
      clear hw'
      go_wp2_with fail
      go_at_call 89
      refine (HRd.out w2).mono ?_
      rintro e w3 ⟨rfl, hb⟩
      have HR3 := Lib.hid (HR2.out.on hb)
      clear hb
      obtain ⟨k0, k1, kf0, kf1⟩ := HR3.out.k
      go_wp2
      refine ret_frac rfl rfl rfl (Blk.set2 HR3.out.k _ _) rfl ⟨rfl, HR3.out.fin _ _⟩
set_option maxRecDepth 100000 in
set_option maxHeartbeats 800000 in
theorem specCw_any (hl : ∀ l ∈ M, l.length ≤ 1048576) (hn : M.length ≤ 1048576) (hwl : ws.length ≤ 1048576) (hM : NRow w A xs M) (hV : Law.Row w V (ivs ws)) :
    Calls Try.prog 57 #[.slice A M.length c, .slice V ws.length dv] w fun e w' => e = .returned (res (cwQ M ws)) ∧ Below w.heap.size w w' := by
  have HR := Lib.hid (Rb.start w 32)
  have HI := Lib.hid fun (W : World) (h : Below w.heap.size w W) => l11Matrix_any A c xs M W hl hn (hM.stays h)
  cases hm : Q.mxQ M
  · have HV : Hid (cwQ M ws = (0, 0, false)) := if_neg (by simp [hm])
    generalize cwQ M ws = X at HV ⊢
    rw [hm] at HI
    clear hm hM hV hl
    go_enter Try.func57, Try.ntmps57
    go_wp2_with fail
    generalize w.alloc (.cells #[.int .i64 0, .int .i64 0] 32) = wa at HR ⊢
    go_at_call 117
    refine (HI.out wa HR.out.b).mono ?_
    rintro e w1 ⟨rfl, mq, hq⟩
    have hb : Below wa.heap.size wa w1 := by rw [hq]; exact Law.up (Below.refl _ _) mq
    clear hq
    have HR1 := Lib.hid (HR.out.on hb)
    clear hb
    obtain ⟨k0, k1, kf0, kf1⟩ := HR1.out.k
    go_wp2
    refine ret_frac rfl rfl rfl (Blk.set2 HR1.out.k _ _) rfl ⟨by rw [HV.out]; rfl, HR1.out.fin _ _⟩
  · rw [hm] at HI
    have hx := Q.mx_iff.1 hm
    obtain ⟨l0, hl0⟩ : ∃ l0, M[0]? = some l0 := ⟨_, List.getElem?_eq_getElem (by have := hx.n1; omega)⟩
    have hl0e : M.getD 0 [] = l0 := by rw [List.getD_eq_getElem?_getD, hl0]; rfl
    obtain ⟨b1, o1, X0, d0, e1, hbb, hc0w, _⟩ := hM.row_at hl0
    subst e1
    rw [Nat.add_zero] at hc0w
    have HC0 := Lib.hid fun (W : World) (hb : Below w.heap.size w W) => (hb.cell (p := ⟨b1, o1, none⟩) hbb).trans hc0w
    have h1M := hx.n1
    have h1MI : (0 : Int) < (M.length : Int) := by omega
    rw [hl0e] at hx
    have HQ : Hid (cwQ M ws = if (Q.mxQ M && Q.shQ l0.length ws) = true then F.mk (Lib.minOf (Q.colS (Q.trQ M l0.length) ws M.length)) (Q.sumK ws ws.length) else (0, 0, false)) := by show _ = _; rw [← hl0e]; rfl
    obtain ⟨m, hme⟩ : ∃ m, m = l0.length := ⟨_, rfl⟩
    rw [← hme] at hx HC0 HQ
    clear hl0 hl0e hbb hc0w hme
    have HSh := Lib.hid fun (W : World) (h : Below w.heap.size w W) => l11Mixed_any V dv ws W (.slice (some ⟨b1, o1, none⟩) M.length c) m hwl (hV.stays h)
    cases hs : Q.shQ m ws
    · have HV : Hid (cwQ M ws = (0, 0, false)) := by show _ = _; rw [HQ.out]; exact if_neg (by simp [hs])
      generalize cwQ M ws = X at HV ⊢
      rw [hs] at HSh
      clear hm hs hM hV hl hx HQ
      go_enter Try.func57, Try.ntmps57
      go_wp2_with fail
      generalize w.alloc (.cells #[.int .i64 0, .int .i64 0] 32) = wa at HR ⊢
      go_at_call 117
      refine (HI.out wa HR.out.b).mono ?_
      rintro e w1 ⟨rfl, mq, hq⟩
      have hb : Below wa.heap.size wa w1 := by rw [hq]; exact Law.up (Below.refl _ _) mq
      clear hq
      have HR1 := Lib.hid (HR.out.on hb)
      clear hb
      have hc0 := HC0.out _ HR1.out.b
      go_wp2_with fail
      go_at_call 118
      refine (HSh.out _ HR1.out.b).mono ?_
      rintro e w' ⟨rfl, hw'⟩
      obtain rfl := hw'.symm
      clear hw'
      clear hc0
      obtain ⟨k0, k1, kf0, kf1⟩ := HR1.out.k
      go_wp2
      refine ret_frac rfl rfl rfl (Blk.set2 HR1.out.k _ _) rfl ⟨by rw [HV.out]; rfl, HR1.out.fin _ _⟩
    · rw [hs] at HSh
      obtain ⟨s1, s2, s3⟩ := Q.sh_iff.1 hs
      have HTr := Lib.hid fun (W : World) (h : Below w.heap.size w W) => l11Turned_any (some ⟨b1, o1, none⟩) c xs M W m hx (hM.stays h)
      have hxt := hx.turn
      have HC := Lib.hid fun (A2 : Option Addr) (c2 : Nat) (ys : List Value) (W : World) (h : Below w.heap.size w W) (hr : NRow W A2 ys (Q.trQ M m)) => l11Products_any A2 c2 ys (Q.trQ M m) V dv ws W M.length hxt s2 (by rw [Q.trQ_len]; exact s1) hr (hV.stays h)
      have HTo := Lib.hid fun (W : World) (h : Below w.heap.size w W) => l11Sum_any V dv ws W 0 (Int.le_refl _) s2 hwl (hV.stays h)
      have HX : Hid (cwQ M ws = F.mk (Lib.minOf (Q.colS (Q.trQ M m) ws M.length)) (Q.sumK ws ws.length)) := by show _ = _; rw [HQ.out]; exact if_pos (by simp [hm, hs])
      have hvl := Q.colS_vals hxt s2 (by rw [Q.trQ_len]; exact s1)
      have hcl := Q.colS_len (Q.trQ M m) ws M.length
      have HTl := Lib.hid (Q.trQ_len M m)
      have hm1 := hx.m1
      have hm3 := hx.m3
      have hn3 := hx.n3
      have hsb := (Q.sum_bd s2 (Int.le_refl _) (Nat.le_refl ws.length))
      generalize Q.colS (Q.trQ M m) ws M.length = cs at HC HX hvl hcl
      generalize Q.trQ M m = TM at HTr HC hxt HTl
      have hmx := hvl _ (Q.min_mem (l := cs) (by intro e; subst e; simp at hcl; omega)).1
      have HMx := Lib.hid fun (B : Option Addr) (d : Nat) (W : World) (hr : Law.Row W B (ivs cs)) => l7Least_any B d cs W (by omega) (by omega) hr
      generalize Lib.minOf cs = mx at HX hmx HMx
      generalize Q.sumK ws ws.length = sm at HTo HX hsb s3
      have HRd := Lib.hid fun W => l2Make_any mx sm W (by omega) (by omega) (by omega) (by omega)
      rw [← HX.out] at HRd
      generalize cwQ M ws = X at HRd ⊢
      obtain ⟨N, D, ok⟩ := X
      replace HRd : Hid (∀ W, Calls Try.prog 67 #[.int .i64 mx, .int .i64 sm] W fun e w' => e = .returned (.tuple #[.agg #[.int .i64 N, .int .i64 D], .bool ok]) ∧ Below W.heap.size W w') := HRd
      clear hm hs hM hV hl hx hxt s1 s2 s3 HX hvl hsb hcl HQ
      go_enter Try.func57, Try.ntmps57
      go_wp2_with fail
      generalize w.alloc (.cells #[.int .i64 0, .int .i64 0] 32) = wa at HR ⊢
      go_at_call 117
      refine (HI.out wa HR.out.b).mono ?_
      rintro e w1 ⟨rfl, mq, hq⟩
      have hb : Below wa.heap.size wa w1 := by rw [hq]; exact Law.up (Below.refl _ _) mq
      clear hq
      have HR1 := Lib.hid (HR.out.on hb)
      clear hb
      have hc0 := HC0.out _ HR1.out.b
      go_wp2_with fail
      go_at_call 118
      refine (HSh.out _ HR1.out.b).mono ?_
      rintro e w' ⟨rfl, hw'⟩
      obtain rfl := hw'.symm
      clear hw'
      clear hc0
      go_wp2_with fail
      go_at_call 125
      refine (HTr.out w1 HR1.out.b).mono ?_
      rintro e w5 ⟨v5, ys5, rfl, ho, hn, hb⟩
      rw [HTl.out] at ho
      obtain ⟨A5, c5, rfl, _, _, _⟩ := Law.own_len ho
      have HN5 := Lib.hid (NRow.of ho hn)
      have HR5 := Lib.hid (HR1.out.on hb)
      clear ho hn hb
      have HC5 := Lib.hid (HC.out A5 c5 ys5 w5 HR5.out.b HN5.out)
      rw [HTl.out] at HC5
      go_wp2_with fail
      go_at_call 120
      refine HC5.out.mono ?_
      rintro e w2 ⟨v2, rfl, ho, hb⟩
      obtain ⟨A2, c2, rfl, _, _, _⟩ := Law.own_len ho
      have HRow := Lib.hid (Law.Row.own ho)
      have HR2 := Lib.hid (HR5.out.on hb)
      clear ho hb
      go_wp2_with fail
      go_at_call 124
      refine (HMx.out _ _ _ HRow.out).mono ?_
      rintro e w' ⟨rfl, hw'⟩
      obtain rfl := hw'.symm
      clear hw'
      go_wp2_with fail
      go_at_call 78
      refine (HTo.out _ HR2.out.b).mono ?_
      rintro e w' ⟨rfl, hw'⟩
      obtain rfl := hw'.symm
      clear hw'
      go_wp2_with fail
      go_at_call 67
      refine (HRd.out w2).mono ?_
      rintro e w3 ⟨rfl, hb⟩
      have HR3 := Lib.hid (HR2.out.on hb)
      clear hb
      obtain ⟨k0, k1, kf0, kf1⟩ := HR3.out.k
      go_wp2
      refine ret_frac rfl rfl rfl (Blk.set2 HR3.out.k _ _) rfl ⟨rfl, HR3.out.fin _ _⟩
end
end Go.Proofs.Ytammlkaclooohaa
