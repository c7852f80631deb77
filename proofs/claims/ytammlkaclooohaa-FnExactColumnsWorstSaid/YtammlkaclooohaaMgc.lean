/-
  Matrices of the code: isMatrix, isShared, columnSums. Matrices of the model: l11Matrix, l11Mixed, l11Products, l7Greatest; columnSums of the code. Sums of columns: l11Products of the model, columnSums of the code.
-/
import Derived.Test.YtammlkaclooohaaMgb
import Derived.Test.YtammlkaclooohaaHmake
import Derived.Deep.RegionLaw
import Derived.StillTailTactics
import Derived.Deep.RegionHeld3
/- Matrices of the code: isMatrix, isShared, columnSums. -/
namespace Go.Proofs.Ytammlkaclooohaa
open Go.RowKit
set_option linter.unusedVariables false
/-- What the literal of isMatrix captures. -/
structure MxE (W : World) (bm : Nat) (A : Option Addr) (c : Nat) (xs : List Value) (M : List (List Int)) : Prop where
  c0 : W.cell? ⟨bm, 0, none⟩ = some (.slice A M.length c)
  lt : bm < W.heap.size
  mv : NRow W A xs M
theorem MxE.on {W W' : World} {bm : Nat} {A : Option Addr} {c : Nat} {xs : List Value} {M : List (List Int)} (h : MxE W bm A c xs M) (hb : Below W.heap.size W W') : MxE W' bm A c xs M :=
  ⟨(hb.cell (p := ⟨bm, 0, none⟩) h.lt).trans h.c0, Nat.lt_of_lt_of_le h.lt hb.size, h.mv.stays hb⟩
section
variable (A : Option Addr) (c : Nat) (xs : List Value) (M : List (List Int)) (w : World)
set_option maxHeartbeats 800000 in
theorem mlit_any (bm : Nat) (l : List Int) (X : Option Addr) (dX : Nat) (h1 : 1 ≤ M.length) (hl : l.length ≤ 1048576) (h : MxE w bm A c xs M) (hX : Law.Row w X (ivs l)) :
    Calls Try.prog 167 #[.slice X l.length dX, .pointer (some ⟨bm, 0, none⟩)] w fun e w' => e = .returned (.bool (Q.mrQ (M.getD 0 []).length l)) ∧ Below w.heap.size w w' := by
  have HI := Lib.hid (isWithin_any X dX l 0 40 w hl hX)
  obtain ⟨l0, hl0⟩ : ∃ l0, M[0]? = some l0 := ⟨_, List.getElem?_eq_getElem (by omega)⟩
  obtain ⟨b, off, X0, d0, rfl, hbb, hc, _⟩ := h.mv.row_at hl0
  have p0 := h.c0
  have hM : M.getD 0 [] = l0 := by rw [List.getD_eq_getElem?_getD, hl0]; rfl
  rw [hM]
  rw [Nat.add_zero] at hc
  have HV : Hid (Q.mrQ l0.length l = (decide (l.length = l0.length) && decide (1 ≤ l.length) && decide (l.length ≤ 3) && Q.within 0 40 l)) := rfl
  generalize Q.mrQ l0.length l = V at HV ⊢
  generalize Q.within 0 40 l = v at HI HV
  clear h hX hl0 hM hbb
  generalize l.length = n at *
  generalize l0.length = m at *
  have h1I : (0 : Int) < (M.length : Int) := by omega
  by_cases e1 : n = m
  · subst e1
    by_cases e2 : 1 ≤ n
    · have e2I : (1 : Int) ≤ (n : Int) := by omega
      by_cases e3 : n ≤ 3
      · have e3I : (n : Int) ≤ 3 := by omega
        rw [decide_eq_true rfl, decide_eq_true e2, decide_eq_true e3] at HV
        clear e2 e3
        go_enter Try.func167, Try.ntmps167
        go_wp2_with (go_at_call 152; refine (HI.out).mono ?_; rintro e w' ⟨rfl, hw'⟩; subst hw')
        cases v
        all_goals
          go_wp2
          go_ret
          exact ⟨by rw [HV.out]; rfl, Below.refl _ _⟩
      · have e3I : ¬ (n : Int) ≤ 3 := by omega
        rw [decide_eq_false e3] at HV
        clear e3 HI
        go_enter Try.func167, Try.ntmps167
        go_wp2
        go_ret
        exact ⟨by rw [HV.out]; simp, Below.refl _ _⟩
    · have e2I : ¬ (1 : Int) ≤ (n : Int) := by omega
      rw [decide_eq_false e2] at HV
      clear e2 HI
      go_enter Try.func167, Try.ntmps167
      go_wp2
      go_ret
      exact ⟨by rw [HV.out]; simp, Below.refl _ _⟩
  · have e1b : ((n : Int) == (m : Int)) = false := by simp; omega
    have e1I : ¬ (n : Int) = (m : Int) := by omega
    rw [decide_eq_false e1] at HV
    clear e1 HI
    go_enter Try.func167, Try.ntmps167
    go_wp2
    go_ret
    exact ⟨by rw [HV.out]; simp, Below.refl _ _⟩
set_option maxHeartbeats 800000 in
theorem isMatrix_any (hl : ∀ l ∈ M, l.length ≤ 1048576) (hn : M.length ≤ 1048576) (hM : NRow w A xs M) :
    Calls Try.prog 121 #[.slice A M.length c] w fun e w' => e = .returned (.bool (Q.mxQ M)) ∧ Below w.heap.size w w' := by
  have hb0 : Below w.heap.size w (w.alloc (.cells #[.slice A M.length c] 22)) := (Below.refl _ _).alloc (Nat.le_refl _) _
  have HE : Hid (MxE (w.alloc (.cells #[.slice A M.length c] 22)) w.heap.size A c xs M) := ⟨by simp, by simp, hM.stays hb0⟩
  have HC := Lib.hid (IslImx.isList_any (.pointer (some ⟨w.heap.size, 0, none⟩)) (fun W => MxE W w.heap.size A c xs M) (Q.mrQ (M.getD 0 []).length) A c xs M _ (Lib.hid fun W W' h hb => h.on hb) 3 (Lib.hid fun h1 l X dX W hm he hX => mlit_any A c xs M W w.heap.size l X dX h1 (hl l hm) he hX) hn HE.out HE.out.mv)
  have HV : Hid (Q.mxQ M = (decide (1 ≤ M.length) && decide ((M.length : Int) ≤ 3) && M.all (Q.mrQ (M.getD 0 []).length))) := rfl
  rw [← HV.out] at HC
  generalize Q.mxQ M = V at HC ⊢
  have p0 := HE.out.c0
  have HB := Lib.hid hb0
  clear hM hl hb0 HV HE
  go_enter Try.func121, Try.ntmps121
  go_wp2_with fail
  go_at_call 166
  refine HC.out.mono ?_
  rintro e w1 ⟨rfl, hb⟩
  have HB1 := Lib.hid (Law.then_ HB.out hb)
  clear hb p0 HC
  go_wp2
  go_ret
  exact ⟨rfl, HB1.out⟩
end
section
variable (A : Option Addr) (c : Nat) (l : List Int) (w : World)
set_option maxHeartbeats 800000 in
theorem isShared_any (cnt : Nat) (hn : l.length ≤ 1048576) (hr : Law.Row w A (ivs l)) :
    Calls Try.prog 115 #[.slice A l.length c, .int .i64 (cnt : Int)] w fun e w' => e = .returned (.bool (Q.shQ cnt l)) ∧ w' = w := by
  have HI := Lib.hid (isWeights_any A c l w cnt 0 hn hr)
  cases h : Q.wtQ cnt 0 l
  · rw [h] at HI
    have HV := Lib.hid (Q.sh_no h)
    generalize Q.shQ cnt l = V at HV ⊢
    clear h hr
    go_enter Try.func115, Try.ntmps115
    go_wp2_with (go_at_call 143; refine (HI.out).mono ?_; rintro e w' ⟨rfl, hw'⟩; subst hw')
    go_ret
    exact ⟨by rw [HV.out]; rfl, rfl⟩
  · rw [h] at HI
    have HT := Lib.hid (total_any A c l w 0 (Int.le_refl _) (Q.wt_iff.1 h).2 hn hr)
    have HV := Lib.hid (Q.sh_yes h)
    generalize Q.shQ cnt l = V at HV ⊢
    generalize Q.sumK l l.length = s at HT HV
    clear h hr
    go_enter Try.func115, Try.ntmps115
    go_wp2_with (first | (go_at_call 143; refine (HI.out).mono ?_; rintro e w' ⟨rfl, hw'⟩; subst hw') | (go_at_call 81; refine (HT.out).mono ?_; rintro e w' ⟨rfl, hw'⟩; subst hw'))
    go_ret
    exact ⟨by rw [HV.out]; rfl, rfl⟩
end
end Go.Proofs.Ytammlkaclooohaa

/- Matrices of the model: l11Matrix, l11Mixed, l11Products, l7Greatest; columnSums of the code. -/
namespace Go.Proofs.Ytammlkaclooohaa
open Go.RowKit
set_option linter.unusedVariables false
section
variable (A : Option Addr) (c : Nat) (l : List Int) (w : World)
set_option maxHeartbeats 800000 in
theorem l11Mixed_any (v0 : Value) (cnt : Nat) (hn : l.length ≤ 1048576) (hr : Law.Row w A (ivs l)) :
    Calls Try.prog 118 #[v0, .slice A l.length c, .int .i64 (cnt : Int)] w fun e w' => e = .returned (.bool (Q.shQ cnt l)) ∧ w' = w := by
  by_cases h1 : l.length = cnt
  · subst h1
    have HI := Lib.hid (l11Weights_any A c l w 0 hn hr)
    cases h : Q.within 0 9 l
    · rw [h] at HI
      have HV := Lib.hid (Q.sh_no (cnt := l.length) (l := l) (by rw [Q.wt_len rfl]; exact h))
      generalize Q.shQ l.length l = V at HV ⊢
      clear h hr
      go_enter Try.func118, Try.ntmps118
      go_wp2_with (go_at_call 113; refine (HI.out).mono ?_; rintro e w' ⟨rfl, hw'⟩; subst hw')
      go_ret
      exact ⟨by rw [HV.out]; rfl, rfl⟩
    · rw [h] at HI
      have HT := Lib.hid (l11Sum_any A c l w 0 (Int.le_refl _) h hn hr)
      have HV := Lib.hid (Q.sh_yes (cnt := l.length) (l := l) (by rw [Q.wt_len rfl]; exact h))
      generalize Q.shQ l.length l = V at HV ⊢
      generalize Q.sumK l l.length = s at HT HV
      clear h hr
      go_enter Try.func118, Try.ntmps118
      go_wp2_with (first | (go_at_call 113; refine (HI.out).mono ?_; rintro e w' ⟨rfl, hw'⟩; subst hw') | (go_at_call 78; refine (HT.out).mono ?_; rintro e w' ⟨rfl, hw'⟩; subst hw'))
      go_ret
      exact ⟨by rw [HV.out]; rfl, rfl⟩
  · have heq : ((l.length : Int) == (cnt : Int)) = false := by simp; omega
    have hne2 : ¬ (l.length : Int) = (cnt : Int) := by omega
    have HV := Lib.hid (Q.sh_no (Q.wt_no (lo := 0) h1))
    generalize Q.shQ cnt l = V at HV ⊢
    clear h1 hr
    generalize l.length = n at *
    go_enter Try.func118, Try.ntmps118
    go_wp2
    go_ret
    exact ⟨by rw [HV.out]; rfl, rfl⟩
/-- The greatest of numbers of at least 0. -/
theorem Q.mostF {l : List Int} (h : ∀ z ∈ l, 0 ≤ z) : Lib.maxOf l = (l.foldl max 0) ∨ l = [] := by
  by_cases e : l = []
  · exact .inr e
  · left
    obtain ⟨h1, h2⟩ := Q.max_mem e
    have key : ∀ (l : List Int) (a : Int), (a ≤ l.foldl max a ∧ ∀ z ∈ l, z ≤ l.foldl max a) ∧ (l.foldl max a = a ∨ l.foldl max a ∈ l) := by
      intro l
      induction l with
      | nil => intro a; simp
      | cons y l ih =>
        intro a
        obtain ⟨⟨i1, i2⟩, i3⟩ := ih (max a y)
        refine ⟨⟨by show a ≤ l.foldl max (max a y); omega, fun z hz => ?_⟩, ?_⟩
        · show z ≤ l.foldl max (max a y)
          rcases List.mem_cons.1 hz with e | hz
          · omega
          · exact i2 z hz
        · show l.foldl max (max a y) = a ∨ l.foldl max (max a y) ∈ y :: l
          rcases i3 with h | h
          · rw [h]
            by_cases e : y ≤ a
            · exact .inl (by omega)
            · exact .inr (by rw [show max a y = y by omega]; exact List.mem_cons_self ..)
          · exact .inr (List.mem_cons_of_mem _ h)
    obtain ⟨⟨k1, k2⟩, k3⟩ := key l 0
    have a1 := k2 _ h1
    have a0 := h _ h1
    rcases k3 with h | h
    · omega
    · have := h2 _ h
      omega
theorem Q.foldmax_take (l : List Int) (k : Nat) (z : Int) (h : l[k]? = some z) : (l.take (k + 1)).foldl max 0 = max ((l.take k).foldl max 0) z := by
  rw [List.take_add_one, h]
  simp
set_option maxHeartbeats 400000 in
theorem l7Greatest_any (hn : l.length ≤ 1048576) (h0 : ∀ z ∈ l, 0 ≤ z) (h1 : l ≠ []) (hr : Law.Row w A (ivs l)) :
    Calls Try.prog 119 #[.slice A l.length c] w fun e w' => e = .returned (.int .i64 (Lib.maxOf l)) ∧ w' = w := by
  have HR := Lib.hid hr
  have HS := Lib.hid (Q.foldmax_take l)
  have HE : Hid ((l.take l.length).foldl max 0 = Lib.maxOf l) := by
    show _ = _
    rw [List.take_length]
    rcases Q.mostF h0 with h | h
    · exact h.symm
    · exact absurd h h1
  have HZ : Hid ((l.take 0).foldl max 0 = 0) := rfl
  have HK : Hid (∀ k, k < l.length → ∃ z, l[k]? = some z) := fun k hk => ⟨_, List.getElem?_eq_getElem hk⟩
  obtain ⟨K, hK⟩ : ∃ K : Nat → Int, ∀ k, (l.take k).foldl max 0 = K k := ⟨_, fun _ => rfl⟩
  simp only [hK] at HS HE HZ
  generalize Lib.maxOf l = V at HE ⊢
  have HM := Lib.hid fun x y W => l1Most_any x y W
  clear hr h0 h1 hK
  go_enter Try.func119, Try.ntmps119
  go_wp2
  go_loop [3, 4] (fun s i => ∃ k : Nat, k ≤ l.length ∧ i = .int .i64 (k : Int) ∧ s = .int .i64 (K k)) (fun _ i => l.length - (intOf i).toNat)
  case atStart => exact ⟨0, Nat.zero_le _, rfl, by rw [HZ.out]⟩
  case round =>
    obtain ⟨k, hk, rfl, rfl⟩ := hrel
    by_cases hlt : k < l.length
    · have hltI : (k : Int) < (l.length : Int) := by omega
      obtain ⟨z, hz⟩ := HK.out k hlt
      obtain ⟨b, off, rfl, hbl, hc⟩ := HR.out.at_ (ivs_some hz)
      have HN := Lib.hid (HS.out k z hz)
      clear hz hbl
      go_wp2_with (go_at_call 165; refine (HM.out _ _ _).mono ?_; rintro e w' ⟨rfl, hw'⟩; subst hw')
      go_round
      case rel => exact ⟨k + 1, by omega, by go_num, by rw [HN.out]⟩
      case measure => simp [intOf]; omega
    · have hke : k = l.length := by omega
      have hltI : ¬ (k : Int) < (l.length : Int) := by omega
      subst hke
      go_wp2
      go_ret
      exact ⟨by rw [← HE.out]; rfl, rfl⟩
end
namespace Q
theorem mx_no1 {M : List (List Int)} (h : ¬ (1 ≤ M.length ∧ M.length ≤ 3)) : mxQ M = false := by
  rw [Bool.eq_false_iff]
  intro e
  have := mx_iff.1 e
  exact h ⟨this.n1, this.n3⟩
theorem mx_no2 {M : List (List Int)} {l0 : List Int} (h0 : M[0]? = some l0) (h : ¬ (1 ≤ l0.length ∧ l0.length ≤ 3)) : mxQ M = false := by
  rw [Bool.eq_false_iff]
  intro e
  have := mx_iff.1 e
  rw [List.getD_eq_getElem?_getD, h0] at this
  exact h ⟨this.m1, this.m3⟩
theorem mx_no3 {M : List (List Int)} {l0 l : List Int} (h0 : M[0]? = some l0) (hl : l ∈ M) (h : ¬ (l.length = l0.length ∧ within 0 40 l = true)) : mxQ M = false := by
  rw [Bool.eq_false_iff]
  intro e
  have := mx_iff.1 e
  rw [List.getD_eq_getElem?_getD, h0] at this
  exact h (this.row l hl)
theorem mx_yes {M : List (List Int)} {l0 : List Int} (h0 : M[0]? = some l0) (h1 : 1 ≤ M.length ∧ M.length ≤ 3) (h2 : 1 ≤ l0.length ∧ l0.length ≤ 3) (h : ∀ j l, j < M.length → M[j]? = some l → l.length = l0.length ∧ within 0 40 l = true) : mxQ M = true := by
  rw [mx_iff, List.getD_eq_getElem?_getD, h0]
  exact ⟨h1.1, h1.2, h2.1, h2.2, fun l hl => by
    obtain ⟨j, hj, rfl⟩ := List.mem_iff_getElem.1 hl
    exact h j _ hj (List.getElem?_eq_getElem hj)⟩
end Q
section
variable (A : Option Addr) (c : Nat) (xs : List Value) (M : List (List Int)) (w : World)
set_option maxRecDepth 100000 in
set_option maxHeartbeats 1600000 in
theorem l11Matrix_any (hl : ∀ l ∈ M, l.length ≤ 1048576) (hn : M.length ≤ 1048576) (hM : NRow w A xs M) :
    Calls Try.prog 117 #[.slice A M.length c] w fun e w' => e = .returned (.bool (Q.mxQ M)) ∧ ∃ m, w' = w.drewN m := by
  have HI := Lib.hid fun x y z W => l1In_any x y z W
  by_cases h1 : 1 ≤ M.length ∧ M.length ≤ 3
  · have hb1 : (decide ((1 : Int) ≤ (M.length : Int)) && decide ((M.length : Int) ≤ 3)) = true := by simp; omega
    have HI1 := Lib.hid fun W => HI.out (M.length : Int) 1 3 W
    rw [hb1] at HI1
    obtain ⟨l0, hl0⟩ : ∃ l0, M[0]? = some l0 := ⟨_, List.getElem?_eq_getElem (by omega)⟩
    obtain ⟨b, off, X0, d0, rfl, hbb, hc0, _⟩ := hM.row_at hl0
    rw [Nat.add_zero] at hc0
    have h0I : (0 : Int) < (M.length : Int) := by omega
    by_cases h2 : 1 ≤ l0.length ∧ l0.length ≤ 3
    · have hb2 : (decide ((1 : Int) ≤ (l0.length : Int)) && decide ((l0.length : Int) ≤ 3)) = true := by simp; omega
      have HI2 := Lib.hid fun W => HI.out (l0.length : Int) 1 3 W
      rw [hb2] at HI2
      have HMd : Hid (∀ m, NRow (w.drewN m) (some ⟨b, off, none⟩) xs M) := fun m => hM.drewN m
      have HC0 : Hid (∀ m, (w.drewN m).cell? ⟨b, off, none⟩ = some (.slice X0 l0.length d0)) := fun m => hc0
      have HYes := Lib.hid (Q.mx_yes hl0 h1 h2)
      have HNo := Lib.hid fun l (hl : l ∈ M) => Q.mx_no3 hl0 hl
      generalize Q.mxQ M = V at HYes HNo ⊢
      have HLen := Lib.hid hl
      clear hl0 h1 hb1 hb2 hM hl
      obtain ⟨m0, hm0⟩ : ∃ m0, m0 = l0.length := ⟨_, rfl⟩
      rw [← hm0] at HI2 HC0 HYes HNo h2 hc0
      clear hm0
      have h29 := h2.2
      clear h2
      go_enter Try.func117, Try.ntmps117
      go_wp2_with fail
      go_at_call 83
      refine (HI1.out _).mono ?_
      rintro e w1 ⟨rfl, hw1⟩
      obtain rfl := hw1.symm
      clear hw1
      go_wp2_with fail
      go_at_call 83
      refine (HI2.out _).mono ?_
      rintro e w2 ⟨rfl, hw2⟩
      obtain rfl := hw2.symm
      clear hw2
      go_wp2_with fail
      clear hc0
      go_loopw [3] (fun i wr => ∃ k : Nat, k ≤ M.length ∧ i = .int .i64 (k : Int) ∧ Hid (∃ m, wr = w.drewN m) ∧ Hid (∀ j l, j < k → M[j]? = some l → l.length = m0 ∧ Q.within 0 40 l = true)) (fun i _ => M.length - (intOf i).toNat)
      case atStart => exact ⟨0, Nat.zero_le _, rfl, ⟨0, rfl⟩, fun j l hj => by omega⟩
      case round =>
        obtain ⟨k, hk, rfl, hw, hall⟩ := hrel
        have HPr : Hid (∀ m, ∃ q, wr.drewN m = w.drewN q) := fun m => by
          obtain ⟨q, e⟩ := hw.out
          rw [e]
          exact ⟨q + m, by simp⟩
        have HM2 : Hid (NRow wr (some ⟨b, off, none⟩) xs M) := by
          obtain ⟨q, e⟩ := hw.out
          rw [e]
          exact HMd.out q
        have hc0 : wr.cell? ⟨b, off, none⟩ = some (.slice X0 m0 d0) := by
          obtain ⟨q, e⟩ := hw.out
          rw [e]
          exact HC0.out q
        clear hw
        by_cases hlt : k < M.length
        · have hltI : (k : Int) < (M.length : Int) := by omega
          obtain ⟨l, hlk⟩ : ∃ l, M[k]? = some l := ⟨_, List.getElem?_eq_getElem hlt⟩
          obtain ⟨b1, o1, X, dX, e1, hbb, hc, hrow⟩ := HM2.out.row_at hlk
          cases e1
          by_cases hlen : l.length = m0
          · have hne : ((l.length : Int) != (m0 : Int)) = false := by simp [hlen]
            have HK := Lib.hid hlk
            have HRow := Lib.hid hrow
            have hll := HLen.out l (List.mem_of_getElem? hlk)
            have HLn := Lib.hid hlen
            rw [hlen] at hc hne
            clear hlk hrow
            go_wp2
            go_quiet (fail)
            go_wp2
            generalize hW : World.drewN wr _ = W at *
            have hcW : W.cell? ⟨b, off + k, none⟩ = some (.slice X m0 dX) := by rw [← hW]; exact hc
            have hc0W : W.cell? ⟨b, off, none⟩ = some (.slice X0 m0 d0) := by rw [← hW]; exact hc0
            have HRW : Hid (Law.Row W X (ivs l)) := by rw [← hW]; exact HRow.out.drewN _
            have HPW : Hid (∀ m, ∃ q, W.drewN m = w.drewN q) := fun m => by
              rw [← hW]
              obtain ⟨q, e⟩ := HPr.out 0
              have e0 : wr.drewN 0 = wr := rfl
              rw [e0] at e
              rw [e]
              exact ⟨_, by simp only [World.drewN_drewN]; rfl⟩
            clear hW hc hc0 HM2 HPr
            go_loop [4] (fun i => ∃ q : Nat, q ≤ m0 ∧ i = .int .i64 (q : Int) ∧ Hid (∀ z ∈ l.take q, Q.okW 0 40 z = true)) (fun i => m0 - (intOf i).toNat)
            case atStart => exact ⟨0, Nat.zero_le _, rfl, fun z hz => by simp at hz⟩
            case round =>
              obtain ⟨q, hq, rfl, hin⟩ := hrel
              by_cases hltq : q < m0
              · have hltqI : (q : Int) < (m0 : Int) := by omega
                have hql : q < l.length := by have := HLn.out; omega
                obtain ⟨b2, o2, rfl, hb2, hc2⟩ := HRW.out.at_ (ivs_at hql)
                have hm : l[q] ∈ l := List.getElem_mem hql
                have HN0 : Hid (Q.okW 0 40 l[q] = false → Q.within 0 40 l = false) := Q.within_not hm
                have HN1 : Hid (Q.okW 0 40 l[q] = true → ∀ z ∈ l.take (q + 1), Q.okW 0 40 z = true) := Q.within_next hql hin.out
                have HIq : Hid (∀ W, Calls Try.prog 83 #[.int .i64 l[q], .int .i64 0, .int .i64 40] W fun e w' => e = .returned (.bool (Q.okW 0 40 l[q])) ∧ w' = W) := fun W => HI.out l[q] 0 40 W
                clear hm
                obtain ⟨Z, hZ⟩ : ∃ Z, Z = l[q] := ⟨_, rfl⟩
                rw [← hZ] at HN0 HN1 HIq hc2
                clear hZ hb2 hql
                cases hz : Q.okW 0 40 Z
                · have HF := Lib.hid (HN0.out hz)
                  have HV : Hid (V = false) := HNo.out l (List.mem_of_getElem? HK.out) (fun h => by rw [HF.out] at h; exact absurd h.2 (by decide))
                  have hq0 := HPW.out 0
                  have e0 : W.drewN 0 = W := rfl
                  rw [e0] at hq0
                  have HQ := Lib.hid hq0
                  rw [hz] at HIq
                  clear HN0 HN1 hz hin hq0 e0
                  go_wp2_with (go_at_call 83; refine (HIq.out _).mono ?_; rintro e w' ⟨rfl, hw'⟩; obtain rfl := hw'.symm; clear hw')
                  go_ret
                  exact ⟨by rw [HV.out]; rfl, HQ.out⟩
                · have HN := Lib.hid (HN1.out hz)
                  rw [hz] at HIq
                  clear HN0 HN1 hz hin
                  go_wp2_with (go_at_call 83; refine (HIq.out _).mono ?_; rintro e w' ⟨rfl, hw'⟩; obtain rfl := hw'.symm; clear hw')
                  go_round
                  case rel => exact ⟨q + 1, by omega, by go_num, HN.out⟩
                  case measure => simp [intOf]; omega
              · have hqe : q = m0 := by omega
                have hltqI : ¬ (q : Int) < (m0 : Int) := by omega
                have HA : Hid (∀ j l, j < k + 1 → M[j]? = some l → l.length = m0 ∧ Q.within 0 40 l = true) := fun j l' hj hl' => by
                  by_cases e : j = k
                  · subst e
                    rw [HK.out] at hl'
                    cases hl'
                    exact ⟨HLn.out, Q.within_all (by rw [HLn.out, ← hqe]; exact hin.out)⟩
                  · exact hall.out j l' (by omega) hl'
                have hq0 := HPW.out 0
                have e0 : W.drewN 0 = W := rfl
                rw [e0] at hq0
                have HQ := Lib.hid hq0
                clear hqe hq0 e0 hin
                go_wp2
                go_roundw
                case rel => exact ⟨k + 1, by omega, by go_num, HQ.out, HA.out⟩
                case measure => simp [intOf]; omega
          · have hne : ((l.length : Int) != (m0 : Int)) = true := by simp; omega
            have hne2 : ¬ (l.length : Int) = (m0 : Int) := by omega
            have HV : Hid (V = false) := HNo.out l (List.mem_of_getElem? hlk) (fun h => hlen h.1)
            clear hlk hrow hall hlen
            generalize l.length = ln at *
            go_wp2
            go_quiet (fail)
            go_wp2
            go_ret
            exact ⟨by rw [HV.out]; rfl, HPr.out _⟩
        · have hke : k = M.length := by omega
          have hltI : ¬ (k : Int) < (M.length : Int) := by omega
          have HV : Hid (V = true) := HYes.out fun j l hj hl => hall.out j l (by omega) hl
          have hq0 := HPr.out 0
          have e0 : wr.drewN 0 = wr := rfl
          rw [e0] at hq0
          have HQ := Lib.hid hq0
          clear hke hall hq0 e0
          go_wp2
          go_ret
          exact ⟨by rw [HV.out]; rfl, HQ.out⟩
    · have hb2 : (decide ((1 : Int) ≤ (l0.length : Int)) && decide ((l0.length : Int) ≤ 3)) = false := by rw [Bool.and_eq_false_iff, decide_eq_false_iff_not, decide_eq_false_iff_not]; omega
      have HI2 := Lib.hid fun W => HI.out (l0.length : Int) 1 3 W
      rw [hb2] at HI2
      have HV := Lib.hid (Q.mx_no2 hl0 h2)
      generalize Q.mxQ M = V at HV ⊢
      clear hl0 h1 hb1 hb2 hM hl h2
      generalize l0.length = m0 at *
      go_enter Try.func117, Try.ntmps117
      go_wp2_with fail
      go_at_call 83
      refine (HI1.out _).mono ?_
      rintro e w1 ⟨rfl, hw1⟩
      obtain rfl := hw1.symm
      clear hw1
      go_wp2_with fail
      go_at_call 83
      refine (HI2.out _).mono ?_
      rintro e w2 ⟨rfl, hw2⟩
      obtain rfl := hw2.symm
      clear hw2
      go_wp2
      go_ret
      exact ⟨by rw [HV.out]; rfl, 0, rfl⟩
  · have hb1 : (decide ((1 : Int) ≤ (M.length : Int)) && decide ((M.length : Int) ≤ 3)) = false := by rw [Bool.and_eq_false_iff, decide_eq_false_iff_not, decide_eq_false_iff_not]; omega
    have HI1 := Lib.hid fun W => HI.out (M.length : Int) 1 3 W
    rw [hb1] at HI1
    have HV := Lib.hid (Q.mx_no1 h1)
    generalize Q.mxQ M = V at HV ⊢
    clear h1 hb1 hM hl
    generalize M.length = n at *
    go_enter Try.func117, Try.ntmps117
    go_wp2_with fail
    go_at_call 83
    refine (HI1.out _).mono ?_
    rintro e w1 ⟨rfl, hw1⟩
    obtain rfl := hw1.symm
    clear hw1
    go_wp2
    go_ret
    exact ⟨by rw [HV.out]; rfl, 0, rfl⟩
end
end Go.Proofs.Ytammlkaclooohaa

/- Sums of columns: l11Products of the model, columnSums of the code. -/
namespace Go.Proofs.Ytammlkaclooohaa
open Go.RowKit
set_option linter.unusedVariables false
namespace Q
/-- The sums behind i rows, and of the row i the first k products. -/
def pK (M : List (List Int)) (ws : List Int) (m i k : Nat) : List Int := (List.range m).map fun j => sfK ws (fun i => dst M i j) (if j < k then i + 1 else i)
theorem pK_zero (M : List (List Int)) (ws : List Int) (m : Nat) : pK M ws m 0 0 = List.replicate m 0 := by simp [pK, sfK, List.map_const']
theorem pK_row (M : List (List Int)) (ws : List Int) (m i : Nat) : pK M ws m i m = pK M ws m (i + 1) 0 := by
  unfold pK
  refine List.map_congr_left fun j hj => ?_
  rw [if_pos (List.mem_range.1 hj), if_neg (by omega)]
theorem pK_end (M : List (List Int)) (ws : List Int) (m : Nat) : pK M ws m M.length 0 = colS M ws m := by
  unfold pK colS colF
  refine List.map_congr_left fun j hj => ?_
  rw [if_neg (by omega)]
theorem pK_at {M : List (List Int)} {ws : List Int} {m i k : Nat} (hk : k < m) : (pK M ws m i k)[k]? = some (sfK ws (fun i => dst M i k) i) := by simp [pK, hk]
theorem pK_len (M : List (List Int)) (ws : List Int) (m i k : Nat) : (pK M ws m i k).length = m := by simp [pK]
theorem pK_set {M : List (List Int)} {ws : List Int} {m i k : Nat} : (pK M ws m i k).set k (sfK ws (fun i => dst M i k) (i + 1)) = pK M ws m i (k + 1) := by
  apply List.ext_getElem (by simp [pK])
  intro j h1 h2
  simp [pK] at h1
  rw [List.getElem_set]
  simp only [pK, List.getElem_map, List.getElem_range]
  by_cases e : k = j
  · subst e; simp
  · rw [if_neg e]
    by_cases hj : j < k
    · rw [if_pos hj, if_pos (by omega)]
    · rw [if_neg hj, if_neg (by omega)]
end Q
/-- What the literal of columnSums captures. -/
structure CoE (W : World) (bc j : Nat) : Prop where
  c0 : W.cell? ⟨bc, 0, none⟩ = some (.int .i64 (j : Int))
  lt : bc < W.heap.size
theorem CoE.on {W W' : World} {bc j : Nat} (h : CoE W bc j) (hb : Below W.heap.size W W') : CoE W' bc j := ⟨(hb.cell (p := ⟨bc, 0, none⟩) h.lt).trans h.c0, Nat.lt_of_lt_of_le h.lt hb.size⟩
theorem CoE.new (W : World) (j : Nat) (t : TypeId) : CoE (W.alloc (.cells #[.int .i64 (j : Int)] t)) W.heap.size j := ⟨by simp, by simp⟩
theorem colit_any (bc j : Nat) (l : List Int) (X : Option Addr) (dX : Nat) (w : World) (hl : l.length ≤ 1048576) (hj : j < l.length) (h : CoE w bc j) (hX : Law.Row w X (ivs l)) :
    Calls Try.prog 168 #[.slice X l.length dX, .pointer (some ⟨bc, 0, none⟩)] w fun e w' => e = .returned (.int .i64 (l.getD j 0)) ∧ w' = w := by
  obtain ⟨z, hz⟩ : ∃ z, l[j]? = some z := ⟨_, List.getElem?_eq_getElem hj⟩
  obtain ⟨b, off, rfl, hb, hc⟩ := hX.at_ (ivs_some hz)
  have e : l.getD j 0 = z := by rw [List.getD_eq_getElem?_getD, hz]; rfl
  have p0 := h.c0
  have hjI : (j : Int) < (l.length : Int) := by omega
  rw [e]
  clear h hX hz e hb
  generalize l.length = n at *
  go_enter Try.func168, Try.ntmps168
  go_wp2
  go_ret
  exact ⟨rfl, rfl⟩
section
variable (A : Option Addr) (c : Nat) (xs : List Value) (M : List (List Int)) (V : Option Addr) (dv : Nat) (ws : List Int) (w : World)
set_option maxRecDepth 100000 in
set_option maxHeartbeats 1600000 in
theorem l11Products_any (m : Nat) (h : Q.Mx M m) (hw : Q.within 0 9 ws = true) (hl : ws.length = M.length) (hM : NRow w A xs M) (hV : Law.Row w V (ivs ws)) :
    Calls Try.prog 120 #[.slice A M.length c, .slice V ws.length dv] w (rowSays1 (Q.colS M ws m) w) := by
  obtain ⟨i0, hi, hz0, hz1, hz2⟩ := info_parts infoInts
  obtain ⟨bA, oA, rfl⟩ := hM.some_ h.n1
  have HMd := Lib.hid fun (W : World) (hb : Below w.heap.size w W) => hM.stays hb
  have HTd := Lib.hid fun (W : World) (hb : Below w.heap.size w W) => (hM.stays hb).tab (n := m) (fun l hl => (h.row l hl).1) h.m1
  have HVd := Lib.hid fun (W : World) (hb : Below w.heap.size w W) => hV.stays hb
  have HP0 := Lib.hid (Q.pK_zero M ws m)
  have HPr := Lib.hid (Q.pK_row M ws m)
  have HPe := Lib.hid (Q.pK_end M ws m)
  have HPa := Lib.hid fun i k (hk : k < m) => Q.pK_at (M := M) (ws := ws) (i := i) hk
  have HPs := Lib.hid fun i k => Q.pK_set (M := M) (ws := ws) (m := m) (i := i) (k := k)
  have HBd := Lib.hid fun i j (hi : i ≤ M.length) (hj : j < m) => Q.colF_bd h hw hl hj hi
  have HS := Lib.hid fun i j z (hz : ws[i]? = some z) => Q.sfK_succ (g := fun i => Q.dst M i j) hz
  have HD := Lib.hid fun i j (hi : i < M.length) (hj : j < m) => h.dst hi hj
  have HWs : Hid (∀ i, i < M.length → ∃ z, ws[i]? = some z ∧ 0 ≤ z ∧ z ≤ 9) := fun i hi => Q.within_at hw (by omega)
  have hm3 := h.m3
  have hm1 := h.m1
  have hn3 := h.n3
  have hlM := h.n1
  have hn1I : (0 : Int) < (M.length : Int) := by omega
  obtain ⟨l0, hl0⟩ : ∃ l0, M[0]? = some l0 := ⟨_, List.getElem?_eq_getElem (by omega)⟩
  obtain ⟨b1, o1, X0, d0, e1, hbb, hc0, _⟩ := hM.row_at hl0
  cases e1
  rw [Nat.add_zero, (h.row l0 (List.mem_of_getElem? hl0)).1] at hc0
  have hln := Q.colS_len M ws m
  show Calls _ _ _ _ (rowSays1 _ _)
  unfold rowSays1
  rw [hln]
  generalize Q.colS M ws m = R at HPe ⊢
  generalize Q.pK M ws m = P at *
  have hwl : M.length ≤ ws.length := by omega
  have hwI : (M.length : Int) ≤ (ws.length : Int) := by omega
  obtain ⟨F, hF⟩ : ∃ F : Nat → Nat → Int, ∀ j i, Q.sfK ws (fun i => Q.dst M i j) i = F j i := ⟨_, fun _ _ => rfl⟩
  simp only [hF] at HPa HPs HBd HS
  generalize ws.length = wn at *
  clear h hw hl hM hV hl0 hln hF hbb
  go_enter Try.func120, Try.ntmps120
  go_wp2_with (at_make; refine wpList_make_full _ rfl _ _ 25 rfl w.heap.size 3 i0 (.int .i64 0) 1 Try.underlying25 hi hz0 hz1 .i64 .i64 _ _ m rfl rfl rfl rfl ?cm1a ?cm1b ?cm1c ?_)
  case cm1a => rw [hz2]; omega
  case cm1b => unfold maxLen; omega
  case cm1c => first | exact Nat.le_refl _ | omega | (simp; done) | (simp; omega)
  intro w1 hm1 hg1
  replace hm1 := made_own (w := w1) hm1
  have HB1 : Hid (Below w.heap.size w w1) := Lib.hid ((Below.refl _ _).grown hg1 (Nat.le_refl _) (fun k e => by cases e))
  clear hg1
  have HO1 : Hid (w1.ownsRow w.heap.size 3 1 (.slice (some ⟨w.heap.size, 0, none⟩) m m) m (ivs (P 0 0))) := by show World.ownsRow _ _ _ _ _ _ _; rw [HP0.out]; exact hm1
  clear hm1
  go_wp2_with fail
  go_loopw [6] (fun i wr => ∃ k : Nat, k ≤ M.length ∧ i = .int .i64 (k : Int) ∧ Hid (wr.ownsRow w.heap.size 3 1 (.slice (some ⟨w.heap.size, 0, none⟩) m m) m (ivs (P k 0))) ∧ Hid (Below w.heap.size w wr)) (fun i _ => M.length - (intOf i).toNat)
  case atStart => exact ⟨0, Nat.zero_le _, rfl, HO1.out, HB1.out⟩
  case round =>
    obtain ⟨k, hk, rfl, ho, hb⟩ := hrel
    obtain ⟨wo, hwo⟩ : ∃ wo, wo = wr := ⟨_, rfl⟩
    rw [← hwo] at ho hb ⊢
    clear hwo
    by_cases hlt : k < M.length
    · have hltI : (k : Int) < (M.length : Int) := by omega
      obtain ⟨z, hz, z0, z9⟩ := HWs.out k hlt
      have HZ := Lib.hid hz
      clear hz
      go_wp2_with fail
      go_loopw [7] (fun i wq => ∃ q : Nat, q ≤ m ∧ i = .int .i64 (q : Int) ∧ Hid (wq.ownsRow w.heap.size 3 1 (.slice (some ⟨w.heap.size, 0, none⟩) m m) m (ivs (P k q))) ∧ Hid (Below w.heap.size w wq)) (fun i _ => m - (intOf i).toNat)
      case atStart => exact ⟨0, Nat.zero_le _, rfl, ho.out, hb.out⟩
      case round =>
        obtain ⟨q, hq, rfl, hoq, hbq⟩ := hrel
        by_cases hltq : q < m
        · have hltqI : (q : Int) < (m : Int) := by omega
          obtain ⟨bV, oV, rfl, hbV, hcV⟩ := (HVd.out wr hbq.out).at_ (ivs_some HZ.out)
          obtain ⟨b2, o2, d2, hc2, hcs2⟩ := HTd.out wr hbq.out k hlt
          have hv2 := hcs2 q hltq
          obtain ⟨D0, D9⟩ := HD.out k q hlt hltq
          have hcO := own_cell hoq.out (HPa.out k q hltq)
          have hfO := hoq.out.frozenAt q
          obtain ⟨f0, f9⟩ := HBd.out k q hk hltq
          have hSS := HS.out k q z HZ.out
          have hp := Q.prod_bd z0 z9 D0 D9
          generalize hY : Q.dst M k q = Y at hv2 D0 D9 hSS hp
          generalize hZY : z * Y = ZY at hSS hp
          obtain ⟨hp0, hp9⟩ := hp
          have hw1 : IntKind.i64.wrap ZY = ZY := IntWalk.i64_in _ (by omega)
          have hw2 : IntKind.i64.wrap (F q k + ZY) = F q k + ZY := IntWalk.i64_in _ (by omega)
          have hkw : (k : Int) < (wn : Int) := by omega
          have HSn := Lib.hid (own_put hoq.out q (F q k + ZY))
          have HT : Hid ((P k q).set q (F q k + ZY) = P k (q + 1)) := by show _ = _; rw [← hSS]; exact HPs.out k q
          have HB' := Lib.hid (hbq.out.setCell (p := ⟨w.heap.size, q, none⟩) (Nat.le_refl _) (.int .i64 (F q k + ZY)))
          have HH : Hid (wr.drew.cell? ⟨w.heap.size, q, none⟩ = some (.int .i64 (F q k)) ∧ wr.drew.frozen? ⟨w.heap.size, q, none⟩ = false) := ⟨hcO, hfO⟩
          clear hoq hbq hSS hY hcs2 ho hb
          go_wp2_with fail
          go_still_tail 19, (by kernel_rfl)
          change wpList _ _ _ _ _ wr.drew
          obtain ⟨hcO', hfO'⟩ := HH.out
          go_wp2
          go_roundw
          case rel => exact ⟨q + 1, by omega, by go_num, (by show World.ownsRow _ _ _ _ _ _ _; rw [← HT.out]; exact HSn.out), HB'.out.drew⟩
          case measure => simp [intOf]; omega
        · have hqe : q = m := by omega
          have hltqI : ¬ (q : Int) < (m : Int) := by omega
          have HN : Hid (P k q = P (k + 1) 0) := by show _ = _; rw [hqe]; exact HPr.out k
          have HOq : Hid (wr.ownsRow w.heap.size 3 1 (.slice (some ⟨w.heap.size, 0, none⟩) m m) m (ivs (P (k + 1) 0))) := by show World.ownsRow _ _ _ _ _ _ _; rw [← HN.out]; exact hoq.out
          clear hqe ho hb hoq
          go_wp2
          go_roundw
          case rel => exact ⟨k + 1, by omega, by go_num, HOq.out, hbq.out⟩
          case measure => simp [intOf]; omega
    · have hke : k = M.length := by omega
      have hltI : ¬ (k : Int) < (M.length : Int) := by omega
      have HN : Hid (P k 0 = R) := by show _ = _; rw [hke]; exact HPe.out
      clear hke
      go_wp2
      go_ret
      refine ⟨_, rfl, ?_, hb.out⟩
      have h := ho.out
      rw [HN.out] at h
      exact h
set_option maxRecDepth 100000 in
set_option maxHeartbeats 1600000 in
theorem columnSums_any (m : Nat) (h : Q.Mx M m) (hw : Q.within 0 9 ws = true) (hl : ws.length = M.length) (hM : NRow w A xs M) (hV : Law.Row w V (ivs ws)) :
    Calls Try.prog 123 #[.slice A M.length c, .slice V ws.length dv] w (rowSays1 (Q.colS M ws m) w) := by
  obtain ⟨i0, hi, hz0, hz1, hz2⟩ := info_parts infoInts
  obtain ⟨bA, oA, rfl⟩ := hM.some_ h.n1
  have hlM := h.n1
  have hm3 := h.m3
  have hm1 := h.m1
  have hn3 := h.n3
  have hrl : ∀ l ∈ M, l.length ≤ 1048576 := fun l hl => by have := (h.row l hl).1; omega
  have HC := Lib.hid fun (j bc : Nat) (W : World) (hj : j < m) (hb : Below w.heap.size w W) (he : CoE W bc j) => SumScs.sumOf_any (.pointer (some ⟨bc, 0, none⟩)) (fun W => CoE W bc j) (fun l => l.getD j 0) V dv ws (some ⟨bA, oA, none⟩) c xs M W (fun W W' h hb => h.on hb) (fun l X dX W hm he hX => colit_any bc j l X dX W (hrl l hm) (by rw [(h.row l hm).1]; exact hj) he hX) hl (by omega) (fun k hk => by
    have := Q.colF_bd h hw hl hj hk
    show _ ≤ Q.sfK ws (fun i => Q.dst M i j) k ∧ Q.sfK ws (fun i => Q.dst M i j) k ≤ _
    omega) (fun k z hk hz => by
    obtain ⟨z', hz', z0, z9⟩ := Q.within_at hw (k := k) (by omega)
    rw [hz] at hz'
    cases hz'
    have d := h.dst hk hj
    have := Q.prod_bd z0 z9 d.1 d.2
    show _ ≤ z * Q.dst M k j ∧ z * Q.dst M k j ≤ _
    omega) he (hV.stays hb) (hM.stays hb)
  have HFz := Lib.hid (Q.fill_zero (Q.colF M ws) m)
  have HFs := Lib.hid fun k => Q.fill_set (f := Q.colF M ws) (n := m) (k := k)
  have HF0 := Lib.hid fun k (hk : k < m) => Q.fill_at (f := Q.colF M ws) hk
  have HFe : Hid (Q.fillK (Q.colF M ws) m m = Q.colS M ws m) := Q.fill_end _ _
  generalize Q.fillK (Q.colF M ws) m = FK at HFz HFs HF0 HFe
  have hn1I : (0 : Int) < (M.length : Int) := by omega
  obtain ⟨l0, hl0⟩ : ∃ l0, M[0]? = some l0 := ⟨_, List.getElem?_eq_getElem (by omega)⟩
  obtain ⟨b1, o1, X0, d0, e1, hbb, hc0, _⟩ := hM.row_at hl0
  cases e1
  rw [Nat.add_zero, (h.row l0 (List.mem_of_getElem? hl0)).1] at hc0
  have hln := Q.colS_len M ws m
  show Calls _ _ _ _ (rowSays1 _ _)
  unfold rowSays1
  rw [hln]
  generalize Q.colS M ws m = R at HFe ⊢
  have hb0 : Below w.heap.size w (w.alloc (.cells #[.slice V ws.length dv, .slice (some ⟨bA, oA, none⟩) M.length c] 110)) := (Below.refl _ _).alloc (Nat.le_refl _) _
  have hc0' := (hb0.cell (p := ⟨bA, oA, none⟩) hbb).trans hc0
  have HK := Lib.hid (Bk2.new w (.slice V ws.length dv) (.slice (some ⟨bA, oA, none⟩) M.length c) 110)
  have HB0 := Lib.hid hb0
  have HFf : Hid (∀ j, Q.sfK ws (fun i => (fun l : List Int => l.getD j 0) (M.getD i [])) M.length = Q.colF M ws j) := fun j => rfl
  obtain ⟨F, hF⟩ : ∃ F : Nat → Int, F = Q.colF M ws := ⟨_, rfl⟩
  simp only [HFf.out] at HC
  rw [← hF] at HFs
  simp only [← hF] at HC
  clear h hw hl hM hV hl0 hln hF hbb hb0 hrl HFf hc0
  generalize ws.length = wn at *
  go_enter Try.func123, Try.ntmps123
  go_wp2_with (at_make; refine wpList_make_full _ rfl _ _ 25 rfl (w.heap.size + 1) 3 i0 (.int .i64 0) 1 Try.underlying25 hi hz0 hz1 .i64 .i64 _ _ m rfl rfl rfl rfl ?cm1a ?cm1b ?cm1c ?_)
  case cm1a => rw [hz2]; omega
  case cm1b => unfold maxLen; omega
  case cm1c => first | exact Nat.le_refl _ | omega | (simp; done) | (simp; omega)
  intro w1 hm1 hg1
  replace hm1 := made_own (w := w1) hm1
  have HB1 : Hid (Below (w.alloc (.cells #[.slice V wn dv, .slice (some ⟨bA, oA, none⟩) M.length c] 110)).heap.size (w.alloc (.cells #[.slice V wn dv, .slice (some ⟨bA, oA, none⟩) M.length c] 110)) w1) := Lib.hid ((Below.refl _ _).grown hg1 (Nat.le_refl _) (fun k e => by cases e))
  have hsa0 : (w.alloc (.cells #[.slice V wn dv, .slice (some ⟨bA, oA, none⟩) M.length c] 110)).heap.size = w.heap.size + 1 := by simp
  clear hg1
  generalize w.alloc (.cells #[.slice V wn dv, .slice (some ⟨bA, oA, none⟩) M.length c] 110) = wa at HK HB0 hc0' HB1 hsa0 hm1 ⊢
  try rw [← hsa0] at hm1
  try rw [← hsa0]
  have HO1 : Hid (w1.ownsRow wa.heap.size 3 1 (.slice (some ⟨wa.heap.size, 0, none⟩) m m) m (ivs (FK 0))) := by show World.ownsRow _ _ _ _ _ _ _; rw [HFz.out]; exact hm1
  have HK1 := Lib.hid (HK.out.on HB1.out)
  have HBw := Lib.hid (Law.then_ HB0.out HB1.out)
  have hwa : w.heap.size < wa.heap.size := by omega
  clear hm1 hc0' hsa0
  go_wp2_with fail
  go_loopw [18] (fun i wr => ∃ k : Nat, k ≤ m ∧ i = .int .i64 (k : Int) ∧ Hid (wr.ownsRow wa.heap.size 3 1 (.slice (some ⟨wa.heap.size, 0, none⟩) m m) m (ivs (FK k))) ∧ Hid (Below w.heap.size w wr) ∧ Hid (Bk2 wr w.heap.size (.slice V wn dv) (.slice (some ⟨bA, oA, none⟩) M.length c))) (fun i _ => m - (intOf i).toNat)
  case atStart => exact ⟨0, Nat.zero_le _, rfl, HO1.out, HBw.out, HK1.out⟩
  case round =>
    obtain ⟨k, hk, rfl, ho, hb, hbk⟩ := hrel
    by_cases hlt : k < m
    · have hltI : (k : Int) < (m : Int) := by omega
      have HE := Lib.hid (CoE.new wr k 3)
      have hb1 : Below wr.heap.size wr (wr.alloc (.cells #[.int .i64 (k : Int)] 3)) := (Below.refl _ _).alloc (Nat.le_refl _) _
      have HO2 := Lib.hid (own_past ho.out hb1)
      have HB2 := Lib.hid (Law.then_ hb.out hb1)
      have HBk := Lib.hid (hbk.out.on hb1)
      have HCk := Lib.hid fun bc W h1 h2 => HC.out k bc W hlt h1 h2
      have HFk := Lib.hid (HFs.out k)
      generalize F k = z at HCk HFk
      have HFa := Lib.hid (HF0.out k hlt)
      clear ho hb hbk hb1
      go_wp2_with fail
      obtain ⟨bc, hbc⟩ : ∃ bc, bc = wr.heap.size := ⟨_, rfl⟩
      generalize wr.alloc (.cells #[.int .i64 (k : Int)] 3) = wq at HE HO2 HB2 HBk ⊢
      rw [← hbc] at HE ⊢
      clear hbc
      obtain ⟨q0, q1, _, _, _⟩ := HBk.out
      have e0 := HE.out.c0
      have hcO := own_cell HO2.out HFa.out
      have hfO := HO2.out.frozenAt k
      have HCq : Hid (∀ W, Below wq.heap.size wq W → Calls Try.prog 158 #[.agg #[.slice V wn dv, .slice (some ⟨bA, oA, none⟩) M.length c], SumScs.lit (.pointer (some ⟨bc, 0, none⟩))] W fun e w' => e = .returned (.int .i64 z) ∧ Below W.heap.size W w') := fun W h => (HCk.out bc W (Law.then_ HB2.out h) (HE.out.on h)).mono fun e w' h2 => by
        obtain ⟨he, mq, hw⟩ := h2
        exact ⟨he, by rw [hw]; exact Law.up ((Below.refl _ _).alloc (Nat.le_refl _) _) mq⟩
      clear HCk
      go_region_law ((go_simp; go_at_call 158; refine (HCq.out _ ((Below.refl _ _).drew)).mono ?_; rintro e w10 ⟨rfl, hb10⟩; have hb11 := ((Below.refl wq.heap.size wq).drew).trans hb10; have HB11 := Lib.hid hb11; clear hb10 q0 q1 e0 hcO hfO; obtain ⟨q0, q1, _, _, _⟩ := HBk.out.on hb11; have e0 := (HE.out.on hb11).c0; have hcO := own_cell (own_past HO2.out hb11) HFa.out; have hfO := (own_past HO2.out hb11).frozenAt k; clear hb11))
      all_goals
        have ho2 := own_past HO2.out HB11.out
        have HSn := Lib.hid (own_put ho2 k z)
        rw [HFk.out] at HSn
        have hb2 := Law.then_ HB2.out HB11.out
        have HBn := Lib.hid (hb2.setCell (p := ⟨wa.heap.size, k, none⟩) (by show w.heap.size ≤ wa.heap.size; omega) (.int .i64 z))
        have HKn := Lib.hid ((HBk.out.on HB11.out).below (Below.setCell (p := ⟨wa.heap.size, k, none⟩) (Below.refl wa.heap.size w10) (Nat.le_refl _) (.int .i64 z)) (by omega))
        clear ho2 hb2
        go_wp2
        go_roundw
        case rel => exact ⟨k + 1, by omega, by go_num, HSn.out, HBn.out, HKn.out⟩
        case measure => simp [intOf]; omega
    · have hke : k = m := by omega
      have hltI : ¬ (k : Int) < (m : Int) := by omega
      have HN : Hid (FK k = R) := by show _ = _; rw [hke]; exact HFe.out
      clear hke
      go_wp2
      go_ret
      refine ⟨_, rfl, ?_, hb.out⟩
      have h := ho.out
      rw [HN.out] at h
      exact own_down h (by omega)
end
end Go.Proofs.Ytammlkaclooohaa
