/-
  sumOf over loop.example/g01087/impl.ExpectedLeast$1: the sum of the products of weights and numbers. sumOf over loop.example/g01087/impl.ExpectedCost$1: the sum of the products of weights and numbers.
-/
import Derived.Test.YtammlkaclooohaaMga
import Derived.Test.YtammlkaclooohaaMgq
import Derived.Deep.RegionHeld3
/- sumOf over loop.example/g01087/impl.ExpectedLeast$1: the sum of the products of weights and numbers. -/
namespace Go.Proofs.Ytammlkaclooohaa
open Go.RowKit
set_option linter.unusedVariables false
namespace SumSel
abbrev lit (pa pb : Value) : Value := .func (.func 102) #[] #[pa, pb]
section
variable (pa pb : Value) (E : World → Prop) (f : List Int → Int) (V : Option Addr) (dv : Nat) (ws : List Int) (A : Option Addr) (c : Nat) (xs : List Value) (M : List (List Int)) (w : World)
set_option maxHeartbeats 1600000 in
theorem sumOf_any (hE : ∀ W W', E W → Below W.heap.size W W' → E W') (HLt : ∀ (l : List Int) (X : Option Addr) (dX : Nat) (W : World), l ∈ M → E W → Law.Row W X (ivs l) → Calls Try.prog 102 #[.slice X l.length dX, pa, pb] W fun e w' => e = .returned (.int .i64 (f l)) ∧ Below W.heap.size W w')
    (hl : ws.length = M.length) (hn : M.length ≤ 1048576) (hb : ∀ k, k ≤ M.length → -1000000000000000 ≤ Q.sfK ws (fun i => f (M.getD i [])) k ∧ Q.sfK ws (fun i => f (M.getD i [])) k ≤ 1000000000000000) (hb2 : ∀ k z, k < M.length → ws[k]? = some z → -1000000000000000 ≤ z * f (M.getD k []) ∧ z * f (M.getD k []) ≤ 1000000000000000)
    (he : E w) (hV : Law.Row w V (ivs ws)) (hM : NRow w A xs M) :
    Calls Try.prog 158 #[.agg #[.slice V ws.length dv, .slice A M.length c], lit pa pb] w fun e w' => e = .returned (.int .i64 (Q.sfK ws (fun i => f (M.getD i [])) M.length)) ∧ Below w.heap.size w w' := by
  have hb0 : Below w.heap.size w (w.alloc (.cells #[.slice V ws.length dv, .slice A M.length c] 110)) := (Below.refl _ _).alloc (Nat.le_refl _) _
  have HK := Lib.hid (Bk2.new w (.slice V ws.length dv) (.slice A M.length c) 110)
  have HV := Lib.hid (hV.stays hb0)
  have HM := Lib.hid (hM.stays hb0)
  have HE := Lib.hid (hE _ _ he hb0)
  have HEo := Lib.hid hE
  have HB0 := Lib.hid hb0
  have HL := Lib.hid HLt
  have HB := Lib.hid hb
  have HB2 := Lib.hid hb2
  have HS := Lib.hid fun k z (h : ws[k]? = some z) => Q.sfK_succ (g := fun i => f (M.getD i [])) h
  have HZ : Hid (Q.sfK ws (fun i => f (M.getD i [])) 0 = 0) := rfl
  have HW : Hid (∀ k, k < M.length → ∃ z, ws[k]? = some z) := fun k hk => ⟨_, List.getElem?_eq_getElem (by omega)⟩
  generalize Q.sfK ws (fun i => f (M.getD i [])) = K at HB HS HZ ⊢
  have hwl : M.length ≤ ws.length := by omega
  have hwI : (M.length : Int) ≤ (ws.length : Int) := by omega
  generalize ws.length = wn at *
  clear hE HLt hb hb2 he hV hM hb0 hl
  go_enter Try.func158, Try.ntmps158
  obtain ⟨q0, q1, _, _, _⟩ := HK.out
  go_wp2
  generalize w.alloc (.cells #[.slice V wn dv, .slice A M.length c] 110) = wa at HK HV HM HE HB0 q0 q1 ⊢
  clear q0 q1
  go_loopw [5, 11] (fun s i wr => ∃ k : Nat, k ≤ M.length ∧ i = .int .i64 (k : Int) ∧ s = .int .i64 (K k) ∧ Hid (Below wa.heap.size wa wr)) (fun _ i _ => M.length - (intOf i).toNat)
  case atStart => exact ⟨0, Nat.zero_le _, rfl, by rw [HZ.out], Below.refl _ _⟩
  case round =>
    obtain ⟨k, hk, rfl, rfl, hw⟩ := hrel
    have HK2 := Lib.hid (HK.out.on hw.out)
    have HV2 := Lib.hid (HV.out.stays hw.out)
    have HM2 := Lib.hid (HM.out.stays hw.out)
    have HE2 := Lib.hid (HEo.out _ _ HE.out hw.out)
    obtain ⟨q0, q1, _, _, _⟩ := HK2.out
    by_cases hlt : k < M.length
    · have hltI : (k : Int) < (M.length : Int) := by omega
      obtain ⟨l, hlk⟩ : ∃ l, M[k]? = some l := ⟨_, List.getElem?_eq_getElem hlt⟩
      obtain ⟨b, off, X, dX, rfl, hbb, hc, hrow⟩ := HM2.out.row_at hlk
      obtain ⟨z, hz⟩ := HW.out k hlt
      obtain ⟨bV, oV, eV, hbV, hcV⟩ := HV2.out.at_ (ivs_some hz)
      subst eV
      have hg : M.getD k [] = l := by rw [List.getD_eq_getElem?_getD, hlk]; rfl
      have HC : Hid (∀ W, Below wr.heap.size wr W → Calls Try.prog 102 #[.slice X l.length dX, pa, pb] W fun e w' => e = .returned (.int .i64 (f l)) ∧ Below W.heap.size W w') := fun W h => HL.out l X dX W (List.mem_of_getElem? hlk) (HEo.out _ _ HE2.out h) (hrow.stays h)
      obtain ⟨k1, k2⟩ := HB.out k hk
      obtain ⟨n1, n2⟩ := HB.out (k + 1) (by omega)
      obtain ⟨p1, p2⟩ := HB2.out k z hlt hz
      have hS := HS.out k z hz
      rw [hg] at hS p1 p2
      have HN := Lib.hid hS
      generalize hfl : f l = fv at HC hS p1 p2 HN
      generalize hP : z * fv = P at p1 p2 HN hS
      have hw1 : IntKind.i64.wrap P = P := IntWalk.i64_in _ (by omega)
      have hw2 : IntKind.i64.wrap (K k + P) = K k + P := IntWalk.i64_in _ (by omega)
      have hkw : (k : Int) < (wn : Int) := by omega
      clear hlk hrow hz hg hS hfl n1 n2
      generalize l.length = ln at HC hc
      have HMq : Hid (∀ w' : World, Below wr.heap.size wr w' → w'.cell? ⟨w.heap.size, 0, none⟩ = some (.slice (some ⟨bV, oV, none⟩) wn dv) ∧ w'.cell? ⟨w.heap.size, 1, none⟩ = some (.slice (some ⟨b, off, none⟩) M.length c) ∧ w'.cell? ⟨bV, oV + k, none⟩ = some (.int .i64 z) ∧ Below wr.heap.size wr w') := fun w' h => by
        obtain ⟨a0, a1, _, _, _⟩ := HK2.out.on h
        exact ⟨a0, a1, (h.cell (p := ⟨bV, oV + k, none⟩) hbV).trans hcV, h⟩
      have hs0 := HMq.out wr.drew (Below.refl _ _).drew
      go_wp2
      go_region_held3 (fun w' => w'.cell? ⟨w.heap.size, 0, none⟩ = some (.slice (some ⟨bV, oV, none⟩) wn dv) ∧ w'.cell? ⟨w.heap.size, 1, none⟩ = some (.slice (some ⟨b, off, none⟩) M.length c) ∧ w'.cell? ⟨bV, oV + k, none⟩ = some (.int .i64 z) ∧ Below wr.heap.size wr w') ((first | exact hs0 | assumption | exact HMq.out _ (Law.then_ (by assumption : _ ∧ _ ∧ _ ∧ Below wr.heap.size wr _).2.2.2 (by assumption)))) (first
        | (go_at_call 102; have hS9 := (by assumption : _ ∧ _ ∧ _ ∧ Below wr.heap.size wr _).2.2.2; refine (HC.out _ hS9).mono ?_; rintro e w10 ⟨rfl, hb10⟩; clear hS9))
      all_goals
        have hbl := (by assumption : _ ∧ _ ∧ _ ∧ Below wr.heap.size wr w10).2.2.2
        have HBn := Lib.hid (Law.then_ hw.out hbl)
        clear hbl hb10 hs0 HMq q0 q1 hcV hc
        go_wp2
        go_roundw
        case rel => exact ⟨k + 1, by omega, by go_num, by rw [HN.out], HBn.out⟩
        case measure => simp [intOf]; omega
    · have hke : k = M.length := by omega
      have hltI : ¬ (k : Int) < (M.length : Int) := by omega
      clear q0 q1
      have HKe : Hid (K k = K M.length) := by show _ = _; rw [hke]
      clear hke
      go_wp2
      go_ret
      exact ⟨by rw [← HKe.out]; rfl, Law.then_ HB0.out hw.out⟩
set_option maxRecDepth 100000 in
set_option maxHeartbeats 1600000 in
theorem mean_any (hE : ∀ W W', E W → Below W.heap.size W W' → E W') (HLt : ∀ (l : List Int) (X : Option Addr) (dX : Nat) (W : World), l ∈ M → E W → Law.Row W X (ivs l) → Calls Try.prog 102 #[.slice X l.length dX, pa, pb] W fun e w' => e = .returned (.int .i64 (f l)) ∧ Below W.heap.size W w')
    (hl : ws.length = M.length) (hn : M.length ≤ 1048576) (hb : ∀ k, k ≤ M.length → -1000000000000000 ≤ Q.sfK ws (fun i => f (M.getD i [])) k ∧ Q.sfK ws (fun i => f (M.getD i [])) k ≤ 1000000000000000) (hb2 : ∀ k z, k < M.length → ws[k]? = some z → -1000000000000000 ≤ z * f (M.getD k []) ∧ z * f (M.getD k []) ≤ 1000000000000000)
    (hw : Q.within 0 9 ws = true) (hp : 0 < Q.sumK ws ws.length) (he : E w) (hV : Law.Row w V (ivs ws)) (hM : NRow w A xs M) :
    Calls Try.prog 99 #[.agg #[.slice V ws.length dv, .slice A M.length c], lit pa pb] w fun e w' => e = .returned (res (F.mk (Q.sfK ws (fun i => f (M.getD i [])) M.length) (Q.sumK ws ws.length))) ∧ Below w.heap.size w w' := by
  have hwl : ws.length ≤ 1048576 := by omega
  have hb0 : Below w.heap.size w (w.alloc (.cells #[.slice V ws.length dv, .slice A M.length c] 110)) := (Below.refl _ _).alloc (Nat.le_refl _) _
  have hb1 : Below w.heap.size w ((w.alloc (.cells #[.slice V ws.length dv, .slice A M.length c] 110)).alloc (.cells #[.int .i64 0, .int .i64 0] 32)) := hb0.alloc hb0.size _
  have HK : Hid (Bk2 ((w.alloc (.cells #[.slice V ws.length dv, .slice A M.length c] 110)).alloc (.cells #[.int .i64 0, .int .i64 0] 32)) w.heap.size (.slice V ws.length dv) (.slice A M.length c)) := Lib.hid ((Bk2.new w _ _ _).alloc _)
  have HF : Hid (Bk2 ((w.alloc (.cells #[.slice V ws.length dv, .slice A M.length c] 110)).alloc (.cells #[.int .i64 0, .int .i64 0] 32)) (w.heap.size + 1) (.int .i64 0) (.int .i64 0)) := by
    have h := Bk2.new (w.alloc (.cells #[.slice V ws.length dv, .slice A M.length c] 110)) (.int .i64 0) (.int .i64 0) 32
    rwa [show (w.alloc (.cells #[.slice V ws.length dv, .slice A M.length c] 110)).heap.size = w.heap.size + 1 by simp] at h
  have HS := Lib.hid fun (W : World) (h : Below w.heap.size w W) => sumOf_any pa pb E f V dv ws A c xs M W hE HLt hl hn hb hb2 (hE _ _ he h) (hV.stays h) (hM.stays h)
  have HT := Lib.hid fun (W : World) (h : Below w.heap.size w W) => total_any V dv ws W 0 (Int.le_refl _) hw hwl (hV.stays h)
  have hs := hb M.length (Nat.le_refl _)
  have ht := Q.sum_bd hw (Int.le_refl _) (Nat.le_refl ws.length)
  generalize Q.sfK ws (fun i => f (M.getD i [])) M.length = sm at HS hs ⊢
  generalize Q.sumK ws ws.length = tt at HT hp ht ⊢
  have HR := Lib.hid fun W => reduced_any sm tt W (by omega) (by omega) (by omega) (by omega)
  generalize F.mk sm tt = X at HR ⊢
  obtain ⟨n1, d1, ok⟩ := X
  replace HR : Hid (∀ W, Calls Try.prog 89 #[.int .i64 sm, .int .i64 tt] W fun e w' => e = .returned (.tuple #[.agg #[.int .i64 n1, .int .i64 d1], .bool ok]) ∧ Below W.heap.size W w') := HR
  have HB := Lib.hid hb1
  generalize hwn : ws.length = wn at *
  clear hE HLt hb hb2 he hV hM hb0 hl hw hb1 hs ht hp hwn hwl
  go_enter Try.func99, Try.ntmps99
  go_wp2_with fail
  generalize (w.alloc (.cells #[.slice V wn dv, .slice A M.length c] 110)).alloc (.cells #[.int .i64 0, .int .i64 0] 32) = wa at HK HF HB ⊢
  obtain ⟨q0, q1, _, _, _⟩ := HK.out
  obtain ⟨k0, k1, g0, g1, _⟩ := HF.out
  go_wp2_with fail
  go_region_law ((first
    | (go_simp; go_at_call 158; refine (HS.out _ (Law.then_ HB.out (Below.refl _ _).drew)).mono ?_; rintro e w1 ⟨rfl, hb⟩; have hb9 := ((Below.refl wa.heap.size wa).drew).trans hb; replace HB := Lib.hid (Law.then_ HB.out hb9); replace HK := Lib.hid (HK.out.on hb9); replace HF := Lib.hid (HF.out.on hb9); clear hb hb9 q0 q1 k0 k1 g0 g1; obtain ⟨q0, q1, _, _, _⟩ := HK.out; obtain ⟨k0, k1, g0, g1, _⟩ := HF.out)
    | (go_simp; go_at_call 81; refine (HT.out _ HB.out).mono ?_; rintro e w2 ⟨rfl, hw2⟩; obtain rfl := hw2.symm; clear hw2)
    | (go_simp; go_at_call 89; refine (HR.out _).mono ?_; rintro e w3 ⟨rfl, hb⟩; replace HB := Lib.hid (Law.then_ HB.out hb); replace HK := Lib.hid (HK.out.on hb); replace HF := Lib.hid (HF.out.on hb); clear hb q0 q1 k0 k1 g0 g1; obtain ⟨q0, q1, _, _, _⟩ := HK.out; obtain ⟨k0, k1, g0, g1, _⟩ := HF.out)))
  all_goals
    go_wp2
    refine ret_frac rfl rfl rfl (Blk.set2 ⟨HF.out.c0, HF.out.c1, HF.out.f0, HF.out.f1⟩ _ _) rfl ⟨rfl, ?_⟩
    exact (HB.out.setCell (p := ⟨w.heap.size + 1, 0, none⟩) (by show w.heap.size ≤ w.heap.size + 1; omega) _).setCell (p := ⟨w.heap.size + 1, 1, none⟩) (by show w.heap.size ≤ w.heap.size + 1; omega) _
end
end SumSel
end Go.Proofs.Ytammlkaclooohaa

/- sumOf over loop.example/g01087/impl.ExpectedCost$1: the sum of the products of weights and numbers. -/
namespace Go.Proofs.Ytammlkaclooohaa
open Go.RowKit
set_option linter.unusedVariables false
namespace SumSec
abbrev lit (pa pb pe : Value) : Value := .func (.func 100) #[] #[pa, pb, pe]
section
variable (pa pb pe : Value) (E : World → Prop) (f : List Int → Int) (V : Option Addr) (dv : Nat) (ws : List Int) (A : Option Addr) (c : Nat) (xs : List Value) (M : List (List Int)) (w : World)
set_option maxHeartbeats 1600000 in
theorem sumOf_any (hE : ∀ W W', E W → Below W.heap.size W W' → E W') (HLt : ∀ (l : List Int) (X : Option Addr) (dX : Nat) (W : World), l ∈ M → E W → Law.Row W X (ivs l) → Calls Try.prog 100 #[.slice X l.length dX, pa, pb, pe] W fun e w' => e = .returned (.int .i64 (f l)) ∧ Below W.heap.size W w')
    (hl : ws.length = M.length) (hn : M.length ≤ 1048576) (hb : ∀ k, k ≤ M.length → -1000000000000000 ≤ Q.sfK ws (fun i => f (M.getD i [])) k ∧ Q.sfK ws (fun i => f (M.getD i [])) k ≤ 1000000000000000) (hb2 : ∀ k z, k < M.length → ws[k]? = some z → -1000000000000000 ≤ z * f (M.getD k []) ∧ z * f (M.getD k []) ≤ 1000000000000000)
    (he : E w) (hV : Law.Row w V (ivs ws)) (hM : NRow w A xs M) :
    Calls Try.prog 158 #[.agg #[.slice V ws.length dv, .slice A M.length c], lit pa pb pe] w fun e w' => e = .returned (.int .i64 (Q.sfK ws (fun i => f (M.getD i [])) M.length)) ∧ Below w.heap.size w w' := by
  have hb0 : Below w.heap.size w (w.alloc (.cells #[.slice V ws.length dv, .slice A M.length c] 110)) := (Below.refl _ _).alloc (Nat.le_refl _) _
  have HK := Lib.hid (Bk2.new w (.slice V ws.length dv) (.slice A M.length c) 110)
  have HV := Lib.hid (hV.stays hb0)
  have HM := Lib.hid (hM.stays hb0)
  have HE := Lib.hid (hE _ _ he hb0)
  have HEo := Lib.hid hE
  have HB0 := Lib.hid hb0
  have HL := Lib.hid HLt
  have HB := Lib.hid hb
  have HB2 := Lib.hid hb2
  have HS := Lib.hid fun k z (h : ws[k]? = some z) => Q.sfK_succ (g := fun i => f (M.getD i [])) h
  have HZ : Hid (Q.sfK ws (fun i => f (M.getD i [])) 0 = 0) := rfl
  have HW : Hid (∀ k, k < M.length → ∃ z, ws[k]? = some z) := fun k hk => ⟨_, List.getElem?_eq_getElem (by omega)⟩
  generalize Q.sfK ws (fun i => f (M.getD i [])) = K at HB HS HZ ⊢
  have hwl : M.length ≤ ws.length := by omega
  have hwI : (M.length : Int) ≤ (ws.length : Int) := by omega
  generalize ws.length = wn at *
  clear hE HLt hb hb2 he hV hM hb0 hl
  go_enter Try.func158, Try.ntmps158
  obtain ⟨q0, q1, _, _, _⟩ := HK.out
  go_wp2
  generalize w.alloc (.cells #[.slice V wn dv, .slice A M.length c] 110) = wa at HK HV HM HE HB0 q0 q1 ⊢
  clear q0 q1
  go_loopw [5, 11] (fun s i wr => ∃ k : Nat, k ≤ M.length ∧ i = .int .i64 (k : Int) ∧ s = .int .i64 (K k) ∧ Hid (Below wa.heap.size wa wr)) (fun _ i _ => M.length - (intOf i).toNat)
  case atStart => exact ⟨0, Nat.zero_le _, rfl, by rw [HZ.out], Below.refl _ _⟩
  case round =>
    obtain ⟨k, hk, rfl, rfl, hw⟩ := hrel
    have HK2 := Lib.hid (HK.out.on hw.out)
    have HV2 := Lib.hid (HV.out.stays hw.out)
    have HM2 := Lib.hid (HM.out.stays hw.out)
    have HE2 := Lib.hid (HEo.out _ _ HE.out hw.out)
    obtain ⟨q0, q1, _, _, _⟩ := HK2.out
    by_cases hlt : k < M.length
    · have hltI : (k : Int) < (M.length : Int) := by omega
      obtain ⟨l, hlk⟩ : ∃ l, M[k]? = some l := ⟨_, List.getElem?_eq_getElem hlt⟩
      obtain ⟨b, off, X, dX, rfl, hbb, hc, hrow⟩ := HM2.out.row_at hlk
      obtain ⟨z, hz⟩ := HW.out k hlt
      obtain ⟨bV, oV, eV, hbV, hcV⟩ := HV2.out.at_ (ivs_some hz)
      subst eV
      have hg : M.getD k [] = l := by rw [List.getD_eq_getElem?_getD, hlk]; rfl
      have HC : Hid (∀ W, Below wr.heap.size wr W → Calls Try.prog 100 #[.slice X l.length dX, pa, pb, pe] W fun e w' => e = .returned (.int .i64 (f l)) ∧ Below W.heap.size W w') := fun W h => HL.out l X dX W (List.mem_of_getElem? hlk) (HEo.out _ _ HE2.out h) (hrow.stays h)
      obtain ⟨k1, k2⟩ := HB.out k hk
      obtain ⟨n1, n2⟩ := HB.out (k + 1) (by omega)
      obtain ⟨p1, p2⟩ := HB2.out k z hlt hz
      have hS := HS.out k z hz
      rw [hg] at hS p1 p2
      have HN := Lib.hid hS
      generalize hfl : f l = fv at HC hS p1 p2 HN
      generalize hP : z * fv = P at p1 p2 HN hS
      have hw1 : IntKind.i64.wrap P = P := IntWalk.i64_in _ (by omega)
      have hw2 : IntKind.i64.wrap (K k + P) = K k + P := IntWalk.i64_in _ (by omega)
      have hkw : (k : Int) < (wn : Int) := by omega
      clear hlk hrow hz hg hS hfl n1 n2
      generalize l.length = ln at HC hc
      have HMq : Hid (∀ w' : World, Below wr.heap.size wr w' → w'.cell? ⟨w.heap.size, 0, none⟩ = some (.slice (some ⟨bV, oV, none⟩) wn dv) ∧ w'.cell? ⟨w.heap.size, 1, none⟩ = some (.slice (some ⟨b, off, none⟩) M.length c) ∧ w'.cell? ⟨bV, oV + k, none⟩ = some (.int .i64 z) ∧ Below wr.heap.size wr w') := fun w' h => by
        obtain ⟨a0, a1, _, _, _⟩ := HK2.out.on h
        exact ⟨a0, a1, (h.cell (p := ⟨bV, oV + k, none⟩) hbV).trans hcV, h⟩
      have hs0 := HMq.out wr.drew (Below.refl _ _).drew
      go_wp2
      go_region_held3 (fun w' => w'.cell? ⟨w.heap.size, 0, none⟩ = some (.slice (some ⟨bV, oV, none⟩) wn dv) ∧ w'.cell? ⟨w.heap.size, 1, none⟩ = some (.slice (some ⟨b, off, none⟩) M.length c) ∧ w'.cell? ⟨bV, oV + k, none⟩ = some (.int .i64 z) ∧ Below wr.heap.size wr w') ((first | exact hs0 | assumption | exact HMq.out _ (Law.then_ (by assumption : _ ∧ _ ∧ _ ∧ Below wr.heap.size wr _).2.2.2 (by assumption)))) (first
        | (go_at_call 100; have hS9 := (by assumption : _ ∧ _ ∧ _ ∧ Below wr.heap.size wr _).2.2.2; refine (HC.out _ hS9).mono ?_; rintro e w10 ⟨rfl, hb10⟩; clear hS9))
      all_goals
        have hbl := (by assumption : _ ∧ _ ∧ _ ∧ Below wr.heap.size wr w10).2.2.2
        have HBn := Lib.hid (Law.then_ hw.out hbl)
        clear hbl hb10 hs0 HMq q0 q1 hcV hc
        go_wp2
        go_roundw
        case rel => exact ⟨k + 1, by omega, by go_num, by rw [HN.out], HBn.out⟩
        case measure => simp [intOf]; omega
    · have hke : k = M.length := by omega
      have hltI : ¬ (k : Int) < (M.length : Int) := by omega
      clear q0 q1
      have HKe : Hid (K k = K M.length) := by show _ = _; rw [hke]
      clear hke
      go_wp2
      go_ret
      exact ⟨by rw [← HKe.out]; rfl, Law.then_ HB0.out hw.out⟩
set_option maxRecDepth 100000 in
set_option maxHeartbeats 1600000 in
theorem mean_any (hE : ∀ W W', E W → Below W.heap.size W W' → E W') (HLt : ∀ (l : List Int) (X : Option Addr) (dX : Nat) (W : World), l ∈ M → E W → Law.Row W X (ivs l) → Calls Try.prog 100 #[.slice X l.length dX, pa, pb, pe] W fun e w' => e = .returned (.int .i64 (f l)) ∧ Below W.heap.size W w')
    (hl : ws.length = M.length) (hn : M.length ≤ 1048576) (hb : ∀ k, k ≤ M.length → -1000000000000000 ≤ Q.sfK ws (fun i => f (M.getD i [])) k ∧ Q.sfK ws (fun i => f (M.getD i [])) k ≤ 1000000000000000) (hb2 : ∀ k z, k < M.length → ws[k]? = some z → -1000000000000000 ≤ z * f (M.getD k []) ∧ z * f (M.getD k []) ≤ 1000000000000000)
    (hw : Q.within 0 9 ws = true) (hp : 0 < Q.sumK ws ws.length) (he : E w) (hV : Law.Row w V (ivs ws)) (hM : NRow w A xs M) :
    Calls Try.prog 99 #[.agg #[.slice V ws.length dv, .slice A M.length c], lit pa pb pe] w fun e w' => e = .returned (res (F.mk (Q.sfK ws (fun i => f (M.getD i [])) M.length) (Q.sumK ws ws.length))) ∧ Below w.heap.size w w' := by
  have hwl : ws.length ≤ 1048576 := by omega
  have hb0 : Below w.heap.size w (w.alloc (.cells #[.slice V ws.length dv, .slice A M.length c] 110)) := (Below.refl _ _).alloc (Nat.le_refl _) _
  have hb1 : Below w.heap.size w ((w.alloc (.cells #[.slice V ws.length dv, .slice A M.length c] 110)).alloc (.cells #[.int .i64 0, .int .i64 0] 32)) := hb0.alloc hb0.size _
  have HK : Hid (Bk2 ((w.alloc (.cells #[.slice V ws.length dv, .slice A M.length c] 110)).alloc (.cells #[.int .i64 0, .int .i64 0] 32)) w.heap.size (.slice V ws.length dv) (.slice A M.length c)) := Lib.hid ((Bk2.new w _ _ _).alloc _)
  have HF : Hid (Bk2 ((w.alloc (.cells #[.slice V ws.length dv, .slice A M.length c] 110)).alloc (.cells #[.int .i64 0, .int .i64 0] 32)) (w.heap.size + 1) (.int .i64 0) (.int .i64 0)) := by
    have h := Bk2.new (w.alloc (.cells #[.slice V ws.length dv, .slice A M.length c] 110)) (.int .i64 0) (.int .i64 0) 32
    rwa [show (w.alloc (.cells #[.slice V ws.length dv, .slice A M.length c] 110)).heap.size = w.heap.size + 1 by simp] at h
  have HS := Lib.hid fun (W : World) (h : Below w.heap.size w W) => sumOf_any pa pb pe E f V dv ws A c xs M W hE HLt hl hn hb hb2 (hE _ _ he h) (hV.stays h) (hM.stays h)
  have HT := Lib.hid fun (W : World) (h : Below w.heap.size w W) => total_any V dv ws W 0 (Int.le_refl _) hw hwl (hV.stays h)
  have hs := hb M.length (Nat.le_refl _)
  have ht := Q.sum_bd hw (Int.le_refl _) (Nat.le_refl ws.length)
  generalize Q.sfK ws (fun i => f (M.getD i [])) M.length = sm at HS hs ⊢
  generalize Q.sumK ws ws.length = tt at HT hp ht ⊢
  have HR := Lib.hid fun W => reduced_any sm tt W (by omega) (by omega) (by omega) (by omega)
  generalize F.mk sm tt = X at HR ⊢
  obtain ⟨n1, d1, ok⟩ := X
  replace HR : Hid (∀ W, Calls Try.prog 89 #[.int .i64 sm, .int .i64 tt] W fun e w' => e = .returned (.tuple #[.agg #[.int .i64 n1, .int .i64 d1], .bool ok]) ∧ Below W.heap.size W w') := HR
  have HB := Lib.hid hb1
  generalize hwn : ws.length = wn at *
  clear hE HLt hb hb2 he hV hM hb0 hl hw hb1 hs ht hp hwn hwl
  go_enter Try.func99, Try.ntmps99
  go_wp2_with fail
  generalize (w.alloc (.cells #[.slice V wn dv, .slice A M.length c] 110)).alloc (.cells #[.int .i64 0, .int .i64 0] 32) = wa at HK HF HB ⊢
  obtain ⟨q0, q1, _, _, _⟩ := HK.out
  obtain ⟨k0, k1, g0, g1, _⟩ := HF.out
  go_wp2_with fail
  go_region_law ((first
    | (go_simp; go_at_call 158; refine (HS.out _ (Law.then_ HB.out (Below.refl _ _).drew)).mono ?_; rintro e w1 ⟨rfl, hb⟩; have hb9 := ((Below.refl wa.heap.size wa).drew).trans hb; replace HB := Lib.hid (Law.then_ HB.out hb9); replace HK := Lib.hid (HK.out.on hb9); replace HF := Lib.hid (HF.out.on hb9); clear hb hb9 q0 q1 k0 k1 g0 g1; obtain ⟨q0, q1, _, _, _⟩ := HK.out; obtain ⟨k0, k1, g0, g1, _⟩ := HF.out)
    | (go_simp; go_at_call 81; refine (HT.out _ HB.out).mono ?_; rintro e w2 ⟨rfl, hw2⟩; obtain rfl := hw2.symm; clear hw2)
    | (go_simp; go_at_call 89; refine (HR.out _).mono ?_; rintro e w3 ⟨rfl, hb⟩; replace HB := Lib.hid (Law.then_ HB.out hb); replace HK := Lib.hid (HK.out.on hb); replace HF := Lib.hid (HF.out.on hb); clear hb q0 q1 k0 k1 g0 g1; obtain ⟨q0, q1, _, _, _⟩ := HK.out; obtain ⟨k0, k1, g0, g1, _⟩ := HF.out)))
  all_goals
    go_wp2
    refine ret_frac rfl rfl rfl (Blk.set2 ⟨HF.out.c0, HF.out.c1, HF.out.f0, HF.out.f1⟩ _ _) rfl ⟨rfl, ?_⟩
    exact (HB.out.setCell (p := ⟨w.heap.size + 1, 0, none⟩) (by show w.heap.size ≤ w.heap.size + 1; omega) _).setCell (p := ⟨w.heap.size + 1, 1, none⟩) (by show w.heap.size ≤ w.heap.size + 1; omega) _
end
end SumSec
end Go.Proofs.Ytammlkaclooohaa
