/-
  sumOf over loop.example/g01087/impl.columnSums$1: the sum of the products of weights and numbers.
-/
import Derived.Test.YtammlkaclooohaaMxm
import Derived.BigQuiet
namespace Go.Proofs.Ytammlkaclooohaa
open Go.RowKit
set_option linter.unusedVariables false
namespace SumScs
abbrev lit (pc : Value) : Value := .func (.func 168) #[] #[pc]
section
variable (pc : Value) (E : World → Prop) (f : List Int → Int) (V : Option Addr) (dv : Nat) (ws : List Int) (A : Option Addr) (c : Nat) (xs : List Value) (M : List (List Int)) (w : World)
set_option maxHeartbeats 1600000 in
theorem sumOf_any (hE : ∀ W W', E W → Below W.heap.size W W' → E W') (HLt : ∀ (l : List Int) (X : Option Addr) (dX : Nat) (W : World), l ∈ M → E W → Law.Row W X (ivs l) → Calls Try.prog 168 #[.slice X l.length dX, pc] W fun e w' => e = .returned (.int .i64 (f l)) ∧ w' = W)
    (hl : ws.length = M.length) (hn : M.length ≤ 1048576) (hb : ∀ k, k ≤ M.length → -1000000000000000 ≤ Q.sfK ws (fun i => f (M.getD i [])) k ∧ Q.sfK ws (fun i => f (M.getD i [])) k ≤ 1000000000000000) (hb2 : ∀ k z, k < M.length → ws[k]? = some z → -1000000000000000 ≤ z * f (M.getD k []) ∧ z * f (M.getD k []) ≤ 1000000000000000)
    (he : E w) (hV : Law.Row w V (ivs ws)) (hM : NRow w A xs M) :
    Calls Try.prog 158 #[.agg #[.slice V ws.length dv, .slice A M.length c], lit pc] w fun e w' => e = .returned (.int .i64 (Q.sfK ws (fun i => f (M.getD i [])) M.length)) ∧ ∃ m, w' = (w.alloc (.cells #[.slice V ws.length dv, .slice A M.length c] 110)).drewN m := by
  have hb0 : Below w.heap.size w (w.alloc (.cells #[.slice V ws.length dv, .slice A M.length c] 110)) := (Below.refl _ _).alloc (Nat.le_refl _) _
  have HK := Lib.hid (Bk2.new w (.slice V ws.length dv) (.slice A M.length c) 110)
  have HV := Lib.hid (hV.stays hb0)
  have HM := Lib.hid (hM.stays hb0)
  have HE := Lib.hid (hE _ _ he hb0)
  have HEd : Hid (∀ W m, E W → E (W.drewN m)) := fun W m h => hE _ _ h (Law.up (Below.refl _ _) m)
  have HL := Lib.hid HLt
  have HB := Lib.hid hb
  have HB2 := Lib.hid hb2
  have HS := Lib.hid fun k z (h : ws[k]? = some z) => Q.sfK_succ (g := fun i => f (M.getD i [])) h
  have HZ : Hid (Q.sfK ws (fun i => f (M.getD i [])) 0 = 0) := rfl
  have HW : Hid (∀ k, k < M.length → ∃ z, ws[k]? = some z) := fun k hk => ⟨_, List.getElem?_eq_getElem (by omega)⟩
  generalize Q.sfK ws (fun i => f (M.getD i [])) = K at HB HS HZ ⊢
  have hwl : M.length ≤ ws.length := by omega
  have hwI : (M.length : Int) ≤ (ws.length : Int) := by omega
  generalize ws.length = wn at *
  clear hE HLt hb hb2 he hV hM hb0 hl
  go_enter Try.func158, Try.ntmps158
  obtain ⟨q0, q1, _, _, _⟩ := HK.out
  go_wp2
  generalize hwa : w.alloc (.cells #[.slice V wn dv, .slice A M.length c] 110) = wa at HK HV HM HE q0 q1 ⊢
  have HWA := Lib.hid hwa
  clear q0 q1 hwa
  go_loopw [5, 11] (fun s i wr => ∃ k : Nat, k ≤ M.length ∧ i = .int .i64 (k : Int) ∧ s = .int .i64 (K k) ∧ Hid (∃ m, wr = wa.drewN m)) (fun _ i _ => M.length - (intOf i).toNat)
  case atStart => exact ⟨0, Nat.zero_le _, rfl, by rw [HZ.out], ⟨0, rfl⟩⟩
  case round =>
    obtain ⟨k, hk, rfl, rfl, hw⟩ := hrel
    have HPr : Hid (∀ m, ∃ q, wr.drewN m = wa.drewN q) := fun m => by
      obtain ⟨q, e⟩ := hw.out
      rw [e]
      exact ⟨q + m, by simp⟩
    have HK2 : Hid (Bk2 wr w.heap.size (.slice V wn dv) (.slice A M.length c)) := by
      obtain ⟨q, e⟩ := hw.out
      rw [e]
      exact HK.out.drewN q
    have HV2 : Hid (Law.Row wr V (ivs ws)) := by
      obtain ⟨q, e⟩ := hw.out
      rw [e]
      exact HV.out.drewN q
    have HM2 : Hid (NRow wr A xs M) := by
      obtain ⟨q, e⟩ := hw.out
      rw [e]
      exact HM.out.drewN q
    have HE2 : Hid (E wr) := by
      obtain ⟨q, e⟩ := hw.out
      rw [e]
      exact HEd.out _ q HE.out
    clear hw
    obtain ⟨q0, q1, _, _, _⟩ := HK2.out
    by_cases hlt : k < M.length
    · have hltI : (k : Int) < (M.length : Int) := by omega
      obtain ⟨l, hlk⟩ : ∃ l, M[k]? = some l := ⟨_, List.getElem?_eq_getElem hlt⟩
      obtain ⟨b, off, X, dX, rfl, hbb, hc, hrow⟩ := HM2.out.row_at hlk
      obtain ⟨z, hz⟩ := HW.out k hlt
      obtain ⟨bV, oV, eV, hbV, hcV⟩ := HV2.out.at_ (ivs_some hz)
      subst eV
      have hg : M.getD k [] = l := by rw [List.getD_eq_getElem?_getD, hlk]; rfl
      have HC : Hid (∀ m, Calls Try.prog 168 #[.slice X l.length dX, pc] (wr.drewN m) fun e w' => e = .returned (.int .i64 (f l)) ∧ w' = wr.drewN m) := fun m => HL.out l X dX (wr.drewN m) (List.mem_of_getElem? hlk) (HEd.out _ m HE2.out) (hrow.drewN m)
      obtain ⟨k1, k2⟩ := HB.out k hk
      obtain ⟨n1, n2⟩ := HB.out (k + 1) (by omega)
      obtain ⟨p1, p2⟩ := HB2.out k z hlt hz
      have hS := HS.out k z hz
      rw [hg] at hS p1 p2
      have HN := Lib.hid hS
      generalize hfl : f l = fv at HC hS p1 p2 HN
      generalize hP : z * fv = P at p1 p2 HN hS
      have hw1 : IntKind.i64.wrap P = P := IntWalk.i64_in _ (by omega)
      have hw2 : IntKind.i64.wrap (K k + P) = K k + P := IntWalk.i64_in _ (by omega)
      have hkw : (k : Int) < (wn : Int) := by omega
      clear hlk hrow hz hg hS hfl n1 n2
      generalize l.length = ln at HC hc
      go_wp2
      go_quiet ((go_at_call 168; exact Calls.quiet_of_same (HC.out _)))
      go_wp2
      go_roundw
      case rel => exact ⟨k + 1, by omega, by go_num, by rw [HN.out], HPr.out _⟩
      case measure => simp [intOf]; omega
    · have hke : k = M.length := by omega
      have hltI : ¬ (k : Int) < (M.length : Int) := by omega
      have hq := HPr.out 0
      have e0 : wr.drewN 0 = wr := rfl
      rw [e0] at hq
      have HQ := Lib.hid hq
      clear hq e0 q0 q1
      have HKe : Hid (K k = K M.length) := by show _ = _; rw [hke]
      clear hke
      go_wp2
      go_ret
      exact ⟨by rw [← HKe.out]; rfl, by rw [HWA.out]; exact HQ.out⟩
end
end SumScs
end Go.Proofs.Ytammlkaclooohaa
