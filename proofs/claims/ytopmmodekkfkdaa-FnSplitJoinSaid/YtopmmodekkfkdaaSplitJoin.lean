/-
  PROVED HERE: 'Rows.FnSplitJoinSaid': the law FnSplitJoin returns true for every slice of bytes, and the slice reads afterwards as before. Conditions: none but the row's own cells.
-/
import Derived.Test.YtopmmodekkfkdaaSJ
import Derived.Test.YtopmmodekkfkdaaDraw
import Derived.Test.YtopmmodekkfkdaaJoinAny
import Derived.Deep.DeepHandedRow
import Derived.Stop.Joined
namespace Go.Proofs.Ytopmmodekkfkdaa.splitJoin
open Go.ChangeShapes Go.WideShapes Go.ChangeAt Go.RowKit
open Go.ChangeMaps (open_string shut_string)
set_option linter.unusedVariables false
theorem less_asymm : ∀ x y : List UInt8, Op.bytesLess x y = true → Op.bytesLess y x = false
  | [], [], h => by simp [Op.bytesLess] at h
  | [], _ :: _, _ => by simp [Op.bytesLess]
  | _ :: _, [], h => by simp [Op.bytesLess] at h
  | a :: x, b :: y, h => by
    simp only [Op.bytesLess, Bool.or_eq_true, Bool.and_eq_true, decide_eq_true_eq, beq_iff_eq] at h
    simp only [Op.bytesLess, Bool.or_eq_false_iff, Bool.and_eq_false_iff, decide_eq_false_iff_not]
    rcases h with h | ⟨rfl, h⟩
    · refine ⟨UInt8.lt_asymm h, .inl ?_⟩
      rw [beq_eq_false_iff_ne]
      intro e
      subst e
      exact UInt8.lt_irrefl _ h
    · exact ⟨UInt8.lt_irrefl _, .inr (less_asymm x y h)⟩
def lessB (a b : ByteArray) : Bool := Op.bytesLess a.toList b.toList
theorem lessB_asymm {a b : ByteArray} (h : lessB a b = true) : lessB b a = false := less_asymm _ _ h
theorem vBig_yes (A : Option Addr) (n c : Nat) (w : World) (h : 65536 < n) : Calls Try.prog 8 #[.slice A n c] w fun e w' => e = .returned (.bool true) ∧ w = w' := by
  have hI : 65536 < (n : Int) := by omega
  go_enter Try.func8, Try.ntmps8
  go_wp2
  go_ret
  exact ⟨by simp, rfl⟩
theorem vBig_no (A : Option Addr) (n c : Nat) (w : World) (h : n ≤ 65536) : Calls Try.prog 8 #[.slice A n c] w fun e w' => e = .returned (.bool false) ∧ w = w' := by
  have hI : ¬ 65536 < (n : Int) := by omega
  go_enter Try.func8, Try.ntmps8
  go_wp2
  go_ret
  exact ⟨by simp, rfl⟩
theorem implLess_any (a b : ByteArray) (w : World) : Calls Try.prog 15 #[.string a, .string b] w fun e w' => e = .returned (.bool (lessB a b)) ∧ w = w' := by
  go_enter Try.func15, Try.ntmps15
  go_wp2
  go_ret
  exact ⟨rfl, rfl⟩
theorem specLess_any (a b : ByteArray) (w : World) : Calls Try.prog 16 #[.string a, .string b] w fun e w' => e = .returned (.bool (lessB a b)) ∧ w = w' := by
  go_enter Try.func16, Try.ntmps16
  go_wp2
  go_ret
  exact ⟨rfl, rfl⟩
theorem implSplit_at (s sep : ByteArray) (w : World) (hs : s.size ≤ 1048576) (hz : sep.size ≤ 1048576) {ps : List ByteArray} {ok : Bool} (h : sq s sep = (ps, ok)) :
    Calls Try.prog 10 #[.string s, .string sep] w fun e w' => ∃ v, e = .returned (.tuple #[v, .bool ok]) ∧ w'.ownsRow w.heap.size 9 1 v ps.length (svs ps) ∧ Below w.heap.size w w' := by
  have := implSplit_any s sep w hs hz
  unfold SplitSays at this
  rw [h] at this
  exact this
theorem implJoin_at (A : Option Addr) (c : Nat) (ss : List ByteArray) (sep : ByteArray) (w : World) (hc : ss.length ≤ c) (hn : ss.length ≤ 1048576) (hz : ∀ s ∈ ss, s.size ≤ 1048576) (hr : Law.Row w A (svs ss)) {x : ByteArray} {ok : Bool} (h : jq ss sep = (x, ok)) :
    Calls Try.prog 12 #[.slice A ss.length c, .string sep] w fun e w' => e = .returned (.tuple #[.string x, .bool ok]) ∧ Below w.heap.size w w' := by
  have := implJoin_any A c ss sep w hc hn hz hr
  rw [h] at this
  exact this
theorem specJoin_at (A : Option Addr) (c : Nat) (ss : List ByteArray) (sep : ByteArray) (w : World) (hn : ss.length ≤ 1048576) (hz : ∀ s ∈ ss, s.size ≤ 1048576) (hr : Law.Row w A (svs ss)) {x : ByteArray} {ok : Bool} (h : jq ss sep = (x, ok)) :
    Calls Try.prog 13 #[.slice A ss.length c, .string sep] w fun e w' => e = .returned (.tuple #[.string x, .bool ok]) ∧ ∃ m, w' = w.drewN m := by
  have := specJoin_any A c ss sep w hn hz hr
  rw [h] at this
  exact this
theorem split_sizes (s : ByteArray) (b : UInt8) : ∀ p ∈ splitS s b, p.size ≤ s.size := by
  have h : ∀ k, ∀ p ∈ (sp s b k).1, p.size ≤ s.size := by
    intro k
    induction k with
    | zero => intro p hp; simp [sp] at hp
    | succ k ih =>
      intro p hp
      simp only [sp] at hp
      split at hp
      · rcases List.mem_append.1 hp with hp | hp
        · exact ih p hp
        · obtain rfl := List.mem_singleton.1 hp
          rw [ByteArray.size_extract]; omega
      · exact ih p hp
  intro p hp
  unfold splitS at hp
  rcases List.mem_append.1 hp with hp | hp
  · exact h _ p hp
  · obtain rfl := List.mem_singleton.1 hp
    rw [ByteArray.size_extract]; omega
theorem sq_bad' {s sep : ByteArray} (h : ¬ sep.size = 1) : sq s sep = ([], false) := sq_bad (by omega)
set_option maxHeartbeats 6400000 in
theorem walk_core (A : Option Addr) (c : Nat) (bs : List UInt8) (w : World) (hb : bs.length ≤ 65536) (hr : Law.Row w A (bvs bs)) :
    Calls Try.prog 3 #[.slice A bs.length c] w fun e w' => e = .returned (.bool true) ∧ Below w.heap.size w w' := by
  have HR := Lib.hid hr
  clear hr
  go_enter Try.func3, Try.ntmps3
  go_wp2_with (go_at_call 8; refine (vBig_no _ _ _ _ hb).mono ?_; rintro e w' ⟨rfl, rfl⟩)
  go_at_call 9
  refine (drawSplit_any A c bs _ hb HR.out).mono ?_
  rintro e w1 ⟨s, sep, rfl, hs, hsep, hb1⟩
  have B1 := Lib.hid hb1
  clear hb1
  obtain ⟨ps, ok, hsq⟩ : ∃ ps ok, sq s sep = (ps, ok) := ⟨_, _, rfl⟩
  have HSQ := Lib.hid hsq
  have hpl : ps.length ≤ 4001 := by have := sq_len s sep; rw [hsq] at this; exact this
  clear hsq
  go_wp2_with fail
  go_at_call 10
  refine (implSplit_at s sep _ (by omega) (by omega) HSQ.out).mono ?_
  rintro e w2 ⟨v2, rfl, ho2, hb2⟩
  obtain ⟨A2, c2, rfl, hc2, _, _⟩ := Law.own_len ho2
  have R2 := Lib.hid (Law.Row.own ho2)
  have B2 := Lib.hid (Law.then_ B1.out hb2)
  clear ho2 hb2
  go_wp2_with fail
  go_at_call 11
  refine (drawJoin_any A c bs _ hb (HR.out.stays B2.out)).mono ?_
  rintro e w3 ⟨v3, ss, mk, rfl, ho3, hss, hsz, hmk, hb3⟩
  obtain ⟨A3, c3, rfl, hc3, _, _⟩ := Law.own_len ho3
  have R3 := Lib.hid (Law.Row.own ho3)
  have R23 := Lib.hid (R2.out.stays hb3)
  have B3 := Lib.hid (Law.then_ B2.out hb3)
  have HZ : Hid (∀ x ∈ ss, x.size ≤ 1048576) := fun x hx => Nat.le_trans (hsz x hx) (by omega)
  obtain ⟨jx, jok, hjq⟩ : ∃ x ok, jq ss mk = (x, ok) := ⟨_, _, rfl⟩
  have HJQ := Lib.hid hjq
  clear ho3 hb3 hsz hjq
  go_wp2_with fail
  go_at_call 12
  refine (implJoin_at A3 c3 ss mk _ hc3 (by omega) HZ.out R3.out HJQ.out).mono ?_
  rintro e w4 ⟨rfl, hb4⟩
  have R34 := Lib.hid (R3.out.stays hb4)
  have R24 := Lib.hid (R23.out.stays hb4)
  have B4 := Lib.hid (Law.then_ B3.out hb4)
  clear hb4
  go_wp2_with fail
  go_at_call 13
  refine (specJoin_at A3 c3 ss mk _ (by omega) HZ.out R34.out HJQ.out).mono ?_
  rintro e w5 ⟨rfl, m5, rfl⟩
  go_wp2_with fail
  go_at_call 14
  refine (drawLess_any A c bs _ hb ((HR.out.stays B4.out).drewN m5)).mono ?_
  rintro e w6 ⟨a, b, rfl, ha, hbz, hb6⟩
  have R26 := Lib.hid (R24.out.stays (Law.undraw hb6))
  have B6 := Lib.hid (Law.then_ B4.out (Law.undraw hb6))
  clear hb6
  have L1 := fun w => implLess_any a b w
  have L2 := fun w => implLess_any b a w
  have L3 := fun w => specLess_any a b w
  have hcase : (lessB a b = true ∧ lessB b a = false) ∨ lessB a b = false := by
    cases h : lessB a b
    · exact .inr rfl
    · exact .inl ⟨rfl, lessB_asymm h⟩
  rcases hcase with ⟨h1, h2⟩ | h1
  · rw [h1] at L1 L3
    rw [h2] at L2
    have H1 := Lib.hid L1
    have H2 := Lib.hid L2
    have H3 := Lib.hid L3
    clear L1 L2 L3 h1 h2
    by_cases hq : sep.size = 1
    · have h0 : 0 < sep.size := by omega
      have hsj := split_join s sep (by omega) h0 (by omega)
      have e1 := HSQ.out
      rw [sq_good (by omega) h0 (by omega)] at e1
      injection e1 with e1 e2
      subst e2
      rw [e1] at hsj
      have HSJ := Lib.hid hsj
      have HZ2 : Hid (∀ x ∈ ps, x.size ≤ 1048576) := fun x hx => by rw [← e1] at hx; have := split_sizes s sep[0] x hx; omega
      have hqI : ((sep.size : Int) != 1) = false := by rw [bne_eq_false_iff_eq]; omega
      clear hsj e1 hq
      go_wp2_with (first | (go_at_call 15; (first | (with_reducible refine (H1.out _).mono ?_) | (with_reducible refine (H2.out _).mono ?_)); rintro e w' ⟨rfl, rfl⟩) | (go_at_call 16; refine (H3.out _).mono ?_; rintro e w' ⟨rfl, rfl⟩) | (go_at_call 12; refine (implJoin_at A2 c2 ps sep _ hc2 (by omega) HZ2.out R26.out HSJ.out).mono ?_; rintro e w7 ⟨rfl, hb7⟩))
      go_ret
      exact ⟨rfl, Law.then_ B6.out hb7⟩
    · have e1 := HSQ.out
      rw [sq_bad' hq] at e1
      injection e1 with e1 e2
      subst e2
      subst e1
      have hqI : ((sep.size : Int) != 1) = true := by rw [bne_iff_ne]; omega
      clear hq
      go_wp2_with (first | (go_at_call 15; (first | (with_reducible refine (H1.out _).mono ?_) | (with_reducible refine (H2.out _).mono ?_)); rintro e w' ⟨rfl, rfl⟩) | (go_at_call 16; refine (H3.out _).mono ?_; rintro e w' ⟨rfl, rfl⟩))
      go_ret
      exact ⟨rfl, B6.out⟩
  · rw [h1] at L1 L3
    have H1 := Lib.hid L1
    have H3 := Lib.hid L3
    clear L1 L2 L3 h1
    by_cases hq : sep.size = 1
    · have h0 : 0 < sep.size := by omega
      have hsj := split_join s sep (by omega) h0 (by omega)
      have e1 := HSQ.out
      rw [sq_good (by omega) h0 (by omega)] at e1
      injection e1 with e1 e2
      subst e2
      rw [e1] at hsj
      have HSJ := Lib.hid hsj
      have HZ2 : Hid (∀ x ∈ ps, x.size ≤ 1048576) := fun x hx => by rw [← e1] at hx; have := split_sizes s sep[0] x hx; omega
      have hqI : ((sep.size : Int) != 1) = false := by rw [bne_eq_false_iff_eq]; omega
      clear hsj e1 hq
      go_wp2_with (first | (go_at_call 15; refine (H1.out _).mono ?_; rintro e w' ⟨rfl, rfl⟩) | (go_at_call 16; refine (H3.out _).mono ?_; rintro e w' ⟨rfl, rfl⟩) | (go_at_call 12; refine (implJoin_at A2 c2 ps sep _ hc2 (by omega) HZ2.out R26.out HSJ.out).mono ?_; rintro e w7 ⟨rfl, hb7⟩))
      go_ret
      exact ⟨rfl, Law.then_ B6.out hb7⟩
    · have e1 := HSQ.out
      rw [sq_bad' hq] at e1
      injection e1 with e1 e2
      subst e2
      subst e1
      have hqI : ((sep.size : Int) != 1) = true := by rw [bne_iff_ne]; omega
      clear hq
      go_wp2_with (first | (go_at_call 15; refine (H1.out _).mono ?_; rintro e w' ⟨rfl, rfl⟩) | (go_at_call 16; refine (H3.out _).mono ?_; rintro e w' ⟨rfl, rfl⟩))
      go_ret
      exact ⟨rfl, B6.out⟩
theorem walk (A : Option Addr) (n c : Nat) (bs : List UInt8) (w : World) (h : bs.length = n ∧ n ≤ c ∧ c ≤ maxLen ∧ Law.Row w A (bvs bs)) (hL : laidMetH Try.prog Rows.fnSplitJoinRow.laid w) (hsh : w.ShapedOpen Try.prog) :
    Calls Try.prog 3 #[.slice A n c] w fun e w' => e = .returned (.bool true) ∧ Below w.heap.size w w' := by
  obtain ⟨rfl, h1, h2, h3⟩ := h
  by_cases hb : bs.length ≤ 65536
  · exact walk_core A c bs w hb h3
  · clear hL hsh
    go_enter Try.func3, Try.ntmps3
    go_wp2_with (go_at_call 8; refine (vBig_yes _ _ _ _ (by omega)).mono ?_; rintro e w' ⟨rfl, rfl⟩)
    go_ret
    exact ⟨rfl, Below.refl _ _⟩
theorem lawOwn : ownKnob Try.prog.godebug = none := by kernel_rfl
theorem lawLaidOut : laidOutB Try.prog = true := by kernel_rfl
theorem contract (H : Type) (enc : TypeId × Value → H) (W : World) (base : Nat) (args : Array Value) (ds : List (DataW H)) (gs : List (DataW H)) (before : List MemPlace)
    (hval0 : ∀ (j : Nat) t v, Try.f3.params[j]? = some t → args[j]? = some v → Value.okWide Try.prog W .any base t v)
    (hW : DataW.Whole enc Try.prog Try.f3.params.toList Rows.fnSplitJoinSpec.vars false W args.toList ds gs before) (hL : laidMetH Try.prog Rows.fnSplitJoinRow.laid W) (hsh : W.ShapedOpen Try.prog) :
    Calls Try.prog 3 args W fun e W' => ∃ v, e = .returned v ∧ Rows.fnSplitJoinSpec.post enc Try.prog Try.f3 false true false false W args v W' := by
  have hval : ∀ (j : Nat) t v, Try.f3.params[j]? = some t → args[j]? = some v → Value.okWide Try.prog W .any base t v := hval0
  have hW' := hW
  obtain ⟨p, q, hA0, hV, rfl, hfz, hnd⟩ := hW
  have hA : DataW.TrodAll enc Try.prog W 0 (fun _ => true) true Try.f3.params.toList args.toList ds p := hA0
  rw [Try.params3] at hA hval
  obtain ⟨v0, vs0, d0, ds0, p0, q0, hargs0, rfl, rfl, h0, r0⟩ := trodAll_cons hA
  obtain ⟨rfl, rfl, rfl⟩ := trodAll_nil r0
  obtain rfl : args = #[v0] := by cases args; simp_all
  obtain ⟨rfl, rfl⟩ := trodVars_none hV
  obtain ⟨A0, n0, c0, xs0, rfl, w0⟩ := Law.in_bytes Try.underlying22 Try.underlying5 (by kernel_rfl) (hval 0 22 v0 rfl rfl) h0 (fun x hx => hW'.lt x (by simp [hx]))
  clear hA0 hval0
  refine (walk A0 n0 c0 xs0 W w0 hL hsh).mono fun e W' ⟨he, hb⟩ => ?_
  subst he
  exact ⟨_, rfl, Law.close hW' rfl rfl lawLaidOut (by kernel_rfl) Try.underlying4 (by kernel_rfl) hb⟩
theorem reads (os : Os) {H : Type} (enc : TypeId × Value → H) : ∃ places, DataW.whole enc Try.prog ((World.holding Try.prog os ⟨#[], #[], []⟩).forCall (fun _ _ => 0) ⟨#[], #[.slice none 0 0], []⟩).memory Try.f3.params.toList Rows.fnSplitJoinSpec.vars false (#[.slice none 0 0] : Array Value).toList 8 = some ([.nil], [], places) :=
  ⟨[], by kernel_rfl⟩
set_option maxRecDepth 100000 in
theorem lifted (os : Os) (started : os.Started) (H : Type) (enc : TypeId × Value → H) (F : Stop.Interp) :
    ReturnsInHanded {} Try.checked os 3 .any ((OpenSpec.ofChange Rows.fnSplitJoinSpec).preRow enc Try.prog Try.f3 Rows.fnSplitJoinRow.domain false Rows.fnSplitJoinRow.laid) (((OpenSpec.ofChange Rows.fnSplitJoinSpec).at F).post enc Try.prog Try.f3 false true false false) := by
  obtain ⟨places, hx⟩ := reads os enc
  refine returnsInHanded_of_row (C := Try.checked) (s := OpenSpec.ofChange Rows.fnSplitJoinSpec) lawOwn started (by kernel_rfl) Try.func3
    (witness_row_at (enc := enc) (C := Try.checked) false (World.holding Try.prog os ⟨#[], #[], []⟩) #[.slice none 0 0] rfl (by kernel_rfl) (by kernel_rfl) (by kernel_rfl)
      (OpenSpec.preRow_of_cond 8 hx (by kernel_rfl) (fun k hk => by cases hk) (by kernel_rfl) (laidMet_nil _ _))) ?_
  intro W base args ds gs before hval hW _ _ _ hL hsh _
  exact contract H enc W base args ds gs before hval hW hL hsh
theorem proved : Rows.FnSplitJoinSaid :=
  OpenClaim.holds_of_cond 3 Try.f3 rfl rfl rfl rfl rfl rfl rfl ⟨rfl, rfl, rfl, rfl, rfl⟩ rfl rfl rfl rfl rfl (by kernel_rfl) Try.func3 (by kernel_rfl)
    (of_decide_eq_true (by kernel_rfl)) (by unfold Func.isWrapper; first | (rw [if_pos (by decide +kernel)]; kernel_rfl) | (rw [if_neg (by decide +kernel)]; exact ⟨rfl, rfl⟩))
    (fun os started H enc _ F => by rw [OpenClaim.pre_eq_preRow]; exact lifted os started H enc F)
end Go.Proofs.Ytopmmodekkfkdaa.splitJoin
