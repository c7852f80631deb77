/-
  The contracts of the program's and of the model's JoinStrings: both end as 'jn' says.
-/
import Derived.Test.YtopmmodekkfkdaaStrs
import Derived.Test.YtopmmodekkfkdaaHas
import Derived.Lib.Join
import Derived.Laws.Concat
import Derived.ShutString
namespace Go.Proofs.Ytopmmodekkfkdaa
open Go.RowKit
/-- The first k strings, joined. -/
def jp (ss : List ByteArray) (sep : ByteArray) : Nat → ByteArray
  | 0 => ⟨#[]⟩
  | k + 1 => (if 0 < k then jp ss sep k ++ sep else jp ss sep k) ++ ss.getD k ⟨#[]⟩
theorem jp_succ {ss : List ByteArray} {sep : ByteArray} {k : Nat} (h : k < ss.length) : jp ss sep (k + 1) = (if 0 < k then jp ss sep k ++ sep else jp ss sep k) ++ ss[k] := by
  simp only [jp]; rw [List.getD_eq_getElem?_getD, List.getElem?_eq_getElem h]; rfl
theorem jp_size {ss : List ByteArray} {sep : ByteArray} (h1 : sep.size = 1) : ∀ {k : Nat}, k ≤ ss.length → 0 < k → (jp ss sep k).size + 1 = tot ss k + k
  | 0, _, h => absurd h (by omega)
  | k + 1, hk, _ => by
    have hk' : k < ss.length := by omega
    rw [jp_succ hk', tot_succ hk']
    by_cases h0 : 0 < k
    · rw [if_pos h0, ByteArray.size_append, ByteArray.size_append]
      have := jp_size h1 (ss := ss) (sep := sep) (k := k) (by omega) h0
      omega
    · obtain rfl : k = 0 := by omega
      rw [if_neg h0, ByteArray.size_append]
      have e : (jp ss sep 0).size = 0 := rfl
      rw [e, tot_zero]
theorem jp_mono {ss : List ByteArray} {sep : ByteArray} (h1 : sep.size = 1) {k : Nat} (hk : k < ss.length) : (jp ss sep (k + 1)).size ≤ (jp ss sep ss.length).size := by
  have h2 := jp_size h1 (ss := ss) (sep := sep) (k := k + 1) (by omega) (by omega)
  have h3 := jp_size h1 (ss := ss) (sep := sep) (k := ss.length) (Nat.le_refl _) (by omega)
  have h4 := tot_le hk
  have h5 := tot_succ hk
  omega
theorem jp_list (ss : List ByteArray) (sep : ByteArray) : ∀ k, k ≤ ss.length → (jp ss sep k).data.toList = Lib.join ((ss.take k).map (·.data.toList)) sep.data.toList
  | 0, _ => rfl
  | k + 1, hk => by
    have ih := jp_list ss sep k (by omega)
    have app : ∀ a b : ByteArray, (a ++ b).data.toList = a.data.toList ++ b.data.toList := fun a b => by simp
    have hk' : k < ss.length := by omega
    rw [jp_succ hk', List.take_succ_eq_append_getElem hk', List.map_append, List.map_cons, List.map_nil]
    by_cases h0 : 0 < k
    · rw [if_pos h0, app, app, ih]
      obtain ⟨x, r, hx⟩ : ∃ x r, (ss.take k).map (·.data.toList) = x :: r := by
        cases hh : (ss.take k).map (·.data.toList) with
        | nil =>
          have := congrArg List.length hh
          rw [List.length_map, List.length_take, List.length_nil] at this
          omega
        | cons x r => exact ⟨x, r, rfl⟩
      rw [hx, List.cons_append, Lib.join_cons, Lib.join_cons]
      simp [Lib.joinTail, List.append_assoc]
    · obtain rfl : k = 0 := by omega
      rw [if_neg h0, app, ih]
      simp [Lib.join_nil, Lib.join_one]
theorem jp_all (ss : List ByteArray) (sep : ByteArray) : (⟨(Lib.join (ss.map (·.data.toList)) sep.data.toList).toArray⟩ : ByteArray) = jp ss sep ss.length := by
  have := jp_list ss sep ss.length (Nat.le_refl _)
  rw [List.take_length] at this
  rw [← this]
/-- The strings can be joined. -/
structure OkJ (ss : List ByteArray) (sep : ByteArray) (b : UInt8) : Prop where
  ne : 0 < ss.length
  no : ∀ k (h : k < ss.length), hasB ss[k].data.toList b = false
  le : (jp ss sep ss.length).size ≤ 4000
open Classical in
/-- How JoinStrings ends at a separator of the one byte b. -/
noncomputable def jn (ss : List ByteArray) (sep : ByteArray) (b : UInt8) : ByteArray × Bool := if OkJ ss sep b then (jp ss sep ss.length, true) else (⟨#[]⟩, false)
theorem jn_yes {ss : List ByteArray} {sep : ByteArray} {b : UInt8} (h : OkJ ss sep b) : jn ss sep b = (jp ss sep ss.length, true) := by unfold jn; rw [if_pos h]
theorem jn_no {ss : List ByteArray} {sep : ByteArray} {b : UInt8} (h : ¬ OkJ ss sep b) : jn ss sep b = (⟨#[]⟩, false) := by unfold jn; rw [if_neg h]
theorem ret_jn {a b : ByteArray × Bool} (h : a = b) : Ending.returned (.tuple #[.string a.1, .bool a.2]) = .returned (.tuple #[.string b.1, .bool b.2]) := by rw [h]
theorem okj_has {ss : List ByteArray} {sep : ByteArray} {b : UInt8} {k : Nat} (h : k < ss.length) (hh : hasB ss[k].data.toList b = true) : ¬ OkJ ss sep b := fun ho => by
  have := ho.no k h; rw [hh] at this; cases this
theorem okj_long {ss : List ByteArray} {sep : ByteArray} {b : UInt8} (h1 : sep.size = 1) {k : Nat} (h : k < ss.length) (hh : 4000 < (jp ss sep (k + 1)).size) : ¬ OkJ ss sep b := fun ho => by
  have := ho.le; have := jp_mono h1 h (sep := sep); omega
theorem sep_one {sep : ByteArray} (h : sep.size = 1) : ∃ b, sep = ⟨#[b]⟩ := by
  obtain ⟨⟨l⟩⟩ := sep
  match l, h with
  | [b], _ => exact ⟨b, rfl⟩
/-- A separator that has not one byte, or no strings: both fail. -/
theorem implJoin_bad (A : Option Addr) (c : Nat) (ss : List ByteArray) (sep : ByteArray) (w : World) (h : ss.length = 0 ∨ sep.size ≠ 1) :
    Calls Try.prog 12 #[.slice A ss.length c, .string sep] w fun e w' => e = .returned (.tuple #[.string ⟨#[]⟩, .bool false]) ∧ w = w' := by
  by_cases h0 : ss.length = 0
  · have h0' : ((ss.length : Int) == 0) = true := by rw [h0]; rfl
    clear h h0
    go_enter Try.func12, Try.ntmps12
    go_wp2
    all_goals (go_ret2; exact ⟨rfl, rfl⟩)
  · have h1 : ¬ ((sep.size : Int) = 1) := by omega
    have hne : ¬ ss = [] := fun e => h0 (by rw [e]; rfl)
    clear h h0
    go_enter Try.func12, Try.ntmps12
    go_wp2
    · go_ret2
      exact ⟨rfl, rfl⟩
    · have hq : ((ss.length : Int) == 0) = false ∧ ((sep.size : Int) != 1) = false := by assumption
      exact absurd (by simpa using hq.2) h1
theorem specJoin_bad (A : Option Addr) (c : Nat) (ss : List ByteArray) (sep : ByteArray) (w : World) (h : ss.length = 0 ∨ sep.size ≠ 1) :
    Calls Try.prog 13 #[.slice A ss.length c, .string sep] w fun e w' => e = .returned (.tuple #[.string ⟨#[]⟩, .bool false]) ∧ w = w' := by
  by_cases h1 : sep.size = 1
  · have h0 : (ss.length : Int) = 0 := by omega
    have h1' : (sep.size : Int) = 1 := by omega
    clear h h1
    go_enter Try.func13, Try.ntmps13
    go_wp2
    all_goals (go_ret2; exact ⟨rfl, rfl⟩)
  · have h1' : ¬ ((sep.size : Int) = 1) := by omega
    clear h h1
    go_enter Try.func13, Try.ntmps13
    go_wp2
    all_goals (go_ret2; exact ⟨rfl, rfl⟩)
theorem sep_eq {sep : ByteArray} (h : 0 < sep.size) (h1 : sep.size = 1) : sep = ⟨#[sep[0]]⟩ := by
  obtain ⟨b, rfl⟩ := sep_one h1
  rfl
theorem containsSep_yes (s sep : ByteArray) (w : World) (h : 0 < sep.size) (h1 : sep.size = 1) (hh : hasB s.data.toList sep[0] = true) :
    Calls Try.prog 30 #[.string s, .string sep] w fun e w' => e = .returned (.bool true) ∧ w = w' := by
  have := contains_yes s sep[0] w hh
  rw [← sep_eq h h1] at this
  exact this
theorem containsSep_no (s sep : ByteArray) (w : World) (h : 0 < sep.size) (h1 : sep.size = 1) (hh : hasB s.data.toList sep[0] = false) :
    Calls Try.prog 30 #[.string s, .string sep] w fun e w' => e = .returned (.bool false) ∧ w = w' := by
  have := contains_no s sep[0] w hh
  rw [← sep_eq h h1] at this
  exact this
/-- None of the first k strings has the byte. -/
def noneHas (ss : List ByteArray) (b : UInt8) (k : Nat) : Prop := ∀ j (h : j < ss.length), j < k → hasB ss[j].data.toList b = false
theorem noneHas_succ {ss : List ByteArray} {b : UInt8} {k : Nat} (h : noneHas ss b k) (hk : k < ss.length) (hh : hasB ss[k].data.toList b = false) : noneHas ss b (k + 1) := fun j hj hjk => by
  by_cases e : j = k
  · subst e; exact hh
  · exact h j hj (by omega)
set_option maxHeartbeats 1600000 in
theorem implJoin_good (A : Option Addr) (c : Nat) (ss : List ByteArray) (sep : ByteArray) (w : World) (hc : ss.length ≤ c) (hn : ss.length ≤ 1048576) (hn0 : 0 < ss.length) (hz : ∀ s ∈ ss, s.size ≤ 1048576) (hs0 : 0 < sep.size) (hs1 : sep.size = 1) (hr : Law.Row w A (svs ss)) :
    Calls Try.prog 12 #[.slice A ss.length c, .string sep] w fun e w' => e = .returned (.tuple #[.string (jn ss sep sep[0]).1, .bool (jn ss sep sep[0]).2]) ∧ Below w.heap.size w w' := by
  have HR := Lib.hid hr
  have HZ := Lib.hid hz
  have H1 := Lib.hid hs1
  have h1 : ((sep.size : Int) != 1) = false := by rw [hs1]; rfl
  have hne : ((ss.length : Int) == 0) = false := by rw [beq_eq_false_iff_ne]; omega
  clear hr hz hs1
  go_enter Try.func12, Try.ntmps12
  go_wp2
  go_loop [6, 19] (fun f i => ∃ k : Nat, k ≤ ss.length ∧ i = .int .i64 k ∧ ∃ m : Int, f = .int .i64 m ∧ Hid (m = 4001 - (tot ss k : Int) - k) ∧ 0 ≤ m ∧ m ≤ 4001 ∧ Hid (noneHas ss sep[0] k)) (fun _ i => ss.length - (intOf i).toNat)
  case atStart => exact ⟨0, Nat.zero_le _, rfl, _, rfl, (by show (4001 : Int) = _; rw [tot_zero]; omega), by omega, by omega, fun j _ h => absurd h (by omega)⟩
  case round =>
    obtain ⟨k, hk, rfl, m, rfl, hm, hm0, hm1, hno⟩ := hrel
    by_cases hlt : k < ss.length
    · obtain ⟨b, off, rfl, hb, hcl⟩ := HR.out.at_ (svs_at hlt)
      have hsz := HZ.out _ (List.getElem_mem hlt)
      have HT := Lib.hid (tot_succ hlt)
      have HJ := Lib.hid (jp_size H1.out (ss := ss) (sep := sep) (k := k + 1) (by omega) (by omega))
      by_cases h2 : m ≤ (ss[k].size : Int)
      · go_wp2
        go_ret2
        refine ⟨(ret_jn (jn_no (okj_long H1.out hlt ?_))).symm, Below.refl _ _⟩
        have e1 := HJ.out
        have e2 := HT.out
        have e3 := hm.out
        omega
      · by_cases h3 : hasB ss[k].data.toList sep[0] = true
        · have H3 := Lib.hid h3
          clear h3
          go_wp2_with (go_at_call 30; refine (containsSep_yes _ _ _ hs0 H1.out H3.out).mono ?_; rintro e w' ⟨rfl, rfl⟩)
          go_ret2
          exact ⟨(ret_jn (jn_no (okj_has hlt H3.out))).symm, Below.refl _ _⟩
        · have H3 := Lib.hid (Bool.eq_false_iff.2 h3)
          clear h3
          go_wp2_with (go_at_call 30; refine (containsSep_no _ _ _ hs0 H1.out H3.out).mono ?_; rintro e w' ⟨rfl, rfl⟩)
          go_round
          case rel => exact ⟨k + 1, by omega, by go_num, _, rfl, (by show m - ((ss[k].size : Int) + 1) = _; rw [HT.out, hm.out]; omega), by omega, by omega, noneHas_succ hno.out hlt H3.out⟩
          case measure => simp [intOf]; omega
    · have hke : k = ss.length := by omega
      have HJ := Lib.hid (jp_size H1.out (ss := ss) (sep := sep) (k := ss.length) (Nat.le_refl _) hn0)
      have HO : Hid (OkJ ss sep sep[0]) := by
        refine ⟨hn0, fun j hj => hno.out j hj (by omega), ?_⟩
        have e1 := HJ.out
        have e3 := hm.out
        rw [hke] at e3
        omega
      have HL : Hid ((Lib.join (ss.map (·.data.toList)) sep.data.toList).length ≤ 140737488355328) := by
        have e1 := congrArg ByteArray.size (jp_all ss sep)
        rw [size_of_list] at e1
        have := HO.out.le
        show _ ≤ _
        omega
      clear hke
      obtain ⟨b, off, rfl, hb, hcl⟩ := HR.out (fun e => by rw [List.map_eq_nil_iff] at e; rw [e] at hn0; simp at hn0)
      have HC : Hid (∀ (j : Nat) x, ss[j]? = some x → w.cell? ⟨b, off + j, none⟩ = some (.string x)) := fun j x hx => hcl j (.string x) (by rw [List.getElem?_map, hx]; rfl)
      clear hcl
      go_wp2_with (go_at_call 31; refine (Try.strings_Join b off c ss sep _ HC.out hb (by omega) hc HL.out).mono ?_; rintro e w' ⟨rfl, hbw⟩)
      go_ret2
      have e : jn ss sep sep[0] = (⟨(Lib.join (ss.map (·.data.toList)) sep.data.toList).toArray⟩, true) := (jn_yes HO.out).trans (by rw [jp_all])
      exact ⟨(ret_jn e).symm, hbw⟩
set_option maxHeartbeats 1600000 in
theorem specJoin_good (A : Option Addr) (c : Nat) (ss : List ByteArray) (sep : ByteArray) (w : World) (hn : ss.length ≤ 1048576) (hn0 : 0 < ss.length) (hz : ∀ s ∈ ss, s.size ≤ 1048576) (hs0 : 0 < sep.size) (hs1 : sep.size = 1) (hr : Law.Row w A (svs ss)) :
    Calls Try.prog 13 #[.slice A ss.length c, .string sep] w fun e w' => e = .returned (.tuple #[.string (jn ss sep sep[0]).1, .bool (jn ss sep sep[0]).2]) ∧ ∃ m, w' = w.drewN m := by
  have HR := Lib.hid hr
  have HZ := Lib.hid hz
  have H1 := Lib.hid hs1
  have h1 : ((sep.size : Int) != 1) = false := by rw [hs1]; rfl
  have hne : ((ss.length : Int) == 0) = false := by rw [beq_eq_false_iff_ne]; omega
  clear hr hz hs1
  go_enter Try.func13, Try.ntmps13
  go_wp2
  go_loopw [6, 7] (fun o i wr => ∃ k m : Nat, k ≤ ss.length ∧ i = .int .i64 k ∧ o = .string (jp ss sep k) ∧ wr = w.drewN m ∧ (jp ss sep k).size ≤ 4000 ∧ Hid (noneHas ss sep[0] k)) (fun _ i _ => ss.length - (intOf i).toNat)
  case atStart => exact ⟨0, 0, Nat.zero_le _, rfl, rfl, rfl, (by show 0 ≤ 4000; omega), fun j _ h => absurd h (by omega)⟩
  case round =>
    obtain ⟨k, m, hk, rfl, rfl, rfl, hj, hno⟩ := hrel
    by_cases hlt : k < ss.length
    · obtain ⟨b, off, rfl, hb, hcl⟩ := HR.out.at_ (svs_at hlt)
      have hsz := HZ.out _ (List.getElem_mem hlt)
      have hlt' : (k : Int) < (ss.length : Int) := by omega
      have hs0' : 0 < (sep.size : Int) := by omega
      have ST := fun w => (l1Stands_any ss[k] sep[0] w (by omega)).mono fun e w' (h : e = _ ∧ w = w') => And.intro h.1 h.2.symm
      have HST := Lib.hid ST
      clear ST
      by_cases h3 : hasB ss[k].data.toList sep[0] = true
      · have ST3 := HST.out
        rw [h3] at ST3
        have HST3 := Lib.hid ST3
        have H3 := Lib.hid h3
        clear ST3 HST h3
        go_wp2
        go_quiet ((go_at_call 32; exact Law.quiet_more HST3.out))
        go_wp2
        go_ret2
        exact ⟨(ret_jn (jn_no (okj_has hlt H3.out))).symm, _, World.drewN_drewN _ _ _⟩
      · have h3' := Bool.eq_false_iff.2 h3
        clear h3
        have ST3 := HST.out
        rw [h3'] at ST3
        have HST3 := Lib.hid ST3
        have H3 := Lib.hid h3'
        clear ST3 HST h3'
        have HJ := Lib.hid (jp_succ (sep := sep) hlt)
        have hs2 : sep.size ≤ 1 := by rw [H1.out]; exact Nat.le_refl _
        by_cases h0 : 0 < k
        · have HJ : jp ss sep (k + 1) = jp ss sep k ++ sep ++ ss[k] := by rw [HJ.out, if_pos h0]
          have HJ2 : Hid (jp ss sep (k + 1) = jp ss sep k ++ sep ++ ss[k]) := HJ
          have HS2 : Hid ((jp ss sep (k + 1)).size = (jp ss sep k).size + sep.size + ss[k].size) := by show _ = _; rw [HJ2.out]; simp
          clear HJ
          by_cases h4 : (jp ss sep k).size + sep.size + ss[k].size ≤ 4000
          · go_wp2
            go_quiet ((go_at_call 32; exact Law.quiet_more HST3.out))
            go_wp2
            go_roundw
            case rel => exact ⟨k + 1, _, by omega, by go_num, by rw [HJ2.out], rfl, by rw [HS2.out]; exact h4, noneHas_succ hno.out hlt H3.out⟩
            case measure => simp [intOf]; omega
          · go_wp2
            go_quiet ((go_at_call 32; exact Law.quiet_more HST3.out))
            go_wp2
            go_ret2
            refine ⟨(ret_jn (jn_no (okj_long H1.out hlt ?_))).symm, _, rfl⟩
            rw [HS2.out]; omega
        · have HJ : jp ss sep (k + 1) = jp ss sep k ++ ss[k] := by rw [HJ.out, if_neg h0]
          have HJ2 : Hid (jp ss sep (k + 1) = jp ss sep k ++ ss[k]) := HJ
          have HS2 : Hid ((jp ss sep (k + 1)).size = (jp ss sep k).size + ss[k].size) := by show _ = _; rw [HJ2.out]; simp
          clear HJ
          by_cases h4 : (jp ss sep k).size + ss[k].size ≤ 4000
          · go_wp2
            go_quiet ((go_at_call 32; exact Law.quiet_more HST3.out))
            go_wp2
            go_roundw
            case rel => exact ⟨k + 1, _, by omega, by go_num, by rw [HJ2.out], rfl, by rw [HS2.out]; exact h4, noneHas_succ hno.out hlt H3.out⟩
            case measure => simp [intOf]; omega
          · go_wp2
            go_quiet ((go_at_call 32; exact Law.quiet_more HST3.out))
            go_wp2
            go_ret2
            refine ⟨(ret_jn (jn_no (okj_long H1.out hlt ?_))).symm, _, rfl⟩
            rw [HS2.out]; omega
    · have hke : k = ss.length := by omega
      have HO : Hid (OkJ ss sep sep[0]) := ⟨hn0, fun j hj' => hno.out j hj' (by omega), by rw [← hke]; exact hj⟩
      have HK := Lib.hid hke
      clear hke
      go_wp2
      go_ret2
      have e : jn ss sep sep[0] = (jp ss sep k, true) := (jn_yes HO.out).trans (by rw [HK.out])
      exact ⟨(ret_jn e).symm, m, rfl⟩
/-- How JoinStrings ends, whatever the separator. -/
noncomputable def jq (ss : List ByteArray) (sep : ByteArray) : ByteArray × Bool := if ss.length = 0 ∨ sep.size ≠ 1 then (⟨#[]⟩, false) else if h : 0 < sep.size then jn ss sep sep[0] else (⟨#[]⟩, false)
theorem jq_bad {ss : List ByteArray} {sep : ByteArray} (h : ss.length = 0 ∨ sep.size ≠ 1) : jq ss sep = (⟨#[]⟩, false) := by unfold jq; rw [if_pos h]
theorem jq_good {ss : List ByteArray} {sep : ByteArray} (h : ¬ (ss.length = 0 ∨ sep.size ≠ 1)) (h0 : 0 < sep.size) : jq ss sep = jn ss sep sep[0] := by unfold jq; rw [if_neg h, dif_pos h0]
end Go.Proofs.Ytopmmodekkfkdaa
