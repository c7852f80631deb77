/-
  The model's ParseRequests: it splits, reads each word, and compares the text.
-/
import Derived.Test.YtgnfmbdomofgcaaPsm
import Derived.Test.YtgnfmbdomofgcaaParI
import Derived.Test.YtgnfmbdomofgcaaRead2
import Derived.Test.YtgnfmbdomofgcaaTxtL
namespace Go.Proofs.Ytgnfmbdomofgcaa
open Go.RowKit
set_option linter.unusedVariables false
theorem par_okN {n : Int} {s : ByteArray} (h : Q.okN n = false) : Q.parQ n s = ([], false) := Q.parQ_no fun zs hg e => by
  rw [Q.good_okN' hg] at h
  cases h
theorem svs_some {ws : List ByteArray} {k : Nat} {x : ByteArray} (h : ws[k]? = some x) : (ws.map Value.string)[k]? = some (.string x) := by rw [List.getElem?_map, h]; rfl
/-- Rows of different elements are not the same. -/
theorem own_kinds {w : World} {base base' size size' n n' : Nat} {e e' : TypeId} {v v' : Value} {xs xs' : List Value} (h : w.ownsRow base e size v n xs) (h' : w.ownsRow base' e' size' v' n' xs') (hne : e ≠ e') : v.ownBlock = none ∨ v.ownBlock ≠ v'.ownBlock := by
  rcases h.2 with ⟨rfl, _⟩ | ⟨g, cap, cur, rfl, _, hg, _⟩
  · exact .inl rfl
  · refine .inr fun hh => ?_
    rcases h'.2 with ⟨rfl, _⟩ | ⟨g', cap', cur', rfl, _, hg', _⟩
    · simp [Value.ownBlock] at hh
    · simp only [Value.ownBlock, Option.some.injEq] at hh
      subst hh
      rw [hg] at hg'
      injection hg' with hg'
      injection hg' with _ ht
      exact hne ht
set_option maxRecDepth 100000 in
set_option maxHeartbeats 3200000 in
theorem specPar_any (n : Int) (s : ByteArray) (hl : s.size ≤ 1048576) (w : World) :
    Calls Try.prog 48 #[.int .i64 n, .string s] w (rowSays (Q.parQ n s) w) := by
  obtain ⟨i0, hi, hz0, hz1, hz2⟩ := info_parts infoInts
  have b0 : Below w.heap.size w (w.alloc (.cells #[] 3)) := (Below.refl _ _).alloc (Nat.le_refl _) _
  have HB0 := Lib.hid b0
  have H0 : Hid ((w.alloc (.cells #[] 3)).ownsRow w.heap.size 3 1 (.slice (some ⟨w.heap.size, 0, none⟩) 0 0) 0 (ivs [])) := ownsRow_nil w 3
  have HI := Lib.hid fun W => l3Items_any n W
  have hsI : (s.size : Int) ≤ 1048576 := by omega
  clear b0
  cases hn : Q.okN n
  · rw [par_okN hn]
    rw [hn] at HI
    clear hn
    go_enter Try.func48, Try.ntmps48
    go_wp2_with fail
    go_at_call 73
    refine (HI.out _).mono ?_
    rintro e w' ⟨rfl, hw'⟩
    obtain rfl := hw'.symm
    clear hw'
    go_wp2
    go_ret2
    exact ⟨_, rfl, H0.out, HB0.out⟩
  · rw [hn] at HI
    have hN := Q.okN_iff.1 hn
    by_cases h4 : s = ⟨#[110, 111, 110, 101]⟩
    · subst h4
      rw [par_none, Q.ifGood_yes (by rw [good_nil]; exact hn)]
      clear hn
      go_enter Try.func48, Try.ntmps48
      go_wp2_with fail
      go_at_call 73
      refine (HI.out _).mono ?_
      rintro e w' ⟨rfl, hw'⟩
      obtain rfl := hw'.symm
      clear hw'
      go_wp2
      go_ret2
      exact ⟨_, rfl, H0.out, HB0.out⟩
    · have hne := none_ne h4
      by_cases hbig : 120 < s.size
      · rw [Q.parQ_size h4 (.inr (by omega))]
        have hbI : (120 : Int) < (s.size : Int) := by omega
        clear hn h4
        go_enter Try.func48, Try.ntmps48
        go_wp2_with fail
        go_at_call 73
        refine (HI.out _).mono ?_
        rintro e w' ⟨rfl, hw'⟩
        obtain rfl := hw'.symm
        clear hw'
        go_wp2
        go_ret2
        exact ⟨_, rfl, H0.out, HB0.out⟩
      · have hbI : ¬ (120 : Int) < (s.size : Int) := by omega
        have HSp := Lib.hid (l1Split_any s 32 (w.alloc (.cells #[] 3)) hl)
        obtain ⟨hwl, hws⟩ := Q.split_small s 32
        have HSt := Lib.hid fun (k : Nat) (x : ByteArray) (hx : (splitS s 32)[k]? = some x) (hb : ¬ ((rd x).2 = true ∧ Q.okItem n (rd x).1 = true)) => Q.rd_stop h4 hx hb
        have HLo := Lib.hid fun (h : 60 < (splitS s 32).length) => Q.rd_long (n := n) h4 h
        have HEn := Lib.hid fun (o : List Int) (h : Q.Rd n (splitS s 32) (splitS s 32).length o) (hl : o.length ≤ 60) => Q.rd_end h4 hn h hl
        obtain ⟨ws, hwE⟩ : ∃ ws, ws = splitS s 32 := ⟨_, rfl⟩
        rw [← hwE] at HSt HLo HEn
        replace hwl : ws.length ≤ 121 := by rw [hwE]; exact Nat.le_trans hwl (by omega)
        replace hws : Hid (∀ x ∈ ws, x.size ≤ 120) := by rw [hwE]; exact fun x hx => Nat.le_trans (hws x hx) (by omega)
        rw [show splitS s 32 = ws from hwE.symm] at HSp
        have HN := Lib.hid hn
        have HRd := Lib.hid fun (o : List Int) (h : Q.Rd n ws ws.length o) => Q.rd_small hn h (Nat.le_refl _)
        have HJ := Lib.hid fun x W => l1In_any x 0 (n - 1) W
        clear h4 hn hwE
        go_enter Try.func48, Try.ntmps48
        go_wp2_with fail
        go_at_call 73
        refine (HI.out _).mono ?_
        rintro e w' ⟨rfl, hw'⟩
        obtain rfl := hw'.symm
        clear hw'
        go_wp2_with fail
        go_at_call 88
        refine HSp.out.mono ?_
        rintro e w1 ⟨v1, rfl, ho, hb⟩
        obtain ⟨A1, c1, rfl, hc1, _, _⟩ := Law.own_len ho
        have HB1 : Hid (Below w.heap.size w w1) := Law.then_ HB0.out hb
        have HO1 := Lib.hid (own_past H0.out hb)
        have HW1 : Hid (w1.ownsRow w.heap.size 9 1 (.slice A1 ws.length c1) ws.length (ws.map Value.string)) := Lib.hid (own_down ho HB0.out.size)
        clear ho hb
        go_wp2_with fail
        go_loopw [6, 8] (fun v i wr => ∃ (k : Nat) (o : List Int), k ≤ ws.length ∧ i = .int .i64 k ∧ Hid (wr.ownsRow w.heap.size 3 1 v k (ivs o)) ∧ Hid (Below w.heap.size w wr) ∧ Hid (wr.ownsRow w.heap.size 9 1 (.slice A1 ws.length c1) ws.length (ws.map Value.string)) ∧ Hid (Q.Rd n ws k o)) (fun _ i _ => ws.length - (intOf i).toNat)
        case atStart => exact ⟨0, [], Nat.zero_le _, rfl, HO1.out, HB1.out, HW1.out, ⟨rfl, fun i x hi => by omega⟩⟩
        case round =>
          obtain ⟨k, o, hk, rfl, ho, hb, hw, hrd⟩ := hrel
          by_cases hlt : k < ws.length
          · obtain ⟨x, hx⟩ : ∃ x, ws[k]? = some x := ⟨_, List.getElem?_eq_getElem hlt⟩
            obtain ⟨b, off, rfl, hbl, hc⟩ := (Law.Row.own hw.out).at_ (svs_some hx)
            have hltI : (k : Int) < (ws.length : Int) := by omega
            have hxs : x.size ≤ 120 := hws.out x (List.mem_of_getElem? hx)
            have HX := Lib.hid fun W => l1Read_any x W (by omega)
            have hbd := rd_bound x
            have HNx := Lib.hid fun (z : Int) (h1 : rd x = (z, true)) (h2 : Q.okItem n z = true) => hrd.out.next hx h1 h2
            have HSx := Lib.hid fun (h : ¬ ((rd x).2 = true ∧ Q.okItem n (rd x).1 = true)) => HSt.out k x hx h
            have hol : o.length = k := hrd.out.1
            obtain ⟨⟨z, q⟩, hz⟩ : ∃ p, rd x = p := ⟨_, rfl⟩
            rw [hz] at HX HNx HSx hbd
            obtain ⟨hzb1, hzb2⟩ := hbd
            have HJz := Lib.hid fun W => HJ.out z W
            replace HJz : Hid (∀ W, Calls Try.prog 74 #[.int .i64 z, .int .i64 0, .int .i64 (n - 1)] W fun e w' => e = .returned (.bool (Q.okItem n z)) ∧ w' = W) := HJz
            clear hx hz hrd
            obtain ⟨hN1, hN2⟩ := hN
            go_wp2_with fail
            go_at_call 89
            refine (HX.out _).mono ?_
            rintro e w' ⟨rfl, m, rfl⟩
            obtain ⟨W2, hW2⟩ : ∃ W2, W2 = wr.drewN m := ⟨_, rfl⟩
            have HO2 : Hid (W2.ownsRow w.heap.size 3 1 u6 k (ivs o)) := by rw [hW2]; exact ho
            have HB2 : Hid (Below w.heap.size w W2) := by rw [hW2]; exact Lib.hid (Law.up hb.out m)
            have HW2 : Hid (W2.ownsRow w.heap.size 9 1 (.slice (some ⟨b, off, none⟩) ws.length c1) ws.length (ws.map Value.string)) := by rw [hW2]; exact hw
            rw [← hW2]
            clear hW2 ho hb hw hc
            cases q
            · have HN := Lib.hid (HSx.out (by simp))
              clear HSx HNx
              go_wp2
              go_ret2
              rw [HN.out]
              exact ⟨_, rfl, own_down (ownsRow_nil _ _) HB2.out.size, HB2.out.alloc HB2.out.size _⟩
            · cases hok : Q.okItem n z
              · have HN := Lib.hid (HSx.out (by simp [hok]))
                rw [hok] at HJz
                clear HSx HNx hok
                go_wp2_with fail
                go_at_call 74
                refine (HJz.out _).mono ?_
                rintro e w' ⟨rfl, hw'⟩
                obtain rfl := hw'.symm
                clear hw'
                go_wp2
                go_ret2
                rw [HN.out]
                exact ⟨_, rfl, own_down (ownsRow_nil _ _) HB2.out.size, HB2.out.alloc HB2.out.size _⟩
              · have HNz := Lib.hid (HNx.out z rfl hok)
                rw [hok] at HJz
                clear HSx HNx hok
                go_wp2_with fail
                go_at_call 74
                refine (HJz.out _).mono ?_
                rintro e w' ⟨rfl, hw'⟩
                obtain rfl := hw'.symm
                clear hw'
                have hsz9 := (HB2.out).size
                go_wp2_with (at_builtin; refine wpList_append_own _ rfl _ _ 24 rfl (w.heap.size) 3 i0 (.int .i64 0) 1 8 Try.underlying24 hi hz0 hz1 hz2 rfl (by decide) _ _ _ rfl ((HO2.out).alloc _) ⟨(W2).heap.size, 0, none⟩ 1 1 [.int .i64 (z)] rfl rfl ?ca9a ?ca9b ?ca9c ?ca9d ?ca9e ?_)
                case ca9a =>
                  intro j' u hj'
                  match j', hj' with
                  | 0, hj' => simp at hj'; subst hj'; simp [Addr.add]
                case ca9b => intro u hu; simp at hu; subst hu; rfl
                case ca9c => unfold maxLen; omega
                case ca9d => omega
                case ca9e => simp; omega
                intro v9 w9 hm9 hg9 _
                have HB9 := Lib.hid (((HB2.out).alloc hsz9 (.cells #[.int .i64 (z)] 3)).grown hg9 (by simp; omega) (fun j e => Nat.le_trans (by omega) ((HO2.out).lt j e).1))
                have HW9 : Hid (w9.ownsRow w.heap.size 9 1 (.slice (some ⟨b, off, none⟩) ws.length c1) ws.length (ws.map Value.string)) := Lib.hid ((HW2.out.alloc _).kept hg9 (own_kinds HW2.out HO2.out (by decide)))
                obtain ⟨o9, ho9⟩ : ∃ o9, o9 = o ++ [z] := ⟨_, rfl⟩
                have HO9 : Hid (w9.ownsRow w.heap.size 3 1 v9 (k + 1) (ivs o9)) := by
                  rw [ho9]
                  exact Lib.hid (by simpa [ivs] using hm9)
                rw [← ho9] at HNz
                clear hm9 ho9 hg9
                go_wp2
                go_roundw
                case rel => exact ⟨k + 1, o9, by omega, by go_num, HO9.out, HB9.out, HW9.out, HNz.out⟩
                case measure => simp [intOf]; omega
          · have hke : k = ws.length := by omega
            subst hke
            have hltI : ¬ (ws.length : Int) < (ws.length : Int) := by omega
            have hol : o.length = ws.length := hrd.out.1
            obtain ⟨A6, c6, rfl, hc6, _, _⟩ := Law.own_len ho.out
            by_cases hlong : 60 < ws.length
            · have HN := Lib.hid (HLo.out hlong)
              have hloI : (60 : Int) < (ws.length : Int) := by omega
              have HB2 := hb
              clear hw hrd
              go_wp2
              go_ret2
              rw [HN.out]
              exact ⟨_, rfl, own_down (ownsRow_nil _ _) HB2.out.size, HB2.out.alloc HB2.out.size _⟩
            · have HE := Lib.hid (HEn.out o hrd.out (by omega))
              have hloI : ¬ (60 : Int) < (ws.length : Int) := by omega
              have HT := Lib.hid (l3Text_any A6 c6 o wr (by omega) (HRd.out o hrd.out) (Law.Row.own ho.out))
              rw [hol] at HT
              have HLn := Lib.hid hol
              obtain ⟨t, ht⟩ : ∃ t, t = txtS o := ⟨_, rfl⟩
              rw [← ht] at HT HE
              clear ht hw hrd hol
              by_cases hts : t = s
              · have HN : Hid (Q.parQ n s = (o, true)) := by show _ = _; rw [HE.out, if_pos hts]
                subst hts
                clear HE
                go_wp2_with fail
                go_at_call 90
                refine HT.out.mono ?_
                rintro e w' ⟨rfl, m, rfl⟩
                go_wp2
                go_ret2
                rw [HN.out]
                refine ⟨.slice A6 ws.length c6, rfl, ?_, Law.up hb.out m⟩
                show World.ownsRow _ _ _ _ _ o.length _
                rw [HLn.out]
                exact ho.out
              · have HN : Hid (Q.parQ n s = ([], false)) := by show _ = _; rw [HE.out, if_neg hts]
                have hst := neq_lists hts
                clear HE hts
                go_wp2_with fail
                go_at_call 90
                refine HT.out.mono ?_
                rintro e w' ⟨rfl, m, rfl⟩
                go_wp2
                go_ret2
                rw [HN.out]
                exact ⟨_, rfl, own_down (ownsRow_nil (wr.drewN m) _) hb.out.size, (Law.up hb.out m).alloc hb.out.size _⟩
namespace LParseRequests
theorem lenX (n : Int) (s : ByteArray) : (Q.parQ n s).1.length ≤ 1048576 := Q.parQ_len n s
end LParseRequests
end Go.Proofs.Ytgnfmbdomofgcaa
