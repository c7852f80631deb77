/-
  The text of a list: the code's listText, and its RequestsText.
-/
import Derived.Test.YtgnfmbdomofgcaaDoorTxtS
import Derived.Test.YtgnfmbdomofgcaaDoorImpQ
import Derived.Test.YtgnfmbdomofgcaaDoorPart
import Derived.Test.YtgnfmbdomofgcaaDoorSvs
import Derived.Test.YtgnfmbdomofgcaaDoorShelf
namespace Go.Proofs.YtgnfmbdomofgcaaDoor
open Go.RowKit
set_option linter.unusedVariables false
/-- A row of texts filled from the left: what lies at each place so far. -/
def FillT (ns : List ByteArray) (k : Nat) (xs : List Value) : Prop := ∀ j, j < k → ∀ x, ns[j]? = some x → xs[j]? = some (.string x)
theorem FillT.next {ns : List ByteArray} {k : Nat} {xs : List Value} (h : FillT ns k xs) {x : ByteArray} (hx : ns[k]? = some x) (hl : k < xs.length) : FillT ns (k + 1) (xs.set k (.string x)) := fun j hj y hy => by
  rcases Nat.lt_or_ge j k with h' | h'
  · rw [List.getElem?_set_ne (by omega)]; exact h j h' y hy
  · obtain rfl : j = k := by omega
    rw [hx] at hy
    injection hy with hy
    subst hy
    rw [List.getElem?_set_self hl]
set_option maxRecDepth 100000 in
set_option maxHeartbeats 1600000 in
theorem listText_any (A : Option Addr) (c : Nat) (zs : List Int) (w : World) (h3 : zs.length ≤ 60) (hx : ∀ k, k < zs.length → ∃ x : Nat, zs[k]? = some (x : Int) ∧ x < 8) (hr : Law.Row w A (ivs zs)) :
    Calls Tryd.prog 31 #[.slice A zs.length c] w fun e w' => e = .returned (.string (txtS zs)) ∧ Below w.heap.size w w' := by
  obtain ⟨i0, hi, hz0, hz1, hz2⟩ := info_parts infoStrs
  have HR := Lib.hid hr
  have HX := Lib.hid hx
  clear hr hx
  rcases Nat.eq_zero_or_pos zs.length with h0 | h0
  · have HT : Hid (txtS zs = ⟨#[110, 111, 110, 101]⟩) := if_pos h0
    have hb : ((zs.length : Int) == 0) = true := by rw [h0]; rfl
    clear h0
    go_enter Tryd.func31, Tryd.ntmps31
    go_wp2
    all_goals
      go_ret
      exact ⟨by rw [HT.out]; rfl, Below.refl _ _⟩
  · have HT : Hid (txtS zs = jp (numsS zs) spc zs.length) := if_neg (by omega)
    have hb : ((zs.length : Int) == 0) = false := by simp; intro e; rw [e] at h0; simp at h0
    have hNL : (numsS zs).length = zs.length := by simp [numsS]
    have HJ : Hid ((⟨(Lib.join ((numsS zs).map (·.data.toList)) spc.data.toList).toArray⟩ : ByteArray) = txtS zs) := by show _ = _; rw [HT.out, jp_all, hNL]
    have HJL : Hid ((Lib.join ((numsS zs).map (·.data.toList)) spc.data.toList).length ≤ 140737488355328) := by
      have e := congrArg ByteArray.size HJ.out
      rw [HT.out] at e
      have hle := jp_le HX.out zs.length (Nat.le_refl _)
      have e2 : (⟨(Lib.join ((numsS zs).map (·.data.toList)) spc.data.toList).toArray⟩ : ByteArray).size = (Lib.join ((numsS zs).map (·.data.toList)) spc.data.toList).length := by show (List.toArray _).size = _; rw [List.size_toArray]
      show _ ≤ _
      omega
    have HNA : Hid (∀ k x, zs[k]? = some x → (numsS zs)[k]? = some (numS x)) := fun k x h => numsS_at h
    have HNL := Lib.hid hNL
    obtain ⟨ns, hns⟩ : ∃ ns, ns = numsS zs := ⟨_, rfl⟩
    rw [← hns] at HJ HJL HNA HNL
    clear hns hNL
    go_enter Tryd.func31, Tryd.ntmps31
    go_wp2_with (at_make; refine wpList_make_full _ rfl _ _ 53 rfl w.heap.size 9 i0 (.string ⟨#[]⟩) 1 Tryd.underlying53 hi hz0 hz1 .i64 .i64 _ _ zs.length rfl rfl rfl rfl ?c1 ?c2 ?c3 ?_)
    case c1 => rw [hz2]; omega
    case c2 => unfold maxLen; omega
    case c3 => exact Nat.le_refl _
    intro w1 hown hg
    have HB := Lib.hid ((Below.refl _ _).grown hg (Nat.le_refl _) (fun k e => by cases e) : Below w.heap.size w w1)
    have HO : Hid (∃ xs, w1.ownsRow w.heap.size 9 1 (.slice (some ⟨w.heap.size, 0, none⟩) zs.length zs.length) zs.length xs ∧ FillT ns 0 xs) := ⟨_, hown, fun j hj => by omega⟩
    clear hown hg
    go_wp2_with fail
    go_loopw [14] (fun i wr => ∃ k : Nat, k ≤ zs.length ∧ i = .int .i64 k ∧ Hid (∃ xs, wr.ownsRow w.heap.size 9 1 (.slice (some ⟨w.heap.size, 0, none⟩) zs.length zs.length) zs.length xs ∧ FillT ns k xs) ∧ Hid (Below w.heap.size w wr)) (fun i _ => zs.length - (intOf i).toNat)
    case atStart => exact ⟨0, Nat.zero_le _, rfl, HO.out, HB.out⟩
    case round =>
      obtain ⟨k, hk, rfl, ho, hb⟩ := hrel
      by_cases hlt : k < zs.length
      · obtain ⟨x, hx, hx8⟩ := HX.out k hlt
        obtain ⟨b, off, rfl, hbl, hc⟩ := (HR.out.stays hb.out).at_ (ivs_some hx)
        have hltI : (k : Int) < (zs.length : Int) := by omega
        obtain ⟨xs, ho1, hfill⟩ := ho.out
        have hlen : xs.length = zs.length := by have := ho1.1; simpa using this
        obtain ⟨u, hu⟩ : ∃ u, xs[k]? = some u := ⟨_, List.getElem?_eq_getElem (by omega)⟩
        have hcO : wr.cell? ⟨w.heap.size, k, none⟩ = some u := (ho1.cellAt k (by omega)).trans hu
        have hfO := ho1.frozenAt k
        have HN := Lib.hid fun W => Tryd.strconv_Itoa_small x (by omega) W
        have HD : Hid ((⟨(Lib.decDigits x).toArray⟩ : ByteArray) = numS (x : Int)) := by
          show _ = _
          unfold numS Lib.itoa
          rw [if_neg (by omega), Int.toNat_natCast]
        rw [HD.out] at HN
        have HS := Lib.hid (And.intro (ho1.stored k (.string (numS (x : Int)))).1 (hfill.next (HNA.out k _ hx) (by omega)))
        have HB' := Lib.hid (hb.out.setCell (p := ⟨w.heap.size, k, none⟩) (Nat.le_refl _) (.string (numS (x : Int))))
        clear ho ho1 hfill hb hu hx hlen
        go_wp2_with fail
        go_at_call 50
        refine (HN.out _).mono ?_
        rintro e w' ⟨rfl, hw'⟩
        obtain rfl := hw'.symm
        clear hw'
        go_wp2
        go_roundw
        case rel => exact ⟨k + 1, by omega, by go_num, ⟨_, HS.out⟩, HB'.out⟩
        case measure => simp [intOf]; omega
      · have hke : k = zs.length := by omega
        have hltI : ¬ (k : Int) < (zs.length : Int) := by omega
        obtain ⟨xs, ho1, hfill⟩ := ho.out
        have HC : Hid (∀ (j : Nat) x, ns[j]? = some x → wr.cell? ⟨w.heap.size, 0 + j, none⟩ = some (.string x)) := fun j x hx => by
          have hj : j < ns.length := (List.getElem?_eq_some_iff.1 hx).1
          have hjl : j < zs.length := by rw [← HNL.out]; exact hj
          rw [Nat.zero_add]
          exact (ho1.cellAt j (by omega)).trans (hfill j (by omega) x hx)
        have hlw := (ho1.lt w.heap.size rfl).2
        have HJN := Lib.hid (Tryd.strings_Join w.heap.size 0 zs.length ns spc wr HC.out hlw (by rw [HNL.out]; omega) (by rw [HNL.out]; exact Nat.le_refl _) HJL.out)
        rw [HNL.out, HJ.out] at HJN
        clear hke ho ho1 hfill
        go_wp2_with fail
        go_at_call 51
        refine HJN.out.mono ?_
        rintro e w' ⟨rfl, hbw⟩
        have HB2 : Hid (Below w.heap.size w w') := Law.then_ hb.out hbw
        clear hbw
        go_wp2
        go_ret
        exact ⟨rfl, HB2.out⟩
theorem impText_any (n : Int) (zs : List Int) (A : Option Addr) (c : Nat) (hl : zs.length ≤ 1048576) (w : World) (hr : Law.Row w A (ivs zs)) :
    Calls Tryd.prog 8 #[.int .i64 n, .slice A zs.length c] w fun e w' => e = .returned (.tuple #[.string (Q.txtQ n zs).1, .bool (Q.txtQ n zs).2]) ∧ Below w.heap.size w w' := by
  have HQ := Lib.hid (impIsReq_any n A c zs w hl hr)
  cases hg : Q.good n zs
  · rw [show Q.txtQ n zs = (⟨#[]⟩, false) from if_neg (by simp [hg])]
    rw [hg] at HQ
    clear hr hg
    go_enter Tryd.func8, Tryd.ntmps8
    go_wp2_with fail
    go_at_call 7
    refine (HQ.out).mono ?_
    rintro e w' ⟨rfl, hw'⟩
    obtain rfl := hw'.symm
    clear hw'
    go_wp2
    go_ret2
    exact ⟨rfl, Below.refl _ _⟩
  · rw [show Q.txtQ n zs = (txtS zs, true) from if_pos hg]
    rw [hg] at HQ
    obtain ⟨N, rfl, h1, h2, h3, hx⟩ := Q.good_nat hg
    have HT := Lib.hid (listText_any A c zs w h3 (fun k hk => by obtain ⟨x, hx, hxN⟩ := hx k hk; exact ⟨x, hx, by omega⟩) hr)
    generalize txtS zs = X at HT ⊢
    clear hr hg hx
    go_enter Tryd.func8, Tryd.ntmps8
    go_wp2_with fail
    go_at_call 7
    refine (HQ.out).mono ?_
    rintro e w' ⟨rfl, hw'⟩
    obtain rfl := hw'.symm
    clear hw'
    go_wp2_with fail
    go_at_call 31
    refine HT.out.mono ?_
    rintro e w' ⟨rfl, hb⟩
    have HB := Lib.hid hb
    clear hb
    go_wp2
    go_ret2
    exact ⟨rfl, HB.out⟩
end Go.Proofs.YtgnfmbdomofgcaaDoor
