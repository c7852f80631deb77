/-
  PROVED HERE: 'Rows.FnStringsCardSaid': the law FnStrings returns true for every slice of bytes, and the slice reads afterwards as before. Conditions: the listed package variables hold what the program's text lays (the card ties them to it).
-/
import Derived.Test.YtppmepajcdldkaaDoorBad
import Derived.Test.YtppmepajcdldkaaDoorDrawS
import Derived.Test.YtppmepajcdldkaaDoorRead2
import Derived.Test.YtppmepajcdldkaaDoorCards
import Derived.Test.YtppmepajcdldkaaDoorTie
import Derived.Deep.RegionHeld3
import Derived.StillTailTactics
namespace Go.Proofs.YtppmepajcdldkaaDoor.fnStrings
open Go.ChangeShapes Go.WideShapes Go.ChangeAt Go.RowKit
open Go.ChangeMaps (open_string shut_string)
set_option linter.unusedVariables false
theorem vBig_yes (A : Option Addr) (n c : Nat) (w : World) (h : 65536 < n) : Calls Tryd.prog 5 #[.slice A n c] w fun e w' => e = .returned (.bool true) ∧ w = w' := by
  have hI : 65536 < (n : Int) := by omega
  go_enter Tryd.func5, Tryd.ntmps5
  go_wp2
  go_ret
  exact ⟨by simp, rfl⟩
theorem vBig_no (A : Option Addr) (n c : Nat) (w : World) (h : n ≤ 65536) : Calls Tryd.prog 5 #[.slice A n c] w fun e w' => e = .returned (.bool false) ∧ w = w' := by
  have hI : ¬ 65536 < (n : Int) := by omega
  go_enter Tryd.func5, Tryd.ntmps5
  go_wp2
  go_ret
  exact ⟨by simp, rfl⟩
def fmtR (n : Int) : ByteArray × Bool := if n < -999999 ∨ 999999 < n then (⟨#[]⟩, false) else (numS n, true)
theorem implFormat_at (n : Int) (w : World) (ht : Tab w) {x : ByteArray} {ok : Bool} (h : fmtR n = (x, ok)) :
    Calls Tryd.prog 7 #[.int .i64 n] w fun e w' => e = .returned (.tuple #[.string x, .bool ok]) ∧ Below w.heap.size w w' := by
  unfold fmtR at h
  split at h
  · injection h with h1 h2; subst h1; subst h2
    exact (implFormat_no n w (by assumption)).mono fun e w' ⟨he, hw⟩ => ⟨he, hw ▸ Below.refl _ _⟩
  · injection h with h1 h2; subst h1; subst h2
    exact implFormat_yes n w ht (by omega) (by omega)
theorem specFormat_at (n : Int) (w : World) {x : ByteArray} {ok : Bool} (h : fmtR n = (x, ok)) :
    Calls Tryd.prog 8 #[.int .i64 n] w fun e w' => e = .returned (.tuple #[.string x, .bool ok]) ∧ ∃ k, w' = w.drewN k := by
  unfold fmtR at h
  split at h
  · injection h with h1 h2; subst h1; subst h2
    exact (specFormat_no n w (by assumption)).mono fun e w' ⟨he, hw⟩ => ⟨he, 0, hw.symm⟩
  · injection h with h1 h2; subst h1; subst h2
    exact specFormat_yes n w (by omega) (by omega)
theorem fmtR_size {n : Int} {x : ByteArray} {ok : Bool} (h : fmtR n = (x, ok)) : x.size ≤ 20 := by
  unfold fmtR at h
  split at h
  · injection h with h1 h2; subst h1; decide
  · injection h with h1 h2; subst h1; exact numS_size n (by omega) (by omega)
theorem fmtR_rd {n : Int} {x : ByteArray} (h : fmtR n = (x, true)) : rd x = (n, true) := by
  unfold fmtR at h
  split at h
  · injection h with h1 h2; cases h2
  · injection h with h1 h2; subst h1; exact rd_yes ⟨by omega, by omega, rfl⟩
theorem implParse_at (s : ByteArray) (w : World) (hs : s.size ≤ 1048576) (ht : Tab w) (he : Errs w) {n : Int} {ok : Bool} (h : rd s = (n, ok)) :
    Calls Tryd.prog 10 #[.string s] w fun e w' => e = .returned (.tuple #[.int .i64 n, .bool ok]) ∧ Below w.heap.size w w' := by
  have := implParse_any s w hs ht he
  rw [h] at this
  exact this
theorem specParse_at (s : ByteArray) (w : World) (hs : s.size ≤ 1048576) {n : Int} {ok : Bool} (h : rd s = (n, ok)) :
    Calls Tryd.prog 11 #[.string s] w fun e w' => e = .returned (.tuple #[.int .i64 n, .bool ok]) ∧ ∃ k, w' = w.drewN k := by
  have := specParse_any s w hs
  rw [h] at this
  exact this
theorem specAppend_at (s : ByteArray) (w : World) (hs : s.size ≤ 1048576) {x : ByteArray} {ok : Bool} (h : ap s = (x, ok)) :
    Calls Tryd.prog 14 #[.string s] w fun e w' => e = .returned (.tuple #[.string x, .bool ok]) ∧ ∃ k, w' = w.drewN k := by
  have := specAppend_any s w hs
  rw [h] at this
  exact this
theorem implVerify_at (s : ByteArray) (w : World) (hs : s.size ≤ 1048576) (ht : Tab w) (hm : Mx w) {x : ByteArray} {ok : Bool} (h : vf s = (x, ok)) :
    Calls Tryd.prog 15 #[.string s] w fun e w' => e = .returned (.tuple #[.string x, .bool ok]) ∧ Below w.heap.size w w' := by
  have := implVerify_any s w hs ht hm
  rw [h] at this
  exact this
theorem ap_false {s y : ByteArray} (h : ap s = (y, false)) : y = ⟨#[]⟩ := by
  unfold ap at h
  split at h
  · injection h with h1 h2; cases h2
  · injection h with h1 h2; exact h1.symm
theorem ap_true {s y : ByteArray} (h : ap s = (y, true)) : y = sealS s ∧ s.size ≤ 4000 ∧ hasB s.data.toList 35 = false ∧ (sealS s).size ≤ 4000 := by
  unfold ap at h
  split at h
  · rename_i hok
    injection h with h1 h2
    unfold okAp at hok
    simp only [Bool.and_eq_true, decide_eq_true_eq, Bool.not_eq_true'] at hok
    exact ⟨h1.symm, hok.1.1, hok.1.2, hok.2⟩
  · injection h with h1 h2; cases h2
theorem vf_seal {s y : ByteArray} (h : ap s = (y, true)) : vf y = (s, true) := by
  obtain ⟨rfl, h1, h2, h3⟩ := ap_true h
  have e := fst_seal h2
  have := vf_yes (s := sealS s) h3 (by rw [e])
  rw [this, e]
/-- The bytes of a text, made: a new block that holds them, none of them frozen; below it all is as it was. -/
structure Made (w : World) (s : ByteArray) (W : World) (cp : Nat) : Prop where
  below : Below w.heap.size w W
  cell : ∀ j (h : j < s.size), W.cell? ⟨w.heap.size, j, none⟩ = some (.int .u8 (s[j].toNat : Int))
  fr : ∀ j (h : j < s.size), W.frozen? ⟨w.heap.size, j, none⟩ = false
theorem made_bytes (w : World) (s : ByteArray) : Made w s (Lib.bytesWorld w 5 s) (grownCap w s.size 0 5) := by
  refine ⟨Lib.bytesWorld_below _ _ _, fun j h => ?_, fun j h => ?_⟩
  · rw [Lib.bytesWorld_cell w _ s j h, List.getD_eq_getElem?_getD, List.getElem?_eq_getElem (by simpa using h)]
    rfl
  · have h1 := Lib.bytesWorld_at_new w 5 s
    have h2 : s.size ≤ (Lib.bytesCells w 5 s).size := by
      unfold Lib.bytesCells
      rw [Array.size_append, Array.size_map]
      exact Nat.le_add_right _ _
    simp only [World.frozen?, h1]
    simp
    omega
def vatV (bs : List UInt8) (i : Nat) : Nat := if h : i < bs.length then bs[i].toNat else (i * 7 + bs.length) % 256
theorem vatV_le (bs : List UInt8) (i : Nat) : vatV bs i ≤ 255 := by
  unfold vatV
  split
  · have := bs[i].toNat_lt; omega
  · omega
theorem vAt_val (A : Option Addr) (c i : Nat) (bs : List UInt8) (w : World) (hn : bs.length ≤ 65536) (hi : i ≤ 1000) (hr : Law.Row w A (bvs bs)) :
    Calls Tryd.prog 16 #[.slice A bs.length c, .int .i64 (i : Int)] w fun e w' => e = .returned (.int .i64 (vatV bs i : Int)) ∧ w' = w := by
  have HR := Lib.hid hr
  clear hr
  by_cases hlt : i < bs.length
  · obtain ⟨b, off, rfl, hb, hcl⟩ := HR.out.at_ (bvs_at hlt)
    have hltI : (i : Int) < (bs.length : Int) := by omega
    have hbt : (bs[i].toNat : Int) ≤ 255 := by have := bs[i].toNat_lt; omega
    have hv : (vatV bs i : Int) = (bs[i].toNat : Int) := by unfold vatV; rw [dif_pos hlt]
    rw [hv]
    go_enter Tryd.func16, Tryd.ntmps16
    go_wp2
    go_ret
    exact ⟨rfl, rfl⟩
  · have hltI : ¬ (i : Int) < (bs.length : Int) := by omega
    have hv : (vatV bs i : Int) = ((i : Int) * 7 + (bs.length : Int)) % 256 := by unfold vatV; rw [dif_neg hlt]; omega
    rw [hv]
    go_enter Tryd.func16, Tryd.ntmps16
    go_wp2
    go_ret
    exact ⟨rfl, rfl⟩
theorem bits_xor_u8_nat (a b : Nat) (ha : a < 256) (hb : b < 256) : bits .xor .u8 (a : Int) (b : Int) = ((a ^^^ b : Nat) : Int) := by
  have hx : a ^^^ b < 2 ^ 8 := Nat.xor_lt_two_pow (by omega) (by omega)
  have h1 : (BitVec.ofInt 8 (a : Int)).toNat = a := by
    rw [BitVec.ofInt_natCast, BitVec.toNat_ofNat]; exact Nat.mod_eq_of_lt (by omega)
  have h2 : (BitVec.ofInt 8 (b : Int)).toNat = b := by
    rw [BitVec.ofInt_natCast, BitVec.toNat_ofNat]; exact Nat.mod_eq_of_lt (by omega)
  have hw : ∀ n : Int, IntKind.u8.wrap n = n % 256 := fun n => by simp [IntKind.wrap, IntKind.bits, IntKind.signed]
  show IntKind.u8.wrap ((BitVec.ofInt 8 (a : Int) ^^^ BitVec.ofInt 8 (b : Int)).toNat : Int) = _
  rw [BitVec.toNat_xor, h1, h2, hw]
  omega
/-- The byte that is changed has another value. -/
theorem flipped (b : UInt8) (r : Nat) : ∃ c : UInt8, c ≠ b ∧ bits .xor .u8 (b.toNat : Int) (1 + (r : Int) % 255) = (c.toNat : Int) := by
  have hb := b.toNat_lt
  have hm : 1 + r % 255 < 256 := by omega
  have hx : b.toNat ^^^ (1 + r % 255) < 2 ^ 8 := Nat.xor_lt_two_pow (by omega) (by omega)
  have hc : (UInt8.ofNat (b.toNat ^^^ (1 + r % 255))).toNat = b.toNat ^^^ (1 + r % 255) := by
    rw [UInt8.toNat_ofNat']
    exact Nat.mod_eq_of_lt hx
  refine ⟨UInt8.ofNat (b.toNat ^^^ (1 + r % 255)), fun e => ?_, ?_⟩
  · have e1 := congrArg UInt8.toNat e
    rw [hc] at e1
    have e2 := congrArg (fun n => b.toNat ^^^ n) e1
    simp only [← Nat.xor_assoc, Nat.xor_self, Nat.zero_xor] at e2
    omega
  · rw [hc, ← bits_xor_u8_nat _ _ (by omega) hm]
    congr 1
theorem vf_bad {x y y' : ByteArray} {k : Nat} {c : UInt8} (h : ap x = (y, true)) (hk : k < y.size) (hc : c ≠ y[k]) (hy : y'.data.toList = y.data.toList.set k c) : vf y' = (⟨#[]⟩, false) := by
  obtain ⟨rfl, h1, h2, h3⟩ := ap_true h
  have hk' : k < (sealS x).data.toList.length := by simpa using hk
  exact vf_no (fun hh => bad_byte h2 hk' (by rw [Array.getElem_toList]; exact hc) hy hh.2)
/-- The text read back behind the store of one byte. -/
theorem Made.changed {w W : World} {s : ByteArray} {cp k : Nat} {c : UInt8} {z : Int} (h : Made w s W cp) (hk : k < s.size) (hz : z = (c.toNat : Int)) :
    ∃ y' : ByteArray, y'.size = s.size ∧ y'.data.toList = s.data.toList.set k c ∧
      (convert 22 9 (.slice (some ⟨w.heap.size, 0, none⟩) s.size cp)).run Tryd.prog (W.setCell ⟨w.heap.size, k, none⟩ (.int .u8 z)) = .ok (.string y') (W.setCell ⟨w.heap.size, k, none⟩ (.int .u8 z)) := by
  have hl : (s.data.toList.set k c).length = s.size := by simp
  have hr := run_convert_bytes_back (P := Tryd.prog) (W.setCell ⟨w.heap.size, k, none⟩ (.int .u8 z)) 22 9 5 ⟨w.heap.size, 0, none⟩ cp (s.data.toList.set k c) Tryd.underlying22 Tryd.underlying5 Tryd.underlying9 (fun j hj => by
    have hj' : j < s.size := by rw [hl] at hj; exact hj
    rw [Law.add_plain, Nat.zero_add]
    by_cases e : j = k
    · subst e
      rw [World.cell?_setCell_same (h := h.cell j hj'), hz, List.getElem_set_self]
    · have hne : (⟨w.heap.size, k, none⟩ : Addr) ≠ ⟨w.heap.size, j, none⟩ := fun e' => e (by injection e' with _ e2 _; exact e2.symm)
      rw [World.cell?_setCell_other (h := hne), h.cell j hj', List.getElem_set_ne (fun e' => e e'.symm), Array.getElem_toList]
      rfl)
  rw [hl] at hr
  exact ⟨_, (by show (List.toArray _).size = _; rw [List.size_toArray, hl]), rfl, hr⟩
theorem Made.drew {w W : World} {s : ByteArray} {cp : Nat} (h : Made w s W cp) : Made w s (W.drewN 1) cp :=
  ⟨h.below.trans (Law.draws _ _ _), fun j hj => h.cell j hj, fun j hj => h.fr j hj⟩
set_option maxRecDepth 100000 in
set_option maxHeartbeats 6400000 in
theorem walk_core (A : Option Addr) (c : Nat) (bs : List UInt8) (w : World) (hb : bs.length ≤ 65536) (hr : Law.Row w A (bvs bs)) (ht : Tab w) (he : Errs w) (hm : Mx w) :
    Calls Tryd.prog 3 #[.slice A bs.length c] w fun e w' => e = .returned (.bool true) ∧ Below w.heap.size w w' := by
  have HR := Lib.hid hr
  have HT := Lib.hid ht
  have HE := Lib.hid he
  have HM := Lib.hid hm
  clear hr ht he hm
  go_enter Tryd.func3, Tryd.ntmps3
  go_wp2_with (go_at_call 5; refine (vBig_no _ _ _ _ hb).mono ?_; rintro e w' ⟨rfl, rfl⟩)
  go_at_call 6
  refine (drawFormat_any A c bs _ hb HR.out).mono ?_
  rintro e w1 ⟨n, rfl, hn1, hn2, hb1⟩
  have B1 := Lib.hid hb1
  obtain ⟨fs, fok, hfm⟩ : ∃ fs fok, fmtR n = (fs, fok) := ⟨_, _, rfl⟩
  have hfz := fmtR_size hfm
  have HFM := Lib.hid hfm
  clear hb1 hfm
  go_wp2_with fail
  go_at_call 7
  refine (implFormat_at n _ (HT.out.stays B1.out) HFM.out).mono ?_
  rintro e w2 ⟨rfl, hb2⟩
  have B2 := Lib.hid (Law.then_ B1.out hb2)
  clear hb2
  go_wp2_with fail
  go_at_call 8
  refine (specFormat_at n _ HFM.out).mono ?_
  rintro e w2' ⟨rfl, m2, rfl⟩
  go_wp2_with fail
  go_at_call 9
  refine (drawParse_any A c bs _ hb ((HR.out.stays B2.out).drewN m2)).mono ?_
  rintro e w3 ⟨t, rfl, htz, hb3⟩
  have B3 := Lib.hid (Law.then_ B2.out (Law.undraw hb3))
  obtain ⟨pm, pok, hpm⟩ : ∃ pm pok, rd t = (pm, pok) := ⟨_, _, rfl⟩
  have HPM := Lib.hid hpm
  clear hb3 hpm
  go_wp2_with fail
  go_at_call 10
  refine (implParse_at t _ (by omega) (HT.out.stays B3.out) (HE.out.stays B3.out) HPM.out).mono ?_
  rintro e w4 ⟨rfl, hb4⟩
  have B4 := Lib.hid (Law.then_ B3.out hb4)
  clear hb4
  go_wp2_with fail
  go_at_call 11
  refine (specParse_at t _ (by omega) HPM.out).mono ?_
  rintro e w4' ⟨rfl, m4, rfl⟩
  go_wp2_with fail
  go_at_call 12
  refine (drawAppend_any A c bs _ hb ((HR.out.stays B4.out).drewN m4)).mono ?_
  rintro e w5 ⟨x, rfl, hxz, hb5⟩
  have B5 := Lib.hid (Law.then_ B4.out (Law.undraw hb5))
  obtain ⟨y, sok, hap⟩ : ∃ y sok, ap x = (y, sok) := ⟨_, _, rfl⟩
  have HAP := Lib.hid hap
  clear hb5 hap
  go_wp2_with fail
  go_at_call 13
  refine (implAppend_at x _ (by omega) (HT.out.stays B5.out) HAP.out).mono ?_
  rintro e w6 ⟨rfl, hb6⟩
  have B6 := Lib.hid (Law.then_ B5.out hb6)
  clear hb6
  go_wp2_with fail
  go_at_call 14
  refine (specAppend_at x _ (by omega) HAP.out).mono ?_
  rintro e w6' ⟨rfl, m6, rfl⟩
  obtain ⟨bk, th, hbk⟩ : ∃ bk th, rd fs = (bk, th) := ⟨_, _, rfl⟩
  have HBK := Lib.hid hbk
  clear hbk
  have B6' : Hid (Below w.heap.size w (w6.drewN m6)) := B6.out.trans (Law.draws _ _ _)
  go_wp2_with fail
  go_at_call 10
  refine (implParse_at fs _ (by omega) (HT.out.stays B6'.out) (HE.out.stays B6'.out) HBK.out).mono ?_
  rintro e w7 ⟨rfl, hb7⟩
  have B7 := Lib.hid (Law.then_ B6'.out hb7)
  clear hb7
  have hfin : (fok = true → bk = n ∧ th = true) := fun h => by
    have e1 := HFM.out
    rw [h] at e1
    have e2 := fmtR_rd e1
    rw [HBK.out] at e2
    injection e2 with e2 e3
    exact ⟨e2, e3⟩
  have HFIN := Lib.hid hfin
  clear hfin
  cases sok
  · have hy : y = ⟨#[]⟩ := ap_false HAP.out
    subst hy
    cases fok
    · go_wp2
      go_ret
      exact ⟨rfl, B7.out⟩
    · obtain ⟨h1, h2⟩ := HFIN.out rfl
      subst h1
      subst h2
      go_wp2
      go_ret
      exact ⟨rfl, B7.out⟩
  · have HVF := Lib.hid (vf_seal HAP.out)
    have hyz : y.size ≤ 4000 := by have := ap_true HAP.out; rw [this.1]; exact this.2.2.2
    have hy0 : 0 < y.size := by have := ap_true HAP.out; rw [this.1, sealS_size]; omega
    cases fok
    case' true => (obtain ⟨h1, h2⟩ := HFIN.out rfl; subst h1; subst h2)
    all_goals
      go_wp2_with fail
      go_at_call 15
      refine (implVerify_at y _ (by omega) (HT.out.stays B7.out) (HM.out.stays B7.out) HVF.out).mono ?_
      rintro e w8 ⟨rfl, hb8⟩
      have B8 := Lib.hid (Law.then_ B7.out hb8)
      clear hb8
      have hconv := Lib.run_convert_string_bytes (P := Tryd.prog) w8 9 22 5 y Tryd.underlying9 Tryd.underlying22 Tryd.underlying5
      obtain ⟨W9, cp, hW9⟩ : ∃ W9 cp, Made w8 y W9 cp ∧ (convert 9 22 (.string y)).run Tryd.prog w8 = .ok (.slice (some ⟨w8.heap.size, 0, none⟩) y.size cp) W9 := ⟨_, _, made_bytes w8 y, hconv⟩
      obtain ⟨hmd, hcv⟩ := hW9
      have HMD := Lib.hid hmd
      have B9 := Lib.hid (Law.then_ B8.out hmd.below)
      clear hconv hmd
      go_wp2_with fail
      go_at_call 16
      refine (vAt_any A c 9 bs _ hb (by omega) (HR.out.stays B9.out)).mono ?_
      rintro e w' ⟨⟨r, hr255, rfl⟩, rfl⟩
      obtain ⟨k, hk⟩ : ∃ k, k = r % y.size := ⟨_, rfl⟩
      have hlt : k < y.size := by rw [hk]; exact Nat.mod_lt _ hy0
      have hkI : (r : Int) % (y.size : Int) = (k : Int) := by rw [hk]; rfl
      have hltI : (k : Int) < (y.size : Int) := by omega
      have hyI : ¬ (y.size : Int) = 0 := by omega
      have hc9 := HMD.out.cell k hlt
      have hf9 := HMD.out.fr k hlt
      have R9 := Lib.hid (HR.out.stays B9.out)
      have hz255 : (y[k].toNat : Int) ≤ 255 := by have := y[k].toNat_lt; omega
      have hz0 : 0 ≤ (y[k].toNat : Int) := by omega
      clear hcv hk
      go_wp2_with fail
      rw [hkI]
      refine wp_region_still_tail 13 (by kernel_rfl) (by kernel_rfl) ?_
      simp only [List.take_succ_cons, List.take_zero, List.drop_succ_cons, List.drop_zero]
      repeat (first | still_call (vAt_val A c 10 bs _ hb (by omega) (by exact R9.out.drewN 1)) | still_step)
      try refine wpStill_nil ?_
      obtain ⟨W10, hW10⟩ : ∃ W, W = W9.drewN 1 := ⟨_, rfl⟩
      have R10 : Hid (Law.Row W10 A (bvs bs)) := by rw [hW10]; exact Lib.hid (R9.out.drewN 1)
      have B10 : Hid (Below w.heap.size w W10) := by rw [hW10]; exact Lib.hid (B9.out.trans (Law.draws _ W9 1))
      have HMD1 : Hid (Made w8 y W10 cp) := by rw [hW10]; exact Lib.hid HMD.out.drew
      have hc10 : W10.cell? ⟨w8.heap.size, k, none⟩ = some (.int .u8 (y[k].toNat : Int)) := by rw [hW10]; exact hc9
      have hf10 : W10.frozen? ⟨w8.heap.size, k, none⟩ = false := by rw [hW10]; exact hf9
      change wpList _ _ _ _ _ (W9.drewN 1)
      rw [← hW10]
      clear hW10
      obtain ⟨c', hcne, hcb⟩ := flipped y[k] (vatV bs 10)
      obtain ⟨y', hyl, hyd, hcv'⟩ := HMD1.out.changed hlt hcb
      have HBAD := Lib.hid (vf_bad HAP.out hlt hcne hyd)
      have hyl4 : y'.size ≤ 1048576 := by omega
      have HCV := Lib.hid hcv'
      have B11 := Lib.hid (B10.out.setCell (p := ⟨w8.heap.size, k, none⟩) B8.out.size (.int .u8 (bits .xor .u8 (y[k].toNat : Int) (1 + (vatV bs 10 : Int) % 255))))
      clear hcb hcv' hcne hyd
      go_wp2_with fail
      rw [HCV.out]
      clear hc10 hf10 hc9 hf9
      go_wp2_with fail
      go_at_call 15
      refine (implVerify_at y' _ hyl4 (HT.out.stays B11.out) (HM.out.stays B11.out) HBAD.out).mono ?_
      rintro e w12 ⟨rfl, hb12⟩
      have B12 := Lib.hid (Law.then_ B11.out hb12)
      clear hb12
      go_wp2
      go_ret
      exact ⟨by simp, B12.out⟩
theorem walk (A : Option Addr) (n c : Nat) (bs : List UInt8) (w : World) (h : bs.length = n ∧ n ≤ c ∧ c ≤ maxLen ∧ Law.Row w A (bvs bs)) (hL : laidMetH Tryd.prog Rows.fnStringsRow.laid w) (hsh : w.ShapedOpen Tryd.prog) :
    Calls Tryd.prog 3 #[.slice A n c] w fun e w' => e = .returned (.bool true) ∧ Below w.heap.size w w' := by
  obtain ⟨rfl, h1, h2, h3⟩ := h
  by_cases hb : bs.length ≤ 65536
  · exact walk_core A c bs w hb h3 (tab_of_laid5 hL) (errs_of_laid5 hL) (mx_of_shaped hsh)
  · clear hL hsh
    go_enter Tryd.func3, Tryd.ntmps3
    go_wp2_with (go_at_call 5; refine (vBig_yes _ _ _ _ (by omega)).mono ?_; rintro e w' ⟨rfl, rfl⟩)
    go_ret
    exact ⟨rfl, Below.refl _ _⟩
theorem lawOwn : ownKnob Tryd.prog.godebug = none := by kernel_rfl
theorem lawLaidOut : laidOutB Tryd.prog = true := by kernel_rfl
theorem contract (H : Type) (enc : TypeId × Value → H) (W : World) (base : Nat) (args : Array Value) (ds : List (DataW H)) (gs : List (DataW H)) (before : List MemPlace)
    (hval0 : ∀ (j : Nat) t v, Tryd.f3.params[j]? = some t → args[j]? = some v → Value.okWide Tryd.prog W .any base t v)
    (hW : DataW.Whole enc Tryd.prog Tryd.f3.params.toList Rows.fnStringsSpec.vars false W args.toList ds gs before) (hL : laidMetH Tryd.prog Rows.fnStringsRow.laid W) (hsh : W.ShapedOpen Tryd.prog) :
    Calls Tryd.prog 3 args W fun e W' => ∃ v, e = .returned v ∧ Rows.fnStringsSpec.post enc Tryd.prog Tryd.f3 false true false false W args v W' := by
  have hval : ∀ (j : Nat) t v, Tryd.f3.params[j]? = some t → args[j]? = some v → Value.okWide Tryd.prog W .any base t v := hval0
  have hW' := hW
  obtain ⟨p, q, hA0, hV, rfl, hfz, hnd⟩ := hW
  have hA : DataW.TrodAll enc Tryd.prog W 0 (fun _ => true) true Tryd.f3.params.toList args.toList ds p := hA0
  rw [Tryd.params3] at hA hval
  obtain ⟨v0, vs0, d0, ds0, p0, q0, hargs0, rfl, rfl, h0, r0⟩ := trodAll_cons hA
  obtain ⟨rfl, rfl, rfl⟩ := trodAll_nil r0
  obtain rfl : args = #[v0] := by cases args; simp_all
  obtain ⟨rfl, rfl⟩ := trodVars_none hV
  obtain ⟨A0, n0, c0, xs0, rfl, w0⟩ := Law.in_bytes Tryd.underlying22 Tryd.underlying5 (by kernel_rfl) (hval 0 22 v0 rfl rfl) h0 (fun x hx => hW'.lt x (by simp [hx]))
  clear hA0 hval0
  refine (walk A0 n0 c0 xs0 W w0 hL hsh).mono fun e W' ⟨he, hb⟩ => ?_
  subst he
  exact ⟨_, rfl, Law.close hW' rfl rfl lawLaidOut (by kernel_rfl) Tryd.underlying4 (by kernel_rfl) hb⟩
theorem reads (os : Os) {H : Type} (enc : TypeId × Value → H) : ∃ places, DataW.whole enc Tryd.prog ((laidWorld os).forCall (fun _ _ => 0) ⟨#[], #[.slice none 0 0], []⟩).memory Tryd.f3.params.toList Rows.fnStringsSpec.vars false (#[.slice none 0 0] : Array Value).toList 8 = some ([.nil], [], places) :=
  ⟨[], by kernel_rfl⟩
set_option maxRecDepth 100000 in
theorem lifted (os : Os) (started : os.Started) (H : Type) (enc : TypeId × Value → H) (F : Stop.Interp) :
    ReturnsInHanded {} Tryd.checked os 3 .any ((OpenSpec.ofChange Rows.fnStringsSpec).preRow enc Tryd.prog Tryd.f3 Rows.fnStringsRow.domain false Rows.fnStringsRow.laid) (((OpenSpec.ofChange Rows.fnStringsSpec).at F).post enc Tryd.prog Tryd.f3 false true false false) := by
  obtain ⟨places, hx⟩ := reads os enc
  refine returnsInHanded_of_row (C := Tryd.checked) (s := OpenSpec.ofChange Rows.fnStringsSpec) lawOwn started (by kernel_rfl) Tryd.func3
    (witness_row_atRef (enc := enc) (C := Tryd.checked) false (laidWorld os) #[.slice none 0 0] rfl (by kernel_rfl) (by kernel_rfl) (by kernel_rfl)
      (OpenSpec.preRow_of_cond 8 hx (by kernel_rfl) (fun k hk => by cases hk) (by kernel_rfl) (laid5_met os _))) ?_
  intro W base args ds gs before hval hW _ _ _ hL hsh _
  exact contract H enc W base args ds gs before hval hW hL hsh
theorem proved : Rows.FnStringsSaid :=
  OpenClaim.holds_of_cond 3 Tryd.f3 rfl rfl rfl rfl rfl rfl rfl ⟨rfl, rfl, rfl, rfl, rfl⟩ rfl rfl rfl rfl rfl (by kernel_rfl) Tryd.func3 (by kernel_rfl)
    (of_decide_eq_true (by kernel_rfl)) (by unfold Func.isWrapper; first | (rw [if_pos (by decide +kernel)]; kernel_rfl) | (rw [if_neg (by decide +kernel)]; exact ⟨rfl, rfl⟩))
    (fun os started H enc _ F => by rw [OpenClaim.pre_eq_preRow]; exact lifted os started H enc F)
theorem plainLaw (f : FuncId) (fn : Func) (hf : Tryd.pinned.checked.prog.funcNamed "loop.example/g01087/laws.FnStrings" = some f) (hfn : Tryd.pinned.checked.prog.funcs[f]? = some fn) :
    true = Tryd.pinned.checked.prog.looks [] ∧ ∀ (j : Nat) t, fn.params[j]? = some t → Tryd.pinned.checked.prog.wantsStandIn t = false := by
  obtain rfl : f = 3 := Option.some.inj ((show Tryd.prog.funcNamed "loop.example/g01087/laws.FnStrings" = some 3 by kernel_rfl).symm.trans hf) |>.symm
  obtain rfl : fn = Tryd.f3 := (Option.some.inj (Tryd.func3.symm.trans hfn)).symm
  refine ⟨by kernel_rfl, fun j t ht => ?_⟩
  rw [Tryd.params3] at ht
  have hm : t ∈ [22] := by simpa using Array.mem_of_getElem? ht
  have hall : ([22].all fun u => !Tryd.prog.wantsStandIn u) = true := by kernel_rfl
  exact (show Tryd.prog.wantsStandIn t = false by simpa using List.all_eq_true.1 hall t hm)
theorem card : Rows.FnStringsCardSaid :=
  Claim7.holds_tied_plain_at .later [] _ _ _ _ proved (fun _ h => by cases h) (by kernel_rfl) (fun _ h => by cases h) fnStrings_row_tie rfl ⟨rfl, rfl⟩ (by kernel_rfl) rfl plainLaw (by kernel_rfl)
end Go.Proofs.YtppmepajcdldkaaDoor.fnStrings
