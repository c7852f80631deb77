/-
  The contract of the model's ParseFrac: it ends as the code's.
-/
import Derived.Test.YtppmepajcdldkabDoorPMath2
namespace Go.Proofs.YtppmepajcdldkabDoor
open Go.RowKit Go.Sort
set_option linter.unusedVariables false
/-- Behind the search: the first number (v1, o1) is read; the second one too. -/
theorem ext_size (s : ByteArray) (a b : Nat) : (s.extract a b).size ≤ s.size := by
  rw [ByteArray.size_extract]
  omega
set_option maxHeartbeats 400000 in
theorem specPF_any (s : ByteArray) (w : World) (hs : s.size ≤ 1048576) :
    Calls Tryd.prog 8 #[.string s] w fun e w' => e = .returned (res (pfi s)) ∧ Below w.heap.size w w' := by
  go_enter Tryd.func8, Tryd.ntmps8
  go_wp2
  go_loop [4] (fun i => ∃ k : Nat, k ≤ s.size ∧ i = .int .i64 (k : Int) ∧ Hid (noSlash s k)) (fun i => s.size - (intOf i).toNat)
  case atStart => exact ⟨0, Nat.zero_le _, rfl, fun i _ h => by omega⟩
  case round =>
    obtain ⟨k, hk, rfl, hno⟩ := hrel
    by_cases hlt : k < s.size
    · have hltI : (k : Int) < (s.size : Int) := by omega
      by_cases hat : s[k] = 47
      · have hatI : (s[k].toNat : Int) = 47 := by rw [hat]; rfl
        have HP := Lib.hid (cut_eq hlt hno.out hat)
        have HA := Lib.hid fun W => l2Number_any (s.extract 0 k) W (Nat.le_trans (ext_size s 0 k) hs)
        have HB := Lib.hid fun W => l2Number_any (s.extract (k + 1) s.size) W (Nat.le_trans (ext_size s (k + 1) s.size) hs)
        have i1 := ln_in (s.extract 0 k)
        have i2 := ln_in (s.extract (k + 1) s.size)
        clear hat hno
        obtain ⟨xa, hxa⟩ : ∃ a, s.extract 0 k = a := ⟨_, rfl⟩
        obtain ⟨xb, hxb⟩ : ∃ b, s.extract (k + 1) s.size = b := ⟨_, rfl⟩
        rw [hxa] at HP HA i1
        rw [hxb] at HP HB i2
        generalize ln xa = X1 at HP HA i1
        generalize ln xb = X2 at HP HB i2
        obtain ⟨v1, o1⟩ := X1
        obtain ⟨v2, o2⟩ := X2
        dsimp only at i1 i2
        have HG := Lib.hid fun W => l2Good_any v1 v2 W
        have HX := Lib.hid fun W => l2Text_any v1 v2 W (by omega) (by omega) (by omega) (by omega)
        clear i1 i2
        cases o1
        · have HR : Hid (pfi s = (0, 0, false)) := HP.out.symm.trans (if_neg fun h => Bool.noConfusion h.1.1)
          clear HP
          go_wp2_with (first | (go_at_call_of 15 xa; refine (HA.out _).mono ?_; rintro e w' ⟨rfl, hw'⟩; subst hw') | (go_at_call_of 15 xb; refine (HB.out _).mono ?_; rintro e w' ⟨rfl, hw'⟩; subst hw'))
          refine ret_frac (b := w.heap.size) (x := .int .i64 0) (y := .int .i64 0) rfl rfl rfl ⟨by go_simp, by go_simp, by go_simp, by go_simp⟩ rfl ⟨by rw [HR.out]; rfl, ?_⟩
          (repeat (first | exact Below.refl _ _ | refine Below.setCell ?_ (by first | omega | (simp; omega) | (simp; done)) _ | refine Below.drew ?_ | refine Law.up ?_ _ | refine Below.alloc ?_ (by first | omega | (simp; omega) | (simp; done)) _ | refine Law.then_ ?_ (Hid.out (by assumption))))
        · cases o2
          · have HR : Hid (pfi s = (0, 0, false)) := HP.out.symm.trans (if_neg fun h => Bool.noConfusion h.1.2)
            clear HP
            go_wp2_with (first | (go_at_call_of 15 xa; refine (HA.out _).mono ?_; rintro e w' ⟨rfl, hw'⟩; subst hw') | (go_at_call_of 15 xb; refine (HB.out _).mono ?_; rintro e w' ⟨rfl, hw'⟩; subst hw'))
            refine ret_frac (b := w.heap.size) (x := .int .i64 0) (y := .int .i64 0) rfl rfl rfl ⟨by go_simp, by go_simp, by go_simp, by go_simp⟩ rfl ⟨by rw [HR.out]; rfl, ?_⟩
            (repeat (first | exact Below.refl _ _ | refine Below.setCell ?_ (by first | omega | (simp; omega) | (simp; done)) _ | refine Below.drew ?_ | refine Law.up ?_ _ | refine Below.alloc ?_ (by first | omega | (simp; omega) | (simp; done)) _ | refine Law.then_ ?_ (Hid.out (by assumption))))
          · by_cases hg : F.good v1 v2 = true
            · by_cases ht : txt v1 v2 = s
              · have HR : Hid (pfi s = (v1, v2, true)) := HP.out.symm.trans (if_pos ⟨⟨rfl, rfl⟩, hg, ht⟩)
                rw [hg] at HG
                have hts : txt v1 v2 = s := ht
                clear hg ht
                clear HP
                go_wp2_with (first | (go_at_call_of 15 xa; refine (HA.out _).mono ?_; rintro e w' ⟨rfl, hw'⟩; subst hw') | (go_at_call_of 15 xb; refine (HB.out _).mono ?_; rintro e w' ⟨rfl, hw'⟩; subst hw'))
                go_wp2_with fail
                go_at_call 11
                refine (HG.out _).mono ?_
                rintro e w1 ⟨rfl, hb1⟩
                have B1 : Hid (Below w.heap.size w w1) := Lib.hid (Law.then_ (by (repeat (first | exact Below.refl _ _ | refine Below.setCell ?_ (by first | omega | (simp; omega) | (simp; done)) _ | refine Below.drew ?_ | refine Law.up ?_ _ | refine Below.alloc ?_ (by first | omega | (simp; omega) | (simp; done)) _ | refine Law.then_ ?_ (Hid.out (by assumption))))) hb1)
                have sz1 := hb1.size; (try simp at sz1)
                obtain ⟨c10, c11, f10, f11⟩ := Blk.below (b := w.heap.size) (x := .int .i64 0) (y := .int .i64 0) ⟨by go_simp, by go_simp, by go_simp, by go_simp⟩ hb1 (by first | omega | (simp; omega) | (simp; done))
                obtain ⟨c20, c21, f20, f21⟩ := Blk.below (b := w.heap.size + 1) (x := .int .i64 v1) (y := .int .i64 v2) ⟨by go_simp, by go_simp, by go_simp, by go_simp⟩ hb1 (by first | omega | (simp; omega) | (simp; done))
                clear hb1
                go_wp2_with fail
                go_at_call 12
                refine (HX.out _).mono ?_
                rintro e w2 ⟨rfl, hb2⟩
                have B2 : Hid (Below w.heap.size w w2) := Lib.hid (Law.then_ (by (repeat (first | exact Below.refl _ _ | refine Below.setCell ?_ (by first | omega | (simp; omega) | (simp; done)) _ | refine Below.drew ?_ | refine Law.up ?_ _ | refine Below.alloc ?_ (by first | omega | (simp; omega) | (simp; done)) _ | refine Law.then_ ?_ (Hid.out (by assumption))))) hb2)
                have sz2 := hb2.size; (try simp at sz2)
                obtain ⟨c30, c31, f30, f31⟩ := Blk.below (b := w.heap.size) (x := .int .i64 0) (y := .int .i64 0) ⟨by go_simp, by go_simp, by go_simp, by go_simp⟩ hb2 (by first | omega | (simp; omega) | (simp; done))
                obtain ⟨c40, c41, f40, f41⟩ := Blk.below (b := w.heap.size + 1) (x := .int .i64 v1) (y := .int .i64 v2) ⟨by go_simp, by go_simp, by go_simp, by go_simp⟩ hb2 (by first | omega | (simp; omega) | (simp; done))
                clear hb2 c10 c11 f10 f11 c20 c21 f20 f21
                go_wp2
                refine ret_frac (b := w.heap.size) (x := .int .i64 v1) (y := .int .i64 v2) rfl rfl rfl ⟨by go_simp, by go_simp, by go_simp, by go_simp⟩ rfl ⟨by rw [HR.out]; rfl, ?_⟩
                (repeat (first | exact Below.refl _ _ | refine Below.setCell ?_ (by first | omega | (simp; omega) | (simp; done)) _ | refine Below.drew ?_ | refine Law.up ?_ _ | refine Below.alloc ?_ (by first | omega | (simp; omega) | (simp; done)) _ | refine Law.then_ ?_ (Hid.out (by assumption))))
              · have HR : Hid (pfi s = (0, 0, false)) := HP.out.symm.trans (if_neg fun h => ht h.2.2)
                rw [hg] at HG
                have hts := neq_lists (a := txt v1 v2) (b := s) ht
                clear hg ht
                clear HP
                go_wp2_with (first | (go_at_call_of 15 xa; refine (HA.out _).mono ?_; rintro e w' ⟨rfl, hw'⟩; subst hw') | (go_at_call_of 15 xb; refine (HB.out _).mono ?_; rintro e w' ⟨rfl, hw'⟩; subst hw'))
                go_wp2_with fail
                go_at_call 11
                refine (HG.out _).mono ?_
                rintro e w1 ⟨rfl, hb1⟩
                have B1 : Hid (Below w.heap.size w w1) := Lib.hid (Law.then_ (by (repeat (first | exact Below.refl _ _ | refine Below.setCell ?_ (by first | omega | (simp; omega) | (simp; done)) _ | refine Below.drew ?_ | refine Law.up ?_ _ | refine Below.alloc ?_ (by first | omega | (simp; omega) | (simp; done)) _ | refine Law.then_ ?_ (Hid.out (by assumption))))) hb1)
                have sz1 := hb1.size; (try simp at sz1)
                obtain ⟨c10, c11, f10, f11⟩ := Blk.below (b := w.heap.size) (x := .int .i64 0) (y := .int .i64 0) ⟨by go_simp, by go_simp, by go_simp, by go_simp⟩ hb1 (by first | omega | (simp; omega) | (simp; done))
                obtain ⟨c20, c21, f20, f21⟩ := Blk.below (b := w.heap.size + 1) (x := .int .i64 v1) (y := .int .i64 v2) ⟨by go_simp, by go_simp, by go_simp, by go_simp⟩ hb1 (by first | omega | (simp; omega) | (simp; done))
                clear hb1
                go_wp2_with fail
                go_at_call 12
                refine (HX.out _).mono ?_
                rintro e w2 ⟨rfl, hb2⟩
                have B2 : Hid (Below w.heap.size w w2) := Lib.hid (Law.then_ (by (repeat (first | exact Below.refl _ _ | refine Below.setCell ?_ (by first | omega | (simp; omega) | (simp; done)) _ | refine Below.drew ?_ | refine Law.up ?_ _ | refine Below.alloc ?_ (by first | omega | (simp; omega) | (simp; done)) _ | refine Law.then_ ?_ (Hid.out (by assumption))))) hb2)
                have sz2 := hb2.size; (try simp at sz2)
                obtain ⟨c30, c31, f30, f31⟩ := Blk.below (b := w.heap.size) (x := .int .i64 0) (y := .int .i64 0) ⟨by go_simp, by go_simp, by go_simp, by go_simp⟩ hb2 (by first | omega | (simp; omega) | (simp; done))
                obtain ⟨c40, c41, f40, f41⟩ := Blk.below (b := w.heap.size + 1) (x := .int .i64 v1) (y := .int .i64 v2) ⟨by go_simp, by go_simp, by go_simp, by go_simp⟩ hb2 (by first | omega | (simp; omega) | (simp; done))
                clear hb2 c10 c11 f10 f11 c20 c21 f20 f21
                go_wp2
                refine ret_frac (b := w.heap.size) (x := .int .i64 0) (y := .int .i64 0) rfl rfl rfl ⟨by go_simp, by go_simp, by go_simp, by go_simp⟩ rfl ⟨by rw [HR.out]; rfl, ?_⟩
                (repeat (first | exact Below.refl _ _ | refine Below.setCell ?_ (by first | omega | (simp; omega) | (simp; done)) _ | refine Below.drew ?_ | refine Law.up ?_ _ | refine Below.alloc ?_ (by first | omega | (simp; omega) | (simp; done)) _ | refine Law.then_ ?_ (Hid.out (by assumption))))
            · have HR : Hid (pfi s = (0, 0, false)) := HP.out.symm.trans (if_neg fun h => hg h.2.1)
              rw [Bool.eq_false_iff.2 hg] at HG
              clear hg
              clear HP
              go_wp2_with (first | (go_at_call_of 15 xa; refine (HA.out _).mono ?_; rintro e w' ⟨rfl, hw'⟩; subst hw') | (go_at_call_of 15 xb; refine (HB.out _).mono ?_; rintro e w' ⟨rfl, hw'⟩; subst hw'))
              go_wp2_with fail
              go_at_call 11
              refine (HG.out _).mono ?_
              rintro e w1 ⟨rfl, hb1⟩
              have B1 : Hid (Below w.heap.size w w1) := Lib.hid (Law.then_ (by (repeat (first | exact Below.refl _ _ | refine Below.setCell ?_ (by first | omega | (simp; omega) | (simp; done)) _ | refine Below.drew ?_ | refine Law.up ?_ _ | refine Below.alloc ?_ (by first | omega | (simp; omega) | (simp; done)) _ | refine Law.then_ ?_ (Hid.out (by assumption))))) hb1)
              have sz1 := hb1.size; (try simp at sz1)
              obtain ⟨c10, c11, f10, f11⟩ := Blk.below (b := w.heap.size) (x := .int .i64 0) (y := .int .i64 0) ⟨by go_simp, by go_simp, by go_simp, by go_simp⟩ hb1 (by first | omega | (simp; omega) | (simp; done))
              obtain ⟨c20, c21, f20, f21⟩ := Blk.below (b := w.heap.size + 1) (x := .int .i64 v1) (y := .int .i64 v2) ⟨by go_simp, by go_simp, by go_simp, by go_simp⟩ hb1 (by first | omega | (simp; omega) | (simp; done))
              clear hb1
              go_wp2
              refine ret_frac (b := w.heap.size) (x := .int .i64 0) (y := .int .i64 0) rfl rfl rfl ⟨by go_simp, by go_simp, by go_simp, by go_simp⟩ rfl ⟨by rw [HR.out]; rfl, ?_⟩
              (repeat (first | exact Below.refl _ _ | refine Below.setCell ?_ (by first | omega | (simp; omega) | (simp; done)) _ | refine Below.drew ?_ | refine Law.up ?_ _ | refine Below.alloc ?_ (by first | omega | (simp; omega) | (simp; done)) _ | refine Law.then_ ?_ (Hid.out (by assumption))))
      · have hatI : ¬ (s[k].toNat : Int) = 47 := fun e => hat (UInt8.toNat_inj.1 (by have : (47 : UInt8).toNat = 47 := rfl; omega))
        have HN : Hid (noSlash s (k + 1)) := fun i h hi => by
          rcases Nat.lt_or_ge i k with h' | h'
          · exact hno.out i h h'
          · obtain rfl : i = k := by omega
            exact hat
        clear hat
        go_wp2
        go_round
        case rel => exact ⟨k + 1, by omega, by go_num, HN.out⟩
        case measure => simp [intOf]; omega
    · have hke : k = s.size := by omega
      have hltI : ¬ (k : Int) < (s.size : Int) := by omega
      have he : s.extract 0 k = s := ba_ext (by rw [Lib.extract_data, List.drop_zero, Nat.sub_zero, List.take_of_length_le (by have : s.data.toList.length = s.size := Array.length_toList; omega)])
      have HP := Lib.hid (whole_eq (s := s) (by have := hno.out; rw [hke] at this; exact this))
      have HA := Lib.hid fun W => l2Number_any s W hs
      have i1 := ln_in s
      generalize ln s = X1 at HP HA i1
      rw [← he] at HA
      obtain ⟨v1, o1⟩ := X1
      dsimp only at i1
      have HG := Lib.hid fun W => l2Good_any v1 1 W
      have HX := Lib.hid fun W => l2Text_any v1 1 W (by omega) (by omega) (by omega) (by omega)
      have HK := Lib.hid hke
      clear i1 hke hno he hlt
      cases o1
      · have HR : Hid (pfi s = (0, 0, false)) := HP.out.symm.trans (if_neg fun h => Bool.noConfusion h.1)
        clear HP
        go_wp2_with ((go_at_call 15; refine (HA.out _).mono ?_; rintro e w' ⟨rfl, hw'⟩; subst hw'))
        refine ret_frac (b := w.heap.size) (x := .int .i64 0) (y := .int .i64 0) rfl rfl rfl ⟨by go_simp, by go_simp, by go_simp, by go_simp⟩ rfl ⟨by rw [HR.out]; rfl, ?_⟩
        (repeat (first | exact Below.refl _ _ | refine Below.setCell ?_ (by first | omega | (simp; omega) | (simp; done)) _ | refine Below.drew ?_ | refine Law.up ?_ _ | refine Below.alloc ?_ (by first | omega | (simp; omega) | (simp; done)) _ | refine Law.then_ ?_ (Hid.out (by assumption))))
      · by_cases hg : F.good v1 1 = true
        · by_cases ht : txt v1 1 = s
          · have HR : Hid (pfi s = (v1, 1, true)) := HP.out.symm.trans (if_pos ⟨rfl, hg, ht⟩)
            rw [hg] at HG
            have hts : txt v1 1 = s := ht
            clear hg ht
            clear HP
            go_wp2_with ((go_at_call 15; refine (HA.out _).mono ?_; rintro e w' ⟨rfl, hw'⟩; subst hw'))
            go_wp2_with fail
            go_at_call 11
            refine (HG.out _).mono ?_
            rintro e w1 ⟨rfl, hb1⟩
            have B1 : Hid (Below w.heap.size w w1) := Lib.hid (Law.then_ (by (repeat (first | exact Below.refl _ _ | refine Below.setCell ?_ (by first | omega | (simp; omega) | (simp; done)) _ | refine Below.drew ?_ | refine Law.up ?_ _ | refine Below.alloc ?_ (by first | omega | (simp; omega) | (simp; done)) _ | refine Law.then_ ?_ (Hid.out (by assumption))))) hb1)
            have sz1 := hb1.size; (try simp at sz1)
            obtain ⟨c10, c11, f10, f11⟩ := Blk.below (b := w.heap.size) (x := .int .i64 0) (y := .int .i64 0) ⟨by go_simp, by go_simp, by go_simp, by go_simp⟩ hb1 (by first | omega | (simp; omega) | (simp; done))
            obtain ⟨c20, c21, f20, f21⟩ := Blk.below (b := w.heap.size + 1) (x := .int .i64 v1) (y := .int .i64 1) ⟨by go_simp, by go_simp, by go_simp, by go_simp⟩ hb1 (by first | omega | (simp; omega) | (simp; done))
            clear hb1
            go_wp2_with fail
            go_at_call 12
            refine (HX.out _).mono ?_
            rintro e w2 ⟨rfl, hb2⟩
            have B2 : Hid (Below w.heap.size w w2) := Lib.hid (Law.then_ (by (repeat (first | exact Below.refl _ _ | refine Below.setCell ?_ (by first | omega | (simp; omega) | (simp; done)) _ | refine Below.drew ?_ | refine Law.up ?_ _ | refine Below.alloc ?_ (by first | omega | (simp; omega) | (simp; done)) _ | refine Law.then_ ?_ (Hid.out (by assumption))))) hb2)
            have sz2 := hb2.size; (try simp at sz2)
            obtain ⟨c30, c31, f30, f31⟩ := Blk.below (b := w.heap.size) (x := .int .i64 0) (y := .int .i64 0) ⟨by go_simp, by go_simp, by go_simp, by go_simp⟩ hb2 (by first | omega | (simp; omega) | (simp; done))
            obtain ⟨c40, c41, f40, f41⟩ := Blk.below (b := w.heap.size + 1) (x := .int .i64 v1) (y := .int .i64 1) ⟨by go_simp, by go_simp, by go_simp, by go_simp⟩ hb2 (by first | omega | (simp; omega) | (simp; done))
            clear hb2 c10 c11 f10 f11 c20 c21 f20 f21
            go_wp2
            refine ret_frac (b := w.heap.size) (x := .int .i64 v1) (y := .int .i64 1) rfl rfl rfl ⟨by go_simp, by go_simp, by go_simp, by go_simp⟩ rfl ⟨by rw [HR.out]; rfl, ?_⟩
            (repeat (first | exact Below.refl _ _ | refine Below.setCell ?_ (by first | omega | (simp; omega) | (simp; done)) _ | refine Below.drew ?_ | refine Law.up ?_ _ | refine Below.alloc ?_ (by first | omega | (simp; omega) | (simp; done)) _ | refine Law.then_ ?_ (Hid.out (by assumption))))
          · have HR : Hid (pfi s = (0, 0, false)) := HP.out.symm.trans (if_neg fun h => ht h.2.2)
            rw [hg] at HG
            have hts := neq_lists (a := txt v1 1) (b := s) ht
            clear hg ht
            clear HP
            go_wp2_with ((go_at_call 15; refine (HA.out _).mono ?_; rintro e w' ⟨rfl, hw'⟩; subst hw'))
            go_wp2_with fail
            go_at_call 11
            refine (HG.out _).mono ?_
            rintro e w1 ⟨rfl, hb1⟩
            have B1 : Hid (Below w.heap.size w w1) := Lib.hid (Law.then_ (by (repeat (first | exact Below.refl _ _ | refine Below.setCell ?_ (by first | omega | (simp; omega) | (simp; done)) _ | refine Below.drew ?_ | refine Law.up ?_ _ | refine Below.alloc ?_ (by first | omega | (simp; omega) | (simp; done)) _ | refine Law.then_ ?_ (Hid.out (by assumption))))) hb1)
            have sz1 := hb1.size; (try simp at sz1)
            obtain ⟨c10, c11, f10, f11⟩ := Blk.below (b := w.heap.size) (x := .int .i64 0) (y := .int .i64 0) ⟨by go_simp, by go_simp, by go_simp, by go_simp⟩ hb1 (by first | omega | (simp; omega) | (simp; done))
            obtain ⟨c20, c21, f20, f21⟩ := Blk.below (b := w.heap.size + 1) (x := .int .i64 v1) (y := .int .i64 1) ⟨by go_simp, by go_simp, by go_simp, by go_simp⟩ hb1 (by first | omega | (simp; omega) | (simp; done))
            clear hb1
            go_wp2_with fail
            go_at_call 12
            refine (HX.out _).mono ?_
            rintro e w2 ⟨rfl, hb2⟩
            have B2 : Hid (Below w.heap.size w w2) := Lib.hid (Law.then_ (by (repeat (first | exact Below.refl _ _ | refine Below.setCell ?_ (by first | omega | (simp; omega) | (simp; done)) _ | refine Below.drew ?_ | refine Law.up ?_ _ | refine Below.alloc ?_ (by first | omega | (simp; omega) | (simp; done)) _ | refine Law.then_ ?_ (Hid.out (by assumption))))) hb2)
            have sz2 := hb2.size; (try simp at sz2)
            obtain ⟨c30, c31, f30, f31⟩ := Blk.below (b := w.heap.size) (x := .int .i64 0) (y := .int .i64 0) ⟨by go_simp, by go_simp, by go_simp, by go_simp⟩ hb2 (by first | omega | (simp; omega) | (simp; done))
            obtain ⟨c40, c41, f40, f41⟩ := Blk.below (b := w.heap.size + 1) (x := .int .i64 v1) (y := .int .i64 1) ⟨by go_simp, by go_simp, by go_simp, by go_simp⟩ hb2 (by first | omega | (simp; omega) | (simp; done))
            clear hb2 c10 c11 f10 f11 c20 c21 f20 f21
            go_wp2
            refine ret_frac (b := w.heap.size) (x := .int .i64 0) (y := .int .i64 0) rfl rfl rfl ⟨by go_simp, by go_simp, by go_simp, by go_simp⟩ rfl ⟨by rw [HR.out]; rfl, ?_⟩
            (repeat (first | exact Below.refl _ _ | refine Below.setCell ?_ (by first | omega | (simp; omega) | (simp; done)) _ | refine Below.drew ?_ | refine Law.up ?_ _ | refine Below.alloc ?_ (by first | omega | (simp; omega) | (simp; done)) _ | refine Law.then_ ?_ (Hid.out (by assumption))))
        · have HR : Hid (pfi s = (0, 0, false)) := HP.out.symm.trans (if_neg fun h => hg h.2.1)
          rw [Bool.eq_false_iff.2 hg] at HG
          clear hg
          clear HP
          go_wp2_with ((go_at_call 15; refine (HA.out _).mono ?_; rintro e w' ⟨rfl, hw'⟩; subst hw'))
          go_wp2_with fail
          go_at_call 11
          refine (HG.out _).mono ?_
          rintro e w1 ⟨rfl, hb1⟩
          have B1 : Hid (Below w.heap.size w w1) := Lib.hid (Law.then_ (by (repeat (first | exact Below.refl _ _ | refine Below.setCell ?_ (by first | omega | (simp; omega) | (simp; done)) _ | refine Below.drew ?_ | refine Law.up ?_ _ | refine Below.alloc ?_ (by first | omega | (simp; omega) | (simp; done)) _ | refine Law.then_ ?_ (Hid.out (by assumption))))) hb1)
          have sz1 := hb1.size; (try simp at sz1)
          obtain ⟨c10, c11, f10, f11⟩ := Blk.below (b := w.heap.size) (x := .int .i64 0) (y := .int .i64 0) ⟨by go_simp, by go_simp, by go_simp, by go_simp⟩ hb1 (by first | omega | (simp; omega) | (simp; done))
          obtain ⟨c20, c21, f20, f21⟩ := Blk.below (b := w.heap.size + 1) (x := .int .i64 v1) (y := .int .i64 1) ⟨by go_simp, by go_simp, by go_simp, by go_simp⟩ hb1 (by first | omega | (simp; omega) | (simp; done))
          clear hb1
          go_wp2
          refine ret_frac (b := w.heap.size) (x := .int .i64 0) (y := .int .i64 0) rfl rfl rfl ⟨by go_simp, by go_simp, by go_simp, by go_simp⟩ rfl ⟨by rw [HR.out]; rfl, ?_⟩
          (repeat (first | exact Below.refl _ _ | refine Below.setCell ?_ (by first | omega | (simp; omega) | (simp; done)) _ | refine Below.drew ?_ | refine Law.up ?_ _ | refine Below.alloc ?_ (by first | omega | (simp; omega) | (simp; done)) _ | refine Law.then_ ?_ (Hid.out (by assumption))))
end Go.Proofs.YtppmepajcdldkabDoor
