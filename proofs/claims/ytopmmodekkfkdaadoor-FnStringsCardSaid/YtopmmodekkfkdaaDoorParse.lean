/-
  The contract of the program's ParseInt: it ends as 'rd' says.
-/
import Derived.Test.YtopmmodekkfkdaaDoorDec
import Derived.Test.YtopmmodekkfkdaaDoorFmt
import Derived.Lib.AtoiErrMem
namespace Go.Proofs.YtopmmodekkfkdaaDoor
open Go.RowKit Go.Sort
/-- The two error variables hold what is no broken interface value. -/
def Errs (w : World) : Prop := ∃ e1 e2, w.cell? ⟨0, 0, none⟩ = some e1 ∧ w.cell? ⟨1, 0, none⟩ = some e2 ∧ (e1 = .nilIface ∨ ∃ te pe, e1 = .iface te pe) ∧ (e2 = .nilIface ∨ ∃ te pe, e2 = .iface te pe)
theorem Errs.stays {w w' : World} (h : Errs w) (hb : Below w.heap.size w w') : Errs w' := by
  obtain ⟨e1, e2, h1, h2, g1, g2⟩ := h
  have lt : ∀ {a : Addr} {v : Value}, w.cell? a = some v → a.block < w.heap.size := fun {a v} h => by
    rcases Nat.lt_or_ge a.block w.heap.size with h' | h'
    · exact h'
    · unfold World.cell? at h
      rw [Array.getElem?_eq_none h'] at h
      simp at h
  exact ⟨e1, e2, (hb.cell (lt h1)).trans h1, (hb.cell (lt h2)).trans h2, g1, g2⟩
theorem starErr : "*" ++ "errors.errorString" = "*errors.errorString" := by decide
theorem rowErr (u : TypeId) (h : Tryd.prog.typeName? 3 u = some "*errors.errorString") : u = 86 :=
  typeName_ptr_named (nm := "errors.errorString") (by rw [starErr]; kernel_rfl) (by kernel_rfl) (by decide) u (by rw [starErr]; exact h)
theorem errs_of_laid5 {W : World} (h : laidMetH Tryd.prog laid5 W) : Errs W := by
  rw [MakeChecks.laidMetH_plain _ _ _ (by kernel_rfl)] at h
  obtain ⟨a0, s0, hv0, -, -, -⟩ := laid_sentinel h.tail.tail.tail (g := 1) (ti := 46) (by kernel_rfl) (by kernel_rfl) Tryd.underlying46 (tp := 86) rowErr Tryd.underlying86 Tryd.underlying88 rfl rfl Tryd.underlying9 (by kernel_rfl) (by kernel_rfl)
  obtain ⟨a1, s1, hv1, -, -, -⟩ := laid_sentinel h.tail.tail.tail.tail (g := 0) (ti := 46) (by kernel_rfl) (by kernel_rfl) Tryd.underlying46 (tp := 86) rowErr Tryd.underlying86 Tryd.underlying88 rfl rfl Tryd.underlying9 (by kernel_rfl) (by kernel_rfl)
  have h0 := World.var?_cell (by kernel_rfl : Tryd.prog.globalNamed "strconv.ErrRange" = some 1) hv0 0
  have h1 := World.var?_cell (by kernel_rfl : Tryd.prog.globalNamed "strconv.ErrSyntax" = some 0) hv1 0
  exact ⟨_, _, by simpa using h1, by simpa using h0, .inr ⟨_, _, rfl⟩, .inr ⟨_, _, rfl⟩⟩
theorem below_bytes {w w' : World} (h : w' = w ∨ ∃ t, w' = Lib.bytesWorld w 5 t) : Below w.heap.size w w' := by
  rcases h with rfl | ⟨t, rfl⟩
  · exact Below.refl _ _
  · exact Lib.bytesWorld_below _ _ _
/-- How Atoi ends at a text: the number, or an error; never an error at a number's text. -/
theorem atoi_any (s : ByteArray) (w : World) (hs : s.size ≤ 1048576) (he : Errs w) :
    Calls Tryd.prog 28 #[.string s] w fun e w' => Below w.heap.size w w' ∧
      ((∃ v, Lib.atoiAll s.data.toList = .ok v ∧ e = .returned (.tuple #[.int .i64 v, .nilIface])) ∨
       ((∀ v, Lib.atoiAll s.data.toList ≠ .ok v) ∧ ∃ v N, e = .returned (.tuple #[.int .i64 v, .iface 65 (.pointer (some ⟨N, 0, none⟩))]))) := by
  obtain ⟨e1, e2, h1, h2, g1, g2⟩ := he
  cases ha : Lib.atoiAll s.data.toList with
  | ok v => exact (Tryd.strconv_Atoi_ok s (by omega) v ha w).mono fun e w' ⟨he, hw⟩ => ⟨below_bytes hw, .inl ⟨v, rfl, he⟩⟩
  | range => exact (Tryd.strconv_Atoi_range s (by omega) ha e2 w h2 g2).mono fun e w' ⟨N, he, _, _, hb⟩ => ⟨hb, .inr ⟨fun v h => (by cases h), _, N, he⟩⟩
  | _ => exact (Any.strconv_Atoi_syntax Tryd.laysC172 s (by omega) ha e1 w h1 g1).mono fun e w' ⟨N, he, _, _, hb⟩ => ⟨hb, .inr ⟨fun v h => (by cases h), _, N, he⟩⟩
theorem ret_rd {a b : Int × Bool} (h : a = b) : Ending.returned (.tuple #[.int .i64 a.1, .bool a.2]) = .returned (.tuple #[.int .i64 b.1, .bool b.2]) := by rw [h]
theorem implParse_any (s : ByteArray) (w : World) (hs : s.size ≤ 1048576) (ht : Tab w) (he : Errs w) :
    Calls Tryd.prog 13 #[.string s] w fun e w' => e = .returned (.tuple #[.int .i64 (rd s).1, .bool (rd s).2]) ∧ Below w.heap.size w w' := by
  have HT := Lib.hid ht
  have HE := Lib.hid he
  clear ht he
  go_enter Tryd.func13, Tryd.ntmps13
  go_wp2_with fail
  go_at_call 28
  refine (atoi_any s _ hs HE.out).mono ?_
  rintro e w' ⟨hb, ⟨v, ha, rfl⟩ | ⟨ha, v, N, rfl⟩⟩
  · have HA := Lib.hid ha
    have HB := Lib.hid hb
    clear ha hb
    by_cases hv : v < -999999 ∨ 999999 < v
    · have HV := Lib.hid hv
      clear hv
      go_wp2_with (go_at_call 10; refine (implFormat_no _ _ HV.out).mono ?_; rintro e w' ⟨rfl, rfl⟩)
      go_ret2
      refine ⟨(ret_rd (rd_no ?_)).symm, HB.out⟩
      rintro ⟨n, hn⟩
      have h1 := (atoi_num hn).symm.trans HA.out
      injection h1 with h1
      have h2 := HV.out
      have := hn.1
      have := hn.2.1
      omega
    · have h1 : -999999 ≤ v := by omega
      have h2 : v ≤ 999999 := by omega
      clear hv
      by_cases hn : s = numS v
      · have HN : Hid (IsNum s v) := ⟨h1, h2, hn⟩
        have hn' : numS v = s := hn.symm
        clear hn
        go_wp2_with (go_at_call 10; refine (implFormat_yes _ _ (HT.out.stays HB.out) h1 h2).mono ?_; rintro e w' ⟨rfl, hb⟩)
        go_ret2
        exact ⟨(ret_rd (rd_yes HN.out)).symm, below_then HB.out hb⟩
      · have hn' := neq_lists (a := numS v) (b := s) (fun e => hn e.symm)
        have HN := Lib.hid hn
        clear hn
        go_wp2_with (go_at_call 10; refine (implFormat_yes _ _ (HT.out.stays HB.out) h1 h2).mono ?_; rintro e w' ⟨rfl, hb⟩)
        go_ret2
        refine ⟨(ret_rd (rd_no ?_)).symm, below_then HB.out hb⟩
        rintro ⟨n, hm⟩
        have h3 := (atoi_num hm).symm.trans HA.out
        injection h3 with h3
        subst h3
        exact HN.out hm.2.2
  · have HA := Lib.hid ha
    clear ha
    go_wp2_with fail
    go_ret2
    refine ⟨(ret_rd (rd_no ?_)).symm, hb⟩
    rintro ⟨n, hn⟩
    exact HA.out n (atoi_num hn)
end Go.Proofs.YtopmmodekkfkdaaDoor
