/-
  The contract of the program's numberOf: it reads what Itoa writes, and nothing else.
-/
import Derived.Test.YtppmepajcdldkabDoorDec
import Derived.Test.YtppmepajcdldkabDoorTab
import Derived.Test.YtppmepajcdldkabDoorShelf
import Derived.Lib.AtoiErrMem
namespace Go.Proofs.YtppmepajcdldkabDoor
open Go.RowKit Go.Sort
/-- The two error variables hold what is no broken interface value. -/
def Errs (w : World) : Prop := ∃ e1 e2, w.cell? ⟨2, 0, none⟩ = some e1 ∧ w.cell? ⟨3, 0, none⟩ = some e2 ∧ (e1 = .nilIface ∨ ∃ te pe, e1 = .iface te pe) ∧ (e2 = .nilIface ∨ ∃ te pe, e2 = .iface te pe)
theorem Errs.stays {w w' : World} (h : Errs w) (hb : Below w.heap.size w w') : Errs w' := by
  obtain ⟨e1, e2, h1, h2, g1, g2⟩ := h
  have lt : ∀ {a : Addr} {v : Value}, w.cell? a = some v → a.block < w.heap.size := fun {a v} h => by
    rcases Nat.lt_or_ge a.block w.heap.size with h' | h'
    · exact h'
    · unfold World.cell? at h
      rw [Array.getElem?_eq_none h'] at h
      simp at h
  exact ⟨e1, e2, (hb.cell (lt h1)).trans h1, (hb.cell (lt h2)).trans h2, g1, g2⟩
theorem starErr : "*" ++ "errors.errorString" = "*errors.errorString" := by decide
theorem rowErr (u : TypeId) (h : Tryd.prog.typeName? 3 u = some "*errors.errorString") : u = 82 :=
  typeName_ptr_named (nm := "errors.errorString") (by rw [starErr]; kernel_rfl) (by kernel_rfl) (by decide) u (by rw [starErr]; exact h)
theorem errs_of_laid5 {W : World} (h : laidMetH Tryd.prog laid5 W) : Errs W := by
  rw [MakeChecks.laidMetH_plain _ _ _ (by kernel_rfl)] at h
  obtain ⟨a0, s0, hv0, -, -, -⟩ := laid_sentinel h.tail.tail.tail (g := 3) (ti := 44) (by kernel_rfl) (by kernel_rfl) Tryd.underlying44 (tp := 82) rowErr Tryd.underlying82 Tryd.underlying84 rfl rfl Tryd.underlying9 (by kernel_rfl) (by kernel_rfl)
  obtain ⟨a1, s1, hv1, -, -, -⟩ := laid_sentinel h.tail.tail.tail.tail (g := 2) (ti := 44) (by kernel_rfl) (by kernel_rfl) Tryd.underlying44 (tp := 82) rowErr Tryd.underlying82 Tryd.underlying84 rfl rfl Tryd.underlying9 (by kernel_rfl) (by kernel_rfl)
  have h0 := World.var?_cell (by kernel_rfl : Tryd.prog.globalNamed "strconv.ErrRange" = some 3) hv0 0
  have h1 := World.var?_cell (by kernel_rfl : Tryd.prog.globalNamed "strconv.ErrSyntax" = some 2) hv1 0
  exact ⟨_, _, by simpa using h1, by simpa using h0, .inr ⟨_, _, rfl⟩, .inr ⟨_, _, rfl⟩⟩
theorem below_bytes {w w' : World} (h : w' = w ∨ ∃ t, w' = Lib.bytesWorld w 5 t) : Below w.heap.size w w' := by
  rcases h with rfl | ⟨t, rfl⟩
  · exact Below.refl _ _
  · exact Lib.bytesWorld_below _ _ _
/-- How Atoi ends at a text: the number, or an error; never an error at a number's text. -/
theorem atoi_any (s : ByteArray) (w : World) (hs : s.size ≤ 1048576) (he : Errs w) :
    Calls Tryd.prog 25 #[.string s] w fun e w' => Below w.heap.size w w' ∧
      ((∃ v, Lib.atoiAll s.data.toList = .ok v ∧ e = .returned (.tuple #[.int .i64 v, .nilIface])) ∨
       ((∀ v, Lib.atoiAll s.data.toList ≠ .ok v) ∧ ∃ v N, e = .returned (.tuple #[.int .i64 v, .iface 62 (.pointer (some ⟨N, 0, none⟩))]))) := by
  obtain ⟨e1, e2, h1, h2, g1, g2⟩ := he
  cases ha : Lib.atoiAll s.data.toList with
  | ok v => exact (Tryd.strconv_Atoi_ok s (by omega) v ha w).mono fun e w' ⟨he, hw⟩ => ⟨below_bytes hw, .inl ⟨v, rfl, he⟩⟩
  | range => exact (Tryd.strconv_Atoi_range s (by omega) ha e2 w h2 g2).mono fun e w' ⟨N, he, _, _, hb⟩ => ⟨hb, .inr ⟨fun v h => (by cases h), _, N, he⟩⟩
  | _ => exact (Any.strconv_Atoi_syntax Tryd.laysC172 s (by omega) ha e1 w h1 g1).mono fun e w' ⟨N, he, _, _, hb⟩ => ⟨hb, .inr ⟨fun v h => (by cases h), _, N, he⟩⟩
theorem ret_rd {a b : Int × Bool} (h : a = b) : Ending.returned (.tuple #[.int .i64 a.1, .bool a.2]) = .returned (.tuple #[.int .i64 b.1, .bool b.2]) := by rw [h]
theorem atoi_in {l : List UInt8} {v : Int} (h : Lib.atoiAll l = .ok v) : -9223372036854775808 ≤ v ∧ v ≤ 9223372036854775807 := by
  rcases l with _ | ⟨c, r⟩
  · cases h
  · simp only [Lib.atoiAll] at h
    generalize Lib.parseMag (if c.toNat = 43 ∨ c.toNat = 45 then r else c :: r) = M at h
    cases M <;> dsimp only at h <;> first | (cases h; done) | skip
    rename_i u
    by_cases h1 : ¬ c.toNat = 45 ∧ 9223372036854775808 ≤ u
    · rw [if_pos h1] at h
      cases h
    · rw [if_neg h1] at h
      by_cases h2 : c.toNat = 45 ∧ 9223372036854775808 < u
      · rw [if_pos h2] at h
        cases h
      · rw [if_neg h2] at h
        injection h with h
        subst h
        split <;> omega
open Classical in
/-- How numberOf ends. -/
noncomputable def nrd (s : ByteArray) : Int × Bool := match Lib.atoiAll s.data.toList with
  | .ok v => if numS v = s then (v, true) else (0, false)
  | _ => (0, false)
theorem nrd_yes {s : ByteArray} {v : Int} (h : Lib.atoiAll s.data.toList = .ok v) (e : numS v = s) : nrd s = (v, true) := by
  unfold nrd
  rw [h]
  exact if_pos e
theorem nrd_ne {s : ByteArray} {v : Int} (h : Lib.atoiAll s.data.toList = .ok v) (e : ¬ numS v = s) : nrd s = (0, false) := by
  unfold nrd
  rw [h]
  exact if_neg e
theorem nrd_bad {s : ByteArray} (h : ∀ v, Lib.atoiAll s.data.toList ≠ .ok v) : nrd s = (0, false) := by
  unfold nrd
  split
  · rename_i v hv
    exact absurd hv (h v)
  · rfl
theorem nrd_in (s : ByteArray) : -9223372036854775808 ≤ (nrd s).1 ∧ (nrd s).1 ≤ 9223372036854775807 := by
  unfold nrd
  split
  · rename_i v hv
    have := atoi_in hv
    split
    · exact this
    · exact ⟨by decide, by decide⟩
  · exact ⟨by decide, by decide⟩
/-- What is read is what is written. -/
theorem nrd_text {s : ByteArray} (h : (nrd s).2 = true) : numS (nrd s).1 = s := by
  unfold nrd at h ⊢
  split at h
  · split at h
    · rename_i e
      rw [if_pos e]
      exact e
    · exact Bool.noConfusion h
  · exact Bool.noConfusion h
theorem numberOf_any (s : ByteArray) (w : World) (hs : s.size ≤ 1048576) (ht : Tab w) (he : Errs w) :
    Calls Tryd.prog 17 #[.string s] w fun e w' => e = .returned (.tuple #[.int .i64 (nrd s).1, .bool (nrd s).2]) ∧ Below w.heap.size w w' := by
  have HT := Lib.hid ht
  have HE := Lib.hid he
  clear ht he
  go_enter Tryd.func17, Tryd.ntmps17
  go_wp2_with fail
  go_at_call 25
  refine (atoi_any s _ hs HE.out).mono ?_
  rintro e w' ⟨hb, ⟨v, ha, rfl⟩ | ⟨ha, v, N, rfl⟩⟩
  · have HA := Lib.hid ha
    have HB := Lib.hid hb
    have hin := atoi_in ha
    have HI : Hid (∀ W : World, Tab W → Calls Tryd.prog 14 #[.int .i64 v] W fun e w' => e = .returned (.string (numS v)) ∧ Below W.heap.size W w') := Lib.hid fun W hW =>
      (Tryd.strconv_Itoa v hin.1 hin.2 W hW).mono fun e w' ⟨h1, k, os, h2⟩ => ⟨h1, by rw [h2]; exact ⟨rfl, rfl, rfl, by rw [size_grow]; exact Nat.le_add_right _ _, fun i hi => heap_grow_old (W.drewN k) os hi⟩⟩
    clear ha hb hin
    by_cases hn : numS v = s
    · have HN := Lib.hid (nrd_yes HA.out hn)
      go_wp2_with (go_at_call 14; refine (HI.out _ (HT.out.stays HB.out)).mono ?_; rintro e w2 ⟨rfl, hb2⟩; have HB2 := Lib.hid (Law.then_ HB.out hb2); clear hb2)
      go_ret2
      exact ⟨(ret_rd HN.out).symm, HB2.out⟩
    · have hn' := neq_lists (a := numS v) (b := s) hn
      have HN := Lib.hid (nrd_ne HA.out hn)
      clear hn
      go_wp2_with (go_at_call 14; refine (HI.out _ (HT.out.stays HB.out)).mono ?_; rintro e w2 ⟨rfl, hb2⟩; have HB2 := Lib.hid (Law.then_ HB.out hb2); clear hb2)
      go_ret2
      exact ⟨(ret_rd HN.out).symm, HB2.out⟩
  · have HN := Lib.hid (nrd_bad ha)
    clear ha
    go_wp2_with fail
    go_ret2
    exact ⟨(ret_rd HN.out).symm, hb⟩
end Go.Proofs.YtppmepajcdldkabDoor
