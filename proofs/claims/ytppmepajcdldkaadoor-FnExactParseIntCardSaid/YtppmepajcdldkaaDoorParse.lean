/-
  The contract of the program's ParseInt: it ends as 'rd' says.
-/
import Derived.Test.YtppmepajcdldkaaDoorNumOf
import Derived.Test.YtppmepajcdldkaaDoorFmt
namespace Go.Proofs.YtppmepajcdldkaaDoor
open Go.RowKit Go.Sort
theorem rd_of_nrd {s : ByteArray} (h : (nrd s).2 = true) (h1 : -999999 ≤ (nrd s).1) (h2 : (nrd s).1 ≤ 999999) : rd s = ((nrd s).1, true) := rd_yes ⟨h1, h2, (nrd_text h).symm⟩
theorem rd_none {s : ByteArray} (h : ¬ ((nrd s).2 = true ∧ -999999 ≤ (nrd s).1 ∧ (nrd s).1 ≤ 999999)) : rd s = (0, false) := by
  refine rd_no ?_
  rintro ⟨n, hn⟩
  have := nrd_yes (atoi_num hn) hn.2.2.symm
  exact h (by rw [this]; exact ⟨rfl, hn.1, hn.2.1⟩)
theorem implParse_any (s : ByteArray) (w : World) (hs : s.size ≤ 1048576) (ht : Tab w) (he : Errs w) :
    Calls Tryd.prog 10 #[.string s] w fun e w' => e = .returned (.tuple #[.int .i64 (rd s).1, .bool (rd s).2]) ∧ Below w.heap.size w w' := by
  have HC := numberOf_any s w hs ht he
  clear ht he
  by_cases h : (nrd s).2 = true
  · by_cases h1 : (nrd s).1 < -999999
    · have HR := Lib.hid (rd_none (s := s) (fun hc => by omega))
      rw [h] at HC
      generalize (nrd s).1 = n at HC h1
      clear h
      go_enter Tryd.func10, Tryd.ntmps10
      go_wp2_with (go_at_call 24; refine HC.mono ?_; rintro e w' ⟨rfl, hb⟩)
      go_ret2
      exact ⟨(ret_rd HR.out).symm, hb⟩
    · by_cases h2 : 999999 < (nrd s).1
      · have HR := Lib.hid (rd_none (s := s) (fun hc => by omega))
        rw [h] at HC
        generalize (nrd s).1 = n at HC h1 h2
        clear h
        go_enter Tryd.func10, Tryd.ntmps10
        go_wp2_with (go_at_call 24; refine HC.mono ?_; rintro e w' ⟨rfl, hb⟩)
        go_ret2
        exact ⟨(ret_rd HR.out).symm, hb⟩
      · have HR := Lib.hid (rd_of_nrd h (by omega) (by omega))
        rw [h] at HC
        generalize (nrd s).1 = n at HC HR h1 h2
        clear h
        go_enter Tryd.func10, Tryd.ntmps10
        go_wp2_with (go_at_call 24; refine HC.mono ?_; rintro e w' ⟨rfl, hb⟩)
        go_ret2
        exact ⟨(ret_rd HR.out).symm, hb⟩
  · have HR := Lib.hid (rd_none (s := s) (fun hc => h hc.1))
    rw [Bool.eq_false_iff.2 h] at HC
    generalize (nrd s).1 = n at HC
    clear h
    go_enter Tryd.func10, Tryd.ntmps10
    go_wp2_with (go_at_call 24; refine HC.mono ?_; rintro e w' ⟨rfl, hb⟩)
    go_ret2
    exact ⟨(ret_rd HR.out).symm, hb⟩
end Go.Proofs.YtppmepajcdldkaaDoor
