/-
  The model's LazyPlan on all arguments.
-/
import Derived.Test.YtklpdfilhgjllaaLazS
namespace Go.Proofs.Ytklpdfilhgjllaa
open Go.RowKit
set_option linter.unusedVariables false
set_option maxHeartbeats 1600000 in
theorem specLazy_any (k n : Int) (zs ps : List Int) (A : Option Addr) (c : Nat) (hl : zs.length ≤ 1048576) (B : Option Addr) (d : Nat) (hl' : ps.length ≤ 1048576) (w : World) (hr : Law.Row w A (ivs zs)) (hp : Law.Row w B (ivs ps)) :
    Calls Try.prog 47 #[.int .i64 k, .int .i64 n, .slice A zs.length c, .slice B ps.length d] w (rowSays (Q.lazyQ k n zs ps) w) := by
  have HT := Lib.hid (l5Takes_any k n A c zs w hl hr)
  cases ht : (Q.okS k && Q.good n zs)
  · have hX : Q.planOk k n zs ps = false := by simp only [Q.planOk, ht]; rfl
    rw [show Q.lazyQ k n zs ps = ([], false) by simp [Q.lazyQ, Q.runX, hX]]
    rw [ht] at HT
    clear hr hp ht hX
    go_enter Try.func47, Try.ntmps47
    go_wp2_with fail
    go_at_call 49
    refine (HT.out).mono ?_
    rintro e w' ⟨rfl, hw'⟩
    obtain rfl := hw'.symm
    clear hw'
    go_wp2
    go_ret2
    exact ⟨_, rfl, ownsRow_nil _ _, (Below.refl _ _).alloc (Nat.le_refl _) _⟩
  · rw [ht] at HT
    obtain ⟨hk, hg⟩ : Q.okS k = true ∧ Q.good n zs = true := by simpa using ht
    obtain ⟨N, rfl, h1, h2, h3, hx⟩ := Q.good_nat hg
    have hk' := Q.okS_iff.1 hk
    have HPl := Lib.hid (l5Plan_any N zs ps A B c d h2 hl hl' w hp)
    cases hpl : Q.planL N zs ps
    · have hX : Q.planOk k N zs ps = false := by simp only [Q.planOk, ht, hpl]; rfl
      rw [show Q.lazyQ k N zs ps = ([], false) by simp [Q.lazyQ, Q.runX, hX]]
      rw [hpl] at HPl
      clear hr hp ht hX hk hg hx hpl
      go_enter Try.func47, Try.ntmps47
      go_wp2_with fail
      go_at_call 49
      refine (HT.out).mono ?_
      rintro e w' ⟨rfl, hw'⟩
      obtain rfl := hw'.symm
      clear hw'
      go_wp2_with fail
      go_at_call 50
      refine (HPl.out).mono ?_
      rintro e w' ⟨rfl, hw'⟩
      obtain rfl := hw'.symm
      clear hw'
      go_wp2
      go_ret2
      exact ⟨_, rfl, ownsRow_nil _ _, (Below.refl _ _).alloc (Nat.le_refl _) _⟩
    · have hX : Q.planOk k N zs ps = true := by simp only [Q.planOk, ht, hpl]; rfl
      have HRun := Lib.hid (l5Run_any k N zs ps A B c d w hX hr hp)
      rw [hpl] at HPl
      cases hR : Q.runX k N zs ps
      · rw [show Q.lazyQ k N zs ps = ([], false) by simp [Q.lazyQ, hR]]
        rw [hR] at HRun
        clear hr hp ht hX hk hg hx hpl hR
        go_enter Try.func47, Try.ntmps47
        go_wp2_with fail
        go_at_call 49
        refine (HT.out).mono ?_
        rintro e w' ⟨rfl, hw'⟩
        obtain rfl := hw'.symm
        clear hw'
        go_wp2_with fail
        go_at_call 50
        refine (HPl.out).mono ?_
        rintro e w' ⟨rfl, hw'⟩
        obtain rfl := hw'.symm
        clear hw'
        go_wp2_with fail
        go_at_call 51
        refine HRun.out.mono ?_
        rintro e w1 ⟨v1, rfl, ho, hb⟩
        have HB := Lib.hid hb
        clear ho hb
        go_wp2
        go_ret2
        exact ⟨_, rfl, own_down (ownsRow_nil _ _) HB.out.size, HB.out.alloc HB.out.size _⟩
      · rename_i X
        have hSO := Q.sets_ok hR
        rw [show Q.lazyQ k N zs ps = (Q.planC k zs (Q.lzAt X.1), true) by simp [Q.lazyQ, hR]]
        rw [hR] at HRun
        obtain ⟨us, f⟩ := X
        simp only [] at hSO
        have HL := Lib.hid fun (W : World) (C : Option Addr) (cc base : Nat) (xs : List Value) (h : Below w.heap.size w W) (ho : W.ownsRow base 22 1 (.slice C us.length cc) us.length xs) (hn : NOwn W base xs (us.map Q.pl)) => l5Lazy_any k A c zs us C cc base xs W hk'.1 hk'.2 h3 (fun k hk => by obtain ⟨x, h1, h2⟩ := hx k hk; exact ⟨x, h1, by omega⟩) hSO (hr.stays h) ho hn
        clear hr hp ht hX hk hg hx hpl hR hSO
        go_enter Try.func47, Try.ntmps47
        go_wp2_with fail
        go_at_call 49
        refine (HT.out).mono ?_
        rintro e w' ⟨rfl, hw'⟩
        obtain rfl := hw'.symm
        clear hw'
        go_wp2_with fail
        go_at_call 50
        refine (HPl.out).mono ?_
        rintro e w' ⟨rfl, hw'⟩
        obtain rfl := hw'.symm
        clear hw'
        go_wp2_with fail
        go_at_call 51
        refine HRun.out.mono ?_
        rintro e w1 ⟨v1, xs, rfl, ho, hn, hb⟩
        simp only [] at ho hn
        obtain ⟨C, cc, rfl, _, _, _⟩ := Law.own_len ho
        have HL1 := Lib.hid (HL.out w1 C cc _ xs hb ho hn)
        have HB := Lib.hid hb
        clear ho hb hn HL
        go_wp2_with fail
        go_at_call 83
        refine HL1.out.mono ?_
        rintro e w2 ⟨v2, rfl, ho, hb⟩
        have HO := Lib.hid (own_down ho HB.out.size)
        have HB2 := Lib.hid (Law.then_ HB.out hb)
        clear ho hb
        go_wp2
        go_ret2
        exact ⟨_, rfl, HO.out, HB2.out⟩
theorem impLazyR_any (k n : Int) (zs ps : List Int) (A : Option Addr) (c : Nat) (hl : zs.length ≤ 1048576) (B : Option Addr) (d : Nat) (hl' : ps.length ≤ 1048576) (w : World) (hr : Law.Row w A (ivs zs)) (hp : Law.Row w B (ivs ps)) :
    Calls Try.prog 48 #[.int .i64 k, .int .i64 n, .slice A zs.length c, .slice B ps.length d] w (rowSays (Q.lazyQ k n zs ps) w) := impLazy_any k n zs ps A B c d hl hl' w hr hp
end Go.Proofs.Ytklpdfilhgjllaa
