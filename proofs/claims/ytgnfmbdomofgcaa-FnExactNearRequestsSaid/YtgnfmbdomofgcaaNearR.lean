/-
  The model's NearRequests.
-/
import Derived.Test.YtgnfmbdomofgcaaSeedR
import Derived.Test.YtgnfmbdomofgcaaOwn
import Derived.StillTailTactics
import Derived.IntWalk
import Derived.Deep.AppendLies
import Derived.Deep.RegionLaw
namespace Go.Proofs.Ytgnfmbdomofgcaa
open Go.RowKit
set_option linter.unusedVariables false
namespace Q
/-- The item at each place. -/
def nearF (n v s : Nat) : Nat → Nat
  | 0 => st s 1 / 16 % n
  | j + 1 => (nearF n v s j + st s (j + 2) / 16 % v) % n
theorem nearF_succ (n v s j : Nat) : nearF n v s (j + 1) = (nearF n v s j + st s (j + 1 + 1) / 16 % v) % n := rfl
theorem nearF_lt {n v s : Nat} (h : 1 ≤ n) : ∀ j, nearF n v s j < n
  | 0 => Nat.mod_lt _ (by omega)
  | j + 1 => Nat.mod_lt _ (by omega)
def nearL (n v s m : Nat) : List Int := (List.range m).map fun i => ((nearF n v s i : Nat) : Int)
theorem nearL_succ (n v s m : Nat) : nearL n v s (m + 1) = nearL n v s m ++ [((nearF n v s m : Nat) : Int)] := by simp [nearL, List.range_succ]
theorem nearL_len (n v s m : Nat) : (nearL n v s m).length = m := by simp [nearL]
theorem nearL_at (n v s : Nat) {m j : Nat} (h : j < m) : (nearL n v s m)[j]? = some ((nearF n v s j : Nat) : Int) := by simp [nearL, h]
def nearOk (n l v s : Int) : Bool := okN n && ((decide (0 ≤ l) && decide (l ≤ 60)) && ((decide (1 ≤ v) && decide (v ≤ n)) && (decide (0 ≤ s) && decide (s ≤ 9999))))
def nearQ (n l v s : Int) : List Int × Bool := if nearOk n l v s then (nearL n.toNat v.toNat s.toNat l.toNat, true) else ([], false)
theorem near_wrap {p q n : Nat} (hp : p < n) (hq : q ≤ 8) (hn : n ≤ 8) : (((p + q) % n : Nat) : Int) = ((p : Int) + (q : Int)) % (n : Int) := by simp
end Q
set_option maxRecDepth 100000 in
set_option maxHeartbeats 3200000 in
theorem specNear_good (n m v s : Nat) (w : World) (h1 : 1 ≤ n) (h2 : n ≤ 8) (h3 : 1 ≤ v) (h4 : v ≤ n) (h5 : m ≤ 60) (h6 : s ≤ 9999) :
    Calls Try.prog 56 #[.int .i64 n, .int .i64 m, .int .i64 v, .int .i64 s] w (rowSays (Q.nearL n v s m, true) w) := by
  obtain ⟨i0, hi, hz0, hz1, hz2⟩ := info_parts infoInts
  have HI : Hid (∀ W, Calls Try.prog 73 #[.int .i64 n] W fun e w' => e = .returned (.bool true) ∧ w' = W) := fun W => by
    have h := l3Items_any n W
    rwa [Q.okN_iff.2 ⟨by omega, by omega⟩] at h
  have HJ : Hid (∀ W, Calls Try.prog 74 #[.int .i64 s, .int .i64 0, .int .i64 9999] W fun e w' => e = .returned (.bool true) ∧ w' = W) := fun W => by
    have h := l1In_any s 0 9999 W
    rwa [show (decide ((0 : Int) ≤ s) && decide ((s : Int) ≤ 9999)) = true by simp; omega] at h
  have HV : Hid (∀ W, Calls Try.prog 74 #[.int .i64 v, .int .i64 1, .int .i64 n] W fun e w' => e = .returned (.bool true) ∧ w' = W) := fun W => by
    have h := l1In_any v 1 n W
    rwa [show (decide ((1 : Int) ≤ v) && decide ((v : Int) ≤ n)) = true by simp; omega] at h
  have HK : Hid (∀ W, Calls Try.prog 91 #[.int .i64 m] W fun e w' => e = .returned (.bool true) ∧ w' = W) := fun W => by
    have h := l3Length_any m W
    rwa [show (decide ((0 : Int) ≤ m) && decide ((m : Int) ≤ 60)) = true by simp; omega] at h
  go_enter Try.func56, Try.ntmps56
  go_wp2_with fail
  go_at_call 73
  refine (HI.out _).mono ?_
  rintro e w' ⟨rfl, hw'⟩
  obtain rfl := hw'.symm
  clear hw'
  go_wp2_with fail
  go_at_call 91
  refine (HK.out _).mono ?_
  rintro e w' ⟨rfl, hw'⟩
  obtain rfl := hw'.symm
  clear hw'
  go_wp2_with fail
  go_at_call 74
  refine (HV.out _).mono ?_
  rintro e w' ⟨rfl, hw'⟩
  obtain rfl := hw'.symm
  clear hw'
  go_wp2_with fail
  go_at_call 74
  refine (HJ.out _).mono ?_
  rintro e w' ⟨rfl, hw'⟩
  obtain rfl := hw'.symm
  clear hw'
  go_wp2_with fail
  go_loopw [10, 11] (fun v' i wr => ∃ j : Nat, j ≤ m ∧ i = .int .i64 (Q.st s j : Nat) ∧ Hid (wr.ownsRow w.heap.size 3 1 v' j (ivs (Q.nearL n v s j))) ∧ Hid (Below w.heap.size w wr)) (fun v' _ _ => m - lenV v')
  case atStart => exact ⟨0, Nat.zero_le _, rfl, ownsRow_nil _ _, (Below.refl _ _).alloc (Nat.le_refl _) _⟩
  case round =>
    obtain ⟨j, hj, rfl, how, hbw⟩ := hrel
    obtain ⟨A, c, rfl, hc1, hc2, _⟩ := Law.own_len how.out
    by_cases hlt : j < m
    · have hltI : (j : Int) < (m : Int) := by omega
      have HX := Lib.hid fun W => l3Next_any (Q.st s j) W (Q.st_lt h6 j)
      have hs := Q.st_lt h6 (j + 1)
      have HS : Hid (Q.nxt (Q.st s j) = Q.st s (j + 1)) := rfl
      rw [HS.out] at HX
      have HL := Lib.hid (Q.nearL_succ n v s j)
      rcases Nat.eq_zero_or_pos j with hj0 | hj0
      · subst hj0
        have HN : Hid (((Q.nearF n v s 0 : Nat) : Int) = ((Q.st s (0 + 1) : Nat) : Int) / 16 % (n : Int)) := by show _ = _; simp [Q.nearF]
        generalize Q.nearF n v s 0 = f at HN HL
        generalize Q.st s (0 + 1) = z at HX hs HN HS
        go_wp2_with fail
        go_at_call 92
        refine (HX.out _).mono ?_
        rintro e w' ⟨rfl, hw'⟩
        obtain rfl := hw'.symm
        clear hw'
        have hsz9 := (hbw.out).size
        go_wp2_with (at_builtin; refine wpList_append_own _ rfl _ _ 24 rfl w.heap.size 3 i0 (.int .i64 0) 1 8 Try.underlying24 hi hz0 hz1 hz2 rfl (by decide) _ _ _ rfl ((how.out).alloc _) ⟨(wr).heap.size, 0, none⟩ 1 1 [.int .i64 ((z : Int) / 16 % (n : Int))] rfl rfl ?ca9a ?ca9b ?ca9c ?ca9d ?ca9e ?_)
        case ca9a =>
          intro j' u hj'
          match j', hj' with
          | 0, hj' => simp at hj'; subst hj'; simp [Addr.add]
        case ca9b => intro u hu; simp at hu; subst hu; rfl
        case ca9c => unfold maxLen; omega
        case ca9d => omega
        case ca9e => simp; omega
        intro v9 w9 hm9 hg9 _
        have HB9 := Lib.hid (((hbw.out).alloc hsz9 (.cells #[.int .i64 ((z : Int) / 16 % (n : Int))] 3)).grown hg9 (by simp; omega) (fun j e => ((how.out).lt j e).1))
        clear hg9
        rw [← HN.out, ← ivs_snoc, ← HL.out] at hm9
        obtain ⟨A', c', rfl, _, _, _⟩ := Law.own_len hm9
        have HO := Lib.hid hm9
        clear hm9 how hbw
        go_wp2
        go_roundw
        case rel => exact ⟨1, by omega, (by show Value.int .i64 (z : Int) = .int .i64 ((Q.nxt (Q.st s 0) : Nat) : Int); rw [HS.out]), HO.out, HB9.out⟩
        case measure => simp [lenV]; omega
      · obtain ⟨i, rfl⟩ : ∃ i, j = i + 1 := ⟨j - 1, by omega⟩
        have hii : (((i + 1 : Nat) : Int) - 1) = (i : Int) := by omega
        have hi0 : (((i + 1 : Nat) : Int) == 0) = false := by simp; omega
        have hp := Q.nearF_lt (v := v) (s := s) h1 i
        have hq : Q.st s (i + 1 + 1) / 16 % v < v := Nat.mod_lt _ (by omega)
        obtain ⟨b, off, rfl, hbl, hcc⟩ := (Law.Row.own how.out).at_ (ivs_some (Q.nearL_at n v s (show i < i + 1 by omega)))
        have HN : Hid (((Q.nearF n v s (i + 1) : Nat) : Int) = (((Q.nearF n v s i : Nat) : Int) + ((Q.st s (i + 1 + 1) : Nat) : Int) / 16 % (v : Int)) % (n : Int)) := Lib.hid (by rw [Q.nearF_succ]; simp)
        obtain ⟨f, hf⟩ : ∃ f, f = Q.nearF n v s (i + 1) := ⟨_, rfl⟩
        obtain ⟨p, hpf⟩ : ∃ p, p = Q.nearF n v s i := ⟨_, rfl⟩
        rw [← hf, ← hpf] at HN
        rw [← hf] at HL
        rw [← hpf] at hp hcc
        clear hf hpf
        have hq' : ((Q.st s (i + 1 + 1) : Nat) : Int) / 16 % (v : Int) = ((Q.st s (i + 1 + 1) / 16 % v : Nat) : Int) := by simp
        have hq0 : 0 ≤ ((Q.st s (i + 1 + 1) : Nat) : Int) / 16 % (v : Int) ∧ ((Q.st s (i + 1 + 1) : Nat) : Int) / 16 % (v : Int) < v := by rw [hq']; omega
        obtain ⟨hq1, hq2⟩ := hq0
        clear hq hq'
        obtain ⟨z, hz⟩ : ∃ z, z = Q.st s (i + 1 + 1) := ⟨_, rfl⟩
        rw [← hz] at HX hs HN HS hq1 hq2
        clear hz
        have hpI : (p : Int) < (n : Int) := by omega
        have HW : Hid (IntKind.i64.wrap ((p : Int) + (z : Int) / 16 % (v : Int)) = (p : Int) + (z : Int) / 16 % (v : Int)) := Lib.hid (IntWalk.i64_in _ (by omega))
        go_wp2_with fail
        go_at_call 92
        refine (HX.out _).mono ?_
        rintro e w' ⟨rfl, hw'⟩
        obtain rfl := hw'.symm
        clear hw'
        go_wp2_with fail
        have hwr := HW.out
        have hw1 : IntKind.i64.wrap (i : Int) = (i : Int) := IntWalk.i64_in _ (by omega)
        have hw0 : (0 : Int) ≤ (i : Int) := by omega
        have hwl : (i : Int) < (i : Int) + 1 := by omega
        have hv0 : ¬ v = 0 := by omega
        have hn0 : ¬ n = 0 := by omega
        have hwz : IntKind.i64.wrap ((z : Int) / 16) = (z : Int) / 16 := IntWalk.i64_in _ (by omega)
        have htv : ((z : Int) / 16).tmod (v : Int) = (z : Int) / 16 % (v : Int) := Int.tmod_eq_emod_of_nonneg (by omega)
        have htn : ((p : Int) + (z : Int) / 16 % (v : Int)).tmod (n : Int) = ((p : Int) + (z : Int) / 16 % (v : Int)) % (n : Int) := Int.tmod_eq_emod_of_nonneg (by omega)
        have hszw := hbw.out.size
        go_region_law ((refine step_append_lies _ (by rfl) _ _ _ (by rfl) w.heap.size 3 i0 _ 1 8 Try.underlying24 hi hz0 hz1 hz2 rfl (by omega) (.slice (some ⟨b, off, none⟩) (i + 1) c) (i + 1) (ivs (Q.nearL n v s (i + 1))) (by rfl) ((how.out.alloc _).drew) ⟨wr.heap.size, 0, none⟩ 1 1 [.int .i64 (((p : Int) + (z : Int) / 16 % (v : Int)) % (n : Int))] (by rfl) (by rfl) (World.news_of_block (cs := #[.int .i64 (((p : Int) + (z : Int) / 16 % (v : Int)) % (n : Int))]) (t := 3) (fr := (0, 0)) (heap_alloc_new wr _)) (by simp [Value.oneCell']) (by omega) (by unfold maxLen; omega) (by omega) (by simp; omega) (wr.heap.size + 1) (by simp) ?_; intro gg cap w9 hm9 hgrow hat hlt9))
        have HB9 : Hid (Below w.heap.size w w9) := Lib.hid (((hbw.out.alloc hszw _).drew).grown hgrow (by simp; omega) (fun j e => (how.out.lt j e).1))
        clear hw1 hwr hwl hwz htv htn hv0 hn0 hgrow hat hlt9 how hbw hcc
        rw [← HN.out, ← ivs_snoc, ← HL.out] at hm9
        have HO := Lib.hid hm9
        clear hm9 hii hi0
        go_simp
        go_wp2
        go_roundw
        case rel => exact ⟨i + 1 + 1, by omega, (by show Value.int .i64 (z : Int) = .int .i64 ((Q.nxt (Q.st s (i + 1)) : Nat) : Int); rw [HS.out]), HO.out, HB9.out⟩
        case measure => simp [lenV]; omega
    · have hje : j = m := by omega
      have hltI : ¬ (j : Int) < (m : Int) := by omega
      have HJ2 := Lib.hid hje
      clear hje
      go_wp2
      go_ret2
      refine ⟨_, rfl, ?_, hbw.out⟩
      have := how.out
      rw [HJ2.out] at this ⊢
      simp only [Q.nearL_len]
      exact this
set_option maxHeartbeats 800000 in
theorem specNear_any (n l v s : Int) (w : World) : Calls Try.prog 56 #[.int .i64 n, .int .i64 l, .int .i64 v, .int .i64 s] w (rowSays (Q.nearQ n l v s) w) := by
  by_cases h0 : Q.nearOk n l v s = true
  · have h : ((1 ≤ n ∧ n ≤ 8) ∧ (0 ≤ l ∧ l ≤ 60) ∧ (1 ≤ v ∧ v ≤ n) ∧ 0 ≤ s ∧ s ≤ 9999) := by simpa [Q.nearOk, Q.okN] using h0
    obtain ⟨k, rfl⟩ := Int.eq_ofNat_of_zero_le (show 0 ≤ n by omega)
    obtain ⟨m, rfl⟩ := Int.eq_ofNat_of_zero_le h.2.1.1
    obtain ⟨u, rfl⟩ := Int.eq_ofNat_of_zero_le (show 0 ≤ v by omega)
    obtain ⟨t, rfl⟩ := Int.eq_ofNat_of_zero_le h.2.2.2.1
    have h' := specNear_good k m u t w (by omega) (by omega) (by omega) (by omega) (by omega) (by omega)
    have e : Q.nearQ k m u t = (Q.nearL k u t m, true) := by unfold Q.nearQ; rw [if_pos h0]; rfl
    rw [e]
    exact h'
  · have e : Q.nearQ n l v s = ([], false) := by unfold Q.nearQ; rw [if_neg h0]
    rw [e]
    have HI := Lib.hid fun W => l3Items_any n W
    have HV := Lib.hid fun W => l1In_any v 1 n W
    have HJ := Lib.hid fun W => l1In_any s 0 9999 W
    have HK := Lib.hid fun W => l3Length_any l W
    unfold Q.nearOk at h0
    cases h1 : Q.okN n <;> rw [h1] at HI h0
    · clear h0 h1
      go_enter Try.func56, Try.ntmps56
      go_wp2_with fail
      go_at_call 73
      refine (HI.out _).mono ?_
      rintro e w' ⟨rfl, hw'⟩
      obtain rfl := hw'.symm
      clear hw'
      go_wp2
      go_ret2
      exact ⟨_, rfl, ownsRow_nil _ _, (Below.refl _ _).alloc (Nat.le_refl _) _⟩
    · cases h3 : (decide (0 ≤ l) && decide (l ≤ 60)) <;> rw [h3] at HK h0
      · clear h0 h1 h3
        go_enter Try.func56, Try.ntmps56
        go_wp2_with fail
        go_at_call 73
        refine (HI.out _).mono ?_
        rintro e w' ⟨rfl, hw'⟩
        obtain rfl := hw'.symm
        clear hw'
        go_wp2_with fail
        go_at_call 91
        refine (HK.out _).mono ?_
        rintro e w' ⟨rfl, hw'⟩
        obtain rfl := hw'.symm
        clear hw'
        go_wp2
        go_ret2
        exact ⟨_, rfl, ownsRow_nil _ _, (Below.refl _ _).alloc (Nat.le_refl _) _⟩
      · cases h4 : (decide (1 ≤ v) && decide (v ≤ n)) <;> rw [h4] at HV h0
        · clear h0 h1 h3 h4
          go_enter Try.func56, Try.ntmps56
          go_wp2_with fail
          go_at_call 73
          refine (HI.out _).mono ?_
          rintro e w' ⟨rfl, hw'⟩
          obtain rfl := hw'.symm
          clear hw'
          go_wp2_with fail
          go_at_call 91
          refine (HK.out _).mono ?_
          rintro e w' ⟨rfl, hw'⟩
          obtain rfl := hw'.symm
          clear hw'
          go_wp2_with fail
          go_at_call 74
          refine (HV.out _).mono ?_
          rintro e w' ⟨rfl, hw'⟩
          obtain rfl := hw'.symm
          clear hw'
          go_wp2
          go_ret2
          exact ⟨_, rfl, ownsRow_nil _ _, (Below.refl _ _).alloc (Nat.le_refl _) _⟩
        · cases h2 : (decide (0 ≤ s) && decide (s ≤ 9999)) <;> rw [h2] at HJ h0
          · clear h0 h1 h3 h2 h4
            go_enter Try.func56, Try.ntmps56
            go_wp2_with fail
            go_at_call 73
            refine (HI.out _).mono ?_
            rintro e w' ⟨rfl, hw'⟩
            obtain rfl := hw'.symm
            clear hw'
            go_wp2_with fail
            go_at_call 91
            refine (HK.out _).mono ?_
            rintro e w' ⟨rfl, hw'⟩
            obtain rfl := hw'.symm
            clear hw'
            go_wp2_with fail
            go_at_call 74
            refine (HV.out _).mono ?_
            rintro e w' ⟨rfl, hw'⟩
            obtain rfl := hw'.symm
            clear hw'
            go_wp2_with fail
            go_at_call 74
            refine (HJ.out _).mono ?_
            rintro e w' ⟨rfl, hw'⟩
            obtain rfl := hw'.symm
            clear hw'
            go_wp2
            go_ret2
            exact ⟨_, rfl, ownsRow_nil _ _, (Below.refl _ _).alloc (Nat.le_refl _) _⟩
          · exact absurd rfl h0
end Go.Proofs.Ytgnfmbdomofgcaa
