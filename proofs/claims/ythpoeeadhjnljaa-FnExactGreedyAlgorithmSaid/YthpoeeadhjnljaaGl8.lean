/-
  GreedyAlgorithm and LazyAlgorithm, both sides.
-/
import Derived.Test.YthpoeeadhjnljaaMk8
import Derived.Test.YthpoeeadhjnljaaAoG
import Derived.Test.YthpoeeadhjnljaaAoL
import Derived.Test.YthpoeeadhjnljaaPr2
import Derived.Test.YthpoeeadhjnljaaNestL
namespace Go.Proofs.Ythpoeeadhjnljaa
open Go.RowKit
set_option linter.unusedVariables false
namespace Q
noncomputable def gaQ (L S : List (List Int)) : List (List Int) × Bool := if prQ L S then (mdK (grS L S) S.length L.length, true) else ([], false)
theorem ga_no {L S : List (List Int)} (h : prQ L S = false) : gaQ L S = ([], false) := if_neg (by simp [h])
theorem ga_yes {L S : List (List Int)} (h : prQ L S = true) : gaQ L S = (mdK (grS L S) S.length L.length, true) := if_pos h
noncomputable def laQ (L S : List (List Int)) : List (List Int) × Bool := if prQ L S then (mdK (lzS L S) S.length L.length, true) else ([], false)
theorem la_no {L S : List (List Int)} (h : prQ L S = false) : laQ L S = ([], false) := if_neg (by simp [h])
theorem la_yes {L S : List (List Int)} (h : prQ L S = true) : laQ L S = (mdK (lzS L S) S.length L.length, true) := if_pos h
theorem gm_no (L S : List (List Int)) : gmS false L S = grS L S := by
  funext t r
  simp [gmS]
theorem gm_yes (L S : List (List Int)) : gmS true L S = lzS L S := by
  funext t r
  by_cases h : dst S r t = -1 <;> simp [gmS, lzS, h]
theorem mdTot (g : Nat → Nat → Int) (m : Nat) : ∀ n, totL (mdK g m n) = n * m
  | 0 => by simp [mdK, totL]
  | n + 1 => by rw [mdK, show totL (mdK g m n ++ [mdRow g m n]) = totL (mdK g m n) + (mdRow g m n).length by simp [totL], mdTot g m n, mdRow_len, Nat.succ_mul]
theorem mdMem (g : Nat → Nat → Int) (m : Nat) : ∀ n, ∀ l ∈ mdK g m n, l.length = m
  | 0, l, h => by simp [mdK] at h
  | n + 1, l, h => by
    rw [mdK, List.mem_append] at h
    rcases h with h | h
    · exact mdMem g m n l h
    · simp at h
      rw [h, mdRow_len]
end Q
variable (A : Option Addr) (c : Nat) (xs0 : List Value) (L : List (List Int)) (B : Option Addr) (d : Nat) (ys : List Value) (S : List (List Int)) (w : World)
set_option maxHeartbeats 800000 in
theorem impGa_any (hlL : ∀ l ∈ L, l.length ≤ 1048576) (hlS : ∀ l ∈ S, l.length ≤ 1048576) (hL : NRow w A xs0 L) (hS : NRow w B ys S) :
    Calls Try.prog 40 #[pv A L.length c B S.length d] w (nestSays (Q.gaQ L S) w) := by
  have HP := Lib.hid (PIn.start (c := c) (d := d) hL hS 29)
  have HG := Lib.hid fun (W : World) (h1 : NRow W A xs0 L) (h2 : NRow W B ys S) => impPr_any A c xs0 L B d ys S W hlL hlS h1 h2
  cases hp : Q.prQ L S
  · rw [Q.ga_no hp]
    rw [hp] at HG
    clear hL hS hp
    go_enter Try.func40, Try.ntmps40
    go_wp2_with fail
    generalize w.alloc (.cells #[.slice A L.length c, .slice B S.length d] 29) = wa at HP ⊢
    obtain ⟨p0, p1, _, _, _⟩ := HP.out.bk
    go_wp2_with fail
    go_at_call 62
    refine (HG.out _ HP.out.mv HP.out.sv).mono ?_
    rintro e w1 ⟨rfl, hb⟩
    have HP1 := Lib.hid (HP.out.on hb)
    clear p0 p1 hb
    obtain ⟨p0, p1, _, _, _⟩ := HP1.out.bk
    go_wp2
    go_ret2
    exact ⟨_, [], rfl, own_down (ownsRow_nil _ _) HP1.out.bl.size, NOwn.nil _ _, HP1.out.bl.alloc HP1.out.bl.size _⟩
  · rw [Q.ga_yes hp]
    have hpr := Q.pr_iff.1 hp
    rw [hp] at HG
    have HA := Lib.hid fun (W : World) (hP : PIn w W A c xs0 L B d ys S) => algorithmOfG_any A c xs0 L B d ys S W w.heap.size (Q.grS L S) hpr.n4 hpr.m4 hP.mv hP.sv (fun x y W' hx hy hb => litG_any w.heap.size A c xs0 L B d ys S W' hpr x y hx hy (hP.bk.on hb) (hP.mv.stays hb) (hP.sv.stays hb))
    generalize Q.mdK (Q.grS L S) S.length L.length = X at HA ⊢
    clear hL hS hp hpr
    go_enter Try.func40, Try.ntmps40
    go_wp2_with fail
    generalize w.alloc (.cells #[.slice A L.length c, .slice B S.length d] 29) = wa at HP ⊢
    obtain ⟨p0, p1, _, _, _⟩ := HP.out.bk
    go_wp2_with fail
    go_at_call 62
    refine (HG.out _ HP.out.mv HP.out.sv).mono ?_
    rintro e w1 ⟨rfl, hb⟩
    have HP1 := Lib.hid (HP.out.on hb)
    clear p0 p1 hb
    obtain ⟨p0, p1, _, _, _⟩ := HP1.out.bk
    go_wp2_with fail
    go_at_call 81
    refine (HA.out _ HP1.out).mono ?_
    rintro e w2 ⟨v, zs, rfl, ho, hn, hb⟩
    have HO := Lib.hid (own_down ho HP1.out.bl.size)
    have HN := Lib.hid (hn.down HP1.out.bl.size)
    have HB := Lib.hid (Law.then_ HP1.out.bl hb)
    clear p0 p1 ho hn hb
    go_wp2
    go_ret2
    exact ⟨_, zs, rfl, HO.out, HN.out, HB.out⟩
set_option maxHeartbeats 800000 in
theorem impLa_any (hlL : ∀ l ∈ L, l.length ≤ 1048576) (hlS : ∀ l ∈ S, l.length ≤ 1048576) (hL : NRow w A xs0 L) (hS : NRow w B ys S) :
    Calls Try.prog 43 #[pv A L.length c B S.length d] w (nestSays (Q.laQ L S) w) := by
  have HP := Lib.hid (PIn.start (c := c) (d := d) hL hS 29)
  have HG := Lib.hid fun (W : World) (h1 : NRow W A xs0 L) (h2 : NRow W B ys S) => impPr_any A c xs0 L B d ys S W hlL hlS h1 h2
  cases hp : Q.prQ L S
  · rw [Q.la_no hp]
    rw [hp] at HG
    clear hL hS hp
    go_enter Try.func43, Try.ntmps43
    go_wp2_with fail
    generalize w.alloc (.cells #[.slice A L.length c, .slice B S.length d] 29) = wa at HP ⊢
    obtain ⟨p0, p1, _, _, _⟩ := HP.out.bk
    go_wp2_with fail
    go_at_call 62
    refine (HG.out _ HP.out.mv HP.out.sv).mono ?_
    rintro e w1 ⟨rfl, hb⟩
    have HP1 := Lib.hid (HP.out.on hb)
    clear p0 p1 hb
    obtain ⟨p0, p1, _, _, _⟩ := HP1.out.bk
    go_wp2
    go_ret2
    exact ⟨_, [], rfl, own_down (ownsRow_nil _ _) HP1.out.bl.size, NOwn.nil _ _, HP1.out.bl.alloc HP1.out.bl.size _⟩
  · rw [Q.la_yes hp]
    have hpr := Q.pr_iff.1 hp
    rw [hp] at HG
    have HA := Lib.hid fun (W : World) (hP : PIn w W A c xs0 L B d ys S) => algorithmOfL_any A c xs0 L B d ys S W w.heap.size (Q.lzS L S) hpr.n4 hpr.m4 hP.mv hP.sv (fun x y W' hx hy hb => litL_any w.heap.size A c xs0 L B d ys S W' hpr x y hx hy (hP.bk.on hb) (hP.mv.stays hb) (hP.sv.stays hb))
    generalize Q.mdK (Q.lzS L S) S.length L.length = X at HA ⊢
    clear hL hS hp hpr
    go_enter Try.func43, Try.ntmps43
    go_wp2_with fail
    generalize w.alloc (.cells #[.slice A L.length c, .slice B S.length d] 29) = wa at HP ⊢
    obtain ⟨p0, p1, _, _, _⟩ := HP.out.bk
    go_wp2_with fail
    go_at_call 62
    refine (HG.out _ HP.out.mv HP.out.sv).mono ?_
    rintro e w1 ⟨rfl, hb⟩
    have HP1 := Lib.hid (HP.out.on hb)
    clear p0 p1 hb
    obtain ⟨p0, p1, _, _, _⟩ := HP1.out.bk
    go_wp2_with fail
    go_at_call 81
    refine (HA.out _ HP1.out).mono ?_
    rintro e w2 ⟨v, zs, rfl, ho, hn, hb⟩
    have HO := Lib.hid (own_down ho HP1.out.bl.size)
    have HN := Lib.hid (hn.down HP1.out.bl.size)
    have HB := Lib.hid (Law.then_ HP1.out.bl hb)
    clear p0 p1 ho hn hb
    go_wp2
    go_ret2
    exact ⟨_, zs, rfl, HO.out, HN.out, HB.out⟩
set_option maxHeartbeats 800000 in
theorem specGa_any (hlS : ∀ l ∈ S, l.length ≤ 1048576) (hL : NRow w A xs0 L) (hS : NRow w B ys S) :
    Calls Try.prog 39 #[pv A L.length c B S.length d] w (nestSays (Q.gaQ L S) w) := by
  have HP := Lib.hid (PIn.start (c := c) (d := d) hL hS 29)
  have HG := Lib.hid fun (W : World) (h1 : NRow W A xs0 L) (h2 : NRow W B ys S) => l8Good_any A c xs0 L B d ys S W hlS h1 h2
  cases hp : Q.prQ L S
  · rw [Q.ga_no hp]
    rw [hp] at HG
    clear hL hS hp
    go_enter Try.func39, Try.ntmps39
    go_wp2_with fail
    generalize w.alloc (.cells #[.slice A L.length c, .slice B S.length d] 29) = wa at HP ⊢
    obtain ⟨p0, p1, _, _, _⟩ := HP.out.bk
    go_wp2_with fail
    go_at_call 60
    refine (HG.out _ HP.out.mv HP.out.sv).mono ?_
    rintro e w1 ⟨rfl, hb⟩
    have HP1 := Lib.hid (HP.out.on hb)
    clear p0 p1 hb
    obtain ⟨p0, p1, _, _, _⟩ := HP1.out.bk
    go_wp2
    go_ret2
    exact ⟨_, [], rfl, own_down (ownsRow_nil _ _) HP1.out.bl.size, NOwn.nil _ _, HP1.out.bl.alloc HP1.out.bl.size _⟩
  · rw [Q.ga_yes hp]
    have hpr := Q.pr_iff.1 hp
    rw [hp] at HG
    have HA := Lib.hid fun (W : World) (h1 : NRow W A xs0 L) (h2 : NRow W B ys S) => l8Made_any A c xs0 L B d ys S W hpr false h1 h2
    rw [Q.gm_no] at HA
    generalize Q.mdK (Q.grS L S) S.length L.length = X at HA ⊢
    clear hL hS hp hpr
    go_enter Try.func39, Try.ntmps39
    go_wp2_with fail
    generalize w.alloc (.cells #[.slice A L.length c, .slice B S.length d] 29) = wa at HP ⊢
    obtain ⟨p0, p1, _, _, _⟩ := HP.out.bk
    go_wp2_with fail
    go_at_call 60
    refine (HG.out _ HP.out.mv HP.out.sv).mono ?_
    rintro e w1 ⟨rfl, hb⟩
    have HP1 := Lib.hid (HP.out.on hb)
    clear p0 p1 hb
    obtain ⟨p0, p1, _, _, _⟩ := HP1.out.bk
    go_wp2_with fail
    go_at_call 80
    refine (HA.out _ HP1.out.mv HP1.out.sv).mono ?_
    rintro e w2 ⟨v, zs, rfl, ho, hn, hb⟩
    have HO := Lib.hid (own_down ho HP1.out.bl.size)
    have HN := Lib.hid (hn.down HP1.out.bl.size)
    have HB := Lib.hid (Law.then_ HP1.out.bl hb)
    clear p0 p1 ho hn hb
    go_wp2
    go_ret2
    exact ⟨_, zs, rfl, HO.out, HN.out, HB.out⟩
set_option maxHeartbeats 800000 in
theorem specLa_any (hlS : ∀ l ∈ S, l.length ≤ 1048576) (hL : NRow w A xs0 L) (hS : NRow w B ys S) :
    Calls Try.prog 42 #[pv A L.length c B S.length d] w (nestSays (Q.laQ L S) w) := by
  have HP := Lib.hid (PIn.start (c := c) (d := d) hL hS 29)
  have HG := Lib.hid fun (W : World) (h1 : NRow W A xs0 L) (h2 : NRow W B ys S) => l8Good_any A c xs0 L B d ys S W hlS h1 h2
  cases hp : Q.prQ L S
  · rw [Q.la_no hp]
    rw [hp] at HG
    clear hL hS hp
    go_enter Try.func42, Try.ntmps42
    go_wp2_with fail
    generalize w.alloc (.cells #[.slice A L.length c, .slice B S.length d] 29) = wa at HP ⊢
    obtain ⟨p0, p1, _, _, _⟩ := HP.out.bk
    go_wp2_with fail
    go_at_call 60
    refine (HG.out _ HP.out.mv HP.out.sv).mono ?_
    rintro e w1 ⟨rfl, hb⟩
    have HP1 := Lib.hid (HP.out.on hb)
    clear p0 p1 hb
    obtain ⟨p0, p1, _, _, _⟩ := HP1.out.bk
    go_wp2
    go_ret2
    exact ⟨_, [], rfl, own_down (ownsRow_nil _ _) HP1.out.bl.size, NOwn.nil _ _, HP1.out.bl.alloc HP1.out.bl.size _⟩
  · rw [Q.la_yes hp]
    have hpr := Q.pr_iff.1 hp
    rw [hp] at HG
    have HA := Lib.hid fun (W : World) (h1 : NRow W A xs0 L) (h2 : NRow W B ys S) => l8Made_any A c xs0 L B d ys S W hpr true h1 h2
    rw [Q.gm_yes] at HA
    generalize Q.mdK (Q.lzS L S) S.length L.length = X at HA ⊢
    clear hL hS hp hpr
    go_enter Try.func42, Try.ntmps42
    go_wp2_with fail
    generalize w.alloc (.cells #[.slice A L.length c, .slice B S.length d] 29) = wa at HP ⊢
    obtain ⟨p0, p1, _, _, _⟩ := HP.out.bk
    go_wp2_with fail
    go_at_call 60
    refine (HG.out _ HP.out.mv HP.out.sv).mono ?_
    rintro e w1 ⟨rfl, hb⟩
    have HP1 := Lib.hid (HP.out.on hb)
    clear p0 p1 hb
    obtain ⟨p0, p1, _, _, _⟩ := HP1.out.bk
    go_wp2_with fail
    go_at_call 80
    refine (HA.out _ HP1.out.mv HP1.out.sv).mono ?_
    rintro e w2 ⟨v, zs, rfl, ho, hn, hb⟩
    have HO := Lib.hid (own_down ho HP1.out.bl.size)
    have HN := Lib.hid (hn.down HP1.out.bl.size)
    have HB := Lib.hid (Law.then_ HP1.out.bl hb)
    clear p0 p1 ho hn hb
    go_wp2
    go_ret2
    exact ⟨_, zs, rfl, HO.out, HN.out, HB.out⟩
end Go.Proofs.Ythpoeeadhjnljaa
