/-
  The code's request: a fault of a full cache. The code's request: a fault of a full cache. The code's request: a fault of a full cache. The code's request: a fault of a full cache.
-/
import Derived.Test.YtdjafooabpcbmaaMc
/- The code's request: a fault of a full cache. -/
namespace Go.Proofs.Ytdjafooabpcbmaa
open Go.RowKit
set_option linter.unusedVariables false
section
variable {W : World} {base b : Nat} {c : Ca} {vp vm : Value}
set_option maxRecDepth 100000 in
set_option maxHeartbeats 800000 in
theorem reqFull_1 (h : CB W base b c vp vm) (hbase : base ≤ W.heap.size) (hp : c.p = 1) {S : Nat} (hs : c.s = (S : Int)) (hS1 : 1 ≤ S) (hS6 : S ≤ 6) (hfull : c.ps.length = S) {x : Int} (hx : x ∉ c.ps) :
    Calls Try.prog 69 #[.pointer (some ⟨b, 0, none⟩), .int .i64 x] W (reqSays base b true ({ { c with ps := c.ps.eraseIdx (c.ps.length - 1) } with ps := ({ c with ps := c.ps.eraseIdx (c.ps.length - 1) }).ps.take (0) ++ x :: ({ c with ps := c.ps.eraseIdx (c.ps.length - 1) }).ps.drop (0) }) W) := by
  have Hp := Lib.hid hp
  have Hs := Lib.hid hs
  have Hfull := Lib.hid hfull
  have Hmk : Hid (markedB c.p = false) := by show _ = _; rw [hp]; rfl
  have hn : c.ps.length ≤ 6 := by omega
  have hn1 : c.ps.length ≤ 1000 := by omega
  have hn0 : 0 < c.ps.length := by omega
  obtain ⟨A, d, rfl, _, _, _⟩ := Law.own_len h.op
  have hb := h.hi
  have HC := Lib.hid h
  have HX := Lib.hid hx
  obtain ⟨c0, c1, c2, c3, c4, f0, f1, f2, f3, f4⟩ := h.blk
  rw [hp] at c0
  have HR := Lib.hid (ruleOf_1 W)
  have hm : ∀ w : World, (method 272 122 (.agg #[]) "loop.example/g01087/impl.makeRoom").run Try.prog w = .ok (181, .agg #[]) w := fun _ => by kernel_rfl
  have HF := isFull_any (.int .i64 1) (.int .i64 c.h) c.ps.length S A d vm
  rw [show decide (c.ps.length = S) = true from by simp; omega] at HF
  have HF := Lib.hid HF
  have HMk : Hid (∀ w, Calls Try.prog 113 #[.int .i64 1] w fun e w' => e = .returned (.bool false) ∧ w' = w) := Lib.hid fun w => by
    have h := hasMarks_any 1 w
    rwa [show markedB 1 = false from rfl] at h
  clear h hx hp hs hfull
  go_enter Try.func69, Try.ntmps69
  go_wp2_with fail
  go_at_call 109
  refine HR.out.mono ?_
  rintro e w1 ⟨rfl, hb1⟩
  have H1 := Lib.hid (HC.out.below hb1)
  have HI := Lib.hid (idx_row (c := d) (Law.Row.own H1.out.op) (by omega) x)
  rw [if_neg HX.out] at HI
  have HB1 := Lib.hid (hb1.mono hbase)
  obtain ⟨d0, d1, d2, d3, d4, e0, e1, e2, e3, e4⟩ := H1.out.blk
  rw [Hp.out] at d0
  rw [Hs.out] at d1
  clear hb1 c0 c1 c2 c3 c4 f0 f1 f2 f3 f4 HR
  go_wp2_with fail
  go_at_call 110
  refine HI.out.mono ?_
  rintro e w' ⟨rfl, hw'⟩
  obtain rfl := hw'.symm
  clear hw' HI
  go_wp2_with fail
  go_at_call 111
  refine (HF.out _).mono ?_
  rintro e w2 ⟨rfl, hb2⟩
  have h2 := H1.out.below hb2
  have HB2 := Lib.hid (HB1.out.trans (hb2.mono (Nat.le_trans hbase HB1.out.size)))
  have S2 : Hid (base ≤ w2.heap.size) := Lib.hid (Nat.le_trans hbase HB2.out.size)
  have HRoom := Lib.hid (lastOut_any h2 S2.out Hmk.out hn0 hn1)
  clear hb2 h2 H1 d0 d1 d2 d3 d4 e0 e1 e2 e3 e4 HF
  obtain ⟨E, hE⟩ : ∃ E, E = c.ps.eraseIdx (c.ps.length - 1) := ⟨_, rfl⟩
  rw [← hE] at HRoom
  have HEl : Hid (E.length ≤ 1000) := by show _ ≤ _; rw [hE, List.length_eraseIdx]; split <;> omega
  have HEq := Lib.hid hE
  clear hE
  go_wp2_with fail
  go_at_call 181
  refine HRoom.out.mono ?_
  rintro e w3 ⟨rfl, ⟨vp3, vm3, h3⟩, hb3⟩
  obtain ⟨A3, d3, rfl, _, _, _⟩ := Law.own_len h3.op
  obtain ⟨B3, m3, rfl, _, _, _⟩ := Law.own_len h3.om
  have HB3 := Lib.hid (HB2.out.trans hb3)
  have S3 : Hid (base ≤ w3.heap.size) := Lib.hid (Nat.le_trans hbase HB3.out.size)
  have H3 := Lib.hid h3
  obtain ⟨k0, d1, d2, d3c, d4, e0, e1, e2, e3, e4⟩ := h3.blk
  have d0 : w3.cell? ⟨b, 0, none⟩ = some (.int .i64 1) := k0.trans (by show some (Value.int .i64 c.p) = _; rw [Hp.out])
  clear k0 h3 hb3 hm HRoom HB2 S2
  have HI3 := Lib.hid (ins_pages (x := x) (j := 0) H3.out S3.out (Nat.zero_le _) HEl.out rfl)
  go_wp2_with fail
  go_at_call 112
  refine HI3.out.mono ?_
  rintro e w4 ⟨A4, n4, d4v, rfl, h4, ⟨k0, k1, k2, k3, k4, f0, f1, f2, f3, f4⟩, hb4⟩
  have c0 : w4.cell? ⟨b, 0, none⟩ = some (.int .i64 1) := k0.trans (by show some (Value.int .i64 c.p) = _; rw [Hp.out])
  have HB4 := Lib.hid ((HB3.out.trans hb4).setCell (p := ⟨b, 2, none⟩) H3.out.lo (.slice A4 n4 d4v))
  have H4 := Lib.hid h4
  have S4 : Hid (base ≤ (w4.setCell ⟨b, 2, none⟩ (.slice A4 n4 d4v)).heap.size) := Lib.hid (Nat.le_trans hbase HB4.out.size)
  clear k0 h4 hb4 HI3 H3 HB3 S3 d0 d1 d2 d3c d4 e0 e1 e2 e3 e4
  go_wp2_with fail
  go_at_call 113
  refine (HMk.out _).mono ?_
  rintro e w' ⟨rfl, hw'⟩
  obtain rfl := hw'.symm
  clear hw' HMk
  go_wp2
  go_ret
  have h9 := H4.out
  rw [HEq.out] at h9
  exact ⟨rfl, ⟨_, _, h9⟩, HB4.out⟩
end
end Go.Proofs.Ytdjafooabpcbmaa

/- The code's request: a fault of a full cache. -/
namespace Go.Proofs.Ytdjafooabpcbmaa
open Go.RowKit
set_option linter.unusedVariables false
section
variable {W : World} {base b : Nat} {c : Ca} {vp vm : Value}
set_option maxRecDepth 100000 in
set_option maxHeartbeats 800000 in
theorem reqFull_2 (h : CB W base b c vp vm) (hbase : base ≤ W.heap.size) (hp : c.p = 2) {S : Nat} (hs : c.s = (S : Int)) (hS1 : 1 ≤ S) (hS6 : S ≤ 6) (hfull : c.ps.length = S) {x : Int} (hx : x ∉ c.ps) :
    Calls Try.prog 69 #[.pointer (some ⟨b, 0, none⟩), .int .i64 x] W (reqSays base b true ({ { c with ps := c.ps.eraseIdx (c.ps.length - 1) } with ps := ({ c with ps := c.ps.eraseIdx (c.ps.length - 1) }).ps.take (0) ++ x :: ({ c with ps := c.ps.eraseIdx (c.ps.length - 1) }).ps.drop (0) }) W) := by
  have Hp := Lib.hid hp
  have Hs := Lib.hid hs
  have Hfull := Lib.hid hfull
  have Hmk : Hid (markedB c.p = false) := by show _ = _; rw [hp]; rfl
  have hn : c.ps.length ≤ 6 := by omega
  have hn1 : c.ps.length ≤ 1000 := by omega
  have hn0 : 0 < c.ps.length := by omega
  obtain ⟨A, d, rfl, _, _, _⟩ := Law.own_len h.op
  have hb := h.hi
  have HC := Lib.hid h
  have HX := Lib.hid hx
  obtain ⟨c0, c1, c2, c3, c4, f0, f1, f2, f3, f4⟩ := h.blk
  rw [hp] at c0
  have HR := Lib.hid (ruleOf_2 W)
  have hm : ∀ w : World, (method 272 125 (.agg #[]) "loop.example/g01087/impl.makeRoom").run Try.prog w = .ok (181, .agg #[]) w := fun _ => by kernel_rfl
  have HF := isFull_any (.int .i64 2) (.int .i64 c.h) c.ps.length S A d vm
  rw [show decide (c.ps.length = S) = true from by simp; omega] at HF
  have HF := Lib.hid HF
  have HMk : Hid (∀ w, Calls Try.prog 113 #[.int .i64 2] w fun e w' => e = .returned (.bool false) ∧ w' = w) := Lib.hid fun w => by
    have h := hasMarks_any 2 w
    rwa [show markedB 2 = false from rfl] at h
  clear h hx hp hs hfull
  go_enter Try.func69, Try.ntmps69
  go_wp2_with fail
  go_at_call 109
  refine HR.out.mono ?_
  rintro e w1 ⟨rfl, hb1⟩
  have H1 := Lib.hid (HC.out.below hb1)
  have HI := Lib.hid (idx_row (c := d) (Law.Row.own H1.out.op) (by omega) x)
  rw [if_neg HX.out] at HI
  have HB1 := Lib.hid (hb1.mono hbase)
  obtain ⟨d0, d1, d2, d3, d4, e0, e1, e2, e3, e4⟩ := H1.out.blk
  rw [Hp.out] at d0
  rw [Hs.out] at d1
  clear hb1 c0 c1 c2 c3 c4 f0 f1 f2 f3 f4 HR
  go_wp2_with fail
  go_at_call 110
  refine HI.out.mono ?_
  rintro e w' ⟨rfl, hw'⟩
  obtain rfl := hw'.symm
  clear hw' HI
  go_wp2_with fail
  go_at_call 111
  refine (HF.out _).mono ?_
  rintro e w2 ⟨rfl, hb2⟩
  have h2 := H1.out.below hb2
  have HB2 := Lib.hid (HB1.out.trans (hb2.mono (Nat.le_trans hbase HB1.out.size)))
  have S2 : Hid (base ≤ w2.heap.size) := Lib.hid (Nat.le_trans hbase HB2.out.size)
  have HRoom := Lib.hid (lastOut_any h2 S2.out Hmk.out hn0 hn1)
  clear hb2 h2 H1 d0 d1 d2 d3 d4 e0 e1 e2 e3 e4 HF
  obtain ⟨E, hE⟩ : ∃ E, E = c.ps.eraseIdx (c.ps.length - 1) := ⟨_, rfl⟩
  rw [← hE] at HRoom
  have HEl : Hid (E.length ≤ 1000) := by show _ ≤ _; rw [hE, List.length_eraseIdx]; split <;> omega
  have HEq := Lib.hid hE
  clear hE
  go_wp2_with fail
  go_at_call 181
  refine HRoom.out.mono ?_
  rintro e w3 ⟨rfl, ⟨vp3, vm3, h3⟩, hb3⟩
  obtain ⟨A3, d3, rfl, _, _, _⟩ := Law.own_len h3.op
  obtain ⟨B3, m3, rfl, _, _, _⟩ := Law.own_len h3.om
  have HB3 := Lib.hid (HB2.out.trans hb3)
  have S3 : Hid (base ≤ w3.heap.size) := Lib.hid (Nat.le_trans hbase HB3.out.size)
  have H3 := Lib.hid h3
  obtain ⟨k0, d1, d2, d3c, d4, e0, e1, e2, e3, e4⟩ := h3.blk
  have d0 : w3.cell? ⟨b, 0, none⟩ = some (.int .i64 2) := k0.trans (by show some (Value.int .i64 c.p) = _; rw [Hp.out])
  clear k0 h3 hb3 hm HRoom HB2 S2
  have HI3 := Lib.hid (ins_pages (x := x) (j := 0) H3.out S3.out (Nat.zero_le _) HEl.out rfl)
  go_wp2_with fail
  go_at_call 112
  refine HI3.out.mono ?_
  rintro e w4 ⟨A4, n4, d4v, rfl, h4, ⟨k0, k1, k2, k3, k4, f0, f1, f2, f3, f4⟩, hb4⟩
  have c0 : w4.cell? ⟨b, 0, none⟩ = some (.int .i64 2) := k0.trans (by show some (Value.int .i64 c.p) = _; rw [Hp.out])
  have HB4 := Lib.hid ((HB3.out.trans hb4).setCell (p := ⟨b, 2, none⟩) H3.out.lo (.slice A4 n4 d4v))
  have H4 := Lib.hid h4
  have S4 : Hid (base ≤ (w4.setCell ⟨b, 2, none⟩ (.slice A4 n4 d4v)).heap.size) := Lib.hid (Nat.le_trans hbase HB4.out.size)
  clear k0 h4 hb4 HI3 H3 HB3 S3 d0 d1 d2 d3c d4 e0 e1 e2 e3 e4
  go_wp2_with fail
  go_at_call 113
  refine (HMk.out _).mono ?_
  rintro e w' ⟨rfl, hw'⟩
  obtain rfl := hw'.symm
  clear hw' HMk
  go_wp2
  go_ret
  have h9 := H4.out
  rw [HEq.out] at h9
  exact ⟨rfl, ⟨_, _, h9⟩, HB4.out⟩
end
end Go.Proofs.Ytdjafooabpcbmaa

/- The code's request: a fault of a full cache. -/
namespace Go.Proofs.Ytdjafooabpcbmaa
open Go.RowKit
set_option linter.unusedVariables false
section
variable {W : World} {base b : Nat} {c : Ca} {vp vm : Value}
set_option maxRecDepth 100000 in
set_option maxHeartbeats 800000 in
theorem reqFull_3 (h : CB W base b c vp vm) (hbase : base ≤ W.heap.size) (hp : c.p = 3) {S : Nat} (hs : c.s = (S : Int)) (hS1 : 1 ≤ S) (hS6 : S ≤ 6) (hfull : c.ps.length = S) {x : Int} (hx : x ∉ c.ps) :
    Calls Try.prog 69 #[.pointer (some ⟨b, 0, none⟩), .int .i64 x] W (reqSays base b true ({ { c with ps := c.ps.eraseIdx 0 } with ps := ({ c with ps := c.ps.eraseIdx 0 }).ps.take (0) ++ x :: ({ c with ps := c.ps.eraseIdx 0 }).ps.drop (0) }) W) := by
  have Hp := Lib.hid hp
  have Hs := Lib.hid hs
  have Hfull := Lib.hid hfull
  have Hmk : Hid (markedB c.p = false) := by show _ = _; rw [hp]; rfl
  have hn : c.ps.length ≤ 6 := by omega
  have hn1 : c.ps.length ≤ 1000 := by omega
  have hn0 : 0 < c.ps.length := by omega
  obtain ⟨A, d, rfl, _, _, _⟩ := Law.own_len h.op
  have hb := h.hi
  have HC := Lib.hid h
  have HX := Lib.hid hx
  obtain ⟨c0, c1, c2, c3, c4, f0, f1, f2, f3, f4⟩ := h.blk
  rw [hp] at c0
  have HR := Lib.hid (ruleOf_3 W)
  have hm : ∀ w : World, (method 272 128 (.agg #[]) "loop.example/g01087/impl.makeRoom").run Try.prog w = .ok (185, .agg #[]) w := fun _ => by kernel_rfl
  have HF := isFull_any (.int .i64 3) (.int .i64 c.h) c.ps.length S A d vm
  rw [show decide (c.ps.length = S) = true from by simp; omega] at HF
  have HF := Lib.hid HF
  have HMk : Hid (∀ w, Calls Try.prog 113 #[.int .i64 3] w fun e w' => e = .returned (.bool false) ∧ w' = w) := Lib.hid fun w => by
    have h := hasMarks_any 3 w
    rwa [show markedB 3 = false from rfl] at h
  clear h hx hp hs hfull
  go_enter Try.func69, Try.ntmps69
  go_wp2_with fail
  go_at_call 109
  refine HR.out.mono ?_
  rintro e w1 ⟨rfl, hb1⟩
  have H1 := Lib.hid (HC.out.below hb1)
  have HI := Lib.hid (idx_row (c := d) (Law.Row.own H1.out.op) (by omega) x)
  rw [if_neg HX.out] at HI
  have HB1 := Lib.hid (hb1.mono hbase)
  obtain ⟨d0, d1, d2, d3, d4, e0, e1, e2, e3, e4⟩ := H1.out.blk
  rw [Hp.out] at d0
  rw [Hs.out] at d1
  clear hb1 c0 c1 c2 c3 c4 f0 f1 f2 f3 f4 HR
  go_wp2_with fail
  go_at_call 110
  refine HI.out.mono ?_
  rintro e w' ⟨rfl, hw'⟩
  obtain rfl := hw'.symm
  clear hw' HI
  go_wp2_with fail
  go_at_call 111
  refine (HF.out _).mono ?_
  rintro e w2 ⟨rfl, hb2⟩
  have h2 := H1.out.below hb2
  have HB2 := Lib.hid (HB1.out.trans (hb2.mono (Nat.le_trans hbase HB1.out.size)))
  have S2 : Hid (base ≤ w2.heap.size) := Lib.hid (Nat.le_trans hbase HB2.out.size)
  have HRoom := Lib.hid (firstOut_any h2 S2.out Hmk.out hn0 hn1)
  clear hb2 h2 H1 d0 d1 d2 d3 d4 e0 e1 e2 e3 e4 HF
  obtain ⟨E, hE⟩ : ∃ E, E = c.ps.eraseIdx 0 := ⟨_, rfl⟩
  rw [← hE] at HRoom
  have HEl : Hid (E.length ≤ 1000) := by show _ ≤ _; rw [hE, List.length_eraseIdx]; split <;> omega
  have HEq := Lib.hid hE
  clear hE
  go_wp2_with fail
  go_at_call 185
  refine HRoom.out.mono ?_
  rintro e w3 ⟨rfl, ⟨vp3, vm3, h3⟩, hb3⟩
  obtain ⟨A3, d3, rfl, _, _, _⟩ := Law.own_len h3.op
  obtain ⟨B3, m3, rfl, _, _, _⟩ := Law.own_len h3.om
  have HB3 := Lib.hid (HB2.out.trans hb3)
  have S3 : Hid (base ≤ w3.heap.size) := Lib.hid (Nat.le_trans hbase HB3.out.size)
  have H3 := Lib.hid h3
  obtain ⟨k0, d1, d2, d3c, d4, e0, e1, e2, e3, e4⟩ := h3.blk
  have d0 : w3.cell? ⟨b, 0, none⟩ = some (.int .i64 3) := k0.trans (by show some (Value.int .i64 c.p) = _; rw [Hp.out])
  clear k0 h3 hb3 hm HRoom HB2 S2
  have HI3 := Lib.hid (ins_pages (x := x) (j := 0) H3.out S3.out (Nat.zero_le _) HEl.out rfl)
  go_wp2_with fail
  go_at_call 112
  refine HI3.out.mono ?_
  rintro e w4 ⟨A4, n4, d4v, rfl, h4, ⟨k0, k1, k2, k3, k4, f0, f1, f2, f3, f4⟩, hb4⟩
  have c0 : w4.cell? ⟨b, 0, none⟩ = some (.int .i64 3) := k0.trans (by show some (Value.int .i64 c.p) = _; rw [Hp.out])
  have HB4 := Lib.hid ((HB3.out.trans hb4).setCell (p := ⟨b, 2, none⟩) H3.out.lo (.slice A4 n4 d4v))
  have H4 := Lib.hid h4
  have S4 : Hid (base ≤ (w4.setCell ⟨b, 2, none⟩ (.slice A4 n4 d4v)).heap.size) := Lib.hid (Nat.le_trans hbase HB4.out.size)
  clear k0 h4 hb4 HI3 H3 HB3 S3 d0 d1 d2 d3c d4 e0 e1 e2 e3 e4
  go_wp2_with fail
  go_at_call 113
  refine (HMk.out _).mono ?_
  rintro e w' ⟨rfl, hw'⟩
  obtain rfl := hw'.symm
  clear hw' HMk
  go_wp2
  go_ret
  have h9 := H4.out
  rw [HEq.out] at h9
  exact ⟨rfl, ⟨_, _, h9⟩, HB4.out⟩
end
end Go.Proofs.Ytdjafooabpcbmaa

/- The code's request: a fault of a full cache. -/
namespace Go.Proofs.Ytdjafooabpcbmaa
open Go.RowKit
set_option linter.unusedVariables false
section
variable {W : World} {base b : Nat} {c : Ca} {vp vm : Value}
set_option maxRecDepth 100000 in
set_option maxHeartbeats 800000 in
theorem reqFull_4 (h : CB W base b c vp vm) (hbase : base ≤ W.heap.size) (hp : c.p = 4) {S : Nat} (hs : c.s = (S : Int)) (hS1 : 1 ≤ S) (hS6 : S ≤ 6) (hfull : c.ps.length = S) {x : Int} (hx : x ∉ c.ps) :
    Calls Try.prog 69 #[.pointer (some ⟨b, 0, none⟩), .int .i64 x] W (reqSays base b true ({ { c with ps := [] } with ps := ({ c with ps := [] }).ps.take (0) ++ x :: ({ c with ps := [] }).ps.drop (0) }) W) := by
  have Hp := Lib.hid hp
  have Hs := Lib.hid hs
  have Hfull := Lib.hid hfull
  have Hmk : Hid (markedB c.p = false) := by show _ = _; rw [hp]; rfl
  have hn : c.ps.length ≤ 6 := by omega
  have hn1 : c.ps.length ≤ 1000 := by omega
  have hn0 : 0 < c.ps.length := by omega
  obtain ⟨A, d, rfl, _, _, _⟩ := Law.own_len h.op
  have hb := h.hi
  have HC := Lib.hid h
  have HX := Lib.hid hx
  obtain ⟨c0, c1, c2, c3, c4, f0, f1, f2, f3, f4⟩ := h.blk
  rw [hp] at c0
  have HR := Lib.hid (ruleOf_4 W)
  have hm : ∀ w : World, (method 272 130 (.agg #[]) "loop.example/g01087/impl.makeRoom").run Try.prog w = .ok (186, .agg #[]) w := fun _ => by kernel_rfl
  have HF := isFull_any (.int .i64 4) (.int .i64 c.h) c.ps.length S A d vm
  rw [show decide (c.ps.length = S) = true from by simp; omega] at HF
  have HF := Lib.hid HF
  have HMk : Hid (∀ w, Calls Try.prog 113 #[.int .i64 4] w fun e w' => e = .returned (.bool false) ∧ w' = w) := Lib.hid fun w => by
    have h := hasMarks_any 4 w
    rwa [show markedB 4 = false from rfl] at h
  clear h hx hp hs hfull
  go_enter Try.func69, Try.ntmps69
  go_wp2_with fail
  go_at_call 109
  refine HR.out.mono ?_
  rintro e w1 ⟨rfl, hb1⟩
  have H1 := Lib.hid (HC.out.below hb1)
  have HI := Lib.hid (idx_row (c := d) (Law.Row.own H1.out.op) (by omega) x)
  rw [if_neg HX.out] at HI
  have HB1 := Lib.hid (hb1.mono hbase)
  obtain ⟨d0, d1, d2, d3, d4, e0, e1, e2, e3, e4⟩ := H1.out.blk
  rw [Hp.out] at d0
  rw [Hs.out] at d1
  clear hb1 c0 c1 c2 c3 c4 f0 f1 f2 f3 f4 HR
  go_wp2_with fail
  go_at_call 110
  refine HI.out.mono ?_
  rintro e w' ⟨rfl, hw'⟩
  obtain rfl := hw'.symm
  clear hw' HI
  go_wp2_with fail
  go_at_call 111
  refine (HF.out _).mono ?_
  rintro e w2 ⟨rfl, hb2⟩
  have h2 := H1.out.below hb2
  have HB2 := Lib.hid (HB1.out.trans (hb2.mono (Nat.le_trans hbase HB1.out.size)))
  have S2 : Hid (base ≤ w2.heap.size) := Lib.hid (Nat.le_trans hbase HB2.out.size)
  have HRoom := Lib.hid (flush_any h2 S2.out hn0 hn1)
  clear hb2 h2 H1 d0 d1 d2 d3 d4 e0 e1 e2 e3 e4 HF
  go_wp2_with fail
  go_at_call 186
  refine HRoom.out.mono ?_
  rintro e w3 ⟨rfl, ⟨vp3, vm3, h3⟩, hb3⟩
  obtain ⟨A3, d3, rfl, _, _, _⟩ := Law.own_len h3.op
  obtain ⟨B3, m3, rfl, _, _, _⟩ := Law.own_len h3.om
  have HB3 := Lib.hid (HB2.out.trans hb3)
  have S3 : Hid (base ≤ w3.heap.size) := Lib.hid (Nat.le_trans hbase HB3.out.size)
  have H3 := Lib.hid h3
  obtain ⟨k0, d1, d2, d3c, d4, e0, e1, e2, e3, e4⟩ := h3.blk
  have d0 : w3.cell? ⟨b, 0, none⟩ = some (.int .i64 4) := k0.trans (by show some (Value.int .i64 c.p) = _; rw [Hp.out])
  clear k0 h3 hb3 hm HRoom HB2 S2
  have HI3 := Lib.hid (ins_pages (x := x) (j := 0) H3.out S3.out (by show 0 ≤ _; omega) (by show ({ c with ps := [] }).ps.length ≤ 1000; simp) rfl)
  go_wp2_with fail
  go_at_call 112
  refine HI3.out.mono ?_
  rintro e w4 ⟨A4, n4, d4v, rfl, h4, ⟨k0, k1, k2, k3, k4, f0, f1, f2, f3, f4⟩, hb4⟩
  have c0 : w4.cell? ⟨b, 0, none⟩ = some (.int .i64 4) := k0.trans (by show some (Value.int .i64 c.p) = _; rw [Hp.out])
  have HB4 := Lib.hid ((HB3.out.trans hb4).setCell (p := ⟨b, 2, none⟩) H3.out.lo (.slice A4 n4 d4v))
  have H4 := Lib.hid h4
  have S4 : Hid (base ≤ (w4.setCell ⟨b, 2, none⟩ (.slice A4 n4 d4v)).heap.size) := Lib.hid (Nat.le_trans hbase HB4.out.size)
  clear k0 h4 hb4 HI3 H3 HB3 S3 d0 d1 d2 d3c d4 e0 e1 e2 e3 e4
  go_wp2_with fail
  go_at_call 113
  refine (HMk.out _).mono ?_
  rintro e w' ⟨rfl, hw'⟩
  obtain rfl := hw'.symm
  clear hw' HMk
  go_wp2
  go_ret
  exact ⟨rfl, ⟨_, _, H4.out⟩, HB4.out⟩
end
end Go.Proofs.Ytdjafooabpcbmaa
