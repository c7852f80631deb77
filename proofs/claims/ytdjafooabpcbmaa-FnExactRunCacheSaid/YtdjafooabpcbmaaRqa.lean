/-
  The code's request: a hit, policy by policy. The code's request: a fault of a cache that is not full, policy by policy.
-/
import Derived.Test.YtdjafooabpcbmaaMc
/- The code's request: a hit, policy by policy. -/
namespace Go.Proofs.Ytdjafooabpcbmaa
open Go.RowKit
set_option linter.unusedVariables false
section
variable {W : World} {base b : Nat} {c : Ca} {vp vm : Value}
set_option maxRecDepth 100000 in
set_option maxHeartbeats 400000 in
theorem reqHit_1 (h : CB W base b c vp vm) (hbase : base ≤ W.heap.size) (hp : c.p = 1) {x : Int} (hx : x ∈ c.ps) (hn : c.ps.length ≤ 6) :
    Calls Try.prog 69 #[.pointer (some ⟨b, 0, none⟩), .int .i64 x] W (reqSays base b false ({ c with ps := c.ps.getD (Q.pos x c.ps) 0 :: c.ps.eraseIdx (Q.pos x c.ps) }) W) := by
  replace hn : c.ps.length ≤ 1000 := by omega
  obtain ⟨A, d, rfl, _, _, _⟩ := Law.own_len h.op
  have hb := h.hi
  have HC := Lib.hid h
  have HX := Lib.hid hx
  obtain ⟨c0, c1, c2, c3, c4, f0, f1, f2, f3, f4⟩ := h.blk
  rw [hp] at c0
  have HR := Lib.hid (ruleOf_1 W)
  have hm : ∀ w : World, (method 272 122 (.agg #[]) "loop.example/g01087/impl.hit").run Try.prog w = .ok (180, .agg #[]) w := fun _ => by kernel_rfl
  clear h hx hp
  go_enter Try.func69, Try.ntmps69
  go_wp2_with fail
  go_at_call 109
  refine HR.out.mono ?_
  rintro e w1 ⟨rfl, hb1⟩
  have h1 := HC.out.below hb1
  have HI := Lib.hid (idx_row (c := d) (Law.Row.own h1.op) (by omega) x)
  rw [if_pos HX.out] at HI
  have hps := Q.pos_lt HX.out
  have HH := Lib.hid (useHit_any h1 (Nat.le_trans hbase hb1.size) hps hn)
  have HB1 := Lib.hid (hb1.mono hbase)
  obtain ⟨d0, d1, d2, d3, d4, e0, e1, e2, e3, e4⟩ := h1.blk
  generalize Q.pos x c.ps = k at *
  clear h1 hb1 c0 c1 c2 c3 c4 f0 f1 f2 f3 f4
  go_wp2_with fail
  go_at_call 110
  refine HI.out.mono ?_
  rintro e w' ⟨rfl, hw'⟩
  obtain rfl := hw'.symm
  clear hw'
  go_wp2_with fail
  go_at_call 180
  refine HH.out.mono ?_
  rintro e w2 ⟨rfl, h2, hb2⟩
  have H2 := Lib.hid h2
  have HB2 := Lib.hid (HB1.out.trans hb2)
  clear h2 hb2 hm
  go_wp2
  go_ret
  exact ⟨rfl, H2.out, HB2.out⟩
set_option maxRecDepth 100000 in
set_option maxHeartbeats 400000 in
theorem reqHit_2 (h : CB W base b c vp vm) (hbase : base ≤ W.heap.size) (hp : c.p = 2) {x : Int} (hx : x ∈ c.ps) (hn : c.ps.length ≤ 6) :
    Calls Try.prog 69 #[.pointer (some ⟨b, 0, none⟩), .int .i64 x] W (reqSays base b false (c) W) := by
  replace hn : c.ps.length ≤ 1000 := by omega
  obtain ⟨A, d, rfl, _, _, _⟩ := Law.own_len h.op
  have hb := h.hi
  have HC := Lib.hid h
  have HX := Lib.hid hx
  obtain ⟨c0, c1, c2, c3, c4, f0, f1, f2, f3, f4⟩ := h.blk
  rw [hp] at c0
  have HR := Lib.hid (ruleOf_2 W)
  have hm : ∀ w : World, (method 272 125 (.agg #[]) "loop.example/g01087/impl.hit").run Try.prog w = .ok (184, .agg #[]) w := fun _ => by kernel_rfl
  clear h hx hp
  go_enter Try.func69, Try.ntmps69
  go_wp2_with fail
  go_at_call 109
  refine HR.out.mono ?_
  rintro e w1 ⟨rfl, hb1⟩
  have h1 := HC.out.below hb1
  have HI := Lib.hid (idx_row (c := d) (Law.Row.own h1.op) (by omega) x)
  rw [if_pos HX.out] at HI
  have hps := Q.pos_lt HX.out
  have HH := Lib.hid (entryHit_any h1 (Nat.le_trans hbase hb1.size) (Q.pos x c.ps))
  have HB1 := Lib.hid (hb1.mono hbase)
  obtain ⟨d0, d1, d2, d3, d4, e0, e1, e2, e3, e4⟩ := h1.blk
  generalize Q.pos x c.ps = k at *
  clear h1 hb1 c0 c1 c2 c3 c4 f0 f1 f2 f3 f4
  go_wp2_with fail
  go_at_call 110
  refine HI.out.mono ?_
  rintro e w' ⟨rfl, hw'⟩
  obtain rfl := hw'.symm
  clear hw'
  go_wp2_with fail
  go_at_call 184
  refine HH.out.mono ?_
  rintro e w2 ⟨rfl, h2, hb2⟩
  have H2 := Lib.hid h2
  have HB2 := Lib.hid (HB1.out.trans hb2)
  clear h2 hb2 hm
  go_wp2
  go_ret
  exact ⟨rfl, H2.out, HB2.out⟩
set_option maxRecDepth 100000 in
set_option maxHeartbeats 400000 in
theorem reqHit_3 (h : CB W base b c vp vm) (hbase : base ≤ W.heap.size) (hp : c.p = 3) {x : Int} (hx : x ∈ c.ps) (hn : c.ps.length ≤ 6) :
    Calls Try.prog 69 #[.pointer (some ⟨b, 0, none⟩), .int .i64 x] W (reqSays base b false (c) W) := by
  replace hn : c.ps.length ≤ 1000 := by omega
  obtain ⟨A, d, rfl, _, _, _⟩ := Law.own_len h.op
  have hb := h.hi
  have HC := Lib.hid h
  have HX := Lib.hid hx
  obtain ⟨c0, c1, c2, c3, c4, f0, f1, f2, f3, f4⟩ := h.blk
  rw [hp] at c0
  have HR := Lib.hid (ruleOf_3 W)
  have hm : ∀ w : World, (method 272 128 (.agg #[]) "loop.example/g01087/impl.hit").run Try.prog w = .ok (184, .agg #[]) w := fun _ => by kernel_rfl
  clear h hx hp
  go_enter Try.func69, Try.ntmps69
  go_wp2_with fail
  go_at_call 109
  refine HR.out.mono ?_
  rintro e w1 ⟨rfl, hb1⟩
  have h1 := HC.out.below hb1
  have HI := Lib.hid (idx_row (c := d) (Law.Row.own h1.op) (by omega) x)
  rw [if_pos HX.out] at HI
  have hps := Q.pos_lt HX.out
  have HH := Lib.hid (entryHit_any h1 (Nat.le_trans hbase hb1.size) (Q.pos x c.ps))
  have HB1 := Lib.hid (hb1.mono hbase)
  obtain ⟨d0, d1, d2, d3, d4, e0, e1, e2, e3, e4⟩ := h1.blk
  generalize Q.pos x c.ps = k at *
  clear h1 hb1 c0 c1 c2 c3 c4 f0 f1 f2 f3 f4
  go_wp2_with fail
  go_at_call 110
  refine HI.out.mono ?_
  rintro e w' ⟨rfl, hw'⟩
  obtain rfl := hw'.symm
  clear hw'
  go_wp2_with fail
  go_at_call 184
  refine HH.out.mono ?_
  rintro e w2 ⟨rfl, h2, hb2⟩
  have H2 := Lib.hid h2
  have HB2 := Lib.hid (HB1.out.trans hb2)
  clear h2 hb2 hm
  go_wp2
  go_ret
  exact ⟨rfl, H2.out, HB2.out⟩
set_option maxRecDepth 100000 in
set_option maxHeartbeats 400000 in
theorem reqHit_4 (h : CB W base b c vp vm) (hbase : base ≤ W.heap.size) (hp : c.p = 4) {x : Int} (hx : x ∈ c.ps) (hn : c.ps.length ≤ 6) :
    Calls Try.prog 69 #[.pointer (some ⟨b, 0, none⟩), .int .i64 x] W (reqSays base b false (c) W) := by
  replace hn : c.ps.length ≤ 1000 := by omega
  obtain ⟨A, d, rfl, _, _, _⟩ := Law.own_len h.op
  have hb := h.hi
  have HC := Lib.hid h
  have HX := Lib.hid hx
  obtain ⟨c0, c1, c2, c3, c4, f0, f1, f2, f3, f4⟩ := h.blk
  rw [hp] at c0
  have HR := Lib.hid (ruleOf_4 W)
  have hm : ∀ w : World, (method 272 130 (.agg #[]) "loop.example/g01087/impl.hit").run Try.prog w = .ok (184, .agg #[]) w := fun _ => by kernel_rfl
  clear h hx hp
  go_enter Try.func69, Try.ntmps69
  go_wp2_with fail
  go_at_call 109
  refine HR.out.mono ?_
  rintro e w1 ⟨rfl, hb1⟩
  have h1 := HC.out.below hb1
  have HI := Lib.hid (idx_row (c := d) (Law.Row.own h1.op) (by omega) x)
  rw [if_pos HX.out] at HI
  have hps := Q.pos_lt HX.out
  have HH := Lib.hid (entryHit_any h1 (Nat.le_trans hbase hb1.size) (Q.pos x c.ps))
  have HB1 := Lib.hid (hb1.mono hbase)
  obtain ⟨d0, d1, d2, d3, d4, e0, e1, e2, e3, e4⟩ := h1.blk
  generalize Q.pos x c.ps = k at *
  clear h1 hb1 c0 c1 c2 c3 c4 f0 f1 f2 f3 f4
  go_wp2_with fail
  go_at_call 110
  refine HI.out.mono ?_
  rintro e w' ⟨rfl, hw'⟩
  obtain rfl := hw'.symm
  clear hw'
  go_wp2_with fail
  go_at_call 184
  refine HH.out.mono ?_
  rintro e w2 ⟨rfl, h2, hb2⟩
  have H2 := Lib.hid h2
  have HB2 := Lib.hid (HB1.out.trans hb2)
  clear h2 hb2 hm
  go_wp2
  go_ret
  exact ⟨rfl, H2.out, HB2.out⟩
set_option maxRecDepth 100000 in
set_option maxHeartbeats 400000 in
theorem reqHit_5 (h : CB W base b c vp vm) (hbase : base ≤ W.heap.size) (hp : c.p = 5) {x : Int} (hx : x ∈ c.ps) (hn : c.ps.length ≤ 6) (hml : c.ms.length = c.ps.length) (h60 : ∀ z ∈ c.ms, 1 ≤ z ∧ z ≤ 60) :
    Calls Try.prog 69 #[.pointer (some ⟨b, 0, none⟩), .int .i64 x] W (reqSays base b false ({ c with ms := c.ms.set (Q.pos x c.ps) (min (c.ms.getD (Q.pos x c.ps) 0 + 1) 60) }) W) := by
  replace hn : c.ps.length ≤ 1000 := by omega
  obtain ⟨A, d, rfl, _, _, _⟩ := Law.own_len h.op
  have hb := h.hi
  have HC := Lib.hid h
  have HX := Lib.hid hx
  obtain ⟨c0, c1, c2, c3, c4, f0, f1, f2, f3, f4⟩ := h.blk
  rw [hp] at c0
  have HR := Lib.hid (ruleOf_5 W)
  have hm : ∀ w : World, (method 272 131 (.agg #[]) "loop.example/g01087/impl.hit").run Try.prog w = .ok (187, .agg #[]) w := fun _ => by kernel_rfl
  clear h hx hp
  go_enter Try.func69, Try.ntmps69
  go_wp2_with fail
  go_at_call 109
  refine HR.out.mono ?_
  rintro e w1 ⟨rfl, hb1⟩
  have h1 := HC.out.below hb1
  have HI := Lib.hid (idx_row (c := d) (Law.Row.own h1.op) (by omega) x)
  rw [if_pos HX.out] at HI
  have hps := Q.pos_lt HX.out
  have HH := Lib.hid (lfuHit_any h1 (Nat.le_trans hbase hb1.size) (k := Q.pos x c.ps) (by omega) (by omega) h60)
  have HB1 := Lib.hid (hb1.mono hbase)
  obtain ⟨d0, d1, d2, d3, d4, e0, e1, e2, e3, e4⟩ := h1.blk
  generalize Q.pos x c.ps = k at *
  clear h1 hb1 c0 c1 c2 c3 c4 f0 f1 f2 f3 f4 hml h60
  go_wp2_with fail
  go_at_call 110
  refine HI.out.mono ?_
  rintro e w' ⟨rfl, hw'⟩
  obtain rfl := hw'.symm
  clear hw'
  go_wp2_with fail
  go_at_call 187
  refine HH.out.mono ?_
  rintro e w2 ⟨rfl, h2, hb2⟩
  have H2 := Lib.hid h2
  have HB2 := Lib.hid (HB1.out.trans hb2)
  clear h2 hb2 hm
  go_wp2
  go_ret
  exact ⟨rfl, H2.out, HB2.out⟩
set_option maxRecDepth 100000 in
set_option maxHeartbeats 400000 in
theorem reqHit_6 (h : CB W base b c vp vm) (hbase : base ≤ W.heap.size) (hp : c.p = 6) {x : Int} (hx : x ∈ c.ps) (hn : c.ps.length ≤ 6) (hml : c.ms.length = c.ps.length) :
    Calls Try.prog 69 #[.pointer (some ⟨b, 0, none⟩), .int .i64 x] W (reqSays base b false ({ c with ms := c.ms.set (Q.pos x c.ps) 1 }) W) := by
  replace hn : c.ps.length ≤ 1000 := by omega
  obtain ⟨A, d, rfl, _, _, _⟩ := Law.own_len h.op
  have hb := h.hi
  have HC := Lib.hid h
  have HX := Lib.hid hx
  obtain ⟨c0, c1, c2, c3, c4, f0, f1, f2, f3, f4⟩ := h.blk
  rw [hp] at c0
  have HR := Lib.hid (ruleOf_6 W)
  have hm : ∀ w : World, (method 272 132 (.agg #[]) "loop.example/g01087/impl.hit").run Try.prog w = .ok (189, .agg #[]) w := fun _ => by kernel_rfl
  clear h hx hp
  go_enter Try.func69, Try.ntmps69
  go_wp2_with fail
  go_at_call 109
  refine HR.out.mono ?_
  rintro e w1 ⟨rfl, hb1⟩
  have h1 := HC.out.below hb1
  have HI := Lib.hid (idx_row (c := d) (Law.Row.own h1.op) (by omega) x)
  rw [if_pos HX.out] at HI
  have hps := Q.pos_lt HX.out
  have HH := Lib.hid (clockHit_any h1 (Nat.le_trans hbase hb1.size) (k := Q.pos x c.ps) (by omega) (by omega))
  have HB1 := Lib.hid (hb1.mono hbase)
  obtain ⟨d0, d1, d2, d3, d4, e0, e1, e2, e3, e4⟩ := h1.blk
  generalize Q.pos x c.ps = k at *
  clear h1 hb1 c0 c1 c2 c3 c4 f0 f1 f2 f3 f4 hml
  go_wp2_with fail
  go_at_call 110
  refine HI.out.mono ?_
  rintro e w' ⟨rfl, hw'⟩
  obtain rfl := hw'.symm
  clear hw'
  go_wp2_with fail
  go_at_call 189
  refine HH.out.mono ?_
  rintro e w2 ⟨rfl, h2, hb2⟩
  have H2 := Lib.hid h2
  have HB2 := Lib.hid (HB1.out.trans hb2)
  clear h2 hb2 hm
  go_wp2
  go_ret
  exact ⟨rfl, H2.out, HB2.out⟩
set_option maxRecDepth 100000 in
set_option maxHeartbeats 400000 in
theorem reqHit_7 (h : CB W base b c vp vm) (hbase : base ≤ W.heap.size) (hp : c.p = 7) {x : Int} (hx : x ∈ c.ps) (hn : c.ps.length ≤ 6) :
    Calls Try.prog 69 #[.pointer (some ⟨b, 0, none⟩), .int .i64 x] W (reqSays base b false ({ c with ps := c.ps.getD (Q.pos x c.ps) 0 :: c.ps.eraseIdx (Q.pos x c.ps) }) W) := by
  replace hn : c.ps.length ≤ 1000 := by omega
  obtain ⟨A, d, rfl, _, _, _⟩ := Law.own_len h.op
  have hb := h.hi
  have HC := Lib.hid h
  have HX := Lib.hid hx
  obtain ⟨c0, c1, c2, c3, c4, f0, f1, f2, f3, f4⟩ := h.blk
  rw [hp] at c0
  have HR := Lib.hid (ruleOf_7 W)
  have hm : ∀ w : World, (method 272 134 (.agg #[]) "loop.example/g01087/impl.hit").run Try.prog w = .ok (180, .agg #[]) w := fun _ => by kernel_rfl
  clear h hx hp
  go_enter Try.func69, Try.ntmps69
  go_wp2_with fail
  go_at_call 109
  refine HR.out.mono ?_
  rintro e w1 ⟨rfl, hb1⟩
  have h1 := HC.out.below hb1
  have HI := Lib.hid (idx_row (c := d) (Law.Row.own h1.op) (by omega) x)
  rw [if_pos HX.out] at HI
  have hps := Q.pos_lt HX.out
  have HH := Lib.hid (useHit_any h1 (Nat.le_trans hbase hb1.size) hps hn)
  have HB1 := Lib.hid (hb1.mono hbase)
  obtain ⟨d0, d1, d2, d3, d4, e0, e1, e2, e3, e4⟩ := h1.blk
  generalize Q.pos x c.ps = k at *
  clear h1 hb1 c0 c1 c2 c3 c4 f0 f1 f2 f3 f4
  go_wp2_with fail
  go_at_call 110
  refine HI.out.mono ?_
  rintro e w' ⟨rfl, hw'⟩
  obtain rfl := hw'.symm
  clear hw'
  go_wp2_with fail
  go_at_call 180
  refine HH.out.mono ?_
  rintro e w2 ⟨rfl, h2, hb2⟩
  have H2 := Lib.hid h2
  have HB2 := Lib.hid (HB1.out.trans hb2)
  clear h2 hb2 hm
  go_wp2
  go_ret
  exact ⟨rfl, H2.out, HB2.out⟩
end
end Go.Proofs.Ytdjafooabpcbmaa

/- The code's request: a fault of a cache that is not full, policy by policy. -/
namespace Go.Proofs.Ytdjafooabpcbmaa
open Go.RowKit
set_option linter.unusedVariables false
section
variable {W : World} {base b : Nat} {c : Ca} {vp vm : Value}
set_option maxRecDepth 100000 in
set_option maxHeartbeats 800000 in
theorem reqNew_1 (h : CB W base b c vp vm) (hbase : base ≤ W.heap.size) (hp : c.p = 1) {S : Nat} (hs : c.s = (S : Int)) (hS1 : 1 ≤ S) (hS6 : S ≤ 6) (hfull : c.ps.length < S) {x : Int} (hx : x ∉ c.ps) :
    Calls Try.prog 69 #[.pointer (some ⟨b, 0, none⟩), .int .i64 x] W (reqSays base b true ({ c with ps := (c).ps.take (0) ++ x :: (c).ps.drop (0) }) W) := by
  have Hp := Lib.hid hp
  have Hs := Lib.hid hs
  have Hfull := Lib.hid hfull
  have Hmk : Hid (markedB c.p = false) := by show _ = _; rw [hp]; rfl
  have hn : c.ps.length ≤ 6 := by omega
  have hn1 : c.ps.length ≤ 1000 := by omega
  obtain ⟨A, d, rfl, _, _, _⟩ := Law.own_len h.op
  have hb := h.hi
  have HC := Lib.hid h
  have HX := Lib.hid hx
  obtain ⟨c0, c1, c2, c3, c4, f0, f1, f2, f3, f4⟩ := h.blk
  rw [hp] at c0
  have HR := Lib.hid (ruleOf_1 W)
  have HF := isFull_any (.int .i64 1) (.int .i64 c.h) c.ps.length S A d vm
  rw [show decide (c.ps.length = S) = false from by simp; omega] at HF
  have HF := Lib.hid HF
  have HMk : Hid (∀ w, Calls Try.prog 113 #[.int .i64 1] w fun e w' => e = .returned (.bool false) ∧ w' = w) := Lib.hid fun w => by
    have h := hasMarks_any 1 w
    rwa [show markedB 1 = false from rfl] at h
  clear h hx hp hs hfull
  go_enter Try.func69, Try.ntmps69
  go_wp2_with fail
  go_at_call 109
  refine HR.out.mono ?_
  rintro e w1 ⟨rfl, hb1⟩
  have H1 := Lib.hid (HC.out.below hb1)
  have HI := Lib.hid (idx_row (c := d) (Law.Row.own H1.out.op) (by omega) x)
  rw [if_neg HX.out] at HI
  have HB1 := Lib.hid (hb1.mono hbase)
  obtain ⟨d0, d1, d2, d3, d4, e0, e1, e2, e3, e4⟩ := H1.out.blk
  rw [Hp.out] at d0
  rw [Hs.out] at d1
  clear hb1 c0 c1 c2 c3 c4 f0 f1 f2 f3 f4 HR
  go_wp2_with fail
  go_at_call 110
  refine HI.out.mono ?_
  rintro e w' ⟨rfl, hw'⟩
  obtain rfl := hw'.symm
  clear hw' HI
  go_wp2_with fail
  go_at_call 111
  refine (HF.out _).mono ?_
  rintro e w2 ⟨rfl, hb2⟩
  have h2 := H1.out.below hb2
  have HB2 := Lib.hid (HB1.out.trans (hb2.mono (Nat.le_trans hbase HB1.out.size)))
  have S2 : Hid (base ≤ w2.heap.size) := Lib.hid (Nat.le_trans hbase HB2.out.size)
  obtain ⟨B3, m3, rfl, _, _, _⟩ := Law.own_len h2.om
  have H3 := Lib.hid h2
  have HB3 := HB2
  have S3 := S2
  obtain ⟨k0, d1, d2, d3c, d4, e0, e1, e2, e3, e4⟩ := (show Blk5 w2 b (.int .i64 c.p) (.int .i64 c.s) (.slice A c.ps.length d) (.slice B3 c.ms.length m3) (.int .i64 c.h) from h2.blk)
  have d0 : w2.cell? ⟨b, 0, none⟩ = some (.int .i64 1) := k0.trans (by rw [Hp.out])
  clear k0 hb2 h2 H1 HF HB2 S2
  have HI3 := Lib.hid (ins_pages (x := x) (j := 0) H3.out S3.out (by omega) hn1 rfl)
  go_wp2_with fail
  go_at_call 112
  refine HI3.out.mono ?_
  rintro e w4 ⟨A4, n4, d4v, rfl, h4, ⟨k0, k1, k2, k3, k4, f0, f1, f2, f3, f4⟩, hb4⟩
  have c0 : w4.cell? ⟨b, 0, none⟩ = some (.int .i64 1) := k0.trans (by show some (Value.int .i64 c.p) = _; rw [Hp.out])
  have HB4 := Lib.hid ((HB3.out.trans hb4).setCell (p := ⟨b, 2, none⟩) H3.out.lo (.slice A4 n4 d4v))
  have H4 := Lib.hid h4
  have S4 : Hid (base ≤ (w4.setCell ⟨b, 2, none⟩ (.slice A4 n4 d4v)).heap.size) := Lib.hid (Nat.le_trans hbase HB4.out.size)
  clear k0 h4 hb4 HI3 H3 HB3 S3 d0 d1 d2 d3c d4 e0 e1 e2 e3 e4
  go_wp2_with fail
  go_at_call 113
  refine (HMk.out _).mono ?_
  rintro e w' ⟨rfl, hw'⟩
  obtain rfl := hw'.symm
  clear hw' HMk
  go_wp2
  go_ret
  exact ⟨rfl, ⟨_, _, H4.out⟩, HB4.out⟩
set_option maxRecDepth 100000 in
set_option maxHeartbeats 800000 in
theorem reqNew_2 (h : CB W base b c vp vm) (hbase : base ≤ W.heap.size) (hp : c.p = 2) {S : Nat} (hs : c.s = (S : Int)) (hS1 : 1 ≤ S) (hS6 : S ≤ 6) (hfull : c.ps.length < S) {x : Int} (hx : x ∉ c.ps) :
    Calls Try.prog 69 #[.pointer (some ⟨b, 0, none⟩), .int .i64 x] W (reqSays base b true ({ c with ps := (c).ps.take (0) ++ x :: (c).ps.drop (0) }) W) := by
  have Hp := Lib.hid hp
  have Hs := Lib.hid hs
  have Hfull := Lib.hid hfull
  have Hmk : Hid (markedB c.p = false) := by show _ = _; rw [hp]; rfl
  have hn : c.ps.length ≤ 6 := by omega
  have hn1 : c.ps.length ≤ 1000 := by omega
  obtain ⟨A, d, rfl, _, _, _⟩ := Law.own_len h.op
  have hb := h.hi
  have HC := Lib.hid h
  have HX := Lib.hid hx
  obtain ⟨c0, c1, c2, c3, c4, f0, f1, f2, f3, f4⟩ := h.blk
  rw [hp] at c0
  have HR := Lib.hid (ruleOf_2 W)
  have HF := isFull_any (.int .i64 2) (.int .i64 c.h) c.ps.length S A d vm
  rw [show decide (c.ps.length = S) = false from by simp; omega] at HF
  have HF := Lib.hid HF
  have HMk : Hid (∀ w, Calls Try.prog 113 #[.int .i64 2] w fun e w' => e = .returned (.bool false) ∧ w' = w) := Lib.hid fun w => by
    have h := hasMarks_any 2 w
    rwa [show markedB 2 = false from rfl] at h
  clear h hx hp hs hfull
  go_enter Try.func69, Try.ntmps69
  go_wp2_with fail
  go_at_call 109
  refine HR.out.mono ?_
  rintro e w1 ⟨rfl, hb1⟩
  have H1 := Lib.hid (HC.out.below hb1)
  have HI := Lib.hid (idx_row (c := d) (Law.Row.own H1.out.op) (by omega) x)
  rw [if_neg HX.out] at HI
  have HB1 := Lib.hid (hb1.mono hbase)
  obtain ⟨d0, d1, d2, d3, d4, e0, e1, e2, e3, e4⟩ := H1.out.blk
  rw [Hp.out] at d0
  rw [Hs.out] at d1
  clear hb1 c0 c1 c2 c3 c4 f0 f1 f2 f3 f4 HR
  go_wp2_with fail
  go_at_call 110
  refine HI.out.mono ?_
  rintro e w' ⟨rfl, hw'⟩
  obtain rfl := hw'.symm
  clear hw' HI
  go_wp2_with fail
  go_at_call 111
  refine (HF.out _).mono ?_
  rintro e w2 ⟨rfl, hb2⟩
  have h2 := H1.out.below hb2
  have HB2 := Lib.hid (HB1.out.trans (hb2.mono (Nat.le_trans hbase HB1.out.size)))
  have S2 : Hid (base ≤ w2.heap.size) := Lib.hid (Nat.le_trans hbase HB2.out.size)
  obtain ⟨B3, m3, rfl, _, _, _⟩ := Law.own_len h2.om
  have H3 := Lib.hid h2
  have HB3 := HB2
  have S3 := S2
  obtain ⟨k0, d1, d2, d3c, d4, e0, e1, e2, e3, e4⟩ := (show Blk5 w2 b (.int .i64 c.p) (.int .i64 c.s) (.slice A c.ps.length d) (.slice B3 c.ms.length m3) (.int .i64 c.h) from h2.blk)
  have d0 : w2.cell? ⟨b, 0, none⟩ = some (.int .i64 2) := k0.trans (by rw [Hp.out])
  clear k0 hb2 h2 H1 HF HB2 S2
  have HI3 := Lib.hid (ins_pages (x := x) (j := 0) H3.out S3.out (by omega) hn1 rfl)
  go_wp2_with fail
  go_at_call 112
  refine HI3.out.mono ?_
  rintro e w4 ⟨A4, n4, d4v, rfl, h4, ⟨k0, k1, k2, k3, k4, f0, f1, f2, f3, f4⟩, hb4⟩
  have c0 : w4.cell? ⟨b, 0, none⟩ = some (.int .i64 2) := k0.trans (by show some (Value.int .i64 c.p) = _; rw [Hp.out])
  have HB4 := Lib.hid ((HB3.out.trans hb4).setCell (p := ⟨b, 2, none⟩) H3.out.lo (.slice A4 n4 d4v))
  have H4 := Lib.hid h4
  have S4 : Hid (base ≤ (w4.setCell ⟨b, 2, none⟩ (.slice A4 n4 d4v)).heap.size) := Lib.hid (Nat.le_trans hbase HB4.out.size)
  clear k0 h4 hb4 HI3 H3 HB3 S3 d0 d1 d2 d3c d4 e0 e1 e2 e3 e4
  go_wp2_with fail
  go_at_call 113
  refine (HMk.out _).mono ?_
  rintro e w' ⟨rfl, hw'⟩
  obtain rfl := hw'.symm
  clear hw' HMk
  go_wp2
  go_ret
  exact ⟨rfl, ⟨_, _, H4.out⟩, HB4.out⟩
set_option maxRecDepth 100000 in
set_option maxHeartbeats 800000 in
theorem reqNew_3 (h : CB W base b c vp vm) (hbase : base ≤ W.heap.size) (hp : c.p = 3) {S : Nat} (hs : c.s = (S : Int)) (hS1 : 1 ≤ S) (hS6 : S ≤ 6) (hfull : c.ps.length < S) {x : Int} (hx : x ∉ c.ps) :
    Calls Try.prog 69 #[.pointer (some ⟨b, 0, none⟩), .int .i64 x] W (reqSays base b true ({ c with ps := (c).ps.take (0) ++ x :: (c).ps.drop (0) }) W) := by
  have Hp := Lib.hid hp
  have Hs := Lib.hid hs
  have Hfull := Lib.hid hfull
  have Hmk : Hid (markedB c.p = false) := by show _ = _; rw [hp]; rfl
  have hn : c.ps.length ≤ 6 := by omega
  have hn1 : c.ps.length ≤ 1000 := by omega
  obtain ⟨A, d, rfl, _, _, _⟩ := Law.own_len h.op
  have hb := h.hi
  have HC := Lib.hid h
  have HX := Lib.hid hx
  obtain ⟨c0, c1, c2, c3, c4, f0, f1, f2, f3, f4⟩ := h.blk
  rw [hp] at c0
  have HR := Lib.hid (ruleOf_3 W)
  have HF := isFull_any (.int .i64 3) (.int .i64 c.h) c.ps.length S A d vm
  rw [show decide (c.ps.length = S) = false from by simp; omega] at HF
  have HF := Lib.hid HF
  have HMk : Hid (∀ w, Calls Try.prog 113 #[.int .i64 3] w fun e w' => e = .returned (.bool false) ∧ w' = w) := Lib.hid fun w => by
    have h := hasMarks_any 3 w
    rwa [show markedB 3 = false from rfl] at h
  clear h hx hp hs hfull
  go_enter Try.func69, Try.ntmps69
  go_wp2_with fail
  go_at_call 109
  refine HR.out.mono ?_
  rintro e w1 ⟨rfl, hb1⟩
  have H1 := Lib.hid (HC.out.below hb1)
  have HI := Lib.hid (idx_row (c := d) (Law.Row.own H1.out.op) (by omega) x)
  rw [if_neg HX.out] at HI
  have HB1 := Lib.hid (hb1.mono hbase)
  obtain ⟨d0, d1, d2, d3, d4, e0, e1, e2, e3, e4⟩ := H1.out.blk
  rw [Hp.out] at d0
  rw [Hs.out] at d1
  clear hb1 c0 c1 c2 c3 c4 f0 f1 f2 f3 f4 HR
  go_wp2_with fail
  go_at_call 110
  refine HI.out.mono ?_
  rintro e w' ⟨rfl, hw'⟩
  obtain rfl := hw'.symm
  clear hw' HI
  go_wp2_with fail
  go_at_call 111
  refine (HF.out _).mono ?_
  rintro e w2 ⟨rfl, hb2⟩
  have h2 := H1.out.below hb2
  have HB2 := Lib.hid (HB1.out.trans (hb2.mono (Nat.le_trans hbase HB1.out.size)))
  have S2 : Hid (base ≤ w2.heap.size) := Lib.hid (Nat.le_trans hbase HB2.out.size)
  obtain ⟨B3, m3, rfl, _, _, _⟩ := Law.own_len h2.om
  have H3 := Lib.hid h2
  have HB3 := HB2
  have S3 := S2
  obtain ⟨k0, d1, d2, d3c, d4, e0, e1, e2, e3, e4⟩ := (show Blk5 w2 b (.int .i64 c.p) (.int .i64 c.s) (.slice A c.ps.length d) (.slice B3 c.ms.length m3) (.int .i64 c.h) from h2.blk)
  have d0 : w2.cell? ⟨b, 0, none⟩ = some (.int .i64 3) := k0.trans (by rw [Hp.out])
  clear k0 hb2 h2 H1 HF HB2 S2
  have HI3 := Lib.hid (ins_pages (x := x) (j := 0) H3.out S3.out (by omega) hn1 rfl)
  go_wp2_with fail
  go_at_call 112
  refine HI3.out.mono ?_
  rintro e w4 ⟨A4, n4, d4v, rfl, h4, ⟨k0, k1, k2, k3, k4, f0, f1, f2, f3, f4⟩, hb4⟩
  have c0 : w4.cell? ⟨b, 0, none⟩ = some (.int .i64 3) := k0.trans (by show some (Value.int .i64 c.p) = _; rw [Hp.out])
  have HB4 := Lib.hid ((HB3.out.trans hb4).setCell (p := ⟨b, 2, none⟩) H3.out.lo (.slice A4 n4 d4v))
  have H4 := Lib.hid h4
  have S4 : Hid (base ≤ (w4.setCell ⟨b, 2, none⟩ (.slice A4 n4 d4v)).heap.size) := Lib.hid (Nat.le_trans hbase HB4.out.size)
  clear k0 h4 hb4 HI3 H3 HB3 S3 d0 d1 d2 d3c d4 e0 e1 e2 e3 e4
  go_wp2_with fail
  go_at_call 113
  refine (HMk.out _).mono ?_
  rintro e w' ⟨rfl, hw'⟩
  obtain rfl := hw'.symm
  clear hw' HMk
  go_wp2
  go_ret
  exact ⟨rfl, ⟨_, _, H4.out⟩, HB4.out⟩
set_option maxRecDepth 100000 in
set_option maxHeartbeats 800000 in
theorem reqNew_4 (h : CB W base b c vp vm) (hbase : base ≤ W.heap.size) (hp : c.p = 4) {S : Nat} (hs : c.s = (S : Int)) (hS1 : 1 ≤ S) (hS6 : S ≤ 6) (hfull : c.ps.length < S) {x : Int} (hx : x ∉ c.ps) :
    Calls Try.prog 69 #[.pointer (some ⟨b, 0, none⟩), .int .i64 x] W (reqSays base b true ({ c with ps := (c).ps.take (0) ++ x :: (c).ps.drop (0) }) W) := by
  have Hp := Lib.hid hp
  have Hs := Lib.hid hs
  have Hfull := Lib.hid hfull
  have Hmk : Hid (markedB c.p = false) := by show _ = _; rw [hp]; rfl
  have hn : c.ps.length ≤ 6 := by omega
  have hn1 : c.ps.length ≤ 1000 := by omega
  obtain ⟨A, d, rfl, _, _, _⟩ := Law.own_len h.op
  have hb := h.hi
  have HC := Lib.hid h
  have HX := Lib.hid hx
  obtain ⟨c0, c1, c2, c3, c4, f0, f1, f2, f3, f4⟩ := h.blk
  rw [hp] at c0
  have HR := Lib.hid (ruleOf_4 W)
  have HF := isFull_any (.int .i64 4) (.int .i64 c.h) c.ps.length S A d vm
  rw [show decide (c.ps.length = S) = false from by simp; omega] at HF
  have HF := Lib.hid HF
  have HMk : Hid (∀ w, Calls Try.prog 113 #[.int .i64 4] w fun e w' => e = .returned (.bool false) ∧ w' = w) := Lib.hid fun w => by
    have h := hasMarks_any 4 w
    rwa [show markedB 4 = false from rfl] at h
  clear h hx hp hs hfull
  go_enter Try.func69, Try.ntmps69
  go_wp2_with fail
  go_at_call 109
  refine HR.out.mono ?_
  rintro e w1 ⟨rfl, hb1⟩
  have H1 := Lib.hid (HC.out.below hb1)
  have HI := Lib.hid (idx_row (c := d) (Law.Row.own H1.out.op) (by omega) x)
  rw [if_neg HX.out] at HI
  have HB1 := Lib.hid (hb1.mono hbase)
  obtain ⟨d0, d1, d2, d3, d4, e0, e1, e2, e3, e4⟩ := H1.out.blk
  rw [Hp.out] at d0
  rw [Hs.out] at d1
  clear hb1 c0 c1 c2 c3 c4 f0 f1 f2 f3 f4 HR
  go_wp2_with fail
  go_at_call 110
  refine HI.out.mono ?_
  rintro e w' ⟨rfl, hw'⟩
  obtain rfl := hw'.symm
  clear hw' HI
  go_wp2_with fail
  go_at_call 111
  refine (HF.out _).mono ?_
  rintro e w2 ⟨rfl, hb2⟩
  have h2 := H1.out.below hb2
  have HB2 := Lib.hid (HB1.out.trans (hb2.mono (Nat.le_trans hbase HB1.out.size)))
  have S2 : Hid (base ≤ w2.heap.size) := Lib.hid (Nat.le_trans hbase HB2.out.size)
  obtain ⟨B3, m3, rfl, _, _, _⟩ := Law.own_len h2.om
  have H3 := Lib.hid h2
  have HB3 := HB2
  have S3 := S2
  obtain ⟨k0, d1, d2, d3c, d4, e0, e1, e2, e3, e4⟩ := (show Blk5 w2 b (.int .i64 c.p) (.int .i64 c.s) (.slice A c.ps.length d) (.slice B3 c.ms.length m3) (.int .i64 c.h) from h2.blk)
  have d0 : w2.cell? ⟨b, 0, none⟩ = some (.int .i64 4) := k0.trans (by rw [Hp.out])
  clear k0 hb2 h2 H1 HF HB2 S2
  have HI3 := Lib.hid (ins_pages (x := x) (j := 0) H3.out S3.out (by omega) hn1 rfl)
  go_wp2_with fail
  go_at_call 112
  refine HI3.out.mono ?_
  rintro e w4 ⟨A4, n4, d4v, rfl, h4, ⟨k0, k1, k2, k3, k4, f0, f1, f2, f3, f4⟩, hb4⟩
  have c0 : w4.cell? ⟨b, 0, none⟩ = some (.int .i64 4) := k0.trans (by show some (Value.int .i64 c.p) = _; rw [Hp.out])
  have HB4 := Lib.hid ((HB3.out.trans hb4).setCell (p := ⟨b, 2, none⟩) H3.out.lo (.slice A4 n4 d4v))
  have H4 := Lib.hid h4
  have S4 : Hid (base ≤ (w4.setCell ⟨b, 2, none⟩ (.slice A4 n4 d4v)).heap.size) := Lib.hid (Nat.le_trans hbase HB4.out.size)
  clear k0 h4 hb4 HI3 H3 HB3 S3 d0 d1 d2 d3c d4 e0 e1 e2 e3 e4
  go_wp2_with fail
  go_at_call 113
  refine (HMk.out _).mono ?_
  rintro e w' ⟨rfl, hw'⟩
  obtain rfl := hw'.symm
  clear hw' HMk
  go_wp2
  go_ret
  exact ⟨rfl, ⟨_, _, H4.out⟩, HB4.out⟩
set_option maxRecDepth 100000 in
set_option maxHeartbeats 800000 in
theorem reqNew_5 (h : CB W base b c vp vm) (hbase : base ≤ W.heap.size) (hp : c.p = 5) {S : Nat} (hs : c.s = (S : Int)) (hS1 : 1 ≤ S) (hS6 : S ≤ 6) (hfull : c.ps.length < S) {x : Int} (hx : x ∉ c.ps) (hml : c.ms.length = c.ps.length) :
    Calls Try.prog 69 #[.pointer (some ⟨b, 0, none⟩), .int .i64 x] W (reqSays base b true ({ c with ps := (c).ps.take (0) ++ x :: (c).ps.drop (0), ms := (c).ms.take (0) ++ 1 :: (c).ms.drop (0) }) W) := by
  have Hp := Lib.hid hp
  have Hs := Lib.hid hs
  have Hfull := Lib.hid hfull
  have Hmk : Hid (markedB c.p = true) := by show _ = _; rw [hp]; rfl
  have hn : c.ps.length ≤ 6 := by omega
  have hn1 : c.ps.length ≤ 1000 := by omega
  have Hml := Lib.hid hml
  clear hml
  obtain ⟨A, d, rfl, _, _, _⟩ := Law.own_len h.op
  have hb := h.hi
  have HC := Lib.hid h
  have HX := Lib.hid hx
  obtain ⟨c0, c1, c2, c3, c4, f0, f1, f2, f3, f4⟩ := h.blk
  rw [hp] at c0
  have HR := Lib.hid (ruleOf_5 W)
  have HF := isFull_any (.int .i64 5) (.int .i64 c.h) c.ps.length S A d vm
  rw [show decide (c.ps.length = S) = false from by simp; omega] at HF
  have HF := Lib.hid HF
  have HMk : Hid (∀ w, Calls Try.prog 113 #[.int .i64 5] w fun e w' => e = .returned (.bool true) ∧ w' = w) := Lib.hid fun w => by
    have h := hasMarks_any 5 w
    rwa [show markedB 5 = true from rfl] at h
  clear h hx hp hs hfull
  go_enter Try.func69, Try.ntmps69
  go_wp2_with fail
  go_at_call 109
  refine HR.out.mono ?_
  rintro e w1 ⟨rfl, hb1⟩
  have H1 := Lib.hid (HC.out.below hb1)
  have HI := Lib.hid (idx_row (c := d) (Law.Row.own H1.out.op) (by omega) x)
  rw [if_neg HX.out] at HI
  have HB1 := Lib.hid (hb1.mono hbase)
  obtain ⟨d0, d1, d2, d3, d4, e0, e1, e2, e3, e4⟩ := H1.out.blk
  rw [Hp.out] at d0
  rw [Hs.out] at d1
  clear hb1 c0 c1 c2 c3 c4 f0 f1 f2 f3 f4 HR
  go_wp2_with fail
  go_at_call 110
  refine HI.out.mono ?_
  rintro e w' ⟨rfl, hw'⟩
  obtain rfl := hw'.symm
  clear hw' HI
  go_wp2_with fail
  go_at_call 111
  refine (HF.out _).mono ?_
  rintro e w2 ⟨rfl, hb2⟩
  have h2 := H1.out.below hb2
  have HB2 := Lib.hid (HB1.out.trans (hb2.mono (Nat.le_trans hbase HB1.out.size)))
  have S2 : Hid (base ≤ w2.heap.size) := Lib.hid (Nat.le_trans hbase HB2.out.size)
  obtain ⟨B3, m3, rfl, _, _, _⟩ := Law.own_len h2.om
  have H3 := Lib.hid h2
  have HB3 := HB2
  have S3 := S2
  obtain ⟨k0, d1, d2, d3c, d4, e0, e1, e2, e3, e4⟩ := (show Blk5 w2 b (.int .i64 c.p) (.int .i64 c.s) (.slice A c.ps.length d) (.slice B3 c.ms.length m3) (.int .i64 c.h) from h2.blk)
  have d0 : w2.cell? ⟨b, 0, none⟩ = some (.int .i64 5) := k0.trans (by rw [Hp.out])
  clear k0 hb2 h2 H1 HF HB2 S2
  have HI3 := Lib.hid (ins_pages (x := x) (j := 0) H3.out S3.out (by omega) hn1 rfl)
  go_wp2_with fail
  go_at_call 112
  refine HI3.out.mono ?_
  rintro e w4 ⟨A4, n4, d4v, rfl, h4, ⟨k0, k1, k2, k3, k4, f0, f1, f2, f3, f4⟩, hb4⟩
  have c0 : w4.cell? ⟨b, 0, none⟩ = some (.int .i64 5) := k0.trans (by show some (Value.int .i64 c.p) = _; rw [Hp.out])
  have HB4 := Lib.hid ((HB3.out.trans hb4).setCell (p := ⟨b, 2, none⟩) H3.out.lo (.slice A4 n4 d4v))
  have H4 := Lib.hid h4
  have S4 : Hid (base ≤ (w4.setCell ⟨b, 2, none⟩ (.slice A4 n4 d4v)).heap.size) := Lib.hid (Nat.le_trans hbase HB4.out.size)
  clear k0 h4 hb4 HI3 H3 HB3 S3 d0 d1 d2 d3c d4 e0 e1 e2 e3 e4
  go_wp2_with fail
  go_at_call 113
  refine (HMk.out _).mono ?_
  rintro e w' ⟨rfl, hw'⟩
  obtain rfl := hw'.symm
  clear hw' HMk
  have HI5 := Lib.hid (ins_marks (x := 1) (vb := w4.heap.size) (j := 0) H4.out S4.out (by have q := Hml.out; show 0 ≤ c.ms.length; omega) (by have q := Hml.out; show c.ms.length ≤ 1000; omega) (by simp))
  go_wp2_with fail
  go_at_call 112
  refine HI5.out.mono ?_
  rintro e w5 ⟨A5, n5, d5v, rfl, h5, ⟨q0, q1, q2, q3, q4, r0, r1, r2, r3, r4⟩, hb5⟩
  have H5 := Lib.hid h5
  have HB5 := Lib.hid ((HB4.out.trans hb5).setCell (p := ⟨b, 3, none⟩) H4.out.lo (.slice A5 n5 d5v))
  clear h5 hb5 HI5 H4 HB4 S4 c0 k1 k2 k3 k4 f0 f1 f2 f3 f4
  go_wp2
  go_ret
  exact ⟨rfl, ⟨_, _, H5.out⟩, HB5.out⟩
set_option maxRecDepth 100000 in
set_option maxHeartbeats 800000 in
theorem reqNew_6 (h : CB W base b c vp vm) (hbase : base ≤ W.heap.size) (hp : c.p = 6) {S : Nat} (hs : c.s = (S : Int)) (hS1 : 1 ≤ S) (hS6 : S ≤ 6) (hfull : c.ps.length < S) {x : Int} (hx : x ∉ c.ps) (hml : c.ms.length = c.ps.length) :
    Calls Try.prog 69 #[.pointer (some ⟨b, 0, none⟩), .int .i64 x] W (reqSays base b true ({ c with ps := (c).ps.take (c.ps.length) ++ x :: (c).ps.drop (c.ps.length), ms := (c).ms.take (c.ps.length) ++ 1 :: (c).ms.drop (c.ps.length) }) W) := by
  have Hp := Lib.hid hp
  have Hs := Lib.hid hs
  have Hfull := Lib.hid hfull
  have Hmk : Hid (markedB c.p = true) := by show _ = _; rw [hp]; rfl
  have hn : c.ps.length ≤ 6 := by omega
  have hn1 : c.ps.length ≤ 1000 := by omega
  have Hml := Lib.hid hml
  clear hml
  obtain ⟨A, d, rfl, _, _, _⟩ := Law.own_len h.op
  have hb := h.hi
  have HC := Lib.hid h
  have HX := Lib.hid hx
  obtain ⟨c0, c1, c2, c3, c4, f0, f1, f2, f3, f4⟩ := h.blk
  rw [hp] at c0
  have HR := Lib.hid (ruleOf_6 W)
  have HF := isFull_any (.int .i64 6) (.int .i64 c.h) c.ps.length S A d vm
  rw [show decide (c.ps.length = S) = false from by simp; omega] at HF
  have HF := Lib.hid HF
  have HMk : Hid (∀ w, Calls Try.prog 113 #[.int .i64 6] w fun e w' => e = .returned (.bool true) ∧ w' = w) := Lib.hid fun w => by
    have h := hasMarks_any 6 w
    rwa [show markedB 6 = true from rfl] at h
  clear h hx hp hs hfull
  go_enter Try.func69, Try.ntmps69
  go_wp2_with fail
  go_at_call 109
  refine HR.out.mono ?_
  rintro e w1 ⟨rfl, hb1⟩
  have H1 := Lib.hid (HC.out.below hb1)
  have HI := Lib.hid (idx_row (c := d) (Law.Row.own H1.out.op) (by omega) x)
  rw [if_neg HX.out] at HI
  have HB1 := Lib.hid (hb1.mono hbase)
  obtain ⟨d0, d1, d2, d3, d4, e0, e1, e2, e3, e4⟩ := H1.out.blk
  rw [Hp.out] at d0
  rw [Hs.out] at d1
  clear hb1 c0 c1 c2 c3 c4 f0 f1 f2 f3 f4 HR
  go_wp2_with fail
  go_at_call 110
  refine HI.out.mono ?_
  rintro e w' ⟨rfl, hw'⟩
  obtain rfl := hw'.symm
  clear hw' HI
  go_wp2_with fail
  go_at_call 111
  refine (HF.out _).mono ?_
  rintro e w2 ⟨rfl, hb2⟩
  have h2 := H1.out.below hb2
  have HB2 := Lib.hid (HB1.out.trans (hb2.mono (Nat.le_trans hbase HB1.out.size)))
  have S2 : Hid (base ≤ w2.heap.size) := Lib.hid (Nat.le_trans hbase HB2.out.size)
  obtain ⟨B3, m3, rfl, _, _, _⟩ := Law.own_len h2.om
  have H3 := Lib.hid h2
  have HB3 := HB2
  have S3 := S2
  obtain ⟨k0, d1, d2, d3c, d4, e0, e1, e2, e3, e4⟩ := (show Blk5 w2 b (.int .i64 c.p) (.int .i64 c.s) (.slice A c.ps.length d) (.slice B3 c.ms.length m3) (.int .i64 c.h) from h2.blk)
  have d0 : w2.cell? ⟨b, 0, none⟩ = some (.int .i64 6) := k0.trans (by rw [Hp.out])
  clear k0 hb2 h2 H1 HF HB2 S2
  have HI3 := Lib.hid (ins_pages (x := x) (j := c.ps.length) H3.out S3.out (by omega) hn1 rfl)
  go_wp2_with fail
  go_at_call 112
  refine HI3.out.mono ?_
  rintro e w4 ⟨A4, n4, d4v, rfl, h4, ⟨k0, k1, k2, k3, k4, f0, f1, f2, f3, f4⟩, hb4⟩
  have c0 : w4.cell? ⟨b, 0, none⟩ = some (.int .i64 6) := k0.trans (by show some (Value.int .i64 c.p) = _; rw [Hp.out])
  have HB4 := Lib.hid ((HB3.out.trans hb4).setCell (p := ⟨b, 2, none⟩) H3.out.lo (.slice A4 n4 d4v))
  have H4 := Lib.hid h4
  have S4 : Hid (base ≤ (w4.setCell ⟨b, 2, none⟩ (.slice A4 n4 d4v)).heap.size) := Lib.hid (Nat.le_trans hbase HB4.out.size)
  clear k0 h4 hb4 HI3 H3 HB3 S3 d0 d1 d2 d3c d4 e0 e1 e2 e3 e4
  go_wp2_with fail
  go_at_call 113
  refine (HMk.out _).mono ?_
  rintro e w' ⟨rfl, hw'⟩
  obtain rfl := hw'.symm
  clear hw' HMk
  have HI5 := Lib.hid (ins_marks (x := 1) (vb := w4.heap.size) (j := c.ps.length) H4.out S4.out (by have q := Hml.out; show c.ps.length ≤ c.ms.length; omega) (by have q := Hml.out; show c.ms.length ≤ 1000; omega) (by simp))
  go_wp2_with fail
  go_at_call 112
  refine HI5.out.mono ?_
  rintro e w5 ⟨A5, n5, d5v, rfl, h5, ⟨q0, q1, q2, q3, q4, r0, r1, r2, r3, r4⟩, hb5⟩
  have H5 := Lib.hid h5
  have HB5 := Lib.hid ((HB4.out.trans hb5).setCell (p := ⟨b, 3, none⟩) H4.out.lo (.slice A5 n5 d5v))
  clear h5 hb5 HI5 H4 HB4 S4 c0 k1 k2 k3 k4 f0 f1 f2 f3 f4
  go_wp2
  go_ret
  exact ⟨rfl, ⟨_, _, H5.out⟩, HB5.out⟩
set_option maxRecDepth 100000 in
set_option maxHeartbeats 800000 in
theorem reqNew_7 (h : CB W base b c vp vm) (hbase : base ≤ W.heap.size) (hp : c.p = 7) {S : Nat} (hs : c.s = (S : Int)) (hS1 : 1 ≤ S) (hS6 : S ≤ 6) (hfull : c.ps.length < S) {x : Int} (hx : x ∉ c.ps) :
    Calls Try.prog 69 #[.pointer (some ⟨b, 0, none⟩), .int .i64 x] W (reqSays base b true ({ c with ps := (c).ps.take (0) ++ x :: (c).ps.drop (0) }) W) := by
  have Hp := Lib.hid hp
  have Hs := Lib.hid hs
  have Hfull := Lib.hid hfull
  have Hmk : Hid (markedB c.p = false) := by show _ = _; rw [hp]; rfl
  have hn : c.ps.length ≤ 6 := by omega
  have hn1 : c.ps.length ≤ 1000 := by omega
  obtain ⟨A, d, rfl, _, _, _⟩ := Law.own_len h.op
  have hb := h.hi
  have HC := Lib.hid h
  have HX := Lib.hid hx
  obtain ⟨c0, c1, c2, c3, c4, f0, f1, f2, f3, f4⟩ := h.blk
  rw [hp] at c0
  have HR := Lib.hid (ruleOf_7 W)
  have HF := isFull_any (.int .i64 7) (.int .i64 c.h) c.ps.length S A d vm
  rw [show decide (c.ps.length = S) = false from by simp; omega] at HF
  have HF := Lib.hid HF
  have HMk : Hid (∀ w, Calls Try.prog 113 #[.int .i64 7] w fun e w' => e = .returned (.bool false) ∧ w' = w) := Lib.hid fun w => by
    have h := hasMarks_any 7 w
    rwa [show markedB 7 = false from rfl] at h
  clear h hx hp hs hfull
  go_enter Try.func69, Try.ntmps69
  go_wp2_with fail
  go_at_call 109
  refine HR.out.mono ?_
  rintro e w1 ⟨rfl, hb1⟩
  have H1 := Lib.hid (HC.out.below hb1)
  have HI := Lib.hid (idx_row (c := d) (Law.Row.own H1.out.op) (by omega) x)
  rw [if_neg HX.out] at HI
  have HB1 := Lib.hid (hb1.mono hbase)
  obtain ⟨d0, d1, d2, d3, d4, e0, e1, e2, e3, e4⟩ := H1.out.blk
  rw [Hp.out] at d0
  rw [Hs.out] at d1
  clear hb1 c0 c1 c2 c3 c4 f0 f1 f2 f3 f4 HR
  go_wp2_with fail
  go_at_call 110
  refine HI.out.mono ?_
  rintro e w' ⟨rfl, hw'⟩
  obtain rfl := hw'.symm
  clear hw' HI
  go_wp2_with fail
  go_at_call 111
  refine (HF.out _).mono ?_
  rintro e w2 ⟨rfl, hb2⟩
  have h2 := H1.out.below hb2
  have HB2 := Lib.hid (HB1.out.trans (hb2.mono (Nat.le_trans hbase HB1.out.size)))
  have S2 : Hid (base ≤ w2.heap.size) := Lib.hid (Nat.le_trans hbase HB2.out.size)
  obtain ⟨B3, m3, rfl, _, _, _⟩ := Law.own_len h2.om
  have H3 := Lib.hid h2
  have HB3 := HB2
  have S3 := S2
  obtain ⟨k0, d1, d2, d3c, d4, e0, e1, e2, e3, e4⟩ := (show Blk5 w2 b (.int .i64 c.p) (.int .i64 c.s) (.slice A c.ps.length d) (.slice B3 c.ms.length m3) (.int .i64 c.h) from h2.blk)
  have d0 : w2.cell? ⟨b, 0, none⟩ = some (.int .i64 7) := k0.trans (by rw [Hp.out])
  clear k0 hb2 h2 H1 HF HB2 S2
  have HI3 := Lib.hid (ins_pages (x := x) (j := 0) H3.out S3.out (by omega) hn1 rfl)
  go_wp2_with fail
  go_at_call 112
  refine HI3.out.mono ?_
  rintro e w4 ⟨A4, n4, d4v, rfl, h4, ⟨k0, k1, k2, k3, k4, f0, f1, f2, f3, f4⟩, hb4⟩
  have c0 : w4.cell? ⟨b, 0, none⟩ = some (.int .i64 7) := k0.trans (by show some (Value.int .i64 c.p) = _; rw [Hp.out])
  have HB4 := Lib.hid ((HB3.out.trans hb4).setCell (p := ⟨b, 2, none⟩) H3.out.lo (.slice A4 n4 d4v))
  have H4 := Lib.hid h4
  have S4 : Hid (base ≤ (w4.setCell ⟨b, 2, none⟩ (.slice A4 n4 d4v)).heap.size) := Lib.hid (Nat.le_trans hbase HB4.out.size)
  clear k0 h4 hb4 HI3 H3 HB3 S3 d0 d1 d2 d3c d4 e0 e1 e2 e3 e4
  go_wp2_with fail
  go_at_call 113
  refine (HMk.out _).mono ?_
  rintro e w' ⟨rfl, hw'⟩
  obtain rfl := hw'.symm
  clear hw' HMk
  go_wp2
  go_ret
  exact ⟨rfl, ⟨_, _, H4.out⟩, HB4.out⟩
end
end Go.Proofs.Ytdjafooabpcbmaa
