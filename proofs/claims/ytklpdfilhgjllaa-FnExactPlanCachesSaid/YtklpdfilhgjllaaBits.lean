/-
  The code's sets of pages as bits: has, count, exchange.
-/
import Derived.Test.YtklpdfilhgjllaaInts
import Derived.Test.YtklpdfilhgjllaaSet
namespace Go.Proofs.Ytklpdfilhgjllaa
open Go.RowKit
set_option linter.unusedVariables false
set_option maxRecDepth 100000 in
theorem has_fin : ∀ S : Fin 256, ∀ p : Fin 8, (bits BinOp.and IntKind.u64 (((S.val : Nat) : Int) / 2 ^ p.val) 1 == 1) = S.val.testBit p.val := by decide +kernel
theorem has_any (S p : Nat) (w : World) (hS : S < 256) (hp : p < 8) : Calls Try.prog 91 #[.int .u64 S, .int .i64 p] w fun e w' => e = .returned (.bool (S.testBit p)) ∧ w' = w := by
  have HE := Lib.hid (has_fin ⟨S, hS⟩ ⟨p, hp⟩)
  go_enter Try.func91, Try.ntmps91
  go_wp2
  go_ret
  exact ⟨congrArg (fun z => Ending.returned (Value.bool z)) HE.out, rfl⟩
set_option maxRecDepth 100000 in
theorem ex_fin : ∀ S : Fin 256, ∀ L : Fin 8, ∀ p : Fin 8, bits BinOp.or IntKind.u64 (bits BinOp.andNot IntKind.u64 ((S.val : Nat) : Int) (IntKind.u64.wrap (2 ^ L.val))) (IntKind.u64.wrap (2 ^ p.val)) = ((Q.putB (Q.outB S.val L.val) p.val : Nat) : Int) := by decide +kernel
set_option maxRecDepth 100000 in
theorem ex_fin2 : ∀ S : Fin 256, ∀ p : Fin 8, bits BinOp.or IntKind.u64 ((S.val : Nat) : Int) (IntKind.u64.wrap (2 ^ p.val)) = ((Q.putB S.val p.val : Nat) : Int) := by decide +kernel
theorem exch_any (S p : Nat) (l : Int) (w : World) (hS : S < 256) (hp : p < 8) (hl : -1 ≤ l) (hl8 : l < 8) : Calls Try.prog 92 #[.int .u64 S, .int .i64 l, .int .i64 p] w fun e w' => e = .returned (.int .u64 (Q.exB S l p : Nat)) ∧ w' = w := by
  by_cases h : 0 ≤ l
  · obtain ⟨L, rfl⟩ := Int.eq_ofNat_of_zero_le h
    have HE := Lib.hid (ex_fin ⟨S, hS⟩ ⟨L, by omega⟩ ⟨p, hp⟩)
    have HX : Hid (Q.exB S L p = Q.putB (Q.outB S L) p) := Lib.hid (by unfold Q.exB; rw [if_pos h]; rfl)
    go_enter Try.func92, Try.ntmps92
    go_wp2
    go_ret
    exact ⟨by rw [HX.out]; exact congrArg (fun z => Ending.returned (Value.int .u64 z)) HE.out, rfl⟩
  · have HE := Lib.hid (ex_fin2 ⟨S, hS⟩ ⟨p, hp⟩)
    have HX : Hid (Q.exB S l p = Q.putB S p) := Lib.hid (by unfold Q.exB; rw [if_neg h])
    go_enter Try.func92, Try.ntmps92
    go_wp2
    go_ret
    exact ⟨by rw [HX.out]; exact congrArg (fun z => Ending.returned (Value.int .u64 z)) HE.out, rfl⟩
set_option maxRecDepth 100000 in
set_option maxHeartbeats 4000000 in
theorem ones_any (S : Nat) (w : World) (hS : S < 256) : Calls Try.prog 112 #[.int .u64 S] w fun e w' => e = .returned (.int .i64 (Q.popB S : Nat)) ∧ w' = w := by
  go_enter Try.func112, Try.ntmps112
  go_wp2
  go_ret
  refine ⟨congrArg (fun z => Ending.returned (Value.int .i64 z)) ?_, rfl⟩
  clear w
  revert S
  decide +kernel
theorem count_any (S : Nat) (w : World) (hS : S < 256) : Calls Try.prog 93 #[.int .u64 S] w fun e w' => e = .returned (.int .i64 (Q.popB S : Nat)) ∧ w' = w := by
  have HO := Lib.hid (ones_any S w hS)
  have HC : Hid (Calls Try.prog 110 #[.int .u64 S] w fun e w' => e = .returned (.int .i64 (Q.popB S : Nat)) ∧ w' = w) := by
    show Calls _ _ _ _ _
    go_enter Try.func110, Try.ntmps110
    go_wp2_with fail
    go_at_call 112
    refine (HO.out).mono ?_
    rintro e w' ⟨rfl, hw'⟩
    obtain rfl := hw'.symm
    clear hw'
    go_wp2
    go_ret
    exact ⟨rfl, rfl⟩
  go_enter Try.func93, Try.ntmps93
  go_wp2_with fail
  go_at_call 110
  refine (HC.out).mono ?_
  rintro e w' ⟨rfl, hw'⟩
  obtain rfl := hw'.symm
  clear hw'
  go_wp2
  go_ret
  exact ⟨rfl, rfl⟩
end Go.Proofs.Ytklpdfilhgjllaa
