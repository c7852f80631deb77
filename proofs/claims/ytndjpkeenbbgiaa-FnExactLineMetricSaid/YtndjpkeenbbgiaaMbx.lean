/-
  A metric in a block of the call's own whose rows are appended: its cell by its block; the model's l6Uniform.
-/
import Derived.Test.YtndjpkeenbbgiaaCfg
import Derived.Test.YtndjpkeenbbgiaaMet
import Derived.Test.YtndjpkeenbbgiaaAppB
import Derived.OneCell
namespace Go.Proofs.Ytndjpkeenbbgiaa
open Go.RowKit
set_option linter.unusedVariables false
/-- The block k holds one metric, whose rows' slice is x. -/
def MBox (w : World) (k : Nat) (x : Value) : Prop := w.heap[k]? = some (.cells #[x] 43)
theorem MBox.new (w : World) (x : Value) : MBox (w.alloc (.cells #[x] 43)) w.heap.size x := heap_alloc_new w _
theorem MBox.lt {w : World} {k : Nat} {x : Value} (h : MBox w k x) : k < w.heap.size := (Array.getElem?_eq_some_iff.1 h).1
theorem MBox.cell {w : World} {k : Nat} {x : Value} (h : MBox w k x) : w.cell? ⟨k, 0, none⟩ = some x := by
  unfold MBox at h
  simp [World.cell?, h]
theorem MBox.frozen {w : World} {k : Nat} {x : Value} (h : MBox w k x) : w.frozen? ⟨k, 0, none⟩ = false := by
  unfold MBox at h
  simp [World.frozen?, h]
theorem MBox.below {B : Nat} {w w' : World} {k : Nat} {x : Value} (h : MBox w k x) (hb : Below B w w') (hk : k < B) : MBox w' k x := (hb.block k hk).trans h
theorem MBox.on {w w' : World} {k : Nat} {x : Value} (h : MBox w k x) (hb : Below w.heap.size w w') : MBox w' k x := h.below hb h.lt
theorem MBox.alloc {w : World} {k : Nat} {x : Value} (h : MBox w k x) (o : Obj) : MBox (w.alloc o) k x := h.on ((Below.refl _ _).alloc (Nat.le_refl _) o)
theorem MBox.ne {w : World} {k : Nat} {x : Value} (h : MBox w k x) {b s n : Nat} {e : TypeId} {v : Value} {xs : List Value} (he : e ≠ 43) (ho : w.ownsRow b e s v n xs) : v.ownBlock ≠ some k := by
  rcases ho.2 with ⟨rfl, _⟩ | ⟨g, cap, cur, rfl, _, hg, _⟩
  · simp [Value.ownBlock]
  · intro e2
    simp [Value.ownBlock] at e2
    subst e2
    rw [show w.heap[g]? = _ from h] at hg
    injection hg with hg
    injection hg with _ h2 _
    exact he h2.symm
theorem MBox.grown {w w' : World} {k : Nat} {x : Value} (h : MBox w k x) {r : Option Nat} (hg : w.grownBy w' r) (hr : r ≠ some k) : MBox w' k x := by
  obtain ⟨_, _, _, _, h5⟩ := hg
  exact (h5 k h.lt (by first | exact hr | exact hr.symm)).trans h
theorem MBox.set {w : World} {k : Nat} {x : Value} (h : MBox w k x) (y : Value) : MBox (w.setCell ⟨k, 0, none⟩ y) k y := one_setCell h
theorem MBox.other {w : World} {k : Nat} {x : Value} (h : MBox w k x) (p : Addr) (hp : k ≠ p.block) (y : Value) : MBox (w.setCell p y) k x := (Below.heap_setCell w p y k hp).trans h
theorem own_box {w : World} {b s n : Nat} {e : TypeId} {v : Value} {xs : List Value} (ho : w.ownsRow b e s v n xs) {k : Nat} {x : Value} (h : MBox w k x) (he : e ≠ 43) (y : Value) : (w.setCell ⟨k, 0, none⟩ y).ownsRow b e s v n xs :=
  ho.kept (setBy w ⟨k, 0, none⟩ y) (.inr (h.ne he ho))
theorem rows_nm : (22 : TypeId) ≠ 43 := by decide
namespace Q
def uniRow (d : Int) (x : Nat) : Nat → List Int
  | 0 => []
  | y + 1 => uniRow d x y ++ [if x = y then 0 else d]
def uniK (n : Nat) (d : Int) : Nat → List (List Int)
  | 0 => []
  | x + 1 => uniK n d x ++ [uniRow d x n]
theorem uniRow_len (d : Int) (x : Nat) : ∀ y, (uniRow d x y).length = y
  | 0 => rfl
  | y + 1 => by rw [uniRow, List.length_append, uniRow_len d x y]; rfl
theorem uniK_len (n : Nat) (d : Int) : ∀ x, (uniK n d x).length = x
  | 0 => rfl
  | x + 1 => by rw [uniK, List.length_append, uniK_len n d x]; rfl
end Q
set_option maxHeartbeats 1600000 in
theorem l6Uniform_any (n : Nat) (d : Int) (w : World) (h6 : n ≤ 6) :
    Calls Try.prog 73 #[.int .i64 n, .int .i64 d] w (mSays (Q.uniK n d n) w) := by
  obtain ⟨i0, hi, hz0, hz1, hz2⟩ := info_parts infoInts
  obtain ⟨i1, hj', hq0, hq1, hq2⟩ := info_parts infoII
  have n6I : (n : Int) ≤ 6 := by omega
  go_enter Try.func73, Try.ntmps73
  go_wp2
  have w1 : World := w.alloc (.cells #[.slice none 0 0] 43)
  have hst : Hid (∃ v ys, MBox (((w.alloc (.cells #[.slice none 0 0] 43)).alloc (.cells #[] 22)).alloc (.cells #[.slice (some ⟨w.heap.size + 1, 0, none⟩) 0 0] 43)) (w.heap.size + 1 + 1) v ∧ World.ownsRow (((w.alloc (.cells #[.slice none 0 0] 43)).alloc (.cells #[] 22)).alloc (.cells #[.slice (some ⟨w.heap.size + 1, 0, none⟩) 0 0] 43)) w.heap.size 22 1 v 0 ys ∧ NOwn (((w.alloc (.cells #[.slice none 0 0] 43)).alloc (.cells #[] 22)).alloc (.cells #[.slice (some ⟨w.heap.size + 1, 0, none⟩) 0 0] 43)) (w.heap.size + 3) ys (Q.uniK n d 0)) := by
    refine ⟨.slice (some ⟨w.heap.size + 1, 0, none⟩) 0 0, [], ?_, ?_, NOwn.nil _ _⟩
    · have h := MBox.new ((w.alloc (.cells #[.slice none 0 0] 43)).alloc (.cells #[] 22)) (.slice (some ⟨w.heap.size + 1, 0, none⟩) 0 0)
      rwa [show ((w.alloc (.cells #[.slice none 0 0] 43)).alloc (.cells #[] 22)).heap.size = w.heap.size + 1 + 1 by simp] at h
    · have h := ownsRow_nil (w.alloc (.cells #[.slice none 0 0] 43)) 22
      rw [show (w.alloc (.cells #[.slice none 0 0] 43)).heap.size = w.heap.size + 1 by simp] at h
      exact (own_down h (Nat.le_succ _)).alloc _
  have hsb : Hid (MBox (((w.alloc (.cells #[.slice none 0 0] 43)).alloc (.cells #[] 22)).alloc (.cells #[.slice (some ⟨w.heap.size + 1, 0, none⟩) 0 0] 43)) w.heap.size (.slice none 0 0)) := ((MBox.new w _).alloc _).alloc _
  have hbb : Hid (Below w.heap.size w (((w.alloc (.cells #[.slice none 0 0] 43)).alloc (.cells #[] 22)).alloc (.cells #[.slice (some ⟨w.heap.size + 1, 0, none⟩) 0 0] 43))) := (((Below.refl _ _).alloc (Nat.le_refl _) _).alloc (by simp) _).alloc (by simp; omega) _
  have hsz : Hid (w.heap.size + 3 ≤ (((w.alloc (.cells #[.slice none 0 0] 43)).alloc (.cells #[] 22)).alloc (.cells #[.slice (some ⟨w.heap.size + 1, 0, none⟩) 0 0] 43)).heap.size) := by show _ ≤ _; simp
  clear w1
  go_loopw [6] (fun i wr => ∃ x : Nat, x ≤ n ∧ i = .int .i64 (x : Int) ∧ Hid (∃ v ys, MBox wr (w.heap.size + 1 + 1) v ∧ wr.ownsRow w.heap.size 22 1 v x ys ∧ NOwn wr (w.heap.size + 3) ys (Q.uniK n d x)) ∧ Hid (MBox wr w.heap.size (.slice none 0 0)) ∧ Hid (Below w.heap.size w wr) ∧ Hid (w.heap.size + 3 ≤ wr.heap.size)) (fun i _ => n - (intOf i).toNat)
  case atStart => exact ⟨0, Nat.zero_le _, rfl, hst, hsb, hbb, hsz⟩
  case round =>
    obtain ⟨x, hx, rfl, hv, hbox, hb, hs3⟩ := hrel
    clear hst hsb hbb hsz
    by_cases hltx : x < n
    · have hltxI : (x : Int) < (n : Int) := by omega
      obtain ⟨w3, hw3⟩ : ∃ w3, w3 = wr := ⟨_, rfl⟩
      rw [← hw3] at hv hbox hb hs3 ⊢
      clear hw3
      go_wp2
      have HO0 := Lib.hid (ownsRow_nil w3 3)
      have HB0 : Hid (Below w3.heap.size w3 (w3.alloc (.cells #[] 3))) := (Below.refl _ _).alloc (Nat.le_refl _) _
      go_loopw [7, 8] (fun u i wq => ∃ y : Nat, y ≤ n ∧ i = .int .i64 (y : Int) ∧ Hid (wq.ownsRow w3.heap.size 3 1 u y (ivs (Q.uniRow d x y))) ∧ Hid (Below w3.heap.size w3 wq)) (fun _ i _ => n - (intOf i).toNat)
      case atStart => exact ⟨0, Nat.zero_le _, rfl, HO0.out, HB0.out⟩
      case round =>
        obtain ⟨y, hy, rfl, ho, hb2⟩ := hrel
        by_cases hlty : y < n
        · have hltyI : (y : Int) < (n : Int) := by omega
          have HT : Hid (Q.uniRow d x (y + 1) = Q.uniRow d x y ++ [if x = y then 0 else d]) := rfl
          have hoo := ho.out
          have hbo := hb2.out
          generalize Q.uniRow d x y = l at hoo HT
          clear ho hb2
          by_cases hxy : x = y
          · subst hxy
            rw [if_pos rfl] at HT
            have hsz9 := (hbo).size
            go_wp2_with (at_builtin; refine wpList_append_own _ rfl _ _ 22 rfl (w3.heap.size) 3 i0 (.int .i64 0) 1 8 Try.underlying22 hi hz0 hz1 hz2 rfl (by decide) _ _ _ rfl ((hoo).alloc _) ⟨(wr).heap.size, 0, none⟩ 1 1 [.int .i64 (0)] rfl rfl ?ca9a ?ca9b ?ca9c ?ca9d ?ca9e ?_)
            case ca9a =>
              intro j' u hj'
              match j', hj' with
              | 0, hj' => simp at hj'; subst hj'; simp [Addr.add]
            case ca9b => intro u hu; simp at hu; subst hu; rfl
            case ca9c => unfold maxLen; omega
            case ca9d => omega
            case ca9e => simp; omega
            intro v9 w9 hm9 hg9 _
            have HB9 := Lib.hid (((hbo).alloc hsz9 (.cells #[.int .i64 (0)] 3)).grown hg9 (by simp; omega) (fun j e => Nat.le_trans (by omega) ((hoo).lt j e).1))
            have HO9 : Hid (w9.ownsRow w3.heap.size 3 1 v9 (x + 1) (ivs (Q.uniRow d x (x + 1)))) := by show World.ownsRow _ _ _ _ _ _ _; rw [HT.out, ivs_snoc]; exact hm9
            clear hm9 hg9 hoo hbo
            go_wp2
            go_roundw
            case rel => exact ⟨x + 1, by omega, by go_num, HO9.out, HB9.out⟩
            case measure => simp [intOf]; omega
          · have hxyI : ¬ (x : Int) = (y : Int) := by omega
            rw [if_neg hxy] at HT
            have hsz8 := (hbo).size
            go_wp2_with (at_builtin; refine wpList_append_own _ rfl _ _ 22 rfl (w3.heap.size) 3 i0 (.int .i64 0) 1 8 Try.underlying22 hi hz0 hz1 hz2 rfl (by decide) _ _ _ rfl ((hoo).alloc _) ⟨(wr).heap.size, 0, none⟩ 1 1 [.int .i64 (d)] rfl rfl ?ca8a ?ca8b ?ca8c ?ca8d ?ca8e ?_)
            case ca8a =>
              intro j' u hj'
              match j', hj' with
              | 0, hj' => simp at hj'; subst hj'; simp [Addr.add]
            case ca8b => intro u hu; simp at hu; subst hu; rfl
            case ca8c => unfold maxLen; omega
            case ca8d => omega
            case ca8e => simp; omega
            intro v8 w8 hm8 hg8 _
            have HB8 := Lib.hid (((hbo).alloc hsz8 (.cells #[.int .i64 (d)] 3)).grown hg8 (by simp; omega) (fun j e => Nat.le_trans (by omega) ((hoo).lt j e).1))
            have HO9 : Hid (w8.ownsRow w3.heap.size 3 1 v8 (y + 1) (ivs (Q.uniRow d x (y + 1)))) := by show World.ownsRow _ _ _ _ _ _ _; rw [HT.out, ivs_snoc]; exact hm8
            clear hm8 hg8 hoo hbo
            go_wp2
            go_roundw
            case rel => exact ⟨y + 1, by omega, by go_num, HO9.out, HB8.out⟩
            case measure => simp [intOf]; omega
        · have hye : y = n := by omega
          have hltyI : ¬ (y : Int) < (n : Int) := by omega
          subst hye
          have hro := ho.out
          obtain ⟨v, ys, hbx, hov, hnv⟩ := hv.out
          have hov2 := own_past hov hb2.out
          have hbx2 := hbx.on hb2.out
          have hlr : (Q.uniRow d x y).length = y := Q.uniRow_len d x y
          have hnv2 := NOwn.snoc hnv (hnv.past hb2.out) (x := u7) (l := Q.uniRow d x y) (by rw [hlr]; exact hro) hs3.out
          have hys : ys.length = x := by have := hov.1; omega
          obtain ⟨Ar, cr, hur, _, _, _⟩ := Law.own_len hro
          obtain ⟨Av, cv, hvv, _, _, _⟩ := Law.own_len hov
          subst hur hvv
          have HOV := Lib.hid hov2
          have HNV := Lib.hid hnv2
          have HBX := Lib.hid hbx2
          have HBW := Lib.hid (Law.then_ hb.out hb2.out)
          have HB0' := Lib.hid (hbox.out.on hb2.out)
          have HS3 : Hid (w.heap.size + 3 ≤ wr.heap.size) := Nat.le_trans hs3.out hb2.out.size
          have hszw := HBW.out.size
          have hkc := hbx2.cell
          have hkf := hbx2.frozen
          have HUK : Hid (Q.uniK y d (x + 1) = Q.uniK y d x ++ [Q.uniRow d x y]) := rfl
          have hkl := hbx2.lt
          clear ho hb2 hro hov hov2 hbx hbx2 hnv hnv2 hb hbox hs3 hlr hv
          go_wp2_with (at_builtin; refine wpList_append_own _ rfl _ _ 34 rfl w.heap.size 22 i1 (.slice none 0 0) 1 24 Try.underlying34 hj' hq0 hq1 hq2 rfl (by decide) _ _ _ rfl (HOV.out.alloc _) ⟨wr.heap.size, 0, none⟩ 1 1 [.slice Ar y cr] rfl rfl ?ca ?cb ?cc ?cd ?ce ?_)
          case cb => first | exact rfl | (intro u hu; simp at hu; subst hu; rfl)
          case cc => unfold maxLen; omega
          case cd => omega
          case ce => first | omega | (simp; omega)
          intro v10 w10 hm10 hg10 _
          have hbx10 := (HBX.out.alloc (.cells #[.slice Ar y cr] 22)).grown hg10 (HBX.out.ne rows_nm HOV.out)
          have hb010 := (HB0'.out.alloc (.cells #[.slice Ar y cr] 22)).grown hg10 (HB0'.out.ne rows_nm HOV.out)
          have hn10 := (HNV.out.alloc (.cells #[.slice Ar y cr] 22)).outer ints_ne (HOV.out.alloc _) hg10
          have hbw10 := (HBW.out.alloc hszw (.cells #[.slice Ar y cr] 22)).grown hg10 (by simp; omega) (fun j e => (HOV.out.lt j e).1)
          have hsz10 : w.heap.size + 3 ≤ w10.heap.size := Nat.le_trans (Nat.le_trans HS3.out ((Below.refl _ _).alloc (Nat.le_refl _) _).size) hg10.size
          obtain ⟨A10, c10, hv10, _, _, _⟩ := Law.own_len hm10
          subst hv10
          have hkc10 := hbx10.cell
          have hkf10 := hbx10.frozen
          have HBX' := Lib.hid (hbx10.set (.slice A10 (x + 1) c10))
          have HB0'' := Lib.hid (hb010.other ⟨w.heap.size + 1 + 1, 0, none⟩ (by show _ ≠ _; simp; omega) (.slice A10 (x + 1) c10))
          have HO' := Lib.hid (own_box hm10 hbx10 rows_nm (.slice A10 (x + 1) c10))
          have HN' := Lib.hid (hn10.store ⟨w.heap.size + 1 + 1, 0, none⟩ (by show w.heap.size + 1 + 1 < _; omega) (.slice A10 (x + 1) c10))
          rw [← HUK.out] at HN'
          have HBW' := Lib.hid (hbw10.setCell (p := ⟨w.heap.size + 1 + 1, 0, none⟩) (by show w.heap.size ≤ w.heap.size + 1 + 1; omega) (.slice A10 (x + 1) c10))
          have HS' : Hid (w.heap.size + 3 ≤ (w10.setCell ⟨w.heap.size + 1 + 1, 0, none⟩ (.slice A10 (x + 1) c10)).heap.size) := by show _ ≤ _; simpa using hsz10
          clear hbx10 hb010 hn10 hbw10 hsz10 hm10 hg10
          go_wp2
          go_roundw
          case rel => exact ⟨x + 1, by omega, by go_num, ⟨(.slice A10 (x + 1) c10), _, HBX'.out, HO'.out, HN'.out⟩, HB0''.out, HBW'.out, HS'.out⟩
          case measure => simp [intOf]; omega
    · have hxe : x = n := by omega
      have hltxI : ¬ (x : Int) < (n : Int) := by omega
      subst hxe
      obtain ⟨v, ys, hbx, hov, hnv⟩ := hv.out
      obtain ⟨Av, cv, hvv, _, _, _⟩ := Law.own_len hov
      subst hvv
      have hkc := hbx.cell
      have hk0 := hbox.out.cell
      have hkf := hbox.out.frozen
      have hkl := hbox.out.lt
      have E2 := Lib.hid (hbox.out.set (.slice Av x cv)).cell
      have HO' := Lib.hid (own_box hov hbox.out rows_nm (.slice Av x cv))
      have HN' := Lib.hid (hnv.store ⟨w.heap.size, 0, none⟩ (by show w.heap.size < _; omega) (.slice Av x cv))
      have HB' := Lib.hid (hb.out.setCell (p := ⟨w.heap.size, 0, none⟩) (Nat.le_refl _) (.slice Av x cv))
      have HUL := Lib.hid (Q.uniK_len x d x)
      clear hv hov hnv hbx hbox hb hs3
      go_wp2
      refine ret_met1 (b := w.heap.size) (x := .slice Av x cv) rfl rfl rfl E2.out ⟨_, ys, rfl, ?_, HN'.out.down (by omega), HB'.out⟩
      rw [HUL.out]
      exact HO'.out
end Go.Proofs.Ytndjpkeenbbgiaa
