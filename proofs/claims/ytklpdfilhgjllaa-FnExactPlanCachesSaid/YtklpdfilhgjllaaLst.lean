/-
  The code's list of a set's pages, slices.Index of ints, the page whose next request is farthest: both sides'.
-/
import Derived.Test.YtklpdfilhgjllaaBits
import Derived.Test.YtklpdfilhgjllaaBnd
import Derived.Test.YtklpdfilhgjllaaApp
namespace Go.Proofs.Ytklpdfilhgjllaa
open Go.RowKit
set_option linter.unusedVariables false
namespace Q
def plK (S k : Nat) : List Int := ((List.range k).filter fun p => S.testBit p).map fun (p : Nat) => (p : Int)
theorem plK_yes {S k : Nat} (h : S.testBit k = true) : plK S (k + 1) = plK S k ++ [(k : Int)] := by simp [plK, List.range_succ, h]
theorem plK_no {S k : Nat} (h : S.testBit k = false) : plK S (k + 1) = plK S k := by simp [plK, List.range_succ, h]
theorem plK_len (S k : Nat) : (plK S k).length ≤ k := by
  unfold plK
  rw [List.length_map]
  exact Nat.le_trans (List.length_filter_le _ _) (by simp)
theorem us_shift (x : Int) : ∀ (ys : List Int) (k : Nat), us x ys k = us x ys 0 + k
  | [], k => by simp [us]
  | y :: ys, k => by
    unfold us
    by_cases h : y = x
    · rw [if_pos h, if_pos h]; omega
    · rw [if_neg h, if_neg h, us_shift x ys (k + 1), us_shift x ys (0 + 1)]; omega
/-- The code's search over a list of pages. -/
def farGo (later : List Int) : List Int → Int → Int → Int
  | [], far, _ => far
  | x :: xs, far, nx => if up x later 0 < 0 then x else if nx < up x later 0 then farGo later xs x (up x later 0) else farGo later xs far nx
/-- The first page whose next use is farthest. -/
def farL (f : Int → Nat) : List Int → Int
  | [] => -1
  | x :: xs => xs.foldl (fun b y => if f b < f y then y else b) x
theorem far_snoc (f : Int → Nat) {l : List Int} (h : l ≠ []) (y : Int) : farL f (l ++ [y]) = if f (farL f l) < f y then y else farL f l := by
  cases l with
  | nil => exact absurd rfl h
  | cons x xs =>
    show List.foldl _ x (xs ++ [y]) = _
    rw [List.foldl_append]
    rfl
theorem fold_stay (f : Int → Nat) {m : Nat} (hm : ∀ y, f y ≤ m) {b : Int} (hb : f b = m) : ∀ l : List Int, l.foldl (fun b y => if f b < f y then y else b) b = b
  | [] => rfl
  | y :: ys => by
    have := hm y
    rw [List.foldl_cons, if_neg (by omega)]
    exact fold_stay f hm hb ys
theorem farGo_fold (later : List Int) : ∀ (l : List Int) (b : Int), us b later 0 < later.length → farGo later l b (us b later 0 : Nat) = l.foldl (fun b y => if us b later 0 < us y later 0 then y else b) b
  | [], b, _ => rfl
  | x :: xs, b, hb => by
    have hx := up_us x later 0
    have hbx := us_bd x later 0
    unfold farGo
    rw [List.foldl_cons]
    by_cases h : us x later 0 = later.length
    · rw [if_pos (show us x later 0 = 0 + later.length by omega)] at hx
      rw [if_pos (by omega), if_pos (by omega)]
      exact (fold_stay (fun y => us y later 0) (fun y => by have := us_bd y later 0; omega) h xs).symm
    · rw [if_neg (show ¬ us x later 0 = 0 + later.length by omega)] at hx
      rw [hx, if_neg (by omega)]
      by_cases h2 : us b later 0 < us x later 0
      · rw [if_pos (by omega), if_pos h2]
        exact farGo_fold later xs x (by omega)
      · rw [if_neg (by omega), if_neg h2]
        exact farGo_fold later xs b hb
theorem farGo_far (later : List Int) {l : List Int} (h : l ≠ []) : farGo later l (-1) (-1) = farL (fun y => us y later 0) l := by
  cases l with
  | nil => exact absurd rfl h
  | cons x xs =>
    have hx := up_us x later 0
    have hbx := us_bd x later 0
    unfold farGo farL
    by_cases h : us x later 0 = later.length
    · rw [if_pos (show us x later 0 = 0 + later.length by omega)] at hx
      rw [if_pos (by omega)]
      exact (fold_stay (fun y => us y later 0) (fun y => by have := us_bd y later 0; omega) h xs).symm
    · rw [if_neg (show ¬ us x later 0 = 0 + later.length by omega)] at hx
      rw [hx, if_neg (by omega), if_pos (by omega)]
      exact farGo_fold later xs x (by omega)
theorem farL_congr {f g : Int → Nat} {m : Nat} (h : ∀ y, g y = f y + m) (l : List Int) : farL g l = farL f l := by
  cases l with
  | nil => rfl
  | cons x xs =>
    have e : (fun b y => if g b < g y then y else b) = (fun b y => if f b < f y then y else b) := by
      funext b y
      rw [h b, h y]
      simp
    show List.foldl _ x xs = List.foldl _ x xs
    rw [e]
/-- The page that leaves at place i. -/
def farAt (zs : List Int) (i S : Nat) : Int := farL (useN zs i) (pl S)
theorem farGo_at (zs : List Int) (i : Nat) {S : Nat} (h : pl S ≠ []) : farGo (zs.drop (i + 1)) (pl S) (-1) (-1) = farAt zs i S := by
  rw [farGo_far _ h]
  exact (farL_congr (fun y => us_shift y (zs.drop (i + 1)) (i + 1)) (pl S)).symm
theorem farL_mem (f : Int → Nat) : ∀ {l : List Int}, l ≠ [] → farL f l ∈ l := by
  intro l
  rw [← List.reverse_reverse l]
  generalize l.reverse = r
  induction r with
  | nil => intro h; exact absurd rfl h
  | cons y r ih =>
    intro _
    rw [List.reverse_cons]
    by_cases hr : r.reverse = []
    · rw [hr]; simp [farL]
    · rw [far_snoc f hr]
      split
      · simp
      · exact List.mem_append_left _ (ih hr)
end Q
set_option maxHeartbeats 800000 in
theorem list_any (S : Nat) (w : World) (hS : S < 256) : Calls Try.prog 54 #[.int .u64 S] w (rowSays1 (Q.pl S) w) := by
  obtain ⟨i0, hi, hz0, hz1, hz2⟩ := info_parts infoInts
  rw [show Q.pl S = Q.plK S 8 from rfl]
  go_enter Try.func54, Try.ntmps54
  go_wp2_with fail
  go_loopw [3, 6] (fun v i wr => ∃ k : Nat, k ≤ 8 ∧ i = .int .i64 k ∧ Hid (wr.ownsRow w.heap.size 3 1 v (Q.plK S k).length (ivs (Q.plK S k))) ∧ Hid (Below w.heap.size w wr)) (fun _ i _ => 8 - (intOf i).toNat)
  case atStart => exact ⟨0, Nat.zero_le _, rfl, ownsRow_nil _ _, (Below.refl _ _).alloc (Nat.le_refl _) _⟩
  case round =>
    obtain ⟨k, hk, rfl, ho, hb⟩ := hrel
    by_cases hlt : k < 8
    · have hltI : (k : Int) < 8 := by omega
      have HH := Lib.hid (has_any S k wr hS hlt)
      have hln := Q.plK_len S k
      cases hkb : S.testBit k
      · rw [hkb] at HH
        have HF := Lib.hid (Q.plK_no hkb)
        clear hkb
        go_wp2_with fail
        go_at_call 91
        refine (HH.out).mono ?_
        rintro e w' ⟨rfl, hw'⟩
        obtain rfl := hw'.symm
        clear hw'
        go_wp2
        go_roundw
        case rel => exact ⟨k + 1, by omega, by go_num, (by show World.ownsRow _ _ _ _ _ _ _; rw [HF.out]; exact ho.out), hb.out⟩
        case measure => simp [intOf]; omega
      · rw [hkb] at HH
        have HF := Lib.hid (Q.plK_yes hkb)
        have hoo := ho.out
        have hbo := hb.out
        generalize Q.plK S k = l at hoo hln HF
        clear hkb ho hb
        go_wp2_with fail
        go_at_call 91
        refine (HH.out).mono ?_
        rintro e w' ⟨rfl, hw'⟩
        obtain rfl := hw'.symm
        clear hw'
        have hsz9 := (hbo).size
        go_wp2_with (at_builtin; refine wpList_append_own _ rfl _ _ 22 rfl w.heap.size 3 i0 (.int .i64 0) 1 8 Try.underlying22 hi hz0 hz1 hz2 rfl (by decide) _ _ _ rfl ((hoo).alloc _) ⟨(wr).heap.size, 0, none⟩ 1 1 [.int .i64 ((k : Int))] rfl rfl ?ca9a ?ca9b ?ca9c ?ca9d ?ca9e ?_)
        case ca9a =>
          intro j' u hj'
          match j', hj' with
          | 0, hj' => simp at hj'; subst hj'; simp [Addr.add]
        case ca9b => intro u hu; simp at hu; subst hu; rfl
        case ca9c => unfold maxLen; omega
        case ca9d => omega
        case ca9e => simp; omega
        intro v9 w9 hm9 hg9 _
        have HB9 := Lib.hid (((hbo).alloc hsz9 (.cells #[.int .i64 ((k : Int))] 3)).grown hg9 (by simp; omega) (fun j e => ((hoo).lt j e).1))
        clear hg9
        have HO9 : Hid (w9.ownsRow w.heap.size 3 1 v9 (l ++ [(k : Int)]).length (ivs (l ++ [(k : Int)]))) := by show World.ownsRow _ _ _ _ _ _ _; rw [ivs_snoc, show (l ++ [(k : Int)]).length = l.length + 1 by simp]; exact hm9
        clear hm9 hoo hbo
        go_wp2
        go_roundw
        case rel => exact ⟨k + 1, by omega, by go_num, (by show World.ownsRow _ _ _ _ _ _ _; rw [HF.out]; exact HO9.out), HB9.out⟩
        case measure => simp [intOf]; omega
    · have hke : k = 8 := by omega
      subst hke
      go_wp2
      go_ret
      exact ⟨_, rfl, ho.out, hb.out⟩
set_option maxHeartbeats 800000 in
theorem idx_any (A : Option Addr) (c : Nat) (zs : List Int) (x : Int) (w : World) (h3 : zs.length ≤ 60) (hr : Law.Row w A (ivs zs)) :
    Calls Try.prog 95 #[.slice A zs.length c, .int .i64 x] w fun e w' => e = .returned (.int .i64 (Q.up x zs 0)) ∧ w' = w := by
  have HR := Lib.hid hr
  have HU : Hid (Q.up x (zs.drop 0) 0 = Q.up x zs 0) := Lib.hid (by rw [List.drop_zero])
  clear hr
  generalize Q.up x zs 0 = U at HU ⊢
  go_enter Try.func95, Try.ntmps95
  go_wp2
  go_loop [8] (fun i => ∃ k : Nat, k ≤ zs.length ∧ i = .int .i64 k ∧ Hid (Q.up x (zs.drop k) k = U)) (fun i => zs.length - (intOf i).toNat)
  case atStart => exact ⟨0, Nat.zero_le _, rfl, HU.out⟩
  case round =>
    obtain ⟨k, hk, rfl, hu⟩ := hrel
    by_cases hlt : k < zs.length
    · have hltI : (k : Int) < (zs.length : Int) := by omega
      obtain ⟨y, hy⟩ : ∃ y, zs[k]? = some y := ⟨_, List.getElem?_eq_getElem hlt⟩
      obtain ⟨b, off, rfl, hbl, hcell⟩ := HR.out.at_ (ivs_some hy)
      have hdr := Q.drop_at hy
      by_cases hyx : y = x
      · subst hyx
        have HE : Hid ((k : Int) = U) := Lib.hid (by rw [← hu.out, hdr, Q.up, if_pos rfl])
        clear hy hu HU hdr
        go_wp2
        go_ret
        exact ⟨by rw [HE.out]; rfl, rfl⟩
      · have HE : Hid (Q.up x (zs.drop (k + 1)) (k + 1) = U) := Lib.hid (by rw [← hu.out, hdr, Q.up, if_neg hyx])
        have hxy : ¬ x = y := fun e => hyx e.symm
        clear hy hu HU hdr hyx
        go_wp2
        go_round
        case rel => exact ⟨k + 1, by omega, by go_num, HE.out⟩
        case measure => simp [intOf]; omega
    · have hke : k = zs.length := by omega
      have hltI : ¬ (k : Int) < (zs.length : Int) := by omega
      have HE : Hid (-1 = U) := Lib.hid (by rw [← hu.out, hke, List.drop_length]; rfl)
      clear hke hu HU
      go_wp2
      go_ret
      exact ⟨by rw [← HE.out]; rfl, rfl⟩
set_option maxHeartbeats 800000 in
theorem farthestPage_any (S : Nat) (A : Option Addr) (c : Nat) (zs : List Int) (w : World) (hS : S < 256) (h3 : zs.length ≤ 60) (hr : Law.Row w A (ivs zs)) :
    Calls Try.prog 59 #[.int .u64 S, .slice A zs.length c] w fun e w' => e = .returned (.int .i64 (Q.farGo zs (Q.pl S) (-1) (-1))) ∧ Below w.heap.size w w' := by
  have HR := Lib.hid hr
  have HL := Lib.hid (list_any S w hS)
  have hl8 : (Q.pl S).length ≤ 8 := by have := Q.len_pl hS; omega
  clear hr
  generalize Q.pl S = l at HL hl8 ⊢
  obtain ⟨G, hG⟩ : ∃ G, G = Q.farGo zs l (-1) (-1) := ⟨_, rfl⟩
  rw [← hG]
  have HG : Hid (Q.farGo zs (l.drop 0) (-1) (-1) = G) := Lib.hid (by rw [List.drop_zero, hG])
  clear hG
  go_enter Try.func59, Try.ntmps59
  go_wp2_with fail
  go_at_call 54
  refine HL.out.mono ?_
  rintro e w1 ⟨v1, rfl, ho, hb⟩
  obtain ⟨A1, c1, rfl, _, _, _⟩ := Law.own_len ho
  have HO := Lib.hid (Law.Row.own ho)
  have HB := Lib.hid hb
  have HR1 := Lib.hid (HR.out.stays hb)
  clear ho hb
  go_wp2_with fail
  go_loop [5, 6, 13] (fun far nx i => ∃ (k : Nat) (F X : Int), k ≤ l.length ∧ i = .int .i64 k ∧ far = .int .i64 F ∧ nx = .int .i64 X ∧ Hid (Q.farGo zs (l.drop k) F X = G)) (fun _ _ i => l.length - (intOf i).toNat)
  case atStart => exact ⟨0, -1, -1, Nat.zero_le _, rfl, rfl, rfl, HG.out⟩
  case round =>
    obtain ⟨k, F, X, hk, rfl, rfl, rfl, hg⟩ := hrel
    by_cases hlt : k < l.length
    · have hltI : (k : Int) < (l.length : Int) := by omega
      obtain ⟨y, hy⟩ : ∃ y, l[k]? = some y := ⟨_, List.getElem?_eq_getElem hlt⟩
      obtain ⟨b, off, rfl, hbl, hcell⟩ := HO.out.at_ (ivs_some hy)
      have HI := Lib.hid (idx_any A c zs y w1 h3 HR1.out)
      have hg2 := hg.out
      rw [Q.drop_at hy, Q.farGo] at hg2
      have HG2 := Lib.hid hg2
      clear hy hg hg2 HG
      generalize Q.up y zs 0 = U at HI HG2
      by_cases hU : U < 0
      · have HE : Hid (y = G) := Lib.hid (by rw [← HG2.out, if_pos hU])
        clear HG2
        go_wp2_with fail
        go_at_call 95
        refine (HI.out).mono ?_
        rintro e w' ⟨rfl, hw'⟩
        obtain rfl := hw'.symm
        clear hw'
        go_wp2
        go_ret
        exact ⟨by rw [← HE.out]; rfl, HB.out⟩
      · by_cases hX : X < U
        · have HE : Hid (Q.farGo zs (l.drop (k + 1)) y U = G) := Lib.hid (by rw [← HG2.out, if_neg hU, if_pos hX])
          clear HG2
          go_wp2_with fail
          go_at_call 95
          refine (HI.out).mono ?_
          rintro e w' ⟨rfl, hw'⟩
          obtain rfl := hw'.symm
          clear hw'
          go_wp2
          go_round
          case rel => exact ⟨k + 1, y, U, by omega, by go_num, rfl, rfl, HE.out⟩
          case measure => simp [intOf]; omega
        · have HE : Hid (Q.farGo zs (l.drop (k + 1)) F X = G) := Lib.hid (by rw [← HG2.out, if_neg hU, if_neg hX])
          clear HG2
          go_wp2_with fail
          go_at_call 95
          refine (HI.out).mono ?_
          rintro e w' ⟨rfl, hw'⟩
          obtain rfl := hw'.symm
          clear hw'
          go_wp2
          go_round
          case rel => exact ⟨k + 1, F, X, by omega, by go_num, rfl, rfl, HE.out⟩
          case measure => simp [intOf]; omega
    · have hke : k = l.length := by omega
      have hltI : ¬ (k : Int) < (l.length : Int) := by omega
      have HE : Hid (F = G) := Lib.hid (by rw [← hg.out, hke, List.drop_length]; rfl)
      clear hke hg HG
      go_wp2
      go_ret
      exact ⟨by rw [← HE.out]; rfl, HB.out⟩
set_option maxHeartbeats 800000 in
theorem l5Farthest_any (A : Option Addr) (c : Nat) (zs : List Int) (a : Nat) (B : Option Addr) (d : Nat) (l : List Int) (w : World) (h3 : zs.length ≤ 60) (ha : a < zs.length) (h0 : l ≠ []) (h8 : l.length ≤ 8) (hr : Law.Row w A (ivs zs)) (hl : Law.Row w B (ivs l)) :
    Calls Try.prog 94 #[.slice A zs.length c, .int .i64 a, .slice B l.length d] w fun e w' => e = .returned (.int .i64 (Q.farL (Q.useN zs a) l)) ∧ Below w.heap.size w w' := by
  have HR := Lib.hid hr
  have HL := Lib.hid hl
  have HUw := Lib.hid fun (x : Int) => l5Use_any A c zs a x w h3 ha hr
  have hpos : 0 < l.length := List.length_pos_iff.2 h0
  have hposI : (0 : Int) < (l.length : Int) := by omega
  obtain ⟨x0, hx0⟩ : ∃ x, l[0]? = some x := ⟨_, List.getElem?_eq_getElem hpos⟩
  have H0 : Hid (Q.farL (Q.useN zs a) (l.take 1) = x0) := Lib.hid (by
    cases l with
    | nil => exact absurd rfl h0
    | cons x xs => simp at hx0; subst hx0; rfl)
  obtain ⟨b, off, rfl, hbl, hcell⟩ := hl.at_ (ivs_some hx0)
  rw [Nat.add_zero] at hcell
  clear hr hl h0 hx0
  go_enter Try.func94, Try.ntmps94
  go_wp2_with fail
  go_loop [7, 8] (fun v i => ∃ k : Nat, k ≤ l.length ∧ 1 ≤ k ∧ i = .int .i64 k ∧ v = .int .i64 (Q.farL (Q.useN zs a) (l.take k))) (fun _ i => l.length - (intOf i).toNat)
  case atStart => exact ⟨1, by omega, Nat.le_refl _, rfl, by rw [H0.out]⟩
  case round =>
    obtain ⟨k, hk, hk1, rfl, rfl⟩ := hrel
    by_cases hlt : k < l.length
    · have hltI : (k : Int) < (l.length : Int) := by omega
      obtain ⟨y, hy⟩ : ∃ y, l[k]? = some y := ⟨_, List.getElem?_eq_getElem hlt⟩
      obtain ⟨b2, off2, hbb, hbl2, hcell2⟩ := HL.out.at_ (ivs_some hy)
      injection hbb with hbb
      injection hbb with hb1 hb2 _
      subst hb1 hb2
      have HS : Hid (Q.farL (Q.useN zs a) (l.take (k + 1)) = if Q.useN zs a (Q.farL (Q.useN zs a) (l.take k)) < Q.useN zs a y then y else Q.farL (Q.useN zs a) (l.take k)) := Lib.hid (by
        rw [Q.take_snoc hy]
        exact Q.far_snoc _ (fun e => by
          have h1 : (l.take k).length = k := by rw [List.length_take]; omega
          rw [e] at h1
          simp at h1
          omega) y)
      have hule := Q.useN_le y ha
      have hule2 := Q.useN_le (Q.farL (Q.useN zs a) (l.take k)) ha
      have HUy := Lib.hid (HUw.out y)
      have HUf := Lib.hid (HUw.out (Q.farL (Q.useN zs a) (l.take k)))
      generalize Q.farL (Q.useN zs a) (l.take k) = F at HS HUf hule2 ⊢
      generalize Q.useN zs a F = uf at HS HUf hule2
      generalize Q.useN zs a y = uy at HS HUy hule
      clear hy HUw H0 hcell
      by_cases hlu : uf < uy
      · have HE : Hid (Q.farL (Q.useN zs a) (l.take (k + 1)) = y) := Lib.hid (by rw [HS.out, if_pos hlu])
        have hluI : (uf : Int) < (uy : Int) := by omega
        clear HS
        go_wp2_with fail
        go_at_call 100
        refine (HUy.out).mono ?_
        rintro e w' ⟨rfl, hw'⟩
        obtain rfl := hw'.symm
        clear hw'
        go_wp2_with fail
        go_at_call 100
        refine (HUf.out).mono ?_
        rintro e w' ⟨rfl, hw'⟩
        obtain rfl := hw'.symm
        clear hw'
        go_wp2
        go_round
        case rel => exact ⟨k + 1, by omega, by omega, by go_num, by rw [HE.out]⟩
        case measure => simp [intOf]; omega
      · have HE : Hid (Q.farL (Q.useN zs a) (l.take (k + 1)) = F) := Lib.hid (by rw [HS.out, if_neg hlu])
        have hluI : ¬ (uf : Int) < (uy : Int) := by omega
        clear HS
        go_wp2_with fail
        go_at_call 100
        refine (HUy.out).mono ?_
        rintro e w' ⟨rfl, hw'⟩
        obtain rfl := hw'.symm
        clear hw'
        go_wp2_with fail
        go_at_call 100
        refine (HUf.out).mono ?_
        rintro e w' ⟨rfl, hw'⟩
        obtain rfl := hw'.symm
        clear hw'
        go_wp2
        go_round
        case rel => exact ⟨k + 1, by omega, by omega, by go_num, by rw [HE.out]⟩
        case measure => simp [intOf]; omega
    · have hke : k = l.length := by omega
      have hltI : ¬ (k : Int) < (l.length : Int) := by omega
      have HE : Hid (l.take k = l) := Lib.hid (by rw [hke, List.take_length])
      clear hke HUw H0 hcell
      go_wp2
      go_ret
      exact ⟨by rw [HE.out]; rfl, Below.refl _ _⟩
end Go.Proofs.Ytklpdfilhgjllaa
