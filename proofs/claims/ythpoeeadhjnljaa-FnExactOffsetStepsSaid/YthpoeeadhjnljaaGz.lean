/-
  The model's offsets: l8Offset, l1Same, l8Place. The model's table of offsets: three rows of rows of one's own beside each other. The model's table of offsets (l8All): its boxes, what it says, a round's mathematics.
-/
import Derived.Test.YthpoeeadhjnljaaGa
import Derived.Test.YthpoeeadhjnljaaWx8
import Derived.Test.YthpoeeadhjnljaaGy
import Derived.Test.YthpoeeadhjnljaaAp3
/- The model's offsets: l8Offset, l1Same, l8Place. -/
namespace Go.Proofs.Ythpoeeadhjnljaa
open Go.RowKit
set_option linter.unusedVariables false
theorem offL_take {v : List Int} {k : Nat} {z : Int} (h : v[k]? = some z) : (Q.offL v).take (k + 1) = (Q.offL v).take k ++ [z - Q.leastK v v.length] := by
  rw [List.take_add_one, Q.offL, List.getElem?_map, h]
  rfl
set_option maxHeartbeats 800000 in
theorem l8Offset_any (v : List Int) (V : Option Addr) (f : Nat) (w : World) (h1 : 1 ≤ v.length) (h4 : v.length ≤ 4) (hv : Q.Vals v.length 1000000 v) (hV : Law.Row w V (ivs v)) :
    Calls Try.prog 107 #[.slice V v.length f] w fun e w' => ∃ v', e = .returned (.tuple #[v', .int .i64 (Q.leastK v v.length)]) ∧ w'.ownsRow w.heap.size 3 1 v' (Q.offL v).length (ivs (Q.offL v)) ∧ Below w.heap.size w w' := by
  obtain ⟨i0, hi, hz0, hz1, hz2⟩ := info_parts infoInts
  have HLe := Lib.hid (l8Least_any V f v w h1 (by omega) hV)
  have HV := Lib.hid fun (W : World) (h : Below w.heap.size w W) => hV.stays h
  have HVs := Lib.hid hv
  obtain ⟨l, hl⟩ : ∃ l, l = Q.leastK v v.length := ⟨_, rfl⟩
  have hl0 : 0 ≤ l ∧ l ≤ 1000000 := by
    obtain ⟨t, ht, et⟩ := List.mem_iff_getElem.1 (Q.leastK_mem (l := v) h1 v.length (Nat.le_refl _))
    obtain ⟨z, hz, z0, z1⟩ := hv t ht
    rw [List.getElem?_eq_getElem ht, et, ← hl] at hz
    simp only [Option.some.injEq] at hz
    omega
  have HTK : Hid (∀ k z, v[k]? = some z → (Q.offL v).take (k + 1) = (Q.offL v).take k ++ [z - l]) := Lib.hid fun k z h => by rw [hl]; exact offL_take h
  have HLn : Hid ((Q.offL v).length = v.length) := Lib.hid (Q.offL_len v)
  rw [← hl] at HLe ⊢
  generalize Q.offL v = O at HTK HLn ⊢
  clear hv hV hl
  go_enter Try.func107, Try.ntmps107
  have HR0 : Hid ((w.alloc (.cells #[] 3)).ownsRow w.heap.size 3 1 (.slice (some ⟨w.heap.size, 0, none⟩) 0 0) 0 (ivs (O.take 0))) := by rw [List.take_zero]; exact ownsRow_nil w 3
  have HB2 : Hid (Below w.heap.size w (w.alloc (.cells #[] 3))) := (Below.refl _ _).alloc (Nat.le_refl _) _
  go_wp2_with (go_at_call 103; refine HLe.out.mono ?_; rintro e w' ⟨rfl, hw'⟩; obtain rfl := hw'.symm; clear hw')
  go_loopw [5, 6] (fun o i wr => ∃ k : Nat, k ≤ v.length ∧ i = .int .i64 (k : Int) ∧ Hid (wr.ownsRow w.heap.size 3 1 o k (ivs (O.take k))) ∧ Hid (Below w.heap.size w wr)) (fun _ i _ => v.length - (intOf i).toNat)
  case atStart => exact ⟨0, Nat.zero_le _, rfl, HR0, HB2⟩
  case round =>
    obtain ⟨k, hk, rfl, hro, hrb⟩ := hrel
    clear HR0 HB2
    by_cases hlt : k < v.length
    · have hltI : (k : Int) < (v.length : Int) := by omega
      obtain ⟨z, hz, z0, z1⟩ := HVs.out k hlt
      obtain ⟨bV, oV, eV, hbV, hcV⟩ := (HV.out wr hrb.out).at_ (ivs_some hz)
      subst eV
      have hw1 : IntKind.i64.wrap (z - l) = z - l := IntWalk.i64_in _ (by omega)
      have HT := Lib.hid (HTK.out k z hz)
      have how := hro.out
      have hbw := hrb.out
      clear hz hro hrb
      generalize O.take k = lr at how HT
      have hsz9 := (hbw).size
      go_wp2_with (at_builtin; refine wpList_append_own _ rfl _ _ 35 rfl (w.heap.size) 3 i0 (.int .i64 0) 1 8 Try.underlying35 hi hz0 hz1 hz2 rfl (by decide) _ _ _ rfl ((how).alloc _) ⟨(wr).heap.size, 0, none⟩ 1 1 [.int .i64 (z - l)] rfl rfl ?ca9a ?ca9b ?ca9c ?ca9d ?ca9e ?_)
      try (case ca9a => (intro j' u hj'; match j', hj' with | 0, hj' => (simp at hj'; subst hj'; simp [Addr.add])))
      case ca9b => first | (intro u hu; simp at hu; subst hu; rfl) | rfl
      case ca9c => unfold maxLen; omega
      case ca9d => omega
      case ca9e => first | omega | (simp; done) | (simp; omega)
      intro v9 w9 hm9 hg9 _
      have HB9 := Lib.hid (((hbw).alloc hsz9 (.cells #[.int .i64 (z - l)] 3)).grown hg9 (by simp; omega) (fun j e => Nat.le_trans (by omega) ((how).lt j e).1))
      rw [← ivs_snoc, ← HT.out] at hm9
      have HO := Lib.hid hm9
      clear hm9 hg9 how hbw
      go_wp2
      go_roundw
      case rel => exact ⟨k + 1, by omega, by go_num, HO, HB9⟩
      case measure => simp [intOf]; omega
    · have hke : k = v.length := by omega
      have hltI : ¬ (k : Int) < (v.length : Int) := by omega
      have h9 := hro.out
      rw [hke, ← HLn.out, List.take_length] at h9
      have H9 := Lib.hid h9
      clear hke h9 hro
      go_wp2
      go_ret2
      exact ⟨_, rfl, H9.out, hrb.out⟩
set_option maxHeartbeats 800000 in
theorem l1Same_any (a b : List Int) (V : Option Addr) (f : Nat) (U : Option Addr) (g : Nat) (w : World) (hn : a.length ≤ 1048576) (hV : Law.Row w V (ivs a)) (hU : Law.Row w U (ivs b)) :
    Calls Try.prog 130 #[.slice V a.length f, .slice U b.length g] w fun e w' => e = .returned (.bool (decide (a = b))) ∧ ∃ m, w' = w.drewN m := by
  have HV := Lib.hid hV
  have HU := Lib.hid hU
  clear hV hU
  by_cases hl : a.length = b.length
  · have hne : ((a.length : Int) != (a.length : Int)) = false := by simp
    have HL : Hid (b.length = a.length) := Lib.hid hl.symm
    have HX : Hid (a.take a.length = b.take a.length → decide (a = b) = true) := Lib.hid fun h => by
      rw [List.take_length, hl, List.take_length] at h
      simp [h]
    have HXn : Hid (∀ (k : Nat) (x y : Int), a[k]? = some x → b[k]? = some y → x ≠ y → decide (a = b) = false) := Lib.hid fun k x y h1 h2 hne => by
      have : a ≠ b := fun e => by
        rw [e, h2] at h1
        simp only [Option.some.injEq] at h1
        exact hne h1.symm
      simp [this]
    rw [← hl]
    clear hl
    generalize decide (a = b) = D at HX HXn ⊢
    go_enter Try.func130, Try.ntmps130
    go_wp2
    clear hne
    go_loopw [5] (fun i wr => ∃ k : Nat, k ≤ a.length ∧ i = .int .i64 (k : Int) ∧ Hid (a.take k = b.take k) ∧ Hid (∃ m, wr = w.drewN m)) (fun i _ => a.length - (intOf i).toNat)
    case atStart => exact ⟨0, Nat.zero_le _, rfl, Lib.hid (by simp), Lib.hid ⟨0, rfl⟩⟩
    case round =>
      obtain ⟨k, hk, rfl, ht, hw⟩ := hrel
      have HW : Hid (∀ m, ∃ q, wr.drewN m = w.drewN q) := Lib.hid fun m => by
        obtain ⟨q, e⟩ := hw.out
        exact ⟨q + m, by rw [e]; simp⟩
      have HBl : Below w.heap.size w wr := by
        obtain ⟨q, e⟩ := hw.out
        rw [e]
        exact Law.up (Below.refl _ _) q
      have HBL := Lib.hid HBl
      clear HBl hw
      by_cases hlt : k < a.length
      · have hltI : (k : Int) < (a.length : Int) := by omega
        obtain ⟨x, hx⟩ : ∃ x, a[k]? = some x := ⟨_, List.getElem?_eq_getElem hlt⟩
        obtain ⟨y, hy⟩ : ∃ y, b[k]? = some y := ⟨_, List.getElem?_eq_getElem (by rw [HL.out]; exact hlt)⟩
        obtain ⟨bV, oV, eV, hbV, hcV⟩ := (HV.out.stays HBL.out).at_ (ivs_some hx)
        obtain ⟨bU, oU, eU, hbU, hcU⟩ := (HU.out.stays HBL.out).at_ (ivs_some hy)
        subst eV eU
        have HT : Hid (x = y → a.take (k + 1) = b.take (k + 1)) := Lib.hid fun e => by
          rw [List.take_add_one, List.take_add_one, hx, hy, e, ht.out]
        have HN := Lib.hid (HXn.out k x y hx hy)
        clear hx hy HXn
        by_cases hxy : x = y
        · have hd : (x != y) = false := by simp [hxy]
          have HT2 := Lib.hid (HT.out hxy)
          clear HT HN hxy
          go_wp2
          go_quiet (fail)
          go_wp2
          go_roundw
          case rel => exact ⟨k + 1, by omega, by go_num, HT2, Lib.hid (HW.out _)⟩
          case measure => simp [intOf]; omega
        · have hd : (x != y) = true := by simp [hxy]
          have HN2 := Lib.hid (HN.out hxy)
          clear HT HN hxy
          go_wp2
          go_quiet (fail)
          go_wp2
          go_ret
          exact ⟨by rw [HN2.out]; rfl, HW.out _⟩
      · have hke : k = a.length := by omega
        have hltI : ¬ (k : Int) < (a.length : Int) := by omega
        have HD := Lib.hid (HX.out (by rw [← hke]; exact ht.out))
        clear hke
        go_wp2
        go_ret
        exact ⟨by rw [HD.out]; rfl, HW.out 0⟩
  · have hne : ((a.length : Int) != (b.length : Int)) = true := by rw [bne_iff_ne]; omega
    have hd : decide (a = b) = false := by
      have : a ≠ b := fun e => hl (by rw [e])
      simp [this]
    rw [hd]
    clear hl hd
    go_enter Try.func130, Try.ntmps130
    go_wp2
    go_ret
    exact ⟨rfl, 0, rfl⟩
/-- The place of a list among others, or -1. -/
def plc (ns : List (List Int)) (v : List Int) : Int := if v ∈ ns then (Q.place ns v : Int) else -1
set_option maxHeartbeats 800000 in
theorem l8Place_any (ns : List (List Int)) (v : List Int) (A : Option Addr) (c : Nat) (xs : List Value) (V : Option Addr) (f : Nat) (w : World) (hn : ns.length ≤ 1000) (hL : NRow w A xs ns) (hl : ∀ l ∈ ns, l.length ≤ 1048576) (hV : Law.Row w V (ivs v)) :
    Calls Try.prog 108 #[.slice A ns.length c, .slice V v.length f] w fun e w' => e = .returned (.int .i64 (plc ns v)) ∧ ∃ m, w' = w.drewN m := by
  have HL := Lib.hid fun (W : World) (h : Below w.heap.size w W) => hL.stays h
  have HV := Lib.hid fun (W : World) (h : Below w.heap.size w W) => hV.stays h
  have HLn := Lib.hid hl
  clear hL hV hl
  go_enter Try.func108, Try.ntmps108
  go_wp2
  go_loopw [5] (fun i wr => ∃ k : Nat, k ≤ ns.length ∧ i = .int .i64 (k : Int) ∧ Hid (∀ j l, j < k → ns[j]? = some l → l ≠ v) ∧ Hid (∃ m, wr = w.drewN m)) (fun i _ => ns.length - (intOf i).toNat)
  case atStart => exact ⟨0, Nat.zero_le _, rfl, Lib.hid (fun j l h => by omega), Lib.hid ⟨0, rfl⟩⟩
  case round =>
    obtain ⟨k, hk, rfl, ht, hw⟩ := hrel
    have HW : Hid (∀ m, ∃ q, wr.drewN m = w.drewN q) := Lib.hid fun m => by
      obtain ⟨q, e⟩ := hw.out
      exact ⟨q + m, by rw [e]; simp⟩
    have HBl : Below w.heap.size w wr := by
      obtain ⟨q, e⟩ := hw.out
      rw [e]
      exact Law.up (Below.refl _ _) q
    have HBL := Lib.hid HBl
    clear HBl hw
    by_cases hlt : k < ns.length
    · have hltI : (k : Int) < (ns.length : Int) := by omega
      obtain ⟨l, hlk⟩ : ∃ l, ns[k]? = some l := ⟨_, List.getElem?_eq_getElem hlt⟩
      obtain ⟨bA, oA, X0, dX0, rfl, hbA, hcA, hrX⟩ := (HL.out wr HBL.out).row_at hlk
      have HS := Lib.hid (l1Same_any l v X0 dX0 V f wr (HLn.out l (List.mem_of_getElem? hlk)) hrX (HV.out wr HBL.out))
      have HLK := Lib.hid hlk
      clear hlk hrX
      by_cases he : l = v
      · have HP : Hid (plc ns v = (k : Int)) := Lib.hid (by
          have hm : v ∈ ns := he ▸ List.mem_of_getElem? HLK.out
          have hp := Q.place_yes hm
          have hlp : Q.place ns v < ns.length := (List.getElem?_eq_some_iff.1 hp).1
          have h1 : ¬ Q.place ns v < k := fun h => ht.out _ _ h hp rfl
          have h2 : Q.place ns v ≤ k := Q.place_first (by rw [HLK.out, he])
          rw [plc, if_pos hm]
          omega)
        rw [decide_eq_true he] at HS
        clear he
        go_wp2_with (go_at_call 130; refine HS.out.mono ?_; rintro e w' ⟨rfl, m, rfl⟩)
        go_ret
        exact ⟨by rw [HP.out]; rfl, HW.out _⟩
      · have HT : Hid (∀ j l, j < k + 1 → ns[j]? = some l → l ≠ v) := Lib.hid fun j l' hj h => by
          by_cases e : j = k
          · subst e
            rw [HLK.out] at h
            simp only [Option.some.injEq] at h
            rw [← h]
            exact he
          · exact ht.out j l' (by omega) h
        rw [decide_eq_false he] at HS
        clear he
        go_wp2_with (go_at_call 130; refine HS.out.mono ?_; rintro e w' ⟨rfl, m, rfl⟩)
        go_roundw
        case rel => exact ⟨k + 1, by omega, by go_num, HT, Lib.hid (HW.out _)⟩
        case measure => simp [intOf]; omega
    · have hke : k = ns.length := by omega
      have hltI : ¬ (k : Int) < (ns.length : Int) := by omega
      have HP : Hid (plc ns v = -1) := Lib.hid (if_neg fun hm => by
        obtain ⟨j, hj, e⟩ := List.mem_iff_getElem.1 hm
        exact ht.out j v (by omega) (by rw [List.getElem?_eq_getElem hj, e]) rfl)
      clear hke
      go_wp2
      go_ret
      exact ⟨by rw [HP.out]; rfl, HW.out 0⟩
end Go.Proofs.Ythpoeeadhjnljaa

/- The model's table of offsets: three rows of rows of one's own beside each other. -/
namespace Go.Proofs.Ythpoeeadhjnljaa
open Go.RowKit
set_option linter.unusedVariables false
theorem Apart.symm {a b : Value} (h : Apart a b) : Apart b a := fun k hb ha => h k ha hb
/-- A row that lies apart from each of some rows. -/
def Off (q : Value) (xs : List Value) : Prop := ∀ x ∈ xs, Apart x q
theorem Off.nil (q : Value) : Off q [] := fun x h => by cases h
theorem Off.snoc {q x : Value} {xs : List Value} (h : Off q xs) (hx : Apart x q) : Off q (xs ++ [x]) := fun y hy => by
  rcases List.mem_append.1 hy with e | e
  · exact h y e
  · obtain rfl := List.mem_singleton.1 e
    exact hx
theorem NOwn.row {w : World} {base : Nat} {xs : List Value} {L : List (List Int)} (h : NOwn w base xs L) {x : Value} (hx : x ∈ xs) : ∃ l : List Int, w.ownsRow base 3 1 x l.length (ivs l) := by
  obtain ⟨j, hj, rfl⟩ := List.mem_iff_getElem.1 hx
  obtain ⟨l, hl⟩ := h.some_ (List.getElem?_eq_getElem hj)
  exact ⟨l, h.own j _ l (List.getElem?_eq_getElem hj) hl⟩
theorem Off.next {w : World} {base : Nat} {xs : List Value} {L : List (List Int)} {q q' : Value} (h : Off q xs) (hn : NOwn w base xs L) (ha : atOrNew q w q') : Off q' xs := fun x hx => by
  obtain ⟨l, hl⟩ := hn.row hx
  exact (h x hx).next ha hl
theorem Off.fresh {w w' : World} {base n : Nat} {xs ys : List Value} {L : List (List Int)} {q : Value} {e : TypeId} (hn : NOwn w base xs L) (hq : w'.ownsRow w.heap.size e 1 q n ys) : Off q xs := fun x hx => by
  obtain ⟨l, hl⟩ := hn.row hx
  exact (Apart.new hq hl).symm
theorem NOwn.off {w w' : World} {base : Nat} {xs : List Value} {L : List (List Int)} {q : Value} (hn : NOwn w base xs L) (h : Off q xs) (hg : w.grownBy w' q.ownBlock) : NOwn w' base xs L :=
  ⟨hn.len, fun j x l h1 h2 => (h x (List.mem_of_getElem? h1)).kept (hn.own j x l h1 h2) hg, hn.apart⟩
theorem NOwn.setHb {w : World} {base T : Nat} {xs : List Value} {L : List (List Int)} {cs : Array Value} {t : TypeId} (hn : NOwn w base xs L) (hb : Hb w T cs t) (ht : 3 ≠ t) (i : Nat) (u : Value) : NOwn (w.setCell ⟨T, i, none⟩ u) base xs L :=
  hn.setBlk8 ⟨T, i, none⟩ (fun x hx => by
    obtain ⟨l, hl⟩ := hn.row hx
    exact hb.not_row ht hl) u
theorem own_setHb {w : World} {base T n : Nat} {xs : List Value} {v : Value} {cs : Array Value} {e t : TypeId} (ho : w.ownsRow base e 1 v n xs) (hb : Hb w T cs t) (ht : e ≠ t) (i : Nat) (u : Value) : (w.setCell ⟨T, i, none⟩ u).ownsRow base e 1 v n xs :=
  ho.kept (setBy w ⟨T, i, none⟩ u) (.inr (hb.not_row ht ho))
theorem tb_ne1 : 3 ≠ 89 := by decide
theorem tb_ne2 : 35 ≠ 89 := by decide
/-- The table under way. -/
structure TB (w W : World) (T : Nat) (lv nv gv : Value) (ns nx ss : List (List Int)) (xl xn xg : List Value) : Prop where
  hb : Hb W T #[lv, nv, gv, .bool false] 89
  tl : w.heap.size ≤ T
  lo : W.ownsRow w.heap.size 35 1 lv ns.length xl
  no : W.ownsRow w.heap.size 35 1 nv nx.length xn
  go : W.ownsRow w.heap.size 35 1 gv ss.length xg
  ln : NOwn W w.heap.size xl ns
  nn : NOwn W w.heap.size xn nx
  gn : NOwn W w.heap.size xg ss
  a1 : Apart lv nv
  a2 : Apart lv gv
  a3 : Apart nv gv
  bl : Below w.heap.size w W
section
variable {w W W' W9 : World} {T : Nat} {lv nv gv : Value} {ns nx ss : List (List Int)} {xl xn xg : List Value}
theorem TB.on (h : TB w W T lv nv gv ns nx ss xl xn xg) (hb : Below W.heap.size W W') : TB w W' T lv nv gv ns nx ss xl xn xg :=
  ⟨h.hb.on hb, h.tl, own_past h.lo hb, own_past h.no hb, own_past h.go hb, h.ln.past hb, h.nn.past hb, h.gn.past hb, h.a1, h.a2, h.a3, Law.then_ h.bl hb⟩
theorem TB.alloc (h : TB w W T lv nv gv ns nx ss xl xn xg) (o : Obj) : TB w (W.alloc o) T lv nv gv ns nx ss xl xn xg := h.on ((Below.refl _ _).alloc (Nat.le_refl _) o)
/-- Another row is written. -/
theorem TB.off (h : TB w W T lv nv gv ns nx ss xl xn xg) {b n : Nat} {q : Value} {ys : List Value} (hq : W.ownsRow b 3 1 q n ys) (hwb : w.heap.size ≤ b) (h1 : Off q xl) (h2 : Off q xn) (h3 : Off q xg) (hg : W.grownBy W' q.ownBlock) : TB w W' T lv nv gv ns nx ss xl xn xg :=
  ⟨h.hb.grown hg (h.hb.not_row tb_ne1 hq), h.tl, h.lo.kept hg (own_types ints_ne.symm h.lo hq), h.no.kept hg (own_types ints_ne.symm h.no hq), h.go.kept hg (own_types ints_ne.symm h.go hq), h.ln.off h1 hg, h.nn.off h2 hg, h.gn.off h3 hg, h.a1, h.a2, h.a3,
    h.bl.grown hg h.bl.size (fun j e => Nat.le_trans hwb (hq.lt j e).1)⟩
theorem lies_at {v : Value} {g n c H : Nat} {W : World} (h : v.ownBlock = some g ∨ g = W.heap.size) : atOrNew v W (.slice (some ⟨g, 0, none⟩) n c) := by
  rcases h with h | h
  · exact .inl h.symm
  · subst h; exact .inr rfl
theorem TB.appL (h : TB w W T lv nv gv ns nx ss xl xn xg) {W0 : World} {x : Value} {v : List Int} {l9 : Value} (h0 : NOwn W0 w.heap.size xl ns) (h0b : w.heap.size ≤ W0.heap.size) (hx : W.ownsRow W0.heap.size 3 1 x v.length (ivs v))
    (hm : W9.ownsRow w.heap.size 35 1 l9 (ns.length + 1) (xl ++ [x])) (hg : (W.alloc (.cells #[x] 35)).grownBy W9 lv.ownBlock) (ha : atOrNew lv (W.alloc (.cells #[x] 35)) l9) :
    TB w (W9.setCell ⟨T, 0, none⟩ l9) T l9 nv gv (ns ++ [v]) nx ss (xl ++ [x]) xn xg := by
  have h1 := h.alloc (.cells #[x] 35)
  have hb := h1.hb.grown hg (h1.hb.not_row tb_ne2 h1.lo)
  have hx9 : W9.ownsRow W0.heap.size 3 1 x v.length (ivs v) := (hx.alloc _).kept hg (own_types ints_ne (hx.alloc _) h1.lo)
  have hno : W9.ownsRow w.heap.size 35 1 nv nx.length xn := h1.a1.symm.kept h1.no hg
  have hgo : W9.ownsRow w.heap.size 35 1 gv ss.length xg := h1.a2.symm.kept h1.go hg
  refine ⟨hb.set 0 l9, h.tl, by rw [List.length_append, List.length_singleton]; exact own_setHb hm hb tb_ne2 _ _, own_setHb hno hb tb_ne2 _ _, own_setHb hgo hb tb_ne2 _ _, (NOwn.snoc h0 (h1.ln.outer ints_ne h1.lo hg) hx9 h0b).setHb hb tb_ne1 _ _, (h1.nn.outer ints_ne h1.lo hg).setHb hb tb_ne1 _ _, (h1.gn.outer ints_ne h1.lo hg).setHb hb tb_ne1 _ _, (h1.a1.symm.next ha h1.no).symm, (h1.a2.symm.next ha h1.go).symm, h.a3, ?_⟩
  exact (h1.bl.grown hg h1.bl.size (fun j e => (h1.lo.lt j e).1)).setCell (p := ⟨T, 0, none⟩) h.tl l9
theorem TB.appN (h : TB w W T lv nv gv ns nx ss xl xn xg) {W0 : World} {x : Value} {v : List Int} {l9 : Value} (h0 : NOwn W0 w.heap.size xn nx) (h0b : w.heap.size ≤ W0.heap.size) (hx : W.ownsRow W0.heap.size 3 1 x v.length (ivs v))
    (hm : W9.ownsRow w.heap.size 35 1 l9 (nx.length + 1) (xn ++ [x])) (hg : (W.alloc (.cells #[x] 35)).grownBy W9 nv.ownBlock) (ha : atOrNew nv (W.alloc (.cells #[x] 35)) l9) :
    TB w (W9.setCell ⟨T, 1, none⟩ l9) T lv l9 gv ns (nx ++ [v]) ss xl (xn ++ [x]) xg := by
  have h1 := h.alloc (.cells #[x] 35)
  have hb := h1.hb.grown hg (h1.hb.not_row tb_ne2 h1.no)
  have hx9 : W9.ownsRow W0.heap.size 3 1 x v.length (ivs v) := (hx.alloc _).kept hg (own_types ints_ne (hx.alloc _) h1.no)
  have hlo : W9.ownsRow w.heap.size 35 1 lv ns.length xl := h1.a1.kept h1.lo hg
  have hgo : W9.ownsRow w.heap.size 35 1 gv ss.length xg := h1.a3.symm.kept h1.go hg
  refine ⟨hb.set 1 l9, h.tl, own_setHb hlo hb tb_ne2 _ _, by rw [List.length_append, List.length_singleton]; exact own_setHb hm hb tb_ne2 _ _, own_setHb hgo hb tb_ne2 _ _, (h1.ln.outer ints_ne h1.no hg).setHb hb tb_ne1 _ _, (NOwn.snoc h0 (h1.nn.outer ints_ne h1.no hg) hx9 h0b).setHb hb tb_ne1 _ _, (h1.gn.outer ints_ne h1.no hg).setHb hb tb_ne1 _ _, h1.a1.next ha h1.lo, h.a2, (h1.a3.symm.next ha h1.go).symm, ?_⟩
  exact (h1.bl.grown hg h1.bl.size (fun j e => (h1.no.lt j e).1)).setCell (p := ⟨T, 1, none⟩) h.tl l9
theorem TB.appG (h : TB w W T lv nv gv ns nx ss xl xn xg) {W0 : World} {x : Value} {v : List Int} {l9 : Value} (h0 : NOwn W0 w.heap.size xg ss) (h0b : w.heap.size ≤ W0.heap.size) (hx : W.ownsRow W0.heap.size 3 1 x v.length (ivs v))
    (hm : W9.ownsRow w.heap.size 35 1 l9 (ss.length + 1) (xg ++ [x])) (hg : (W.alloc (.cells #[x] 35)).grownBy W9 gv.ownBlock) (ha : atOrNew gv (W.alloc (.cells #[x] 35)) l9) :
    TB w (W9.setCell ⟨T, 2, none⟩ l9) T lv nv l9 ns nx (ss ++ [v]) xl xn (xg ++ [x]) := by
  have h1 := h.alloc (.cells #[x] 35)
  have hb := h1.hb.grown hg (h1.hb.not_row tb_ne2 h1.go)
  have hx9 : W9.ownsRow W0.heap.size 3 1 x v.length (ivs v) := (hx.alloc _).kept hg (own_types ints_ne (hx.alloc _) h1.go)
  have hlo : W9.ownsRow w.heap.size 35 1 lv ns.length xl := h1.a2.kept h1.lo hg
  have hno : W9.ownsRow w.heap.size 35 1 nv nx.length xn := h1.a3.kept h1.no hg
  refine ⟨hb.set 2 l9, h.tl, own_setHb hlo hb tb_ne2 _ _, own_setHb hno hb tb_ne2 _ _, by rw [List.length_append, List.length_singleton]; exact own_setHb hm hb tb_ne2 _ _, (h1.ln.outer ints_ne h1.go hg).setHb hb tb_ne1 _ _, (h1.nn.outer ints_ne h1.go hg).setHb hb tb_ne1 _ _, (NOwn.snoc h0 (h1.gn.outer ints_ne h1.go hg) hx9 h0b).setHb hb tb_ne1 _ _, h.a1, h1.a2.next ha h1.lo, h1.a3.next ha h1.no, ?_⟩
  exact (h1.bl.grown hg h1.bl.size (fun j e => (h1.go.lt j e).1)).setCell (p := ⟨T, 2, none⟩) h.tl l9
/-- The two rows of a round under way, apart from all. -/
structure RB (H : Nat) (W : World) (xl xn xg : List Value) (q1 q2 : Value) (l1 l2 : List Int) : Prop where
  o1 : W.ownsRow H 3 1 q1 l1.length (ivs l1)
  o2 : W.ownsRow H 3 1 q2 l2.length (ivs l2)
  ap : Apart q1 q2
  f1 : Off q1 xl ∧ Off q1 xn ∧ Off q1 xg
  f2 : Off q2 xl ∧ Off q2 xn ∧ Off q2 xg
variable {H : Nat} {q1 q2 : Value} {l1 l2 : List Int}
theorem RB.swap (h : RB H W xl xn xg q1 q2 l1 l2) : RB H W xl xn xg q2 q1 l2 l1 := ⟨h.o2, h.o1, h.ap.symm, h.f2, h.f1⟩
theorem RB.on (h : RB H W xl xn xg q1 q2 l1 l2) (hb : Below W.heap.size W W') : RB H W' xl xn xg q1 q2 l1 l2 := ⟨own_past h.o1 hb, own_past h.o2 hb, h.ap, h.f1, h.f2⟩
theorem RB.alloc (h : RB H W xl xn xg q1 q2 l1 l2) (o : Obj) : RB H (W.alloc o) xl xn xg q1 q2 l1 l2 := h.on ((Below.refl _ _).alloc (Nat.le_refl _) o)
theorem RB.start (h : TB w W T lv nv gv ns nx ss xl xn xg) : RB W.heap.size ((W.alloc (.cells #[] 3)).alloc (.cells #[] 3)) xl xn xg (.slice (some ⟨W.heap.size, 0, none⟩) 0 0) (.slice (some ⟨W.heap.size + 1, 0, none⟩) 0 0) [] [] := by
  have e1 := (ownsRow_nil W 3).alloc (.cells #[] 3)
  have e2 := own_down (ownsRow_nil (W.alloc (.cells #[] 3)) 3) (show W.heap.size ≤ _ by simp)
  have e3 : ((W.alloc (.cells #[] 3)).alloc (.cells #[] 3)).ownsRow W.heap.size 3 1 (.slice (some ⟨W.heap.size + 1, 0, none⟩) 0 0) 0 [] := by simpa using e2
  refine ⟨e1, e3, fun b hb hv => by simp [Value.ownBlock] at hb hv; omega, ⟨Off.fresh h.ln e1, Off.fresh h.nn e1, Off.fresh h.gn e1⟩, ⟨Off.fresh h.ln e3, Off.fresh h.nn e3, Off.fresh h.gn e3⟩⟩
/-- A number comes to the first row. -/
theorem RB.app (ht : TB w W T lv nv gv ns nx ss xl xn xg) (h : RB H W xl xn xg q1 q2 l1 l2) (hH : w.heap.size ≤ H) {z : Int} {q9 : Value} (hm : W9.ownsRow H 3 1 q9 (l1.length + 1) (ivs l1 ++ [.int .i64 z])) (hg : (W.alloc (.cells #[.int .i64 z] 3)).grownBy W9 q1.ownBlock) (ha : atOrNew q1 (W.alloc (.cells #[.int .i64 z] 3)) q9) :
    TB w W9 T lv nv gv ns nx ss xl xn xg ∧ RB H W9 xl xn xg q9 q2 (l1 ++ [z]) l2 := by
  have t1 := ht.alloc (.cells #[.int .i64 z] 3)
  have h1 := h.alloc (.cells #[.int .i64 z] 3)
  refine ⟨t1.off h1.o1 hH h.f1.1 h.f1.2.1 h.f1.2.2 hg, ⟨?_, h1.ap.symm.kept h1.o2 hg, (h1.ap.symm.next ha h1.o2).symm, ⟨h.f1.1.next t1.ln ha, h.f1.2.1.next t1.nn ha, h.f1.2.2.next t1.gn ha⟩, h.f2⟩⟩
  rw [ivs_snoc, List.length_append, List.length_singleton]
  exact hm
/-- A row of rows is written, then a cell of the table. -/
theorem RB.keeps (h : RB H W xl xn xg q1 q2 l1 l2) (o : Obj) {cs : Array Value} {b n : Nat} {v : Value} {ys : List Value} (hv : (W.alloc o).ownsRow b 35 1 v n ys) (hg : (W.alloc o).grownBy W9 v.ownBlock) (hb : Hb W9 T cs 89) (i : Nat) (u : Value) :
    RB H (W9.setCell ⟨T, i, none⟩ u) xl xn xg q1 q2 l1 l2 := by
  have h1 := h.alloc o
  exact ⟨own_setHb (h1.o1.kept hg (own_types ints_ne h1.o1 hv)) hb tb_ne1 _ _, own_setHb (h1.o2.kept hg (own_types ints_ne h1.o2 hv)) hb tb_ne1 _ _, h.ap, h.f1, h.f2⟩
theorem RB.more (h : RB H W xl xn xg q1 q2 l1 l2) {W0 : World} {x : Value} {v : List Int} {b1 b2 n1 n2 : Nat} {y1 y2 : List Value} (hx : W.ownsRow W0.heap.size 3 1 x v.length (ivs v)) (h1 : W0.ownsRow b1 3 1 q1 n1 y1) (h2 : W0.ownsRow b2 3 1 q2 n2 y2) : RB H W (xl ++ [x]) xn xg q1 q2 l1 l2 :=
  ⟨h.o1, h.o2, h.ap, ⟨h.f1.1.snoc (Apart.new hx h1), h.f1.2⟩, ⟨h.f2.1.snoc (Apart.new hx h2), h.f2.2⟩⟩
end
end Go.Proofs.Ythpoeeadhjnljaa

/- The model's table of offsets (l8All): its boxes, what it says, a round's mathematics. -/
namespace Go.Proofs.Ythpoeeadhjnljaa
open Go.RowKit
set_option linter.unusedVariables false
/-- The boxes beside the table: the problem, the result. -/
structure KB (w W : World) (x y : Value) (T : Nat) : Prop where
  hp : Hb W w.heap.size #[x, y] 29
  hr : Hb W (w.heap.size + 1) #[.slice none 0 0, .slice none 0 0, .slice none 0 0, .bool false] 89
  tr : w.heap.size + 2 ≤ T
theorem KB.on {w W W' : World} {x y : Value} {T : Nat} (h : KB w W x y T) (hb : Below W.heap.size W W') : KB w W' x y T := ⟨h.hp.on hb, h.hr.on hb, h.tr⟩
theorem KB.alloc {w W : World} {x y : Value} {T : Nat} (h : KB w W x y T) (o : Obj) : KB w (W.alloc o) x y T := h.on ((Below.refl _ _).alloc (Nat.le_refl _) o)
theorem KB.row {w W W9 : World} {x y : Value} {T : Nat} (h : KB w W x y T) (o : Obj) {b n : Nat} {v : Value} {ys : List Value} (hv : (W.alloc o).ownsRow b 3 1 v n ys) (hg : (W.alloc o).grownBy W9 v.ownBlock) : KB w W9 x y T :=
  ⟨(h.alloc o).hp.grown hg ((h.alloc o).hp.not_row (by decide) hv), (h.alloc o).hr.grown hg ((h.alloc o).hr.not_row (by decide) hv), h.tr⟩
theorem KB.rows {w W W9 : World} {x y : Value} {T : Nat} (h : KB w W x y T) (o : Obj) {b n : Nat} {v : Value} {ys : List Value} (hv : (W.alloc o).ownsRow b 35 1 v n ys) (hg : (W.alloc o).grownBy W9 v.ownBlock) (i : Nat) (u : Value) : KB w (W9.setCell ⟨T, i, none⟩ u) x y T := by
  have h1 := (h.alloc o).hp.grown hg ((h.alloc o).hp.not_row (by decide) hv)
  have h2 := (h.alloc o).hr.grown hg ((h.alloc o).hr.not_row (by decide) hv)
  have := h.tr
  exact ⟨h1.other ⟨T, i, none⟩ (by show _ ≠ T; omega) u, h2.other ⟨T, i, none⟩ (by show _ ≠ T; omega) u, h.tr⟩
def nI (l : List Nat) : List Int := l.map fun (j : Nat) => Int.ofNat j
theorem nI_snoc (l : List Nat) (j : Nat) : nI (l ++ [j]) = nI l ++ [(j : Int)] := by simp [nI]
/-- What the table says. -/
def tSays (R : Option (List (List Int) × List (List Nat) × List (List Int))) (w : World) (e : Ending) (w' : World) : Prop := match R with
  | none => ∃ A1 n1 c1 A2 n2 c2 A3 n3 c3, e = .returned (.agg #[.slice A1 n1 c1, .slice A2 n2 c2, .slice A3 n3 c3, .bool true]) ∧ Below w.heap.size w w'
  | some (ns, nx, ss) => ∃ lv nv gv T xl xn xg, e = .returned (.agg #[lv, nv, gv, .bool false]) ∧ TB w w' T lv nv gv ns (nx.map nI) ss xl xn xg
namespace Q
theorem row_next {L S : List (List Int)} {x : List Int} {ns : List (List Int)} {q : Nat} (hq : q < S.length) : rowG ns ((stpO L S x).take (q + 1)) = (grow (rowG ns ((stpO L S x).take q)).1 (offL (nextQ L S x q)), (rowG ns ((stpO L S x).take q)).2.1 ++ [place (rowG ns ((stpO L S x).take q)).1 (offL (nextQ L S x q))], (rowG ns ((stpO L S x).take q)).2.2 ++ [leastK (nextQ L S x q) (nextQ L S x q).length]) := by
  rw [List.take_add_one, stpO_at hq]
  show rowG ns (_ ++ [_]) = _
  rw [rowG_snoc, addG_eq]
  rfl
theorem row_inv {L S : List (List Int)} (h : Pr L S) {x : List Int} (hx : OkO L.length x) {ns : List (List Int)} (hn : ns.Nodup) (ha : ∀ v ∈ ns, OkO L.length v) (q : Nat) : RowI (OkO L.length) ns ((stpO L S x).take q) (rowG ns ((stpO L S x).take q)) :=
  RowI.of hn ha _ fun e he => stpO_ok h x hx e (List.mem_of_mem_take he)
end Q
end Go.Proofs.Ythpoeeadhjnljaa
