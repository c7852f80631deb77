/-
  The model's table of offsets (l8All): the walk. The model's OffsetsOf and OffsetSteps; the code's OffsetSteps.
-/
import Derived.Test.YthpoeeadhjnljaaGz
import Derived.Laws.CopyOwn
/- The model's table of offsets (l8All): the walk. -/
namespace Go.Proofs.Ythpoeeadhjnljaa
open Go.RowKit
set_option linter.unusedVariables false
theorem own_lit1v (w : World) (x : Value) (t : TypeId) : (w.alloc (.cells #[x] t)).ownsRow w.heap.size t 1 (.slice (some ⟨w.heap.size, 0, none⟩) 1 1) 1 [x] :=
  ⟨rfl, .inr ⟨w.heap.size, 1, #[x], rfl, Nat.le_refl _, heap_alloc_new w _, Nat.le_refl _, by decide, rfl, rfl⟩⟩
theorem own_nonev (w : World) (b : Nat) (e : TypeId) : w.ownsRow b e 1 (.slice none 0 0) 0 [] := ⟨rfl, .inl ⟨rfl, rfl⟩⟩
theorem bel_drewNv (w : World) (m : Nat) : Below w.heap.size w (w.drewN m) := ⟨rfl, rfl, rfl, Nat.le_refl _, fun _ _ => rfl⟩
theorem TB.init {w w1 : World} {b : Nat} {V1 : Option Addr} {f1 : Nat} {o0 : List Int} (hb : Below w.heap.size w w1) (ho : w1.ownsRow b 3 1 (.slice V1 o0.length f1) o0.length (ivs o0)) (hb' : w.heap.size ≤ b) :
    TB w ((w1.alloc (.cells #[.slice V1 o0.length f1] 35)).alloc (.cells #[.slice (some ⟨w1.heap.size, 0, none⟩) 1 1, .slice none 0 0, .slice none 0 0, .bool false] 89)) (w1.heap.size + 1) (.slice (some ⟨w1.heap.size, 0, none⟩) 1 1) (.slice none 0 0) (.slice none 0 0) [o0] [] [] [.slice V1 o0.length f1] [] [] := by
  have e1 := own_down (own_lit1v w1 (.slice V1 o0.length f1) 35) hb.size
  have hx := (own_down ho hb').alloc (.cells #[.slice V1 o0.length f1] 35)
  refine ⟨?_, by have := hb.size; omega, e1.alloc _, own_nonev _ _ _, own_nonev _ _ _, NOwn.snoc (NOwn.nil w _) (NOwn.nil _ _) (hx.alloc _) (Nat.le_refl _), NOwn.nil _ _, NOwn.nil _ _, fun b hb hv => by simp [Value.ownBlock] at hv, fun b hb hv => by simp [Value.ownBlock] at hv, fun b hb hv => by simp [Value.ownBlock] at hv, (hb.alloc hb.size _).alloc (by simp; have := hb.size; omega) _⟩
  have h := Hb.new (w1.alloc (.cells #[.slice V1 o0.length f1] 35)) #[.slice (some ⟨w1.heap.size, 0, none⟩) 1 1, .slice none 0 0, .slice none 0 0, .bool false] 89
  simpa using h
/-- A return of the table that lies in a block of the call's own. -/
theorem ret_tbl {fn : Func} {R : Ending → World → Prop} {a : Act} {w : World} {pt : Tmp} {b : Nat} {v0 v1 v2 v3 : Value}
    (h : fn.results = #[.cell pt 89]) (hd : a.defers = []) (hp : a.tmps.getD pt undef = .pointer (some ⟨b, 0, none⟩)) (hB : Hb w b #[v0, v1, v2, v3] 89)
    (hR : R (.returned (.agg #[v0, v1, v2, v3])) w) : bodyPost Try.prog fn R .ret a w := by
  refine bodyPost_ret_by (v := .agg #[v0, v1, v2, v3]) ?_ hd hR
  have c0 := hB.cell (i := 0) (v := v0) rfl
  have c1 := hB.cell (i := 1) (v := v1) rfl
  have c2 := hB.cell (i := 2) (v := v2) rfl
  have c3 := hB.cell (i := 3) (v := v3) rfl
  have key : (results fn a.tmps).run Try.prog w = ((asAddr (a.tmps.getD pt undef)).run Try.prog w).andThen fun q w1 => (loadVar 89 q).run Try.prog w1 := by
    simp only [results, h]
    simp [Sem.run_bind, Result.andThen]
  rw [key, hp]
  clear hB hR hp key h
  go_simp
theorem tbl_size : (Try.prog.info? 89).map (·.size) = some 4 := by kernel_rfl
theorem setRow_gr (W : World) (g : Nat) (cs : Array Value) : W.grownBy (W.setRow g cs) (some g) := ⟨rfl, rfl, rfl, by simp, fun k hk hne => setRow_other W g k cs (fun e => hne (by rw [e]))⟩
theorem TB.res {w W : World} {T : Nat} {lv nv gv : Value} {ns nx ss : List (List Int)} {xl xn xg : List Value} (h : TB w W T lv nv gv ns nx ss xl xn xg) {cs : Array Value} (hk : Hb W (w.heap.size + 1) cs 89) (ht : w.heap.size + 2 ≤ T) (cells : Array Value) : TB w (W.setRow (w.heap.size + 1) cells) T lv nv gv ns nx ss xl xn xg := by
  have hg := setRow_gr W (w.heap.size + 1) cells
  refine ⟨h.hb.grown hg (by simp; omega), h.tl, h.lo.kept hg (.inr (hk.not_row tb_ne2 h.lo)), h.no.kept hg (.inr (hk.not_row tb_ne2 h.no)), h.go.kept hg (.inr (hk.not_row tb_ne2 h.go)), ⟨h.ln.len, fun j x l h1 h2 => (h.ln.own j x l h1 h2).kept hg (.inr (hk.not_row tb_ne1 (h.ln.own j x l h1 h2))), h.ln.apart⟩, ⟨h.nn.len, fun j x l h1 h2 => (h.nn.own j x l h1 h2).kept hg (.inr (hk.not_row tb_ne1 (h.nn.own j x l h1 h2))), h.nn.apart⟩, ⟨h.gn.len, fun j x l h1 h2 => (h.gn.own j x l h1 h2).kept hg (.inr (hk.not_row tb_ne1 (h.gn.own j x l h1 h2))), h.gn.apart⟩, h.a1, h.a2, h.a3, below_setRow h.bl (by omega) cells⟩
theorem one4 (A B C : Option Addr) (n1 n2 n3 c1 c2 c3 : Nat) (b : Bool) : (#[Value.slice A n1 c1, .slice B n2 c2, .slice C n3 c3, .bool b] : Array Value).all (·.oneCell') = true := by simp [Value.oneCell']
set_option maxRecDepth 100000 in
set_option maxHeartbeats 3200000 in
theorem l8All_any (A : Option Addr) (c : Nat) (xs : List Value) (L : List (List Int)) (B : Option Addr) (d : Nat) (ys : List Value) (S : List (List Int)) (w : World) (hpr : Q.Pr L S) (s0 : Nat) (h0 : s0 < L.length) (hL : NRow w A xs L) (hS : NRow w B ys S) :
    Calls Try.prog 85 #[pv A L.length c B S.length d, .int .i64 (s0 : Int)] w (tSays (Q.offG L S s0) w) := by
  obtain ⟨R, hR⟩ : ∃ R, R = Q.offG L S s0 := ⟨_, rfl⟩
  have HR := Lib.hid hR
  rw [← hR]
  clear hR
  obtain ⟨i0, hi, hz0, hz1, hz2⟩ := info_parts infoInts
  obtain ⟨i1, hj', hq0, hq1, hq2⟩ := info_parts infoII
  have hs0I : (s0 : Int) < (L.length : Int) := by omega
  obtain ⟨bA, oA, X0, d0, rfl, hbA, hcA, hrX⟩ := hL.row_at (x := s0) (l := L.getD s0 []) (by rw [Q.row_get h0]; exact List.getElem?_eq_getElem h0)
  obtain ⟨x0, hx0⟩ : ∃ x0, x0 = L.getD s0 [] := ⟨_, rfl⟩
  have HX0 := Lib.hid hx0
  have hro := Q.row_ok hpr h0
  have hfo := Q.first_ok hpr h0
  rw [← hx0] at hcA hrX hro hfo
  clear hx0
  have HFO := Lib.hid hfo
  have HHL := Lib.hid hL
  have HHS := Lib.hid hS
  have HPR := Lib.hid hpr
  have hn1 := hpr.n1
  have hn4 := hpr.n4
  have hm1 := hpr.m1
  have hm4 := hpr.m4
  clear hfo hL hS
  have hw0 : Below w.heap.size w ((w.alloc (.cells #[.slice (some ⟨bA, oA, none⟩) L.length c, .slice B S.length d] 29)).alloc (.cells #[.slice none 0 0, .slice none 0 0, .slice none 0 0, .bool false] 89)) := ((Below.refl _ _).alloc (Nat.le_refl _) _).alloc (by simp) _
  have HK0 : Hid (∀ T, w.heap.size + 2 ≤ T → KB w ((w.alloc (.cells #[.slice (some ⟨bA, oA, none⟩) L.length c, .slice B S.length d] 29)).alloc (.cells #[.slice none 0 0, .slice none 0 0, .slice none 0 0, .bool false] 89)) (.slice (some ⟨bA, oA, none⟩) L.length c) (.slice B S.length d) T) := Lib.hid fun T hT => by
    refine ⟨(Hb.new w _ _).alloc _, ?_, hT⟩
    have := Hb.new (w.alloc (.cells #[.slice (some ⟨bA, oA, none⟩) L.length c, .slice B S.length d] 29)) #[.slice none 0 0, .slice none 0 0, .slice none 0 0, .bool false] 89
    simpa using this
  have hcA' := (hw0.cell (p := ⟨bA, oA + s0, none⟩) hbA).trans hcA
  have HO0 := Lib.hid (l8Offset_any x0 X0 d0 _ (by rw [hro.1]; exact hpr.n1) (by rw [hro.1]; exact hpr.n4) (by rw [hro.1]; exact hro.2.wide (by omega)) (hrX.stays hw0))
  have HB0 := Lib.hid hw0
  have hxl := hro.1
  obtain ⟨o0, ho0⟩ : ∃ o0, o0 = Q.offL x0 := ⟨_, rfl⟩
  have HO00 := Lib.hid ho0
  rw [← ho0] at HO0
  have hol : o0.length = L.length := by rw [ho0, Q.offL_len]; exact hxl
  obtain ⟨k0, hk0⟩ : ∃ k0, k0 = Q.leastK x0 x0.length := ⟨_, rfl⟩
  rw [← hk0] at HO0
  clear hw0 hrX hro hpr ho0 hk0
  clear hol hxl
  go_enter Try.func85, Try.ntmps85
  go_wp2_with fail
  go_at_call 107
  refine HO0.out.mono ?_
  rintro e w1 ⟨v1, rfl, ho1, hb1⟩
  obtain ⟨V1, f1, rfl⟩ := own_slice ho1
  have hs1 : w.heap.size + 2 ≤ w1.heap.size := by have := hb1.size; simpa using this
  have HB1 := Lib.hid (Law.then_ HB0.out hb1)
  have HK1 := Lib.hid fun T hT => (HK0.out T hT).on hb1
  have HO1 := Lib.hid ho1
  clear ho1 hb1 HO0 HB0 HK0 hcA'
  have HT0 := Lib.hid (TB.init HB1.out HO1.out (by simp; omega))
  have HKT := Lib.hid (((HK1.out (w1.heap.size + 1) (by omega)).alloc (.cells #[.slice V1 o0.length f1] 35)).alloc (.cells #[.slice (some ⟨w1.heap.size, 0, none⟩) 1 1, .slice none 0 0, .slice none 0 0, .bool false] 89))
  have HG0 : Hid (Q.GrI (Q.OkO L.length) (Q.stpO L S) 400 o0 0 [o0] [] []) := by
    refine Q.GrI.start ?_ (by decide)
    rw [HO00.out]
    exact HFO.out
  have HR0 : Hid (Q.goG (Q.stpO L S) 400 (401 - 0) 0 [o0] [] [] = R) := by
    show _ = _
    rw [HR.out, HO00.out, HX0.out]
    rfl
  go_wp2_with fail
  clear HO1 HK1 HX0 HFO HO00 HR hcA
  obtain ⟨T, hT⟩ : ∃ T, T = w1.heap.size + 1 := ⟨_, rfl⟩
  rw [← hT] at HT0 HKT ⊢
  go_loopw [8] (fun i wr => ∃ k : Nat, k ≤ 400 ∧ i = .int .i64 (k : Int) ∧ Hid (∃ ns nx ss lv nv gv xl xn xg, Q.GrI (Q.OkO L.length) (Q.stpO L S) 400 o0 k ns nx ss ∧ Q.goG (Q.stpO L S) 400 (401 - k) k ns nx ss = R ∧ TB w wr T lv nv gv ns (nx.map nI) ss xl xn xg) ∧ Hid (KB w wr (.slice (some ⟨bA, oA, none⟩) L.length c) (.slice B S.length d) T)) (fun i _ => 401 - (intOf i).toNat)
  case atStart => exact ⟨0, by omega, rfl, ⟨[o0], [], [], _, _, _, _, _, _, HG0.out, HR0.out, HT0.out⟩, HKT.out⟩
  case round =>
    clear HG0 HR0 HT0 HKT HB1 hs1 hT
    obtain ⟨k, hk4, rfl, hv, hkb⟩ := hrel
    obtain ⟨w2, hw2⟩ : ∃ w2, w2 = wr := ⟨_, rfl⟩
    rw [← hw2] at hv hkb ⊢
    clear hw2
    obtain ⟨ns, nx, ss, lv, nv, gv, xl, xn, xg, hgi, hgo, htb⟩ := hv.out
    obtain ⟨A1, c1, rfl⟩ := own_slice htb.lo
    obtain ⟨nxi, hnxi⟩ : ∃ nxi, nxi = nx.map nI := ⟨_, rfl⟩
    rw [← hnxi] at htb
    have HNX : Hid (nx.map nI = nxi) := Lib.hid hnxi.symm
    clear hnxi
    have HTB := Lib.hid htb
    have HKB := Lib.hid hkb.out
    have HGI := Lib.hid hgi
    have HGO := Lib.hid hgo
    have hcT := htb.hb.cell (i := 0) (v := .slice A1 ns.length c1) rfl
    have hwT := htb.bl.size
    clear hv hkb hgo htb
    by_cases hlt : k < ns.length
    · have hltI : (k : Int) < (ns.length : Int) := by omega
      obtain ⟨x, hx⟩ : ∃ x, ns[k]? = some x := ⟨_, List.getElem?_eq_getElem hlt⟩
      obtain ⟨G, hG⟩ : ∃ G : Nat → List (List Int) × List Nat × List Int, G = fun q => Q.rowG ns ((Q.stpO L S x).take q) := ⟨_, rfl⟩
      have HG0 : Hid (G 0 = (ns, [], [])) := by rw [hG]; rfl
      have HGs : Hid (∀ q, q < S.length → G (q + 1) = (Q.grow (G q).1 (Q.offL (Q.nextQ L S x q)), (G q).2.1 ++ [Q.place (G q).1 (Q.offL (Q.nextQ L S x q))], (G q).2.2 ++ [Q.leastK (Q.nextQ L S x q) (Q.nextQ L S x q).length])) := fun q hq => by rw [hG]; exact Q.row_next hq
      have hxo := hgi.all x (List.mem_of_getElem? hx)
      have HGi : Hid (∀ q, Q.RowI (Q.OkO L.length) ns ((Q.stpO L S x).take q) (G q)) := fun q => by rw [hG]; exact Q.row_inv HPR.out hxo hgi.nd hgi.all q
      have HGe : Hid (G S.length = Q.rowG ns (Q.stpO L S x)) := by
        show _ = _
        rw [hG, ← Q.stpO_len L S x]
        show Q.rowG ns ((Q.stpO L S x).take (Q.stpO L S x).length) = _
        rw [List.take_length]
      have HX := Lib.hid hx
      have HXO := Lib.hid hxo
      have hns4 := hgi.mo
      clear hx hxo hG hgi
      have HTI := Lib.hid ((HTB.out.alloc (.cells #[] 3)).alloc (.cells #[] 3))
      have HRI := Lib.hid (RB.start HTB.out)
      have HKI := Lib.hid ((HKB.out.alloc (.cells #[] 3)).alloc (.cells #[] 3))
      go_wp2_with fail
      clear hcT
      go_loopw [9, 10, 11] (fun q1 q2 i wq => ∃ q : Nat, q ≤ S.length ∧ i = .int .i64 (q : Int) ∧ Hid (∃ lv xl, TB w wq T lv nv gv (G q).1 nxi ss xl xn xg ∧ RB w2.heap.size wq xl xn xg q1 q2 (nI (G q).2.1) (G q).2.2) ∧ Hid (KB w wq (.slice (some ⟨bA, oA, none⟩) L.length c) (.slice B S.length d) T ∧ w2.heap.size ≤ wq.heap.size)) (fun _ _ i _ => S.length - (intOf i).toNat)
      case atStart =>
        refine ⟨0, Nat.zero_le _, rfl, ?_, HKI.out, by simp; omega⟩
        rw [HG0.out]
        exact ⟨_, _, HTI.out, HRI.out⟩
      case round =>
        clear HTI HRI HKI
        obtain ⟨q, hq, rfl, hv, hkb⟩ := hrel
        obtain ⟨w3, hw3⟩ : ∃ w3, w3 = wr := ⟨_, rfl⟩
        rw [← hw3] at hv hkb ⊢
        clear hw3
        obtain ⟨N, a, b, hGq⟩ : ∃ N a b, G q = (N, a, b) := ⟨_, _, _, rfl⟩
        rw [hGq] at hv
        obtain ⟨lv, xl, htb, hrb⟩ := hv.out
        obtain ⟨A2, c2, rfl⟩ := own_slice htb.lo
        obtain ⟨hkb, hw23⟩ := hkb.out
        have htb : TB w w3 T (.slice A2 N.length c2) nv gv N nxi ss xl xn xg := htb
        have hrb : RB w2.heap.size w3 xl xn xg u9 u10 (nI a) b := hrb
        have p0 := hkb.hp.cell (i := 0) (v := .slice (some ⟨bA, oA, none⟩) L.length c) rfl
        have p1 := hkb.hp.cell (i := 1) (v := .slice B S.length d) rfl
        have hcT := htb.hb.cell (i := 0) (v := .slice A2 N.length c2) rfl
        have hri := HGi.out q
        rw [hGq] at hri
        have hPl := hkb.hp.lt
        have hTl := htb.hb.lt
        have HGq := Lib.hid hGq
        clear hGq hv
        by_cases hltq : q < S.length
        · have hltqI : (q : Int) < (S.length : Int) := by omega
          have hN4 : N.length ≤ 404 := by
            have h1 := hri.hi
            have h2 : ((Q.stpO L S x).take q).length ≤ q := List.length_take_le _ _
            have h3 : N.length ≤ ns.length + ((Q.stpO L S x).take q).length := h1
            omega
          have hkN : k < N.length := Nat.lt_of_lt_of_le hlt hri.lo
          have hkNI : (k : Int) < (N.length : Int) := by omega
          have ha4 : (nI a).length ≤ 1000 := by
            have h1 : a.length = ((Q.stpO L S x).take q).length := hri.l1
            have h2 : ((Q.stpO L S x).take q).length ≤ q := List.length_take_le _ _
            have h3 : (nI a).length = a.length := List.length_map _
            omega
          have hb4 : b.length ≤ 1000 := by
            have h1 : b = ((Q.stpO L S x).take q).map (·.2) := hri.s2
            have h2 : ((Q.stpO L S x).take q).length ≤ q := List.length_take_le _ _
            have h3 : b.length = ((Q.stpO L S x).take q).length := by rw [h1, List.length_map]
            omega
          have HNL : Hid (∀ l ∈ N, l.length ≤ 1048576) := fun l hl => by
            have := (hri.all l hl).len
            omega
          have HE0 := HGs.out q hltq
          rw [HGq.out] at HE0
          have HE1 : G (q + 1) = (Q.grow N (Q.offL (Q.nextQ L S x q)), a ++ [Q.place N (Q.offL (Q.nextQ L S x q))], b ++ [Q.leastK (Q.nextQ L S x q) (Q.nextQ L S x q).length]) := HE0
          obtain ⟨bL, oL, X, dX, rfl, hbL, hcX, hrX⟩ := (NRow.of htb.lo htb.ln).row_at (hri.old k x HX.out)
          have hNr := NRow.of htb.lo htb.ln
          have HS : Hid (∀ W, Below w3.heap.size w3 W → W.cell? ⟨w.heap.size, 0, none⟩ = some (.slice (some ⟨bA, oA, none⟩) L.length c) ∧ W.cell? ⟨w.heap.size, 1, none⟩ = some (.slice B S.length d) ∧ W.cell? ⟨T, 0, none⟩ = some (.slice (some ⟨bL, oL, none⟩) N.length c2) ∧ W.cell? ⟨bL, oL + k, none⟩ = some (.slice X x.length dX) ∧ Below w3.heap.size w3 W) := fun W h =>
            ⟨(h.cell (p := ⟨w.heap.size, 0, none⟩) hPl).trans p0, (h.cell (p := ⟨w.heap.size, 1, none⟩) hPl).trans p1, (h.cell (p := ⟨T, 0, none⟩) hTl).trans hcT, (h.cell (p := ⟨bL, oL + k, none⟩) hbL).trans hcX, h⟩
          have HN : Hid (∀ W, Below w3.heap.size w3 W → Calls Try.prog 76 #[pv (some ⟨bA, oA, none⟩) L.length c B S.length d, .slice X x.length dX, .int .i64 (q : Int)] W (rowSays1 (Q.nextQ L S x q) W)) := fun W h =>
            l8Next_any (some ⟨bA, oA, none⟩) c xs L B d ys S W x X dX HPR.out (M := 99) (by decide) q hltq HXO.out.len HXO.out.vals (HHL.out.stays (Law.then_ htb.bl h)) (HHS.out.stays (Law.then_ htb.bl h)) (hrX.stays h)
          have hyl : (Q.nextQ L S x q).length = L.length := Q.nextQ_len ..
          have HO : Hid (∀ W V f, Law.Row W V (ivs (Q.nextQ L S x q)) → Calls Try.prog 107 #[.slice V (Q.nextQ L S x q).length f] W fun e w' => ∃ v', e = .returned (.tuple #[v', .int .i64 (Q.leastK (Q.nextQ L S x q) (Q.nextQ L S x q).length)]) ∧ w'.ownsRow W.heap.size 3 1 v' (Q.offL (Q.nextQ L S x q)).length (ivs (Q.offL (Q.nextQ L S x q))) ∧ Below W.heap.size W w') := fun W V f h =>
            l8Offset_any _ V f W (by omega) (by omega) (by rw [hyl]; exact (Q.nextQ_vals HPR.out hltq HXO.out.vals).wide (by omega)) h
          have hol : (Q.offL (Q.nextQ L S x q)).length ≤ 1048576 := by rw [Q.offL_len]; omega
          clear hyl
          generalize Q.nextQ L S x q = y at HN HO HE1 hol
          obtain ⟨o, ho⟩ : ∃ o, o = Q.offL y := ⟨_, rfl⟩
          obtain ⟨z, hz⟩ : ∃ z, z = Q.leastK y y.length := ⟨_, rfl⟩
          rw [← ho, ← hz] at HO HE1
          rw [← ho] at hol
          clear ho hz
          have HTB3 := Lib.hid htb
          have HRB3 := Lib.hid hrb
          have HKB3 := Lib.hid hkb
          have HNr := Lib.hid hNr
          have hs0 := HS.out w3 (Below.refl _ _)
          have HE := Lib.hid HE1
          clear HE1 htb hrb hkb hNr hrX hri hTl hPl hbL p0 p1 hcT hcX HE0
          go_wp2_with fail
          first
            | go_region_held3 (fun w' => w'.cell? ⟨w.heap.size, 0, none⟩ = some (.slice (some ⟨bA, oA, none⟩) L.length c) ∧ w'.cell? ⟨w.heap.size, 1, none⟩ = some (.slice B S.length d) ∧ w'.cell? ⟨T, 0, none⟩ = some (.slice (some ⟨bL, oL, none⟩) N.length c2) ∧ w'.cell? ⟨bL, oL + k, none⟩ = some (.slice X x.length dX) ∧ Below w3.heap.size w3 w') ((first | exact hs0 | assumption | exact HS.out _ (Below.drew (by assumption : _ ∧ _ ∧ _ ∧ _ ∧ Below w3.heap.size w3 _).2.2.2.2) | exact HS.out _ (Law.then_ (by assumption : _ ∧ _ ∧ _ ∧ _ ∧ Below w3.heap.size w3 _).2.2.2.2 (by assumption)))) (first
              | (go_at_call 76; have hS9 := (by assumption : _ ∧ _ ∧ _ ∧ _ ∧ Below w3.heap.size w3 _).2.2.2.2; refine (HN.out _ hS9).mono ?_; rintro e w10 ⟨v10, rfl, ho10, hb10⟩; obtain ⟨V10, f10, rfl⟩ := own_slice ho10; have hr10 := Lib.hid (Law.Row.own ho10); clear ho10 hS9)
              | (go_at_call 107; refine (HO.out _ _ _ hr10.out).mono ?_; rintro e w11 ⟨v11, rfl, ho11, hb11⟩; obtain ⟨V11, f11, rfl⟩ := own_slice ho11; have ho12 := Lib.hid ho11; clear ho11))
            | fail
          all_goals
            have hS11 := (by assumption : _ ∧ _ ∧ _ ∧ _ ∧ Below w3.heap.size w3 w11).2.2.2.2
            have hS10 : w3.heap.size ≤ w10.heap.size := hb10.size
            have ho11 := own_down ho12.out hS10
            have HTB4 := Lib.hid (HTB3.out.on hS11)
            have HRB4 := Lib.hid (HRB3.out.on hS11)
            have HKB4 := Lib.hid (HKB3.out.on hS11)
            have HO4 := Lib.hid ho11
            have hcT4 := HTB4.out.hb.cell (i := 0) (v := .slice (some ⟨bL, oL, none⟩) N.length c2) rfl
            have HP := Lib.hid (l8Place_any N o (some ⟨bL, oL, none⟩) c2 xl V11 f11 w11 (by omega) (NRow.of HTB4.out.lo HTB4.out.ln) HNL.out (Law.Row.own ho11))
            have hs4 : w2.heap.size ≤ w11.heap.size := Nat.le_trans hw23 hS11.size
            have hw03 : w.heap.size ≤ w3.heap.size := HTB3.out.bl.size
            clear hS10 hS11 ho12 ho11 hb10 hb11 hr10 hs0 HS HN HO HNr
            by_cases hm : o ∈ N
            · rw [plc, if_pos hm] at HP
              rw [Q.grow_yes hm] at HE
              generalize Q.place N o = j at HP HE
              have hj0 : ¬ (j : Int) < 0 := by omega
              go_wp2_with fail
              go_at_call 108
              refine HP.out.mono ?_
              rintro e w12 ⟨rfl, m, rfl⟩
              have hB5 := bel_drewNv w11 m
              generalize w11.drewN m = w5 at hB5 ⊢
              have HT5 := Lib.hid (HTB4.out.on hB5)
              have HR5 := Lib.hid (HRB4.out.on hB5)
              have HK5 := Lib.hid (HKB4.out.on hB5)
              have hs5 : w2.heap.size ≤ w5.heap.size := Nat.le_trans hs4 hB5.size
              clear hB5 hcT4 HP hm HTB4 HRB4 HKB4 HO4
              have hsz7 := HT5.out.bl.size
              have how7 := (HR5.out).o1
              go_wp2_with (at_builtin; refine list_app1 rfl _ _ 35 rfl Try.underlying35 hi hz0 hz1 hz2 rfl (how7.alloc _) rfl (new_cell (w5) (.int .i64 ((j : Int))) 3) ?ca7a ?ca7b ?_)
              case ca7a => omega
              case ca7b => (show w2.heap.size ≤ _; simp; omega)
              intro v7 w7 hm7 hg7 ha7
              have hTR7 := RB.app HT5.out (HR5.out) hwT hm7 hg7 ha7
              have HT7 := Lib.hid hTR7.1
              have HR7 := Lib.hid hTR7.2
              have HK7 := Lib.hid (HK5.out.row _ (how7.alloc _) hg7)
              have hs7 : w2.heap.size ≤ w7.heap.size := Nat.le_trans (by simp; omega) hg7.size
              clear hTR7 hm7 hg7 ha7 how7
              have hsz8 := HT7.out.bl.size
              have how8 := (HR7.out.swap).o1
              go_wp2_with (at_builtin; refine list_app1 rfl _ _ 35 rfl Try.underlying35 hi hz0 hz1 hz2 rfl (how8.alloc _) rfl (new_cell (w7) (.int .i64 (z)) 3) ?ca8a ?ca8b ?_)
              case ca8a => omega
              case ca8b => (show w2.heap.size ≤ _; simp; omega)
              intro v8 w8 hm8 hg8 ha8
              have hTR8 := RB.app HT7.out (HR7.out.swap) hwT hm8 hg8 ha8
              have HT8 := Lib.hid hTR8.1
              have HR8 := Lib.hid hTR8.2.swap
              have HK8 := Lib.hid (HK7.out.row _ (how8.alloc _) hg8)
              have hs8 : w2.heap.size ≤ w8.heap.size := Nat.le_trans (by simp; omega) hg8.size
              clear hTR8 hm8 hg8 ha8 how8
              go_wp2
              go_roundw
              case rel =>
                refine ⟨q + 1, by omega, by go_num, ?_, HK8.out, hs8⟩
                rw [HE.out, nI_snoc]
                exact ⟨_, _, HT8.out, HR8.out⟩
              case measure => simp [intOf]; omega
            · rw [plc, if_neg hm] at HP
              rw [Q.grow_no hm, Q.place_no hm] at HE
              have hj0 : (-1 : Int) < 0 := by decide
              go_wp2_with fail
              go_at_call 108
              refine HP.out.mono ?_
              rintro e w12 ⟨rfl, m, rfl⟩
              have hB5 := bel_drewNv w11 m
              generalize w11.drewN m = w5 at hB5 ⊢
              have HT5 := Lib.hid (HTB4.out.on hB5)
              have HR5 := Lib.hid (HRB4.out.on hB5)
              have HK5 := Lib.hid (HKB4.out.on hB5)
              have HO5 := Lib.hid (own_past HO4.out hB5)
              have hs5 : w2.heap.size ≤ w5.heap.size := Nat.le_trans hs4 hB5.size
              have hw05 : w.heap.size ≤ w5.heap.size := HT5.out.bl.size
              have hcT5 := HT5.out.hb.cell (i := 0) (v := .slice (some ⟨bL, oL, none⟩) N.length c2) rfl
              clear hB5 hcT4 HP hm HTB4 HRB4 HKB4 HO4
              go_wp2_with (at_builtin; refine wpList_append_lies _ rfl _ _ 22 rfl w.heap.size 35 i1 (.slice none 0 0) 1 24 Try.underlying22 hj' hq0 hq1 hq2 rfl (by decide) _ _ _ rfl (HT5.out.lo.alloc _) ⟨w5.heap.size, 0, none⟩ 1 1 [.slice V11 o.length f11] rfl rfl ?ca ?cb (by decide) ?cc ?cd ?ce _ rfl ?_)
              try (case ca => (intro j' u hj'; match j', hj' with | 0, hj' => (simp at hj'; subst hj'; simp [Addr.add])))
              case cb => first | (intro u hu; simp at hu; subst hu; rfl) | rfl
              case cc => unfold maxLen; omega
              case cd => omega
              case ce => first | omega | (simp; done) | (simp; omega)
              intro g9 c9 w9 hm9 hg9 ho9 _
              have hb9 := (HT5.out.hb.alloc (.cells #[.slice V11 o.length f11] 35)).grown hg9 ((HT5.out.hb.alloc (.cells #[.slice V11 o.length f11] 35)).not_row tb_ne2 (HT5.out.lo.alloc (.cells #[.slice V11 o.length f11] 35)))
              have hc9 := hb9.cell (i := 0) (v := .slice (some ⟨bL, oL, none⟩) N.length c2) rfl
              have hf9 := hb9.frozen 0
              have HT6 := Lib.hid (HT5.out.appL (W0 := w3) HTB3.out.ln hw03 HO5.out hm9 hg9 (lies_at (H := 0) (ho9.imp id fun h => h.trans (by simp))))
              have HR6 := Lib.hid ((HR5.out.more (W0 := w3) HO5.out HRB3.out.o1 HRB3.out.o2).keeps (.cells #[.slice V11 o.length f11] 35) (HT5.out.lo.alloc _) hg9 hb9 0 (.slice (some ⟨g9, 0, none⟩) (N.length + 1) c9))
              have HK6 := Lib.hid (HK5.out.rows (.cells #[.slice V11 o.length f11] 35) (HT5.out.lo.alloc _) hg9 0 (.slice (some ⟨g9, 0, none⟩) (N.length + 1) c9))
              have hs6 : w2.heap.size ≤ w9.heap.size := Nat.le_trans (by simp; omega) hg9.size
              have HOE := Lib.hid HE
              clear hb9 hm9 hg9 ho9 HT5 HR5 HK5 hcT5 HO5
              have hcf7 : ((w9.setCell ⟨T, 0, none⟩ (.slice (some ⟨g9, 0, none⟩) (N.length + 1) c9)).alloc (.cells #[.int .i64 ((N.length : Int))] 3)).cell? ⟨w9.heap.size, 0, none⟩ = some (.int .i64 ((N.length : Int))) := by rw [show w9.heap.size = (w9.setCell ⟨T, 0, none⟩ (.slice (some ⟨g9, 0, none⟩) (N.length + 1) c9)).heap.size by simp]; exact new_cell _ _ _
              have hsz7 := HT6.out.bl.size
              have how7 := (HR6.out).o1
              go_wp2_with (at_builtin; refine list_app1 rfl _ _ 35 rfl Try.underlying35 hi hz0 hz1 hz2 rfl (how7.alloc _) rfl (hcf7) ?ca7a ?ca7b ?_)
              case ca7a => omega
              case ca7b => (show w2.heap.size ≤ _; simp; omega)
              intro v7 w7 hm7 hg7 ha7
              have hTR7 := RB.app HT6.out (HR6.out) hwT hm7 hg7 ha7
              have HT7 := Lib.hid hTR7.1
              have HR7 := Lib.hid hTR7.2
              have HK7 := Lib.hid (HK6.out.row _ (how7.alloc _) hg7)
              have hs7 : w2.heap.size ≤ w7.heap.size := Nat.le_trans (by simp; omega) hg7.size
              clear hTR7 hm7 hg7 ha7 how7
              have hsz8 := HT7.out.bl.size
              have how8 := (HR7.out.swap).o1
              go_wp2_with (at_builtin; refine list_app1 rfl _ _ 35 rfl Try.underlying35 hi hz0 hz1 hz2 rfl (how8.alloc _) rfl (new_cell (w7) (.int .i64 (z)) 3) ?ca8a ?ca8b ?_)
              case ca8a => omega
              case ca8b => (show w2.heap.size ≤ _; simp; omega)
              intro v8 w8 hm8 hg8 ha8
              have hTR8 := RB.app HT7.out (HR7.out.swap) hwT hm8 hg8 ha8
              have HT8 := Lib.hid hTR8.1
              have HR8 := Lib.hid hTR8.2.swap
              have HK8 := Lib.hid (HK7.out.row _ (how8.alloc _) hg8)
              have hs8 : w2.heap.size ≤ w8.heap.size := Nat.le_trans (by simp; omega) hg8.size
              clear hTR8 hm8 hg8 ha8 how8
              go_wp2
              go_roundw
              case rel =>
                refine ⟨q + 1, by omega, by go_num, ?_, HK8.out, hs8⟩
                rw [HE.out, nI_snoc]
                exact ⟨_, _, HT8.out, HR8.out⟩
              case measure => simp [intOf]; omega
        · have hqe : q = S.length := by omega
          have hltqI : ¬ (q : Int) < (S.length : Int) := by omega
          have hrow : Q.rowG ns (Q.stpO L S x) = (N, a, b) := by rw [← HGe.out, ← hqe]; exact HGq.out
          have hN4 : N.length ≤ 404 := by
            have h1 := hri.hi
            have h2 : ((Q.stpO L S x).take q).length ≤ q := List.length_take_le _ _
            have h3 : N.length ≤ ns.length + ((Q.stpO L S x).take q).length := h1
            omega
          have HTB3 := Lib.hid htb
          have HRB3 := Lib.hid hrb
          have HKB3 := Lib.hid hkb
          have hw03 : w.heap.size ≤ w3.heap.size := htb.bl.size
          obtain ⟨A4, c4, rfl⟩ := own_slice htb.no
          obtain ⟨A5, c5, rfl⟩ := own_slice htb.go
          by_cases hbig : 400 < N.length
          · have hbigI : (400 : Int) < (N.length : Int) := by omega
            have hRn : R = none := by
              rw [← HGO.out, show 401 - k = (400 - k) + 1 by omega, Q.goG_big HX.out (by rw [hrow]; exact hbig)]
            subst hRn
            have hc3 := htb.hb.cell (i := 3) (v := .bool false) rfl
            have hf3 := htb.hb.frozen 3
            have hb4 : Hb (w3.setCell ⟨T, 3, none⟩ (.bool true)) T #[.slice A2 N.length c2, .slice A4 nxi.length c4, .slice A5 ss.length c5, .bool true] 89 := htb.hb.set 3 (.bool true)
            have hr4 : Hb (w3.setCell ⟨T, 3, none⟩ (.bool true)) (w.heap.size + 1) #[.slice none 0 0, .slice none 0 0, .slice none 0 0, .bool false] 89 := hkb.hr.other ⟨T, 3, none⟩ (by have := hkb.tr; show _ ≠ T; omega) _
            have hl4 : Below w.heap.size w (w3.setCell ⟨T, 3, none⟩ (.bool true)) := htb.bl.setCell (p := ⟨T, 3, none⟩) htb.tl _
            have d0' := hb4.cell (i := 0) (v := .slice A2 N.length c2) rfl
            have d1' := hb4.cell (i := 1) (v := .slice A4 nxi.length c4) rfl
            have d2' := hb4.cell (i := 2) (v := .slice A5 ss.length c5) rfl
            have d3' := hb4.cell (i := 3) (v := .bool true) rfl
            have hl5 := below_setRow hl4 (show w.heap.size ≤ w.heap.size + 1 by omega) #[.slice A2 N.length c2, .slice A4 nxi.length c4, .slice A5 ss.length c5, .bool true]
            have hr5 : Hb ((w3.setCell ⟨T, 3, none⟩ (.bool true)).setRow (w.heap.size + 1) #[.slice A2 N.length c2, .slice A4 nxi.length c4, .slice A5 ss.length c5, .bool true]) (w.heap.size + 1) #[.slice A2 N.length c2, .slice A4 nxi.length c4, .slice A5 ss.length c5, .bool true] 89 := setRow_heap _ _ _ _ _ _ hr4
            have HL5 := Lib.hid hl5
            have HR4 := Lib.hid hr4
            have HR5 := Lib.hid hr5
            clear htb hrb hkb hb4 hl4 hl5 hr5 hri hrow HRB3 HKB3 hr4
            go_upto_region 19 with fail
            generalize w3.setCell ⟨T, 3, none⟩ (.bool true) = w4 at *
            go_wp2_with (refine wpList_store_row rfl 89 _ _ rfl (w.heap.size + 1) #[.slice A2 N.length c2, .slice A4 nxi.length c4, .slice A5 ss.length c5, .bool true] rfl rfl 89 #[.slice none 0 0, .slice none 0 0, .slice none 0 0, .bool false] HR4.out tbl_size rfl (one4 _ _ _ _ _ _ _ _ _ _) ?_)
            refine ret_tbl rfl rfl rfl HR5.out ?_
            exact ⟨_, _, _, _, _, _, _, _, _, rfl, HL5.out⟩
          · have hbigI : ¬ (400 : Int) < (N.length : Int) := by omega
            have hGI := HGI.out.step (Q.stpO_ok HPR.out) HX.out (by rw [hrow]; exact hbig)
            rw [hrow] at hGI
            have hGO : Q.goG (Q.stpO L S) 400 (401 - (k + 1)) (k + 1) N (nx ++ [a]) (ss ++ [b]) = R := by
              have h := HGO.out
              rw [show 401 - k = (400 - k) + 1 by omega, Q.goG_step HX.out (by rw [hrow]; exact hbig), hrow] at h
              rw [show 401 - (k + 1) = 400 - k by omega]
              exact h
            have HGI2 := Lib.hid hGI
            have HGO2 := Lib.hid hGO
            have hnx : nxi.length ≤ 400 := by rw [← HNX.out, List.length_map, HGI.out.k1]; exact hk4
            have hssl : ss.length ≤ 400 := by rw [HGI.out.k2]; exact hk4
            obtain ⟨U1, e1, rfl⟩ := own_slice hrb.o1
            obtain ⟨U2, e2, rfl⟩ := own_slice hrb.o2
            have HT5 := HTB3
            have hcN := htb.hb.cell (i := 1) (v := .slice A4 nxi.length c4) rfl
            have hN0 := Lib.hid HTB.out.nn
            have hG0 := Lib.hid HTB.out.gn
            have hw02 : w.heap.size ≤ w2.heap.size := hwT
            clear htb hrb hkb hri hrow hGI hGO
            go_wp2_with (at_builtin; refine wpList_append_lies _ rfl _ _ 22 rfl w.heap.size 35 i1 (.slice none 0 0) 1 24 Try.underlying22 hj' hq0 hq1 hq2 rfl (by decide) _ _ _ rfl (HTB3.out.no.alloc _) ⟨w3.heap.size, 0, none⟩ 1 1 [.slice U1 (nI a).length e1] rfl rfl ?ca ?cb (by decide) ?cc ?cd ?ce _ rfl ?_)
            try (case ca => (intro j' u hj'; match j', hj' with | 0, hj' => (simp at hj'; subst hj'; simp [Addr.add])))
            case cb => first | (intro u hu; simp at hu; subst hu; rfl) | rfl
            case cc => unfold maxLen; omega
            case cd => omega
            case ce => first | omega | (simp; done) | (simp; omega)
            intro g9 c9 w9 hm9 hg9 ho9 _
            have hb9 := (HTB3.out.hb.alloc (.cells #[.slice U1 (nI a).length e1] 35)).grown hg9 ((HTB3.out.hb.alloc (.cells #[.slice U1 (nI a).length e1] 35)).not_row tb_ne2 (HTB3.out.no.alloc (.cells #[.slice U1 (nI a).length e1] 35)))
            have hc9 := hb9.cell (i := 1) (v := .slice A4 nxi.length c4) rfl
            have hf9 := hb9.frozen 1
            have HT6 := Lib.hid (HTB3.out.appN (W0 := w2) hN0.out hw02 HRB3.out.o1 hm9 hg9 (lies_at (H := 0) (ho9.imp id fun h => h.trans (by simp))))
            have HR6 := Lib.hid (HRB3.out.keeps (.cells #[.slice U1 (nI a).length e1] 35) (HTB3.out.no.alloc _) hg9 hb9 1 (.slice (some ⟨g9, 0, none⟩) (nxi.length + 1) c9))
            have HK6 := Lib.hid (HKB3.out.rows (.cells #[.slice U1 (nI a).length e1] 35) (HTB3.out.no.alloc _) hg9 1 (.slice (some ⟨g9, 0, none⟩) (nxi.length + 1) c9))
            clear hb9 hm9 hg9 ho9 hcT hcN
            go_upto_region 21 with fail
            generalize w9.setCell ⟨T, 1, none⟩ (.slice (some ⟨g9, 0, none⟩) (nxi.length + 1) c9) = w6 at *
            have hcG := HT6.out.hb.cell (i := 2) (v := .slice A5 ss.length c5) rfl
            have hw06 : w.heap.size ≤ w6.heap.size := HT6.out.bl.size
            clear hc9 hf9
            go_wp2_with (at_builtin; refine wpList_append_lies _ rfl _ _ 22 rfl w.heap.size 35 i1 (.slice none 0 0) 1 24 Try.underlying22 hj' hq0 hq1 hq2 rfl (by decide) _ _ _ rfl (HT6.out.go.alloc _) ⟨w6.heap.size, 0, none⟩ 1 1 [.slice U2 b.length e2] rfl rfl ?da ?db (by decide) ?dc ?dd ?de _ rfl ?_)
            try (case da => (intro j' u hj'; match j', hj' with | 0, hj' => (simp at hj'; subst hj'; simp [Addr.add])))
            case db => first | (intro u hu; simp at hu; subst hu; rfl) | rfl
            case dc => unfold maxLen; omega
            case dd => omega
            case de => first | omega | (simp; done) | (simp; omega)
            intro g10 c10 w10 hm10 hg10 ho10 _
            have hb10 := (HT6.out.hb.alloc (.cells #[.slice U2 b.length e2] 35)).grown hg10 ((HT6.out.hb.alloc (.cells #[.slice U2 b.length e2] 35)).not_row tb_ne2 (HT6.out.go.alloc (.cells #[.slice U2 b.length e2] 35)))
            have hc10 := hb10.cell (i := 2) (v := .slice A5 ss.length c5) rfl
            have hf10 := hb10.frozen 2
            have HT7 := Lib.hid (HT6.out.appG (W0 := w2) hG0.out hw02 HR6.out.o2 hm10 hg10 (lies_at (H := 0) (ho10.imp id fun h => h.trans (by simp))))
            have HK7 := Lib.hid (HK6.out.rows (.cells #[.slice U2 b.length e2] 35) (HT6.out.go.alloc _) hg10 2 (.slice (some ⟨g10, 0, none⟩) (ss.length + 1) c10))
            clear hb10 hm10 hg10 ho10 hcG
            go_wp2
            go_roundw
            case rel => exact ⟨k + 1, by omega, by go_num, ⟨N, nx ++ [a], ss ++ [b], _, _, _, _, _, _, HGI2.out, HGO2.out, by rw [List.map_append, HNX.out]; exact HT7.out⟩, HK7.out⟩
            case measure => simp [intOf]; omega
    · have hke : k = ns.length := by have := hgi.kl; omega
      have hltI : ¬ (k : Int) < (ns.length : Int) := by omega
      have hRn : R = some (ns, nx, ss) := by
        rw [← HGO.out, show 401 - k = (400 - k) + 1 by omega, Q.goG_end (by omega)]
      subst hRn
      obtain ⟨A4, c4, rfl⟩ := own_slice HTB.out.no
      obtain ⟨A5, c5, rfl⟩ := own_slice HTB.out.go
      have d1' := HTB.out.hb.cell (i := 1) (v := .slice A4 nxi.length c4) rfl
      have d2' := HTB.out.hb.cell (i := 2) (v := .slice A5 ss.length c5) rfl
      have d3' := HTB.out.hb.cell (i := 3) (v := .bool false) rfl
      have HT9 := Lib.hid (HTB.out.res HKB.out.hr HKB.out.tr #[.slice A1 ns.length c1, .slice A4 nxi.length c4, .slice A5 ss.length c5, .bool false])
      have hr5 : Hb (w2.setRow (w.heap.size + 1) #[.slice A1 ns.length c1, .slice A4 nxi.length c4, .slice A5 ss.length c5, .bool false]) (w.heap.size + 1) #[.slice A1 ns.length c1, .slice A4 nxi.length c4, .slice A5 ss.length c5, .bool false] 89 := setRow_heap _ _ _ _ _ _ HKB.out.hr
      have HR4 := Lib.hid HKB.out.hr
      have HR5 := Lib.hid hr5
      clear hr5 hke hgi HGI HGO
      go_wp2_with (refine wpList_store_row rfl 89 _ _ rfl (w.heap.size + 1) #[.slice A1 ns.length c1, .slice A4 nxi.length c4, .slice A5 ss.length c5, .bool false] rfl rfl 89 #[.slice none 0 0, .slice none 0 0, .slice none 0 0, .bool false] HR4.out tbl_size rfl (one4 _ _ _ _ _ _ _ _ _ _) ?_)
      refine ret_tbl rfl rfl rfl HR5.out ?_
      exact ⟨_, _, _, _, _, _, _, rfl, by rw [HNX.out]; exact HT9.out⟩
end Go.Proofs.Ythpoeeadhjnljaa

/- The model's OffsetsOf and OffsetSteps; the code's OffsetSteps. -/
namespace Go.Proofs.Ythpoeeadhjnljaa
open Go.RowKit
set_option linter.unusedVariables false
namespace Q
noncomputable def osQ (L S : List (List Int)) (start : Int) : List (List Int) × List (List Int) × Bool := match offF L S start with
  | none => ([], [], false)
  | some (_, nx, ss) => (nx.map nI, ss, true)
end Q
def nest2Says (X : List (List Int) × List (List Int) × Bool) (w : World) (e : Ending) (w' : World) : Prop :=
  ∃ v u xs ys, e = .returned (.tuple #[v, u, .bool X.2.2]) ∧ w'.ownsRow w.heap.size 35 1 v X.1.length xs ∧ NOwn w' w.heap.size xs X.1 ∧ w'.ownsRow w.heap.size 35 1 u X.2.1.length ys ∧ NOwn w' w.heap.size ys X.2.1 ∧ Below w.heap.size w w'
theorem tot_le4 : ∀ (ns : List (List Int)), (∀ l ∈ ns, l.length ≤ 4) → totL ns ≤ 4 * ns.length
  | [], _ => by simp [totL]
  | l :: ns, h => by
    have h1 := tot_le4 ns fun x hx => h x (List.mem_cons_of_mem _ hx)
    have h2 := h l (List.mem_cons_self)
    have h3 : totL (l :: ns) = l.length + totL ns := by simp [totL]
    rw [h3, List.length_cons]
    omega
theorem two_lits {w W : World} (hb : Below w.heap.size w W) (t : TypeId) (n : Nat) (hn : W.heap.size = n) : ((W.alloc (.cells #[] t)).alloc (.cells #[] t)).ownsRow w.heap.size t 1 (.slice (some ⟨n, 0, none⟩) 0 0) 0 [] ∧ ((W.alloc (.cells #[] t)).alloc (.cells #[] t)).ownsRow w.heap.size t 1 (.slice (some ⟨n + 1, 0, none⟩) 0 0) 0 [] ∧ Below w.heap.size w ((W.alloc (.cells #[] t)).alloc (.cells #[] t)) := by
  subst hn
  have h1 := ownsRow_nil (W.alloc (.cells #[] t)) t
  rw [World.size_alloc] at h1
  exact ⟨(own_down (ownsRow_nil W t) hb.size).alloc _, own_down h1 (Nat.le_succ_of_le hb.size), (hb.alloc hb.size _).alloc (by rw [World.size_alloc]; exact Nat.le_succ_of_le hb.size) _⟩
set_option maxRecDepth 100000 in
set_option maxHeartbeats 3200000 in
theorem specOo_any (A : Option Addr) (c : Nat) (xs : List Value) (L : List (List Int)) (B : Option Addr) (d : Nat) (ys : List Value) (S : List (List Int)) (w : World) (start : Int) (hlS : ∀ l ∈ S, l.length ≤ 1048576) (hL : NRow w A xs L) (hS : NRow w B ys S) :
    Calls Try.prog 44 #[pv A L.length c B S.length d, .int .i64 start] w (nestSays (Q.ooQ L S start) w) := by
  have HP := Lib.hid (PIn.start (c := c) (d := d) hL hS 29)
  have HG := Lib.hid fun (W : World) (R : Option Addr) (h1 : NRow W A xs L) (h2 : NRow W B ys S) => l8Takes_any A c xs L B d ys S W start [] R 0 hlS (by simp) h1 h2 (fun h => absurd rfl h)
  obtain ⟨X, hX⟩ : ∃ X, X = Q.ooQ L S start := ⟨_, rfl⟩
  rw [← hX]
  cases hq : Q.askQ L S start []
  · have hX0 : X = ([], false) := by rw [hX, Q.ooQ, Q.offF_no hq]
    subst hX0
    rw [hq] at HG
    clear hL hS hX hq hlS
    go_enter Try.func44, Try.ntmps44
    obtain ⟨p0, p1, _, _, _⟩ := HP.out.bk
    go_wp2_with fail
    generalize w.alloc (.cells #[.slice A L.length c, .slice B S.length d] 29) = wa at HP p0 p1 ⊢
    have HP1 := Lib.hid (HP.out.on ((Below.refl _ _).alloc (Nat.le_refl _) (.cells #[] 3)))
    go_wp2_with fail
    go_at_call 64
    refine (HG.out _ _ HP1.out.mv HP1.out.sv).mono ?_
    rintro e w1 ⟨rfl, hb⟩
    have HB1 := Lib.hid (HP1.out.on hb).bl
    clear p0 p1 hb HP HP1 HG
    have HOa := Lib.hid (own_down (ownsRow_nil w1 35) HB1.out.size)
    have HBa := Lib.hid (HB1.out.alloc HB1.out.size (.cells #[] 35))
    go_wp2
    go_ret2
    exact ⟨_, [], rfl, HOa.out, NOwn.nil _ _, HBa.out⟩
  · have ha := Q.ask_iff.1 hq
    obtain ⟨s0, e0, hs0⟩ := ha.st
    subst e0
    rw [hq] at HG
    have HA := Lib.hid fun (W : World) (h1 : NRow W A xs L) (h2 : NRow W B ys S) => l8All_any A c xs L B d ys S W ha.pr s0 hs0 h1 h2
    have hXR : X = match Q.offG L S s0 with | none => ([], false) | some (ns, nx, ss) => (ns, true) := by
      rw [hX, Q.ooQ, Q.offF_yes hq, Int.toNat_natCast]
      try (rcases Q.offG L S s0 with _ | ⟨ns, nx, ss⟩ <;> rfl)
    generalize Q.offG L S s0 = R at HA hXR
    have HXR := Lib.hid hXR
    clear hL hS hX hq hlS ha hXR
    go_enter Try.func44, Try.ntmps44
    obtain ⟨p0, p1, _, _, _⟩ := HP.out.bk
    go_wp2_with fail
    generalize w.alloc (.cells #[.slice A L.length c, .slice B S.length d] 29) = wa at HP p0 p1 ⊢
    have HP1 := Lib.hid (HP.out.on ((Below.refl _ _).alloc (Nat.le_refl _) (.cells #[] 3)))
    go_wp2_with fail
    go_at_call 64
    refine (HG.out _ _ HP1.out.mv HP1.out.sv).mono ?_
    rintro e w1 ⟨rfl, hb⟩
    have HP2 := Lib.hid (HP1.out.on hb)
    clear p0 p1 hb HP HP1 HG
    obtain ⟨p0, p1, _, _, _⟩ := HP2.out.bk
    go_wp2_with fail
    go_at_call 85
    refine (HA.out w1 HP2.out.mv HP2.out.sv).mono ?_
    intro e w2 hs
    have HB1 := Lib.hid HP2.out.bl
    clear p0 p1 HP2 HA
    rcases R with _ | ⟨ns, nx, ss⟩
    · obtain ⟨A1, n1, c1, A2, n2, c2, A3, n3, c3, rfl, hb2⟩ := hs
      have hXe : X = ([], false) := HXR.out
      subst hXe
      have HB2 := Lib.hid ((Law.then_ HB1.out hb2).alloc (Law.then_ HB1.out hb2).size (.cells #[.slice A1 n1 c1, .slice A2 n2 c2, .slice A3 n3 c3, .bool true] 89))
      clear hb2 HB1 HXR
      have HOa := Lib.hid (own_down (ownsRow_nil (w2.alloc (.cells #[.slice A1 n1 c1, .slice A2 n2 c2, .slice A3 n3 c3, .bool true] 89)) 35) HB2.out.size)
      have HBa := Lib.hid (HB2.out.alloc HB2.out.size (.cells #[] 35))
      have hz2 : (w2.alloc (.cells #[.slice A1 n1 c1, .slice A2 n2 c2, .slice A3 n3 c3, .bool true] 89)).heap.size = w2.heap.size + 1 := by simp
      rw [hz2] at HOa
      go_wp2
      go_ret2
      exact ⟨_, [], rfl, HOa.out, NOwn.nil _ _, HBa.out⟩
    · obtain ⟨lv, nv, gv, T, xl, xn, xg, rfl, hT⟩ := hs
      have hXe : X = (ns, true) := HXR.out
      subst hXe
      obtain ⟨nxi, hnxi⟩ : ∃ nxi, nxi = nx.map nI := ⟨_, rfl⟩
      rw [← hnxi] at hT
      have HNX : Hid (nx.map nI = nxi) := Lib.hid hnxi.symm
      clear hnxi HXR
      obtain ⟨AL, cL, rfl⟩ := own_slice hT.lo
      obtain ⟨AN, cN, rfl⟩ := own_slice hT.no
      obtain ⟨AG, cG, rfl⟩ := own_slice hT.go
      have HT := Lib.hid (hT.alloc (.cells #[.slice AL ns.length cL, .slice AN nxi.length cN, .slice AG ss.length cG, .bool false] 89))
      have HBf := Lib.hid (Law.then_ HB1.out HT.out.bl)
      have HSz := Lib.hid HB1.out.size
      have h0 := Hb.new w2 #[.slice AL ns.length cL, .slice AN nxi.length cN, .slice AG ss.length cG, .bool false] 89
      have c1 := h0.cell (i := 1) (v := .slice AN nxi.length cN) rfl
      have c2 := h0.cell (i := 2) (v := .slice AG ss.length cG) rfl
      clear hT HB1 h0
      clear c1 c2
      go_wp2_with fail
      go_ret2
      exact ⟨_, xl, rfl, own_down HT.out.lo HSz.out, HT.out.ln.down HSz.out, HBf.out⟩
set_option maxRecDepth 100000 in
set_option maxHeartbeats 3200000 in
theorem specOs_any (A : Option Addr) (c : Nat) (xs : List Value) (L : List (List Int)) (B : Option Addr) (d : Nat) (ys : List Value) (S : List (List Int)) (w : World) (start : Int) (hlS : ∀ l ∈ S, l.length ≤ 1048576) (hL : NRow w A xs L) (hS : NRow w B ys S) :
    Calls Try.prog 46 #[pv A L.length c B S.length d, .int .i64 start] w (nest2Says (Q.osQ L S start) w) := by
  have HP := Lib.hid (PIn.start (c := c) (d := d) hL hS 29)
  have HG := Lib.hid fun (W : World) (R : Option Addr) (h1 : NRow W A xs L) (h2 : NRow W B ys S) => l8Takes_any A c xs L B d ys S W start [] R 0 hlS (by simp) h1 h2 (fun h => absurd rfl h)
  obtain ⟨X, hX⟩ : ∃ X, X = Q.osQ L S start := ⟨_, rfl⟩
  rw [← hX]
  cases hq : Q.askQ L S start []
  · have hX0 : X = ([], [], false) := by rw [hX, Q.osQ, Q.offF_no hq]
    subst hX0
    rw [hq] at HG
    clear hL hS hX hq hlS
    go_enter Try.func46, Try.ntmps46
    obtain ⟨p0, p1, _, _, _⟩ := HP.out.bk
    go_wp2_with fail
    generalize w.alloc (.cells #[.slice A L.length c, .slice B S.length d] 29) = wa at HP p0 p1 ⊢
    have HP1 := Lib.hid (HP.out.on ((Below.refl _ _).alloc (Nat.le_refl _) (.cells #[] 3)))
    go_wp2_with fail
    go_at_call 64
    refine (HG.out _ _ HP1.out.mv HP1.out.sv).mono ?_
    rintro e w1 ⟨rfl, hb⟩
    have HB1 := Lib.hid (HP1.out.on hb).bl
    clear p0 p1 hb HP HP1 HG
    have HTW := Lib.hid (two_lits HB1.out 35 w1.heap.size rfl)
    go_wp2
    go_ret3
    exact ⟨_, _, [], [], rfl, HTW.out.1, NOwn.nil _ _, HTW.out.2.1, NOwn.nil _ _, HTW.out.2.2⟩
  · have ha := Q.ask_iff.1 hq
    obtain ⟨s0, e0, hs0⟩ := ha.st
    subst e0
    rw [hq] at HG
    have HA := Lib.hid fun (W : World) (h1 : NRow W A xs L) (h2 : NRow W B ys S) => l8All_any A c xs L B d ys S W ha.pr s0 hs0 h1 h2
    have hXR : X = match Q.offG L S s0 with | none => ([], [], false) | some (ns, nx, ss) => (nx.map nI, ss, true) := by
      rw [hX, Q.osQ, Q.offF_yes hq, Int.toNat_natCast]
      try (rcases Q.offG L S s0 with _ | ⟨ns, nx, ss⟩ <;> rfl)
    generalize Q.offG L S s0 = R at HA hXR
    have HXR := Lib.hid hXR
    clear hL hS hX hq hlS ha hXR
    go_enter Try.func46, Try.ntmps46
    obtain ⟨p0, p1, _, _, _⟩ := HP.out.bk
    go_wp2_with fail
    generalize w.alloc (.cells #[.slice A L.length c, .slice B S.length d] 29) = wa at HP p0 p1 ⊢
    have HP1 := Lib.hid (HP.out.on ((Below.refl _ _).alloc (Nat.le_refl _) (.cells #[] 3)))
    go_wp2_with fail
    go_at_call 64
    refine (HG.out _ _ HP1.out.mv HP1.out.sv).mono ?_
    rintro e w1 ⟨rfl, hb⟩
    have HP2 := Lib.hid (HP1.out.on hb)
    clear p0 p1 hb HP HP1 HG
    obtain ⟨p0, p1, _, _, _⟩ := HP2.out.bk
    go_wp2_with fail
    go_at_call 85
    refine (HA.out w1 HP2.out.mv HP2.out.sv).mono ?_
    intro e w2 hs
    have HB1 := Lib.hid HP2.out.bl
    clear p0 p1 HP2 HA
    rcases R with _ | ⟨ns, nx, ss⟩
    · obtain ⟨A1, n1, c1, A2, n2, c2, A3, n3, c3, rfl, hb2⟩ := hs
      have hXe : X = ([], [], false) := HXR.out
      subst hXe
      have HB2 := Lib.hid ((Law.then_ HB1.out hb2).alloc (Law.then_ HB1.out hb2).size (.cells #[.slice A1 n1 c1, .slice A2 n2 c2, .slice A3 n3 c3, .bool true] 89))
      clear hb2 HB1 HXR
      have HTW := Lib.hid (two_lits HB2.out 35 (w2.heap.size + 1) (by simp))
      go_wp2
      go_ret3
      exact ⟨_, _, [], [], rfl, HTW.out.1, NOwn.nil _ _, HTW.out.2.1, NOwn.nil _ _, HTW.out.2.2⟩
    · obtain ⟨lv, nv, gv, T, xl, xn, xg, rfl, hT⟩ := hs
      have hXe : X = (nx.map nI, ss, true) := HXR.out
      subst hXe
      obtain ⟨nxi, hnxi⟩ : ∃ nxi, nxi = nx.map nI := ⟨_, rfl⟩
      rw [← hnxi] at hT
      have HNX : Hid (nx.map nI = nxi) := Lib.hid hnxi.symm
      clear hnxi HXR
      obtain ⟨AL, cL, rfl⟩ := own_slice hT.lo
      obtain ⟨AN, cN, rfl⟩ := own_slice hT.no
      obtain ⟨AG, cG, rfl⟩ := own_slice hT.go
      have HT := Lib.hid (hT.alloc (.cells #[.slice AL ns.length cL, .slice AN nxi.length cN, .slice AG ss.length cG, .bool false] 89))
      have HBf := Lib.hid (Law.then_ HB1.out HT.out.bl)
      have HSz := Lib.hid HB1.out.size
      have h0 := Hb.new w2 #[.slice AL ns.length cL, .slice AN nxi.length cN, .slice AG ss.length cG, .bool false] 89
      have c1 := h0.cell (i := 1) (v := .slice AN nxi.length cN) rfl
      have c2 := h0.cell (i := 2) (v := .slice AG ss.length cG) rfl
      clear hT HB1 h0
      go_wp2_with fail
      go_quiet (fail)
      generalize hW9 : World.drewN _ nq = W9
      have hb9 : Below (w2.alloc (.cells #[.slice AL ns.length cL, .slice AN nxi.length cN, .slice AG ss.length cG, .bool false] 89)).heap.size (w2.alloc (.cells #[.slice AL ns.length cL, .slice AN nxi.length cN, .slice AG ss.length cG, .bool false] 89)) W9 := by rw [← hW9]; exact bel_drewNv _ _
      have HT9 := Lib.hid (HT.out.on hb9)
      have HB9 := Lib.hid (Law.then_ HBf.out (hb9.mono (by simp)))
      clear hb9 hW9 c1 c2
      go_wp2
      go_ret3
      refine ⟨_, _, xn, xg, rfl, ?_, ?_, own_down HT9.out.go HSz.out, HT9.out.gn.down HSz.out, HB9.out⟩
      · show World.ownsRow _ _ _ _ _ (nx.map nI).length _
        rw [HNX.out]
        exact own_down HT9.out.no HSz.out
      · show NOwn _ _ _ (nx.map nI)
        rw [HNX.out]
        exact HT9.out.nn.down HSz.out
end Go.Proofs.Ythpoeeadhjnljaa
