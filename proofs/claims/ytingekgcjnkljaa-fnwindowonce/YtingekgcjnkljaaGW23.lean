import Derived.Test.YtingekgcjnkljaaGWxWoB

/-
  DrawWindowAsk: a drawn window, an id and a time.
-/
namespace Go.Proofs.Ytingekgcjnkljaa
open Go Go.RowKit

theorem results_ctt {P : Program} {fn : Func} {p t t2 : Tmp} {ty : TypeId} (h : fn.results = #[.cell p ty, .tmp t, .tmp t2]) (tmps : Array Value) (w : World) (g : Nat) (cs : List Value) (d : TypeDesc) (v v2 : Value)
    (hp : tmps.getD p undef = .pointer (some ⟨g, 0, none⟩)) (ht : tmps.getD t undef = v) (ht2 : tmps.getD t2 undef = v2) (hc : w.rangeAt g 0 cs) (hu : P.underlying ty = some d) (hd : d.isRow = true) (hi : (P.info? ty).map (·.size) = some cs.length) :
    (results fn tmps).run P w = .ok (.tuple #[.agg cs.toArray, v, v2]) w := by
  have hp' : tmps[p]?.getD undef = .pointer (some ⟨g, 0, none⟩) := by simpa using hp
  have ht' : tmps[t]?.getD undef = v := by simpa using ht
  have ht2' : tmps[t2]?.getD undef = v2 := by simpa using ht2
  simp [results, h, hp', ht', ht2', asAddr, run_loadVar_mid w g 0 ty cs d hc hu hd hi]
/-- Where the drawing stands: z the answer's box, p the window's, C behind the source. -/
structure DaS (w W : World) (s g : Nat) (a : Option Addr) (c : Nat) (xs : List Int) (p C : Nat) (wd : Int) (v : Value) (u : Int) (m : Nat) : Prop where
  Z : RwC W w.heap.size [.int .i64 0, .slice none 0 0] 25
  P : RwC W p [.int .i64 wd, v] 25
  R : DwR W C [p] v m
  D : Dra W s g a c xs u
  N : Below w.heap.size w W
  b : w.heap.size < s ∧ s < C ∧ C ≤ p
  b3 : 0 < xs.length → g < w.heap.size
/-- A drawn id: bytes that may be read, in a block of the call's own that is not the source. -/
def IdD (w : World) (s : Nat) (W : World) (v : Value) : Prop := ∃ (a3 : Option Addr) (c3 g3 : Nat) (X : List Int), v = .slice a3 X.length c3 ∧ Rd W g3 a3 .u8 X ∧ w.heap.size < g3 ∧ Byt X ∧ g3 ≠ s
theorem IdD.but {w W W' : World} {v : Value} {s : Nat} (h : IdD w s W v) (b : But s W W') : IdD w s W' v := by
  obtain ⟨a3, c3, g3, X, e, r, k, y, n⟩ := h
  exact ⟨a3, c3, g3, X, e, r.but b (fun _ => n), k, y, n⟩
set_option maxRecDepth 100000 in
theorem DaS.but {w W W' : World} {s g : Nat} {a : Option Addr} {c : Nat} {xs : List Int} {p C : Nat} {wd : Int} {v : Value} {u u' : Int} {m : Nat} (h : DaS w W s g a c xs p C wd v u m) (b : But s W W') (d : Dra W' s g a c xs u') : DaS w W' s g a c xs p C wd v u' m := by
  obtain ⟨h1, h2, h3⟩ := h.b
  exact ⟨h.Z.but b (by omega), h.P.but b (by omega), h.R.but b h2, d, h.N.trans (b.below (by omega) h.N.size), h.b, h.b3⟩
/-- What the end of the drawing wants. -/
theorem DaS.fin {w W : World} {s g : Nat} {a : Option Addr} {c : Nat} {xs : List Int} {p C : Nat} {wd : Int} {av : Option Addr} {lv cv : Nat} {u : Int} {m : Nat} (h : DaS w W s g a c xs p C wd (.slice av lv cv) u m) :
    Hid (World.rangeAt ((W.setCell ⟨w.heap.size, 0, none⟩ (.int .i64 wd)).setCell ⟨w.heap.size, 1, none⟩ (.slice av lv cv)) w.heap.size 0 [.int .i64 wd, .slice av lv cv]) ∧ W.cell? ⟨p, 0, none⟩ = some (.int .i64 wd) ∧ W.cell? ⟨p, 1, none⟩ = some (.slice av lv cv) ∧ W.cell? ⟨w.heap.size, 0, none⟩ = some (.int .i64 0) ∧ W.cell? ⟨w.heap.size, 1, none⟩ = some (.slice none 0 0) ∧ W.frozen? ⟨w.heap.size, 0, none⟩ = false ∧ W.frozen? ⟨w.heap.size, 1, none⟩ = false :=
  ⟨((h.Z.set 0 _).set 1 _).rangeG, h.P.c0, h.P.c1, h.Z.c0, h.Z.c1, h.Z.free 0, h.Z.free 1⟩
set_option maxRecDepth 100000 in
theorem DaS.res {w W : World} {s g : Nat} {a : Option Addr} {c : Nat} {xs : List Int} {p C : Nat} {wd : Int} {av : Option Addr} {lv cv : Nat} {u : Int} (h : DaS w W s g a c xs p C wd (.slice av lv cv) u 70) {v : Value} (I : IdD w s W v) (now : Int) :
    (∃ (wd2 : Int) (a2 : Option Addr) (l2 c2 : Nat) (a3 : Option Addr) (c3 g3 : Nat) (X : List Int) (now2 : Int), Ending.returned (.tuple #[.agg #[.int .i64 wd, .slice av lv cv], v, .int .i64 now]) = .returned (.tuple #[.agg #[.int .i64 wd2, .slice a2 l2 c2], .slice a3 X.length c3, .int .i64 now2]) ∧ DwR ((W.setCell ⟨w.heap.size, 0, none⟩ (.int .i64 wd)).setCell ⟨w.heap.size, 1, none⟩ (.slice av lv cv)) w.heap.size [] (.slice a2 l2 c2) 70 ∧ Rd ((W.setCell ⟨w.heap.size, 0, none⟩ (.int .i64 wd)).setCell ⟨w.heap.size, 1, none⟩ (.slice av lv cv)) g3 a3 .u8 X ∧ w.heap.size ≤ g3 ∧ Byt X) ∧ Below w.heap.size w ((W.setCell ⟨w.heap.size, 0, none⟩ (.int .i64 wd)).setCell ⟨w.heap.size, 1, none⟩ (.slice av lv cv)) := by
  have OF : Only w.heap.size W ((W.setCell ⟨w.heap.size, 0, none⟩ (.int .i64 wd)).setCell ⟨w.heap.size, 1, none⟩ (.slice av lv cv)) := (Only.setCell _ _ 0 _).trans (Only.setCell _ _ 1 _)
  obtain ⟨h1, h2, h3⟩ := h.b
  obtain ⟨a3, c3, g3, X, rfl, r, k, y, n⟩ := I
  exact ⟨⟨_, _, _, _, a3, c3, g3, X, _, rfl, (h.R.of (fun k hk hC _ => OF.block k (by omega))).shut0.base (by omega), rd_of r (fun _ => OF.block g3 (by omega)), by omega, y⟩, h.N.trans (OF.below (Nat.le_refl _))⟩
set_option maxRecDepth 100000 in
/-- The broken window is stored. -/
theorem DaS.brk {w W W' : World} {s g : Nat} {a : Option Addr} {c : Nat} {xs : List Int} {p C : Nat} {wd : Int} {v : Value} {u : Int} {m m' : Nat} (h : DaS w W s g a c xs p C wd v u m) (l : LoC C s [p] W W') (wd2 : Int) (v2 : Value) (r : DwR W' C [p] v2 m') {u' : Int} (d : Dra W' s g a c xs u') :
    W'.cell? ⟨p, 0, none⟩ = some (.int .i64 wd) ∧ W'.cell? ⟨p, 1, none⟩ = some v ∧ W'.frozen? ⟨p, 0, none⟩ = false ∧ W'.frozen? ⟨p, 1, none⟩ = false ∧ Hid (DaS w ((W'.setCell ⟨p, 0, none⟩ (.int .i64 wd2)).setCell ⟨p, 1, none⟩ v2) s g a c xs p C wd2 v2 u' m') := by
  obtain ⟨h1, h2, h3⟩ := h.b
  have P1 : RwC W' p [.int .i64 wd, v] 25 := (l.block p h.P.lt (.inr (by simp)) (by omega)).trans h.P
  have Z1 : RwC W' w.heap.size [.int .i64 0, .slice none 0 0] 25 := (l.block _ h.Z.lt (.inl (by omega)) (by omega)).trans h.Z
  have OF : Only p W' ((W'.setCell ⟨p, 0, none⟩ (.int .i64 wd2)).setCell ⟨p, 1, none⟩ v2) := (Only.setCell _ _ 0 _).trans (Only.setCell _ _ 1 _)
  have NN : Below w.heap.size W W' := ⟨l.os, l.tape, l.output, l.size, fun k hk => l.block k (by have := h.N.size; omega) (.inl (by omega)) (by omega)⟩
  exact ⟨P1.c0, P1.c1, P1.free 0, P1.free 1, Z1.onl OF (by omega), (P1.set 0 _).set 1 _, r.onl OF (by simp), d.at' (OF.block s (by omega)) (fun h0 => OF.block g (by have := h.b3 h0; omega)), (h.N.trans NN).trans (OF.below (by omega)), h.b, h.b3⟩
set_option maxRecDepth 100000 in
theorem DaS.up70 {w W : World} {s g : Nat} {a : Option Addr} {c : Nat} {xs : List Int} {p C : Nat} {wd : Int} {v : Value} {u : Int} {m : Nat} (h : DaS w W s g a c xs p C wd v u m) (hm : m ≤ 70) : DaS w W s g a c xs p C wd v u 70 := ⟨h.Z, h.P, h.R.mono hm, h.D, h.N, h.b, h.b3⟩
set_option maxRecDepth 100000 in
set_option maxHeartbeats 16000000 in
theorem drawAsk_any (w : World) (g : Nat) (a : Option Addr) (c : Nat) (xs : List Int) (hr : Rd w g a .u8 xs) (hb : Byt xs) (hl : xs.length ≤ 1048576) :
    Calls Try.prog 4 #[.slice a xs.length c] w fun e w' => (∃ (wd : Int) (a2 : Option Addr) (l2 c2 : Nat) (a3 : Option Addr) (c3 g3 : Nat) (X : List Int) (now : Int), e = .returned (.tuple #[.agg #[.int .i64 wd, .slice a2 l2 c2], .slice a3 X.length c3, .int .i64 now]) ∧ DwR w' w.heap.size [] (.slice a2 l2 c2) 70 ∧ Rd w' g3 a3 .u8 X ∧ w.heap.size ≤ g3 ∧ Byt X) ∧ Below w.heap.size w w' := by
  obtain ⟨d1, hd1, hrow1⟩ := rowWiD
  have n0 : Below w.heap.size w (w.alloc (.cells #[.int .i64 0, .slice none 0 0] 25)) := (Below.refl _ _).alloc (Nat.le_refl _) _
  have Z0 := RwC.new w [.int .i64 0, .slice none 0 0] 25
  have z0 : (w.alloc (.cells #[.int .i64 0, .slice none 0 0] 25)).heap.size = w.heap.size + 1 := by simp
  have gl : Hid (0 < xs.length → g < w.heap.size) := fun h => hr.lt h
  go_enter Try.func4, Try.ntmps4
  go_wp2_with fail
  generalize w.alloc (.cells #[.int .i64 0, .slice none 0 0] 25) = wa at *
  have SO := l1Source_any wa a xs.length c hl
  rw [z0] at SO
  refine SO.mono ?_
  rintro e w1 ⟨rfl, S1, m1⟩
  obtain ⟨s, hs⟩ : ∃ s, s = w.heap.size + 1 := ⟨_, rfl⟩
  rw [← hs] at S1 ⊢
  have m1' := n0.trans (m1.mono (by omega))
  have D1 : Dra w1 s g a c xs 0 := ⟨S1, hr.up m1', fun h0 => by have := gl.out h0; omega, hb, hl, Int.le_refl _⟩
  have Z1 : RwC w1 w.heap.size [.int .i64 0, .slice none 0 0] 25 := (m1.block _ (by omega)).trans Z0
  have sz1 := S1.lt
  have sb : w.heap.size < s := by omega
  clear SO n0 Z0 z0 S1 m1 hr hb hs
  go_wp2_with fail
  refine (drawWindow_D D1 (by decide)).mono ?_
  rintro e w2 ⟨wd, v, u, rfl, R2, hu, D2, b2⟩
  obtain ⟨av, lv, cv, rfl, hlv, -⟩ := R2.slice
  have n3 : Below w2.heap.size w2 (w2.alloc (.cells #[.int .i64 wd, .slice av lv cv] 25)) := (Below.refl _ _).alloc (Nat.le_refl _) _
  have sz2 := b2.size
  have A3 : Hid (DaS w (w2.alloc (.cells #[.int .i64 wd, .slice av lv cv] 25)) s g a c xs w2.heap.size w1.heap.size wd (.slice av lv cv) u 64) :=
    ⟨(Z1.but b2 (by omega)).up n3, RwC.new _ _ _, (R2.shut n3 [w2.heap.size] (fun q hq => by simp at hq; exact .inl (by omega))), D2.up n3, (m1'.trans (b2.below (by omega) m1'.size)).trans (n3.mono (by have := m1'.size; omega)), ⟨sb, sz1, sz2⟩, gl.out⟩
  have hu0 : u ≤ 100 := by omega
  clear R2 D2 b2 n3 D1 Z1 m1' gl hu hlv sz2
  go_upto_region 3 with fail
  generalize w2.alloc (.cells #[.int .i64 wd, .slice av lv cv] 25) = w3 at *
  generalize w2.heap.size = p at *
  generalize w1.heap.size = C at *
  go_wp2_with fail
  refine (chance_D A3.out.D (by omega) (by decide) (by decide)).mono ?_
  rintro e w4 ⟨bb, rfl, D4, b4⟩
  have A4 := hide (A3.out.but b4 D4)
  clear A3 D4 b4
  go_upto_if 14 with fail
  go_cut [6] (fun vp wc => vp = .pointer (some ⟨p, 0, none⟩) ∧ ∃ (wd : Int) (av : Option Addr) (lv cv : Nat) (u : Int), u ≤ 300 ∧ Hid (DaS w wc s g a c xs p C wd (.slice av lv cv) u 70))
  case first =>
    cases bb with
    | false =>
      go_wp2_with fail
      go_meet
      exact ⟨rfl, wd, av, lv, cv, _, by omega, A4.out.up70 (by decide)⟩
    | true =>
      have q0 := A4.out.P.c0
      have q1 := A4.out.P.c1
      have BW := breakWindow_D A4.out.D (by omega) C [p] A4.out.b.2.1 (fun h0 => by have := A4.out.b3 h0; have := A4.out.b; omega) (by have := A4.out.b; have := A4.out.P.lt; omega) (fun q hq => by simp at hq; rw [hq]; exact A4.out.P.lt) wd av lv cv A4.out.R
      go_wp2_with fail
      refine BW.mono ?_
      rintro e w5 ⟨wd2, a2, l2, c2, u2, rfl, R5, hu5, D5, l5⟩
      obtain ⟨x0, x1, f0, f1, A5⟩ := A4.out.brk l5 wd2 (.slice a2 l2 c2) R5 D5
      clear BW q0 q1 A4 R5 D5 l5
      go_wp2_with fail
      go_meet
      exact ⟨rfl, wd2, a2, l2, c2, _, by omega, A5⟩
  case rest =>
    clear A4 hu0
    obtain ⟨rfl, wd, av, lv, cv, u, hu0, A4⟩ := hcut
    go_wp2_with fail
    refine (next_D A4.out.D (by omega) (by decide) (by decide)).mono ?_
    rintro e w5 ⟨k7, rfl, hk7, D5, b5⟩
    have A5 := hide (A4.out.but b5 D5)
    clear A4 D5 b5
    go_wp2_with fail
    refine (l16Id_any w5 k7).mono ?_
    rintro e w6 ⟨⟨vq, X0, rfl, rfl, BX, lX, yX⟩, m6⟩
    have A6 := hide (A5.out.but (But.ofBelow m6) (A5.out.D.up m6))
    have q5 : w.heap.size < w5.heap.size ∧ s < w5.heap.size := ⟨A5.out.Z.lt, A5.out.D.S.lt⟩
    clear A5 m6 hk7
    go_wp2_with fail
    refine (chance_D A6.out.D (by omega) (by decide) (by decide)).mono ?_
    rintro e w7 ⟨bb, rfl, D7, b7⟩
    have A7 := hide (A6.out.but b7 D7)
    have I7 : Hid (IdD w s w7 (.slice (some ⟨w5.heap.size, 0, none⟩) 32 32)) := ⟨_, 32, w5.heap.size, X0, by rw [lX], (BX.of_block (b7.block _ BX.lt (by omega))).own0.rd, by have := q5.1; omega, yX, by omega⟩
    clear A6 D7 b7 BX lX yX q5
    generalize w5.heap.size = q5 at *
    have q1 := A7.out.P.c1
    have A8 := A7
    have I8 := I7
    clear A7 I7
    cases bb with
    | false =>
      go_wp2_with fail
      refine (next_D A8.out.D (by omega) (by decide) (by decide)).mono ?_
      rintro e wa ⟨kn, rfl, hkn, Da, ba⟩
      have A9 := hide (A8.out.but ba Da)
      have I9 := hide (I8.out.but ba)
      have wn : IntKind.i64.wrap (30 + (kn : Int)) = 30 + (kn : Int) := by rw [IntKind.wrap_i64]; omega
      clear A8 I8 Da ba
      go_wp2_with fail
      refine (chance_D A9.out.D (by omega) (by decide) (by decide)).mono ?_
      rintro e wb ⟨cc, rfl, Db, bb'⟩
      have Aa := hide (A9.out.but bb' Db)
      have Ia := hide (I9.out.but bb')
      clear A9 I9 Db bb'
      cases cc with
      | false =>
        obtain ⟨RR, p0, p1, z0, z1, f0, f1⟩ := Aa.out.fin
        have RES := hide (Aa.out.res Ia.out)
        clear Aa Ia
        go_wp2
        exact bodyPost_ret (results_ctt Try.results4 _ _ w.heap.size _ d1 _ _ rfl rfl rfl RR.out hd1 hrow1 iWiD) rfl (RES.out _)
      | true =>
        have na : Below wb.heap.size wb (wb.alloc (.cells #[.int .i64 (-1), .int .i64 0, .int .i64 253402300799, .int .i64 253402300800] 2)) := (Below.refl _ _).alloc (Nat.le_refl _) _
        have T4 := RwC.new wb [.int .i64 (-1), .int .i64 0, .int .i64 253402300799, .int .i64 253402300800] 2
        have Ab := hide (Aa.out.but (But.ofBelow na) (Aa.out.D.up na))
        have Ib := hide (Ia.out.but (But.ofBelow na))
        have qs : s < wb.heap.size := Aa.out.D.S.lt
        clear Aa Ia na
        go_wp2_with fail
        generalize wb.alloc (.cells #[.int .i64 (-1), .int .i64 0, .int .i64 253402300799, .int .i64 253402300800] 2) = wc' at *
        generalize wb.heap.size = q4 at *
        refine (next_D Ab.out.D (by omega) (by decide) (by decide)).mono ?_
        rintro e wd' ⟨k4, rfl, hk4, Dd, bd⟩
        have Ad := hide (Ab.out.but bd Dd)
        have Id := hide (Ib.out.but bd)
        have T5 := T4.but bd (by omega)
        obtain ⟨y, hy⟩ : ∃ y : Int, wd'.cell? ⟨q4, k4, none⟩ = some (.int .i64 y) := by
          rw [T5.cell]
          obtain rfl | rfl | rfl | rfl : k4 = 0 ∨ k4 = 1 ∨ k4 = 2 ∨ k4 = 3 := by omega
          all_goals exact ⟨_, rfl⟩
        have k4' : (k4 : Int) < 4 := hk4
        obtain ⟨RR, p0, p1, z0, z1, f0, f1⟩ := Ad.out.fin
        have RES := hide (Ad.out.res Id.out)
        clear Ab Ib Dd bd Ad Id T4 T5
        go_wp2
        exact bodyPost_ret (results_ctt Try.results4 _ _ w.heap.size _ d1 _ _ rfl rfl rfl RR.out hd1 hrow1 iWiD) rfl (RES.out _)
    | true =>
      by_cases hl0 : lv = 0
      · subst hl0
        have e0 : ((0 : Nat) : Int) = 0 := rfl
        go_wp2_with fail
        refine (next_D A8.out.D (by omega) (by decide) (by decide)).mono ?_
        rintro e wa ⟨kn, rfl, hkn, Da, ba⟩
        have A9 := hide (A8.out.but ba Da)
        have I9 := hide (I8.out.but ba)
        have wn : IntKind.i64.wrap (30 + (kn : Int)) = 30 + (kn : Int) := by rw [IntKind.wrap_i64]; omega
        clear A8 I8 Da ba
        go_wp2_with fail
        refine (chance_D A9.out.D (by omega) (by decide) (by decide)).mono ?_
        rintro e wb ⟨cc, rfl, Db, bb'⟩
        have Aa := hide (A9.out.but bb' Db)
        have Ia := hide (I9.out.but bb')
        clear A9 I9 Db bb'
        cases cc with
        | false =>
          obtain ⟨RR, p0, p1, z0, z1, f0, f1⟩ := Aa.out.fin
          have RES := hide (Aa.out.res Ia.out)
          clear Aa Ia
          go_wp2
          exact bodyPost_ret (results_ctt Try.results4 _ _ w.heap.size _ d1 _ _ rfl rfl rfl RR.out hd1 hrow1 iWiD) rfl (RES.out _)
        | true =>
          have na : Below wb.heap.size wb (wb.alloc (.cells #[.int .i64 (-1), .int .i64 0, .int .i64 253402300799, .int .i64 253402300800] 2)) := (Below.refl _ _).alloc (Nat.le_refl _) _
          have T4 := RwC.new wb [.int .i64 (-1), .int .i64 0, .int .i64 253402300799, .int .i64 253402300800] 2
          have Ab := hide (Aa.out.but (But.ofBelow na) (Aa.out.D.up na))
          have Ib := hide (Ia.out.but (But.ofBelow na))
          have qs : s < wb.heap.size := Aa.out.D.S.lt
          clear Aa Ia na
          go_wp2_with fail
          generalize wb.alloc (.cells #[.int .i64 (-1), .int .i64 0, .int .i64 253402300799, .int .i64 253402300800] 2) = wc' at *
          generalize wb.heap.size = q4 at *
          refine (next_D Ab.out.D (by omega) (by decide) (by decide)).mono ?_
          rintro e wd' ⟨k4, rfl, hk4, Dd, bd⟩
          have Ad := hide (Ab.out.but bd Dd)
          have Id := hide (Ib.out.but bd)
          have T5 := T4.but bd (by omega)
          obtain ⟨y, hy⟩ : ∃ y : Int, wd'.cell? ⟨q4, k4, none⟩ = some (.int .i64 y) := by
            rw [T5.cell]
            obtain rfl | rfl | rfl | rfl : k4 = 0 ∨ k4 = 1 ∨ k4 = 2 ∨ k4 = 3 := by omega
            all_goals exact ⟨_, rfl⟩
          have k4' : (k4 : Int) < 4 := hk4
          obtain ⟨RR, p0, p1, z0, z1, f0, f1⟩ := Ad.out.fin
          have RES := hide (Ad.out.res Id.out)
          clear Ab Ib Dd bd Ad Id T4 T5
          go_wp2
          exact bodyPost_ret (results_ctt Try.results4 _ _ w.heap.size _ d1 _ _ rfl rfl rfl RR.out hd1 hrow1 iWiD) rfl (RES.out _)
      · have A7 := A8
        have I7 := I8
        clear A8 I8
        have t0 : decide ((0 : Int) < (lv : Int)) = true := decide_eq_true (by omega)
        have t0' : (0 : Int) < (lv : Int) := by omega
        have lv70 : lv ≤ 70 := by
          obtain ⟨a', l', c', e', l1, -⟩ := A7.out.R.slice
          simp only [Value.slice.injEq] at e'
          omega
        obtain ⟨gv, hav, N1⟩ : ∃ gv, av = some ⟨gv, 0, none⟩ ∧ Hid (Calls Try.prog 18 #[.pointer (some ⟨s, 0, none⟩), .int .i64 (lv : Int)] w7.drew fun e w8 => ∃ (r : Nat) (ax : Option Addr) (lx cx : Nat), e = .returned (.int .i64 (r : Int)) ∧ (r : Int) < (lv : Int) ∧ w8.cell? ⟨gv, r * 2, none⟩ = some (.slice ax lx cx) ∧ w8.cell? ⟨p, 1, none⟩ = some (.slice av lv cv) ∧
            Calls Try.prog 19 #[.slice ax lx cx] w8 fun e w9 => ∃ (a3 : Option Addr) (c3 : Nat), e = .returned (.slice a3 lx c3) ∧ Hid (Hid (IdD w s w9 (.slice a3 lx c3)) ∧ ∃ u : Int, u ≤ 310 ∧ Hid (DaS w w9 s g a c xs p C wd (.slice av lv cv) u 70))) := by
          have nd : Below w7.heap.size w7 w7.drew := (Below.refl _ _).drew
          have AA := A7.out
          obtain ⟨its, bs, R, hl7, hby, -, -⟩ := AA.R
          obtain ⟨a', c', e', -⟩ := R.slice
          simp only [Value.slice.injEq] at e'
          obtain ⟨-, e2, -⟩ := e'
          obtain ⟨gv, cv', ev, -, -, -, -, -⟩ := R.cells (by omega)
          simp only [Value.slice.injEq] at ev
          refine ⟨gv, ev.1, ?_⟩
          have D0 := AA.D.up nd
          refine (next_D D0 (by omega) (by omega) (by omega)).mono ?_
          rintro e w8 ⟨r, rfl, hr, D8, b8⟩
          have b78 := (But.ofBelow (g := s) nd).trans b8
          have A8 := AA.but b78 D8
          have hsb := AA.b
          have R8 : KRow w8 C C (.slice av lv cv) its bs := R.of (Nat.le_refl _) (fun k hk hC => b78.block k hk (by omega))
          obtain ⟨gv', cv'', ev', -, -, -, hcell, -⟩ := R8.cells (by omega)
          simp only [Value.slice.injEq] at ev'
          have eg : gv' = gv := by
            have := ev'.1.symm.trans ev.1
            simpa using this
          subst eg
          have hri : r < its.length := by omega
          have hx := R8.b r hri
          have hyx := hby r hri
          refine ⟨r, _, _, _, rfl, hr, (hcell r hri).1, A8.P.c1, ?_⟩
          generalize (its.getD r (0, [])).2 = x at *
          have lx : x.length ≤ 1099511627776 ∧ ((bs.getD r plc0).a = none → (bs.getD r plc0).c = 0) := ⟨by have := hyx.2.1; omega, hyx.2.2⟩
          refine (l1CopyM_any w8 _ _ _ x hx lx.2 lx.1).mono ?_
          rintro e w9 ⟨v9, rfl, R9, n9⟩
          obtain ⟨a3, c3, g3, rfl, O1, O2, O3, O4⟩ := R9.own
          exact ⟨a3, c3, rfl, ⟨a3, c3, g3, x, rfl, O1.rd, by have := A8.Z.lt; omega, hyx.1, by have := A8.D.S.lt; omega⟩, _, by omega, A8.but (But.ofBelow n9) (A8.D.up n9)⟩
        subst hav
        clear A7 I7
        go_wp2_with fail
        go_upto_region 7 with fail
        go_region_law (first
          | (go_simp; go_at_call 18; with_reducible refine N1.out.mono ?_; rintro e w8 ⟨r, ax, lx, cx, rfl, hr, m1, m2, N2⟩)
          | (go_simp; go_at_call 19; with_reducible refine N2.mono ?_; rintro e w9 ⟨a3, c3, rfl, FF⟩)
          | fail)
        all_goals
          clear N1 N2
          obtain ⟨I8, u8, hu8, A8⟩ := FF.out
          clear FF hu0
          go_wp2_with fail
          refine (next_D A8.out.D (by omega) (by decide) (by decide)).mono ?_
          rintro e wa ⟨kn, rfl, hkn, Da, ba⟩
          have A9 := hide (A8.out.but ba Da)
          have I9 := hide (I8.out.but ba)
          have wn : IntKind.i64.wrap (30 + (kn : Int)) = 30 + (kn : Int) := by rw [IntKind.wrap_i64]; omega
          clear A8 I8 Da ba
          go_wp2_with fail
          refine (chance_D A9.out.D (by omega) (by decide) (by decide)).mono ?_
          rintro e wb ⟨cc, rfl, Db, bb'⟩
          have Aa := hide (A9.out.but bb' Db)
          have Ia := hide (I9.out.but bb')
          clear A9 I9 Db bb'
          cases cc with
          | false =>
            obtain ⟨RR, p0, p1, z0, z1, f0, f1⟩ := Aa.out.fin
            have RES := hide (Aa.out.res Ia.out)
            clear Aa Ia
            go_wp2
            exact bodyPost_ret (results_ctt Try.results4 _ _ w.heap.size _ d1 _ _ rfl rfl rfl RR.out hd1 hrow1 iWiD) rfl (RES.out _)
          | true =>
            have na : Below wb.heap.size wb (wb.alloc (.cells #[.int .i64 (-1), .int .i64 0, .int .i64 253402300799, .int .i64 253402300800] 2)) := (Below.refl _ _).alloc (Nat.le_refl _) _
            have T4 := RwC.new wb [.int .i64 (-1), .int .i64 0, .int .i64 253402300799, .int .i64 253402300800] 2
            have Ab := hide (Aa.out.but (But.ofBelow na) (Aa.out.D.up na))
            have Ib := hide (Ia.out.but (But.ofBelow na))
            have qs : s < wb.heap.size := Aa.out.D.S.lt
            clear Aa Ia na
            go_wp2_with fail
            generalize wb.alloc (.cells #[.int .i64 (-1), .int .i64 0, .int .i64 253402300799, .int .i64 253402300800] 2) = wc' at *
            generalize wb.heap.size = q4 at *
            refine (next_D Ab.out.D (by omega) (by decide) (by decide)).mono ?_
            rintro e wd' ⟨k4, rfl, hk4, Dd, bd⟩
            have Ad := hide (Ab.out.but bd Dd)
            have Id := hide (Ib.out.but bd)
            have T5 := T4.but bd (by omega)
            obtain ⟨y, hy⟩ : ∃ y : Int, wd'.cell? ⟨q4, k4, none⟩ = some (.int .i64 y) := by
              rw [T5.cell]
              obtain rfl | rfl | rfl | rfl : k4 = 0 ∨ k4 = 1 ∨ k4 = 2 ∨ k4 = 3 := by omega
              all_goals exact ⟨_, rfl⟩
            have k4' : (k4 : Int) < 4 := hk4
            obtain ⟨RR, p0, p1, z0, z1, f0, f1⟩ := Ad.out.fin
            have RES := hide (Ad.out.res Id.out)
            clear Ab Ib Dd bd Ad Id T4 T5
            go_wp2
            exact bodyPost_ret (results_ctt Try.results4 _ _ w.heap.size _ d1 _ _ rfl rfl rfl RR.out hd1 hrow1 iWiD) rfl (RES.out _)
end Go.Proofs.Ytingekgcjnkljaa
