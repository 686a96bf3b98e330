import Derived.Test.YtingekgcjnkljaaGW22

/-
  A window that is drawn: l16DrawWindow (written by gens/wow.py).
-/
namespace Go.Proofs.Ytingekgcjnkljaa
open Go Go.RowKit

theorem all1 {P : Nat → Prop} (h : P 0) : ∀ i, i < 1 → P i := fun i hi => by
  obtain rfl : i = 0 := by omega
  exact h
theorem all2 {P : Nat → Prop} (h : P 0) (k : P 1) : ∀ i, i < 2 → P i := fun i hi => by
  obtain rfl | rfl : i = 0 ∨ i = 1 := by omega
  · exact h
  · exact k
set_option maxRecDepth 100000 in
theorem iWiD : (Try.prog.info? 25).map (·.size) = some 2 := by kernel_rfl
set_option maxRecDepth 100000 in
theorem rowWiD : ∃ d, Try.prog.underlying 25 = some d ∧ d.isRow = true := ⟨_, Try.underlying25, rfl⟩
/-- Where a drawn window stands: z the answer's box, p the window's; k marks at most; S is kept. -/
structure DwS (w wr : World) (s g : Nat) (a : Option Addr) (c : Nat) (xs : List Int) (z p C : Nat) (S : List Nat) (wd : Int) (v : Value) (k : Nat) (u : Int) : Prop where
  Z : RwC wr z [.int .i64 0, .slice none 0 0] 25
  P : RwC wr p [.int .i64 wd, v] 25
  R : DwR wr C (z :: p :: S) v k
  D : Dra wr s g a c xs u
  O : LoC C s S w wr
  b1 : w.heap.size ≤ z ∧ w.heap.size ≤ p ∧ z ≠ p ∧ C ≤ w.heap.size
  b2 : s < C
  b3 : 0 < xs.length → g < C
  b4 : ∀ q, q ∈ S → q < w.heap.size
set_option maxRecDepth 100000 in
theorem DwS.but {w wr wr' : World} {s g : Nat} {a : Option Addr} {c : Nat} {xs : List Int} {z p C : Nat} {S : List Nat} {wd : Int} {v : Value} {k : Nat} {u u' : Int} (h : DwS w wr s g a c xs z p C S wd v k u) (b : But s wr wr') (d : Dra wr' s g a c xs u') : DwS w wr' s g a c xs z p C S wd v k u' := by
  obtain ⟨h1, h2, h3, h4⟩ := h.b1
  have := h.b2
  exact ⟨h.Z.but b (by omega), h.P.but b (by omega), h.R.but b (by omega), d, h.O.but b, h.b1, h.b2, h.b3, h.b4⟩
set_option maxRecDepth 100000 in
theorem DwS.set0 {w wr : World} {s g : Nat} {a : Option Addr} {c : Nat} {xs : List Int} {z p C : Nat} {S : List Nat} {wd : Int} {v : Value} {k : Nat} {u : Int} (h : DwS w wr s g a c xs z p C S wd v k u) (n : Int) : DwS w (wr.setCell ⟨p, 0, none⟩ (.int .i64 n)) s g a c xs z p C S n v k u := by
  obtain ⟨h1, h2, h3, h4⟩ := h.b1
  have hb2 := h.b2
  have O5 := Only.setCell wr p 0 (.int .i64 n)
  exact ⟨h.Z.onl O5 h3, h.P.set 0 _, h.R.onl O5 (by simp), h.D.at' (O5.block s (by omega)) (fun h0 => O5.block g (by have := h.b3 h0; omega)), h.O.onl O5 h2, h.b1, h.b2, h.b3, h.b4⟩
set_option maxRecDepth 100000 in
/-- Marks are appended and the row stored. -/
theorem DwS.app {w wr w2 : World} {s g : Nat} {a : Option Addr} {c : Nat} {xs : List Int} {z p C : Nat} {S : List Nat} {wd : Int} {av : Option Addr} {lv cv k : Nat} {u u' : Int} (h : DwS w wr s g a c xs z p C S wd (.slice av lv cv) k u) (hk : k ≤ 1000) (b : But s wr w2) (d : Dra w2 s g a c xs u') (is2 : List (Int × List Int)) (qs : List Plc) (hqs : qs.length = is2.length) (hx : is2.length ≤ 1000) (bx : ∀ i, i < is2.length → ItO (is2.getD i (0, [])).2 (qs.getD i plc0))
    (hq : ∀ i, i < is2.length → Rd w2 (qs.getD i plc0).q (qs.getD i plc0).a .u8 (is2.getD i (0, [])).2) (hq0 : ∀ i, i < is2.length → wr.heap.size ≤ (qs.getD i plc0).q) :
    ∃ v' w4, (Builtin.append_ #[23, 23] 23 #[.slice av lv cv, .slice (some ⟨w2.heap.size, 0, none⟩) is2.length is2.length]).run Try.prog (w2.alloc (.cells (itCs is2 qs).toArray 36)) = .ok v' w4 ∧ ((∃ av' cv', v' = .slice av' (lv + is2.length) cv') ∧ w4.cell? ⟨p, 1, none⟩ = some (.slice av lv cv) ∧ w4.frozen? ⟨p, 1, none⟩ = false ∧ Hid (DwS w (w4.setCell ⟨p, 1, none⟩ v') s g a c xs z p C S wd v' (k + is2.length) u')) := by
  obtain ⟨h1, h2, h3, h4⟩ := h.b1
  have hb2 := h.b2
  have zr := h.O.size
  have zl := h.Z.lt
  have pl := h.P.lt
  have z2 := b.size
  obtain ⟨v', w4, r1, A⟩ := h.R.addN (W := w2) (fun i hi hB _ => b.block i hi (by omega)) b.size (by omega) (fun q hq => by
      rcases List.mem_cons.1 hq with rfl | hq
      · exact zl
      · rcases List.mem_cons.1 hq with rfl | hq
        · exact pl
        · have := h.b4 q hq; omega) hk is2 qs hqs hx bx hq hq0
  have A' := A
  obtain ⟨r2, r3, r4, r5⟩ := A
  have Z4 : RwC w4 z [.int .i64 0, .slice none 0 0] 25 := (r5 z (by omega) (.inr (by simp))).trans (h.Z.but b (by omega))
  have P4 : RwC w4 p [.int .i64 wd, .slice av lv cv] 25 := (r5 p (by omega) (.inr (by simp))).trans (h.P.but b (by omega))
  have O5 := Only.setCell w4 p 1 v'
  have z4 := r4.size
  exact ⟨v', w4, r1, r3 _ _ _ rfl, P4.c1, P4.free 1, Z4.onl O5 h3, P4.set 1 v', r2.onl O5 (by simp), (d.at' (r5 s d.S.lt (.inl hb2)) (fun h0 => r5 g (d.R.lt h0) (.inl (h.b3 h0)))).at' (O5.block s (by omega)) (fun h0 => O5.block g (by have := h.b3 h0; omega)), ((h.O.but b).app A' (fun q hq => by simp [hq])).onl O5 h2, h.b1, hb2, h.b3, h.b4⟩
set_option maxRecDepth 100000 in
set_option maxHeartbeats 8000000 in
theorem drawWindow_D {w : World} {s g : Nat} {a : Option Addr} {c : Nat} {xs : List Int} {t : Int} (d : Dra w s g a c xs t) (t1 : t ≤ 1000) :
    Calls Try.prog 14 #[.pointer (some ⟨s, 0, none⟩)] w fun e w' => ∃ (wd : Int) (v : Value) (u : Int), e = .returned (.agg #[.int .i64 wd, v]) ∧ DwR w' w.heap.size [] v 64 ∧ u ≤ t + 100 ∧ Dra w' s g a c xs u ∧ But s w w' := by
  obtain ⟨d1, hd1, hrow1⟩ := rowWiD
  have n0 : Below w.heap.size w (w.alloc (.cells #[.int .i64 0, .slice none 0 0] 25)) := (Below.refl _ _).alloc (Nat.le_refl _) _
  have Z0 := RwC.new w [.int .i64 0, .slice none 0 0] 25
  have D0 := d.up n0
  have sl := d.S.lt
  have gl : Hid (0 < xs.length → g < w.heap.size) := fun h => d.R.lt h
  have z0 : (w.alloc (.cells #[.int .i64 0, .slice none 0 0] 25)).heap.size = w.heap.size + 1 := by simp
  clear d
  go_enter Try.func14, Try.ntmps14
  go_wp2_with fail
  generalize w.alloc (.cells #[.int .i64 0, .slice none 0 0] 25) = wa at *
  refine (next_D D0 (by omega) (by decide) (by decide)).mono ?_
  rintro e w1 ⟨r, rfl, hr, D1, b1⟩
  have n1 : Below w1.heap.size w1 (w1.alloc (.cells #[.int .i64 (r : Int), .slice none 0 0] 25)) := (Below.refl _ _).alloc (Nat.le_refl _) _
  have z1 : (w1.alloc (.cells #[.int .i64 (r : Int), .slice none 0 0] 25)).heap.size = w1.heap.size + 1 := by simp
  have zb := b1.size
  have S0 : Hid (DwS w (w1.alloc (.cells #[.int .i64 (r : Int), .slice none 0 0] 25)) s g a c xs w.heap.size w1.heap.size w.heap.size [] r (.slice none 0 0) 0 (t + 1)) :=
    ⟨(Z0.but b1 (by omega)).up n1, RwC.new _ _ _, DwR.nil _ _ _ _, D1.up n1, (((LoC.refl _ _ _ _).below n0).but b1).below n1, ⟨by omega, by omega, by omega, by omega⟩, sl, gl.out, fun q h => by simp at h⟩
  have pz : w.heap.size < w1.heap.size := by omega
  clear n0 Z0 D0 z0 D1 b1 n1 z1 zb gl hr
  go_upto_region 2 with fail
  generalize w1.alloc (.cells #[.int .i64 (r : Int), .slice none 0 0] 25) = W1 at *
  generalize w1.heap.size = p at *
  generalize (r : Int) = wd0 at *
  go_wp2_with fail
  refine (next_D S0.out.D (by omega) (by decide) (by decide)).mono ?_
  rintro e w2 ⟨k6, rfl, hk6, D2, b2⟩
  have S2 := hide (S0.out.but b2 D2)
  clear S0 D2 b2
  go_wp2_with fail
  refine (chance_D S2.out.D (by omega) (by decide) (by decide)).mono ?_
  rintro e w3 ⟨bb, rfl, D3, b3⟩
  have S3 := hide (S2.out.but b3 D3)
  clear S2 D3 b3
  have N0 : ∃ (n : Nat), n ≤ 64 ∧ n = k6 := ⟨k6, by omega, rfl⟩
  cases bb with
  | true =>
    go_wp2_with fail
    refine (next_D S3.out.D (by omega) (by decide) (by decide)).mono ?_
    rintro e w4 ⟨k2, rfl, hk2, D4, b4⟩
    have S4 := hide (S3.out.but b4 D4)
    clear S3 D4 b4 N0
    obtain ⟨n, hn⟩ : ∃ n : Nat, n = 64 - k2 := ⟨_, rfl⟩
    have n64 : n ≤ 64 := by omega
    have wn : IntKind.i64.wrap (64 - (k2 : Int)) = (n : Int) := by rw [IntKind.wrap_i64]; omega
    have wn' : 64 - (k2 : Int) = (n : Int) := by omega
    clear hn
    go_upto_region 5 with fail
    try rw [wn']
    clear wn wn' hk2 hk6
    generalize hu : t + 1 + 1 + 1 + 1 = u0 at *
    have hu0 : u0 ≤ t + 4 := by omega
    clear hu
    go_upto_region 6 with fail
    go_loopw [5] (fun i wr => ∃ (k : Nat) (v : Value) (u : Int), i = .int .i64 (k : Int) ∧ k ≤ n ∧ u ≤ t + 4 + k ∧ (∃ av lv cv, v = .slice av lv cv) ∧ Hid (DwS w wr s g a c xs w.heap.size p w.heap.size [] wd0 v k u)) (fun i _ => n - (intOf i).toNat)
    case atStart => exact ⟨0, _, u0, rfl, Nat.zero_le _, by omega, ⟨_, _, _, rfl⟩, S4⟩
    case round =>
      clear S4
      obtain ⟨k, v, u, rfl, hk, hu, ⟨av, lv, cv, rfl⟩, S⟩ := hrel
      by_cases hlt : k < n
      · have k0 : (k : Int) < (n : Int) := by omega
        have k1 : decide ((k : Int) < (n : Int)) = true := by simp; omega
        have k2 : IntKind.i64.wrap ((k : Int) + 1) = ((k + 1 : Nat) : Int) := by rw [IntKind.wrap_i64]; omega
        have N1 : Hid (Calls Try.prog 17 #[.int .i64 (k : Int)] wr.drew fun e w1 => ∃ q : Nat, e = .returned (.slice (some ⟨q, 0, none⟩) 32 32) ∧ w1.cell? ⟨p, 1, none⟩ = some (.slice av lv cv) ∧ Calls Try.prog 18 #[.pointer (some ⟨s, 0, none⟩), .int .i64 60] w1 fun e w2 => ∃ r2 : Int, e = .returned (.int .i64 r2) ∧ IntKind.i64.wrap (40 + r2) = 40 + r2 ∧ w2.cell? ⟨p, 1, none⟩ = some (.slice av lv cv) ∧ (w2.alloc (.cells #[.slice (some ⟨q, 0, none⟩) 32 32, .int .i64 (40 + r2)] 36)).cell? ⟨p, 1, none⟩ = some (.slice av lv cv) ∧
            ∃ v' w4, (Builtin.append_ #[23, 23] 23 #[.slice av lv cv, .slice (some ⟨w2.heap.size, 0, none⟩) 1 1]).run Try.prog (w2.alloc (.cells #[.slice (some ⟨q, 0, none⟩) 32 32, .int .i64 (40 + r2)] 36)) = .ok v' w4 ∧ ((∃ av' cv', v' = .slice av' (lv + 1) cv') ∧ w4.cell? ⟨p, 1, none⟩ = some (.slice av lv cv) ∧ w4.frozen? ⟨p, 1, none⟩ = false ∧ Hid (DwS w (w4.setCell ⟨p, 1, none⟩ v') s g a c xs w.heap.size p w.heap.size [] wd0 v' (k + 1) (u + 1)))) := by
          have nd : Below wr.heap.size wr wr.drew := (Below.refl _ _).drew
          have SS := S.out
          refine (l16Id_any wr.drew k).mono ?_
          rintro e w1 ⟨⟨vq, X, rfl, rfl, BX, lX, yX⟩, m1⟩
          have m1' : Below wr.heap.size wr w1 := nd.trans m1
          have S1 := SS.but (But.ofBelow m1') (SS.D.up m1')
          refine ⟨_, rfl, S1.P.c1, ?_⟩
          refine (next_D S1.D (by omega) (by decide) (by decide)).mono ?_
          rintro e w2 ⟨r2, rfl, hr2, D2, b2⟩
          have b12 := (But.ofBelow m1').trans b2
          have S2 := S1.but b2 D2
          have sl2 := SS.b2
          have o := SS.b1
          have zz := SS.O.size
          have BX2 : Blk w2 wr.heap.size .u8 X := BX.of_block (b2.block wr.heap.size BX.lt (by omega))
          have AP := SS.app (by omega) b12 D2 [(40 + (r2 : Int), X)] [⟨some ⟨wr.heap.size, 0, none⟩, 32, wr.heap.size⟩] rfl (by simp) (all1 (P := fun i => ItO ([(40 + (r2 : Int), X)].getD i (0, [])).2 ([(⟨some ⟨wr.heap.size, 0, none⟩, 32, wr.heap.size⟩ : Plc)].getD i plc0)) ⟨yX, by show X.length ≤ 100; omega, fun e => by cases e⟩) (all1 (P := fun i => Rd w2 ([(⟨some ⟨wr.heap.size, 0, none⟩, 32, wr.heap.size⟩ : Plc)].getD i plc0).q ([(⟨some ⟨wr.heap.size, 0, none⟩, 32, wr.heap.size⟩ : Plc)].getD i plc0).a .u8 ([(40 + (r2 : Int), X)].getD i (0, [])).2) BX2.own0.rd) (all1 (P := fun i => wr.heap.size ≤ ([(⟨some ⟨wr.heap.size, 0, none⟩, 32, wr.heap.size⟩ : Plc)].getD i plc0).q) (Nat.le_refl _))
          rw [show itCs [(40 + (r2 : Int), X)] [⟨some ⟨wr.heap.size, 0, none⟩, 32, wr.heap.size⟩] = [.slice (some ⟨wr.heap.size, 0, none⟩) X.length 32, .int .i64 (40 + (r2 : Int))] from rfl, lX] at AP
          exact ⟨_, rfl, by rw [IntKind.wrap_i64]; omega, S2.P.c1, (S2.P.push _).c1, AP⟩
        have t11 : wr.cell? ⟨p, 1, none⟩ = some (.slice av lv cv) := S.out.P.c1
        clear S
        go_upto_region 8 with fail
        go_region_law (first
          | (go_simp; go_at_call 17; refine N1.out.mono ?_; rintro e w1 ⟨q, rfl, m1, N2⟩)
          | (go_simp; go_at_call 18; refine N2.mono ?_; rintro e w2 ⟨r2, rfl, w40, m2, m4, AP⟩)
          | (refine step_append_exB rfl (.tmp 22) (.tmp 29) 23 23 rfl (.slice av lv cv) (.slice (some ⟨w2.heap.size, 0, none⟩) 1 1) rfl rfl _ AP ?_; rintro v3 w4 ⟨⟨av', cv', rfl⟩, m5, f5, FF⟩)
          | fail)
        all_goals
          clear N1 N2 AP m1 m2 m4 t11
          go_wp2
          go_roundw
          case rel => exact ⟨k + 1, _, _, rfl, by omega, by omega, ⟨_, _, _, rfl⟩, FF⟩
          case measure => simp [intOf]; omega
      · have hkn : k = n := by omega
        subst hkn
        have k1 : decide ((k : Int) < (k : Int)) = false := by simp
        go_wp2_with fail
        refine (chance_D S.out.D (by omega) (by decide) (by decide)).mono ?_
        rintro e w5 ⟨b5, rfl, D5, b5'⟩
        have S5 := hide (S.out.but b5' D5)
        clear S D5 b5'
        cases b5 with
        | false =>
          have P5 := S5.out.P
          have Z5 := S5.out.Z
          have c0 := P5.c0
          have c1 := P5.c1
          have c2 := Z5.c0
          have c3 := Z5.c1
          have f0 := Z5.free 0
          have f1 := Z5.free 1
          have o := S5.out.b1
          have RR : Hid (World.rangeAt ((w5.setCell ⟨w.heap.size, 0, none⟩ (.int .i64 wd0)).setCell ⟨w.heap.size, 1, none⟩ (.slice av lv cv)) w.heap.size 0 [.int .i64 wd0, .slice av lv cv]) := ((Z5.set 0 _).set 1 _).rangeG
          have OF : Hid (Only w.heap.size w5 ((w5.setCell ⟨w.heap.size, 0, none⟩ (.int .i64 wd0)).setCell ⟨w.heap.size, 1, none⟩ (.slice av lv cv))) := (Only.setCell _ _ 0 _).trans (Only.setCell _ _ 1 _)
          clear P5 Z5 o
          go_wp2
          exact bodyPost_ret (v := .agg #[.int .i64 wd0, .slice av lv cv]) (results_cellG Try.results14 _ _ w.heap.size _ d1 rfl RR.out hd1 hrow1 iWiD) rfl ⟨_, _, u + 1, rfl, ((S5.out.R.onl OF.out (by simp)).mono n64).shut0, by omega, S5.out.D.at' (OF.out.block s (by have := S5.out.b2; omega)) (fun h0 => OF.out.block g (by have := S5.out.b3 h0; omega)), (S5.out.O.onl OF.out (Nat.le_refl _)).toBut⟩
        | true =>
          go_wp2_with fail
          refine (next_D S5.out.D (by omega) (by decide) (by decide)).mono ?_
          rintro e w6 ⟨k3, rfl, hk3, D6, b6⟩
          have S6 := hide (S5.out.but b6 D6)
          clear S5 D6 b6
          obtain ⟨wd1, hw1⟩ : ∃ x : Int, x = 86399 + (k3 : Int) := ⟨_, rfl⟩
          have wn : IntKind.i64.wrap (86399 + (k3 : Int)) = wd1 := by rw [IntKind.wrap_i64]; omega
          have wn' : wrap64 (86399 + (k3 : Int)) = wd1 := by unfold wrap64; omega
          clear hw1
          have P6 := S6.out.P
          have Z6 := S6.out.Z
          have c0 := P6.c0
          have c1 := P6.c1
          have fp := P6.free 0
          have o := S6.out.b1
          have O7 := Only.setCell w6 p 0 (.int .i64 wd1)
          have P7 := P6.set 0 (.int .i64 wd1)
          have Z7 := Z6.onl O7 (by omega)
          have d0 := P7.c0
          have d1' := P7.c1
          have c2 := Z7.c0
          have c3 := Z7.c1
          have f0 := Z7.free 0
          have f1 := Z7.free 1
          have RR : Hid (World.rangeAt (((w6.setCell ⟨p, 0, none⟩ (.int .i64 wd1)).setCell ⟨w.heap.size, 0, none⟩ (.int .i64 wd1)).setCell ⟨w.heap.size, 1, none⟩ (.slice av lv cv)) w.heap.size 0 [.int .i64 wd1, .slice av lv cv]) := ((Z7.set 0 _).set 1 _).rangeG
          have OF : Hid (Only w.heap.size (w6.setCell ⟨p, 0, none⟩ (.int .i64 wd1)) (((w6.setCell ⟨p, 0, none⟩ (.int .i64 wd1)).setCell ⟨w.heap.size, 0, none⟩ (.int .i64 wd1)).setCell ⟨w.heap.size, 1, none⟩ (.slice av lv cv))) := (Only.setCell _ _ 0 _).trans (Only.setCell _ _ 1 _)
          have S7 := hide (S6.out.set0 wd1)
          clear P6 Z6 P7 Z7 O7 S6 hk3 o
          go_wp2
          exact bodyPost_ret (v := .agg #[.int .i64 wd1, .slice av lv cv]) (results_cellG Try.results14 _ _ w.heap.size _ d1 rfl RR.out hd1 hrow1 iWiD) rfl ⟨_, _, u + 1 + 1, rfl, ((S7.out.R.onl OF.out (by simp)).mono n64).shut0, by omega, S7.out.D.at' (OF.out.block s (by have := S7.out.b2; omega)) (fun h0 => OF.out.block g (by have := S7.out.b3 h0; omega)), (S7.out.O.onl OF.out (Nat.le_refl _)).toBut⟩
  | false =>
    obtain ⟨n, n64, hn⟩ := N0
    rw [← hn]
    clear hn hk6
    have S4 := S3
    clear S3
    generalize hu : t + 1 + 1 + 1 = u0 at *
    have hu0 : u0 ≤ t + 4 := by omega
    clear hu
    have w4e : ∃ w4, w4 = w3 := ⟨_, rfl⟩
    obtain ⟨w4, he⟩ := w4e
    rw [← he] at S4 ⊢
    clear he
    go_upto_region 6 with fail
    go_loopw [5] (fun i wr => ∃ (k : Nat) (v : Value) (u : Int), i = .int .i64 (k : Int) ∧ k ≤ n ∧ u ≤ t + 4 + k ∧ (∃ av lv cv, v = .slice av lv cv) ∧ Hid (DwS w wr s g a c xs w.heap.size p w.heap.size [] wd0 v k u)) (fun i _ => n - (intOf i).toNat)
    case atStart => exact ⟨0, _, u0, rfl, Nat.zero_le _, by omega, ⟨_, _, _, rfl⟩, S4⟩
    case round =>
      clear S4
      obtain ⟨k, v, u, rfl, hk, hu, ⟨av, lv, cv, rfl⟩, S⟩ := hrel
      by_cases hlt : k < n
      · have k0 : (k : Int) < (n : Int) := by omega
        have k1 : decide ((k : Int) < (n : Int)) = true := by simp; omega
        have k2 : IntKind.i64.wrap ((k : Int) + 1) = ((k + 1 : Nat) : Int) := by rw [IntKind.wrap_i64]; omega
        have N1 : Hid (Calls Try.prog 17 #[.int .i64 (k : Int)] wr.drew fun e w1 => ∃ q : Nat, e = .returned (.slice (some ⟨q, 0, none⟩) 32 32) ∧ w1.cell? ⟨p, 1, none⟩ = some (.slice av lv cv) ∧ Calls Try.prog 18 #[.pointer (some ⟨s, 0, none⟩), .int .i64 60] w1 fun e w2 => ∃ r2 : Int, e = .returned (.int .i64 r2) ∧ IntKind.i64.wrap (40 + r2) = 40 + r2 ∧ w2.cell? ⟨p, 1, none⟩ = some (.slice av lv cv) ∧ (w2.alloc (.cells #[.slice (some ⟨q, 0, none⟩) 32 32, .int .i64 (40 + r2)] 36)).cell? ⟨p, 1, none⟩ = some (.slice av lv cv) ∧
            ∃ v' w4, (Builtin.append_ #[23, 23] 23 #[.slice av lv cv, .slice (some ⟨w2.heap.size, 0, none⟩) 1 1]).run Try.prog (w2.alloc (.cells #[.slice (some ⟨q, 0, none⟩) 32 32, .int .i64 (40 + r2)] 36)) = .ok v' w4 ∧ ((∃ av' cv', v' = .slice av' (lv + 1) cv') ∧ w4.cell? ⟨p, 1, none⟩ = some (.slice av lv cv) ∧ w4.frozen? ⟨p, 1, none⟩ = false ∧ Hid (DwS w (w4.setCell ⟨p, 1, none⟩ v') s g a c xs w.heap.size p w.heap.size [] wd0 v' (k + 1) (u + 1)))) := by
          have nd : Below wr.heap.size wr wr.drew := (Below.refl _ _).drew
          have SS := S.out
          refine (l16Id_any wr.drew k).mono ?_
          rintro e w1 ⟨⟨vq, X, rfl, rfl, BX, lX, yX⟩, m1⟩
          have m1' : Below wr.heap.size wr w1 := nd.trans m1
          have S1 := SS.but (But.ofBelow m1') (SS.D.up m1')
          refine ⟨_, rfl, S1.P.c1, ?_⟩
          refine (next_D S1.D (by omega) (by decide) (by decide)).mono ?_
          rintro e w2 ⟨r2, rfl, hr2, D2, b2⟩
          have b12 := (But.ofBelow m1').trans b2
          have S2 := S1.but b2 D2
          have sl2 := SS.b2
          have o := SS.b1
          have zz := SS.O.size
          have BX2 : Blk w2 wr.heap.size .u8 X := BX.of_block (b2.block wr.heap.size BX.lt (by omega))
          have AP := SS.app (by omega) b12 D2 [(40 + (r2 : Int), X)] [⟨some ⟨wr.heap.size, 0, none⟩, 32, wr.heap.size⟩] rfl (by simp) (all1 (P := fun i => ItO ([(40 + (r2 : Int), X)].getD i (0, [])).2 ([(⟨some ⟨wr.heap.size, 0, none⟩, 32, wr.heap.size⟩ : Plc)].getD i plc0)) ⟨yX, by show X.length ≤ 100; omega, fun e => by cases e⟩) (all1 (P := fun i => Rd w2 ([(⟨some ⟨wr.heap.size, 0, none⟩, 32, wr.heap.size⟩ : Plc)].getD i plc0).q ([(⟨some ⟨wr.heap.size, 0, none⟩, 32, wr.heap.size⟩ : Plc)].getD i plc0).a .u8 ([(40 + (r2 : Int), X)].getD i (0, [])).2) BX2.own0.rd) (all1 (P := fun i => wr.heap.size ≤ ([(⟨some ⟨wr.heap.size, 0, none⟩, 32, wr.heap.size⟩ : Plc)].getD i plc0).q) (Nat.le_refl _))
          rw [show itCs [(40 + (r2 : Int), X)] [⟨some ⟨wr.heap.size, 0, none⟩, 32, wr.heap.size⟩] = [.slice (some ⟨wr.heap.size, 0, none⟩) X.length 32, .int .i64 (40 + (r2 : Int))] from rfl, lX] at AP
          exact ⟨_, rfl, by rw [IntKind.wrap_i64]; omega, S2.P.c1, (S2.P.push _).c1, AP⟩
        have t11 : wr.cell? ⟨p, 1, none⟩ = some (.slice av lv cv) := S.out.P.c1
        clear S
        go_upto_region 8 with fail
        go_region_law (first
          | (go_simp; go_at_call 17; refine N1.out.mono ?_; rintro e w1 ⟨q, rfl, m1, N2⟩)
          | (go_simp; go_at_call 18; refine N2.mono ?_; rintro e w2 ⟨r2, rfl, w40, m2, m4, AP⟩)
          | (refine step_append_exB rfl (.tmp 22) (.tmp 29) 23 23 rfl (.slice av lv cv) (.slice (some ⟨w2.heap.size, 0, none⟩) 1 1) rfl rfl _ AP ?_; rintro v3 w4 ⟨⟨av', cv', rfl⟩, m5, f5, FF⟩)
          | fail)
        all_goals
          clear N1 N2 AP m1 m2 m4 t11
          go_wp2
          go_roundw
          case rel => exact ⟨k + 1, _, _, rfl, by omega, by omega, ⟨_, _, _, rfl⟩, FF⟩
          case measure => simp [intOf]; omega
      · have hkn : k = n := by omega
        subst hkn
        have k1 : decide ((k : Int) < (k : Int)) = false := by simp
        go_wp2_with fail
        refine (chance_D S.out.D (by omega) (by decide) (by decide)).mono ?_
        rintro e w5 ⟨b5, rfl, D5, b5'⟩
        have S5 := hide (S.out.but b5' D5)
        clear S D5 b5'
        cases b5 with
        | false =>
          have P5 := S5.out.P
          have Z5 := S5.out.Z
          have c0 := P5.c0
          have c1 := P5.c1
          have c2 := Z5.c0
          have c3 := Z5.c1
          have f0 := Z5.free 0
          have f1 := Z5.free 1
          have o := S5.out.b1
          have RR : Hid (World.rangeAt ((w5.setCell ⟨w.heap.size, 0, none⟩ (.int .i64 wd0)).setCell ⟨w.heap.size, 1, none⟩ (.slice av lv cv)) w.heap.size 0 [.int .i64 wd0, .slice av lv cv]) := ((Z5.set 0 _).set 1 _).rangeG
          have OF : Hid (Only w.heap.size w5 ((w5.setCell ⟨w.heap.size, 0, none⟩ (.int .i64 wd0)).setCell ⟨w.heap.size, 1, none⟩ (.slice av lv cv))) := (Only.setCell _ _ 0 _).trans (Only.setCell _ _ 1 _)
          clear P5 Z5 o
          go_wp2
          exact bodyPost_ret (v := .agg #[.int .i64 wd0, .slice av lv cv]) (results_cellG Try.results14 _ _ w.heap.size _ d1 rfl RR.out hd1 hrow1 iWiD) rfl ⟨_, _, u + 1, rfl, ((S5.out.R.onl OF.out (by simp)).mono n64).shut0, by omega, S5.out.D.at' (OF.out.block s (by have := S5.out.b2; omega)) (fun h0 => OF.out.block g (by have := S5.out.b3 h0; omega)), (S5.out.O.onl OF.out (Nat.le_refl _)).toBut⟩
        | true =>
          go_wp2_with fail
          refine (next_D S5.out.D (by omega) (by decide) (by decide)).mono ?_
          rintro e w6 ⟨k3, rfl, hk3, D6, b6⟩
          have S6 := hide (S5.out.but b6 D6)
          clear S5 D6 b6
          obtain ⟨wd1, hw1⟩ : ∃ x : Int, x = 86399 + (k3 : Int) := ⟨_, rfl⟩
          have wn : IntKind.i64.wrap (86399 + (k3 : Int)) = wd1 := by rw [IntKind.wrap_i64]; omega
          have wn' : wrap64 (86399 + (k3 : Int)) = wd1 := by unfold wrap64; omega
          clear hw1
          have P6 := S6.out.P
          have Z6 := S6.out.Z
          have c0 := P6.c0
          have c1 := P6.c1
          have fp := P6.free 0
          have o := S6.out.b1
          have O7 := Only.setCell w6 p 0 (.int .i64 wd1)
          have P7 := P6.set 0 (.int .i64 wd1)
          have Z7 := Z6.onl O7 (by omega)
          have d0 := P7.c0
          have d1' := P7.c1
          have c2 := Z7.c0
          have c3 := Z7.c1
          have f0 := Z7.free 0
          have f1 := Z7.free 1
          have RR : Hid (World.rangeAt (((w6.setCell ⟨p, 0, none⟩ (.int .i64 wd1)).setCell ⟨w.heap.size, 0, none⟩ (.int .i64 wd1)).setCell ⟨w.heap.size, 1, none⟩ (.slice av lv cv)) w.heap.size 0 [.int .i64 wd1, .slice av lv cv]) := ((Z7.set 0 _).set 1 _).rangeG
          have OF : Hid (Only w.heap.size (w6.setCell ⟨p, 0, none⟩ (.int .i64 wd1)) (((w6.setCell ⟨p, 0, none⟩ (.int .i64 wd1)).setCell ⟨w.heap.size, 0, none⟩ (.int .i64 wd1)).setCell ⟨w.heap.size, 1, none⟩ (.slice av lv cv))) := (Only.setCell _ _ 0 _).trans (Only.setCell _ _ 1 _)
          have S7 := hide (S6.out.set0 wd1)
          clear P6 Z6 P7 Z7 O7 S6 hk3 o
          go_wp2
          exact bodyPost_ret (v := .agg #[.int .i64 wd1, .slice av lv cv]) (results_cellG Try.results14 _ _ w.heap.size _ d1 rfl RR.out hd1 hrow1 iWiD) rfl ⟨_, _, u + 1 + 1, rfl, ((S7.out.R.onl OF.out (by simp)).mono n64).shut0, by omega, S7.out.D.at' (OF.out.block s (by have := S7.out.b2; omega)) (fun h0 => OF.out.block g (by have := S7.out.b3 h0; omega)), (S7.out.O.onl OF.out (Nat.le_refl _)).toBut⟩
end Go.Proofs.Ytingekgcjnkljaa
