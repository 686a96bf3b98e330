import Derived.Test.YtingekgcjnkljaaGWxWoW

/-
  A drawn window that is broken: l16BreakWindow (written by gens/wob.py).
-/
namespace Go.Proofs.Ytingekgcjnkljaa
open Go Go.RowKit

set_option maxRecDepth 100000 in
theorem DwS.mono {w wr : World} {s g : Nat} {a : Option Addr} {c : Nat} {xs : List Int} {z p C : Nat} {S : List Nat} {wd : Int} {v : Value} {k k' : Nat} {u : Int} (h : DwS w wr s g a c xs z p C S wd v k u) (hk : k ≤ k') : DwS w wr s g a c xs z p C S wd v k' u :=
  ⟨h.Z, h.P, h.R.mono hk, h.D, h.O, h.b1, h.b2, h.b3, h.b4⟩
set_option maxRecDepth 100000 in
/-- One mark of an id that was made. -/
theorem DwS.one {w wr w2 : World} {s g : Nat} {a : Option Addr} {c : Nat} {xs : List Int} {z p C : Nat} {S : List Nat} {wd : Int} {av : Option Addr} {lv cv k : Nat} {u u' : Int} (h : DwS w wr s g a c xs z p C S wd (.slice av lv cv) k u) (hk : k ≤ 1000) (b : But s wr w2) (d : Dra w2 s g a c xs u') (X : List Int) (ax : Option Addr) (cx q : Nat) (yX : ItO X ⟨ax, cx, q⟩) (rX : Rd w2 q ax .u8 X) (hq : wr.heap.size ≤ q) (un : Int) :
    ∃ v' w4, (Builtin.append_ #[23, 23] 23 #[.slice av lv cv, .slice (some ⟨w2.heap.size, 0, none⟩) 1 1]).run Try.prog (w2.alloc (.cells #[.slice ax X.length cx, .int .i64 un] 36)) = .ok v' w4 ∧ ((∃ av' cv', v' = .slice av' (lv + 1) cv') ∧ w4.cell? ⟨p, 1, none⟩ = some (.slice av lv cv) ∧ w4.frozen? ⟨p, 1, none⟩ = false ∧ Hid (DwS w (w4.setCell ⟨p, 1, none⟩ v') s g a c xs z p C S wd v' (k + 1) u')) :=
  h.app hk b d [(un, X)] [⟨ax, cx, q⟩] rfl (by simp) (all1 (P := fun i => ItO ([(un, X)].getD i (0, [])).2 ([(⟨ax, cx, q⟩ : Plc)].getD i plc0)) yX) (all1 (P := fun i => Rd w2 ([(⟨ax, cx, q⟩ : Plc)].getD i plc0).q ([(⟨ax, cx, q⟩ : Plc)].getD i plc0).a .u8 ([(un, X)].getD i (0, [])).2) rX) (all1 (P := fun i => wr.heap.size ≤ ([(⟨ax, cx, q⟩ : Plc)].getD i plc0).q) hq)
set_option maxRecDepth 100000 in
theorem DwS.two {w wr w2 : World} {s g : Nat} {a : Option Addr} {c : Nat} {xs : List Int} {z p C : Nat} {S : List Nat} {wd : Int} {av : Option Addr} {lv cv k : Nat} {u u' : Int} (h : DwS w wr s g a c xs z p C S wd (.slice av lv cv) k u) (hk : k ≤ 1000) (b : But s wr w2) (d : Dra w2 s g a c xs u') (X Y : List Int) (ax ay : Option Addr) (cx cy q r : Nat) (yX : ItO X ⟨ax, cx, q⟩) (yY : ItO Y ⟨ay, cy, r⟩) (rX : Rd w2 q ax .u8 X) (rY : Rd w2 r ay .u8 Y) (hq : wr.heap.size ≤ q) (hr : wr.heap.size ≤ r) (un vn : Int) :
    ∃ v' w4, (Builtin.append_ #[23, 23] 23 #[.slice av lv cv, .slice (some ⟨w2.heap.size, 0, none⟩) 2 2]).run Try.prog (w2.alloc (.cells #[.slice ax X.length cx, .int .i64 un, .slice ay Y.length cy, .int .i64 vn] 36)) = .ok v' w4 ∧ ((∃ av' cv', v' = .slice av' (lv + 2) cv') ∧ w4.cell? ⟨p, 1, none⟩ = some (.slice av lv cv) ∧ w4.frozen? ⟨p, 1, none⟩ = false ∧ Hid (DwS w (w4.setCell ⟨p, 1, none⟩ v') s g a c xs z p C S wd v' (k + 2) u')) :=
  h.app hk b d [(un, X), (vn, Y)] [⟨ax, cx, q⟩, ⟨ay, cy, r⟩] rfl (by simp) (all2 (P := fun i => ItO ([(un, X), (vn, Y)].getD i (0, [])).2 ([(⟨ax, cx, q⟩ : Plc), ⟨ay, cy, r⟩].getD i plc0)) yX yY) (all2 (P := fun i => Rd w2 ([(⟨ax, cx, q⟩ : Plc), ⟨ay, cy, r⟩].getD i plc0).q ([(⟨ax, cx, q⟩ : Plc), ⟨ay, cy, r⟩].getD i plc0).a .u8 ([(un, X), (vn, Y)].getD i (0, [])).2) rX rY) (all2 (P := fun i => wr.heap.size ≤ ([(⟨ax, cx, q⟩ : Plc), ⟨ay, cy, r⟩].getD i plc0).q) hq hr)
/-- How long the row is that a box's second cell tells. -/
def lenAt (w : World) (p : Nat) : Nat := match w.cell? ⟨p, 1, none⟩ with
  | some (.slice _ l _) => l
  | _ => 0
set_option maxRecDepth 100000 in
/-- No row is longer than it is told. -/
theorem DwS.len {w wr : World} {s g : Nat} {a : Option Addr} {c : Nat} {xs : List Int} {z p C : Nat} {S : List Nat} {wd : Int} {av : Option Addr} {lv cv : Nat} {k m : Nat} {u : Int} (h : DwS w wr s g a c xs z p C S wd (.slice av lv cv) k u) (hk : lv ≤ m) : DwS w wr s g a c xs z p C S wd (.slice av lv cv) m u := by
  obtain ⟨its, bs, R, l, b, e⟩ := h.R
  obtain ⟨a', c', e', -⟩ := R.slice
  simp only [Value.slice.injEq] at e'
  exact ⟨h.Z, h.P, ⟨its, bs, R, by omega, b, e⟩, h.D, h.O, h.b1, h.b2, h.b3, h.b4⟩
set_option maxRecDepth 100000 in
set_option maxHeartbeats 16000000 in
theorem breakWindow_D {w : World} {s g : Nat} {a : Option Addr} {c : Nat} {xs : List Int} {t : Int} (d : Dra w s g a c xs t) (t1 : t ≤ 1000) (C : Nat) (S : List Nat) (hsC : s < C) (hgC : 0 < xs.length → g < C) (hC : C ≤ w.heap.size) (hS : ∀ q, q ∈ S → q < w.heap.size) (wd : Int) (av : Option Addr) (lv cv : Nat) (hv : DwR w C S (.slice av lv cv) 64) :
    Calls Try.prog 16 #[.pointer (some ⟨s, 0, none⟩), .agg #[.int .i64 wd, .slice av lv cv]] w fun e w' => ∃ (wd : Int) (a2 : Option Addr) (l2 c2 : Nat) (u : Int), e = .returned (.agg #[.int .i64 wd, .slice a2 l2 c2]) ∧ DwR w' C S (.slice a2 l2 c2) 70 ∧ u ≤ t + 100 ∧ Dra w' s g a c xs u ∧ LoC C s S w w' := by
  obtain ⟨d1, hd1, hrow1⟩ := rowWiD
  have A1 : (w.alloc (.cells #[.int .i64 wd, .slice av lv cv] 25)).heap.size = w.heap.size + 1 := by simp
  have n1 : Below w.heap.size w (w.alloc (.cells #[.int .i64 wd, .slice av lv cv] 25)) := (Below.refl _ _).alloc (Nat.le_refl _) _
  have n2 : Below w.heap.size w ((w.alloc (.cells #[.int .i64 wd, .slice av lv cv] 25)).alloc (.cells #[.int .i64 0, .slice none 0 0] 25)) := n1.alloc (by omega) _
  have Z0 : RwC ((w.alloc (.cells #[.int .i64 wd, .slice av lv cv] 25)).alloc (.cells #[.int .i64 0, .slice none 0 0] 25)) (w.heap.size + 1) [.int .i64 0, .slice none 0 0] 25 := by
    have h := RwC.new (w.alloc (.cells #[.int .i64 wd, .slice av lv cv] 25)) [.int .i64 0, .slice none 0 0] 25
    rwa [A1] at h
  have P0 : RwC ((w.alloc (.cells #[.int .i64 wd, .slice av lv cv] 25)).alloc (.cells #[.int .i64 0, .slice none 0 0] 25)) w.heap.size [.int .i64 wd, .slice av lv cv] 25 := (RwC.new w _ _).push _
  have S0 : Hid (DwS w ((w.alloc (.cells #[.int .i64 wd, .slice av lv cv] 25)).alloc (.cells #[.int .i64 0, .slice none 0 0] 25)) s g a c xs (w.heap.size + 1) w.heap.size C S wd (.slice av lv cv) 64 t) :=
    ⟨Z0, P0, hv.shut n2 _ (fun q hq => by
      rcases List.mem_cons.1 hq with rfl | hq
      · exact .inl (by omega)
      · rcases List.mem_cons.1 hq with rfl | hq
        · exact .inl (Nat.le_refl _)
        · exact .inr hq), d.up n2, (LoC.refl _ _ _ _).below n2, ⟨by omega, Nat.le_refl _, by omega, hC⟩, hsC, hgC, hS⟩
  have z12 : w.heap.size < w.heap.size + 1 := by omega
  clear d hv n1 n2 Z0 P0 hsC hgC hC hS A1
  go_enter Try.func16, Try.ntmps16
  go_upto_region 1 with fail
  generalize (w.alloc (.cells #[.int .i64 wd, .slice av lv cv] 25)).alloc (.cells #[.int .i64 0, .slice none 0 0] 25) = W1 at *
  generalize w.heap.size + 1 = z at *
  obtain ⟨p, hp⟩ : ∃ p, p = w.heap.size := ⟨_, rfl⟩
  rw [← hp] at S0 z12 ⊢
  have HP := hide hp
  clear hp
  have FIN : ∀ (W : World) (wd2 : Int) (a2 : Option Addr) (l2 c2 : Nat) (u : Int), Hid (DwS w W s g a c xs z p C S wd2 (.slice a2 l2 c2) 70 u) → u ≤ t + 100 → Hid (World.rangeAt ((W.setCell ⟨z, 0, none⟩ (.int .i64 wd2)).setCell ⟨z, 1, none⟩ (.slice a2 l2 c2)) z 0 [.int .i64 wd2, .slice a2 l2 c2] ∧ W.cell? ⟨p, 0, none⟩ = some (.int .i64 wd2) ∧ W.cell? ⟨p, 1, none⟩ = some (.slice a2 l2 c2) ∧ W.cell? ⟨z, 0, none⟩ = some (.int .i64 0) ∧ W.cell? ⟨z, 1, none⟩ = some (.slice none 0 0) ∧ W.frozen? ⟨z, 0, none⟩ = false ∧ W.frozen? ⟨z, 1, none⟩ = false ∧ Hid (∃ (wd : Int) (a3 : Option Addr) (l3 c3 : Nat) (u : Int), Ending.returned (.agg #[.int .i64 wd2, .slice a2 l2 c2]) = .returned (.agg #[.int .i64 wd, .slice a3 l3 c3]) ∧ DwR ((W.setCell ⟨z, 0, none⟩ (.int .i64 wd2)).setCell ⟨z, 1, none⟩ (.slice a2 l2 c2)) C S (.slice a3 l3 c3) 70 ∧ u ≤ t + 100 ∧ Dra ((W.setCell ⟨z, 0, none⟩ (.int .i64 wd2)).setCell ⟨z, 1, none⟩ (.slice a2 l2 c2)) s g a c xs u ∧ LoC C s S w ((W.setCell ⟨z, 0, none⟩ (.int .i64 wd2)).setCell ⟨z, 1, none⟩ (.slice a2 l2 c2)))) := fun W wd2 a2 l2 c2 u SS hu => by
    have SS := SS.out
    have OF : Only z W ((W.setCell ⟨z, 0, none⟩ (.int .i64 wd2)).setCell ⟨z, 1, none⟩ (.slice a2 l2 c2)) := (Only.setCell _ _ 0 _).trans (Only.setCell _ _ 1 _)
    have h := SS.b1
    have h2 := SS.b2
    exact ⟨((SS.Z.set 0 _).set 1 _).rangeG, SS.P.c0, SS.P.c1, SS.Z.c0, SS.Z.c1, SS.Z.free 0, SS.Z.free 1, _, _, _, _, u, rfl, (SS.R.onl OF (by simp)).shut (Below.refl _ _) S (fun q hq => .inr (by simp [hq])), hu, SS.D.at' (OF.block s (by omega)) (fun h0 => OF.block g (by have := SS.b3 h0; omega)), SS.O.onl OF (by omega)⟩
  go_wp2_with fail
  refine (next_D S0.out.D (by omega) (by decide) (by decide)).mono ?_
  rintro e w2 ⟨k, rfl, hk, D2, b2⟩
  have S2 := hide (S0.out.but b2 D2)
  clear S0 D2 b2
  have kk : k = 0 ∨ k = 1 ∨ k = 2 ∨ k = 3 ∨ k = 4 ∨ k = 5 := by omega
  clear hk
  rcases kk with rfl | rfl | rfl | rfl | rfl | rfl
  · rw [show ((0 : Nat) : Int) = 0 from rfl]
    have c9 := S2.out.P.c0
    have f9 := S2.out.P.free 0
    have S3 := hide ((S2.out.set0 (-1)).mono (show 64 ≤ 70 by decide))
    clear S2
    go_upto_region 15 with fail
    generalize w2.setCell ⟨p, 0, none⟩ (.int .i64 (-1)) = w3 at *
    clear c9 f9
    obtain ⟨RR, c0, c1, c2, c3, f0, f1, RES⟩ := (FIN w3 _ _ _ _ _ S3 (by omega)).out
    clear FIN S3
    go_wp2
    exact bodyPost_ret (results_cellG Try.results16 _ _ z _ d1 rfl RR hd1 hrow1 iWiD) rfl RES.out
  · rw [show ((1 : Nat) : Int) = 1 from rfl]
    have hlv : lv ≤ 64 := by
      obtain ⟨a', l', c', e', l1, -⟩ := S2.out.R.slice
      simp only [Value.slice.injEq] at e'
      omega
    go_upto_region 5 with fail
    go_loopw [] (fun wr => ∃ (av : Option Addr) (lv cv : Nat), lv ≤ 65 ∧ Hid (DwS w wr s g a c xs z p C S wd (.slice av lv cv) 66 (t + 1))) (fun wr => 66 - lenAt wr p)
    case atStart => exact ⟨av, lv, cv, by omega, S2.out.mono (by omega)⟩
    case round =>
      clear S2 hlv
      obtain ⟨av, lv, cv, hl, SS⟩ := hrel
      have t11 : wr.cell? ⟨p, 1, none⟩ = some (.slice av lv cv) := SS.out.P.c1
      by_cases hlt : lv < 65
      · have k0 : (lv : Int) < 65 := by omega
        have k1 : decide ((lv : Int) < 65) = true := by simp; omega
        have k2 : IntKind.i64.wrap ((lv : Int) + 100) = (lv : Int) + 100 := by rw [IntKind.wrap_i64]; omega
        have N1 : Hid (Calls Try.prog 17 #[.int .i64 ((lv : Int) + 100)] wr.drew fun e w50 => ∃ q0 : Nat, e = .returned (.slice (some ⟨q0, 0, none⟩) 32 32) ∧ w50.cell? ⟨p, 1, none⟩ = some (.slice av lv cv) ∧ (w50.alloc (.cells #[.slice (some ⟨q0, 0, none⟩) 32 32, .int .i64 1] 36)).cell? ⟨p, 1, none⟩ = some (.slice av lv cv) ∧ ∃ v' w4, (Builtin.append_ #[23, 23] 23 #[.slice av lv cv, .slice (some ⟨w50.heap.size, 0, none⟩) 1 1]).run Try.prog (w50.alloc (.cells #[.slice (some ⟨q0, 0, none⟩) 32 32, .int .i64 1] 36)) = .ok v' w4 ∧ ((∃ av' cv', v' = .slice av' (lv + 1) cv') ∧ w4.cell? ⟨p, 1, none⟩ = some (.slice av lv cv) ∧ w4.frozen? ⟨p, 1, none⟩ = false ∧ Hid (DwS w (w4.setCell ⟨p, 1, none⟩ v') s g a c xs z p C S wd v' (66) (t + 1)))) := by
          have nd : Below wr.heap.size wr wr.drew := (Below.refl _ _).drew
          refine (l16Id_any wr.drew ((lv : Int) + 100)).mono ?_
          rintro e w1 ⟨⟨vq, X, rfl, rfl, BX, lX, yX⟩, m1⟩
          have m1' : Below wr.heap.size wr w1 := nd.trans m1
          have S1 := SS.out.but (But.ofBelow m1') (SS.out.D.up m1')
          obtain ⟨v', w4, h1, ⟨av', cv', rfl⟩, h3, h4, h5⟩ := SS.out.one (by omega) (But.ofBelow m1') (SS.out.D.up m1') X (some ⟨wr.heap.size, 0, none⟩) 32 wr.heap.size ⟨yX, by omega, fun e => by cases e⟩ BX.own0.rd (Nat.le_refl _) 1
          rw [lX] at h1
          exact ⟨_, rfl, S1.P.c1, (S1.P.push _).c1, _, w4, h1, ⟨av', cv', rfl⟩, h3, h4, h5.out.len (by omega)⟩
        clear SS
        go_upto_region 6 with fail
        go_region_law (first
          | (go_simp; go_at_call 17; with_reducible refine N1.out.mono ?_; rintro e w50 ⟨q0, rfl, m1, m4, AP⟩)
          | (refine step_append_exB rfl (.tmp 17) (.tmp 24) 23 23 rfl (.slice av lv cv) (.slice (some ⟨w50.heap.size, 0, none⟩) 1 1) rfl rfl _ AP ?_; rintro v3 w4 ⟨⟨av', cv', rfl⟩, m5, f5, FF⟩)
          | fail)
        all_goals
          clear N1 AP m1 m4
          go_wp2
          go_roundw
          case rel => exact ⟨_, _, _, by omega, FF⟩
          case measure =>
            have e1 := FF.out.P.c1
            simp only [lenAt, t11, e1]
            omega
      · have k1 : ¬ (lv : Int) < 65 := by omega
        clear hl hlt
        have S9 := hide (SS.out.mono (show 66 ≤ 70 by omega))
        clear SS
        go_upto_region 15 with fail
        clear t11
        obtain ⟨RR, c0, c1, c2, c3, f0, f1, RES⟩ := (FIN wr _ _ _ _ _ S9 (by omega)).out
        clear FIN S9
        go_wp2
        exact bodyPost_ret (results_cellG Try.results16 _ _ z _ d1 rfl RR hd1 hrow1 iWiD) rfl (by obtain ⟨x1, x2, x3, x4, x5, y1, y2, y3, y4, y5⟩ := RES.out; exact ⟨x1, x2, x3, x4, y1, y2, x5, y3, y4, y5⟩)
  · rw [show ((2 : Nat) : Int) = 2 from rfl]
    have t11 : w2.cell? ⟨p, 1, none⟩ = some (.slice av lv cv) := S2.out.P.c1
    have N1 : Hid (Calls Try.prog 17 #[.int .i64 (1)] w2.drew fun e w50 => ∃ q0 : Nat, e = .returned (.slice (some ⟨q0, 0, none⟩) 32 32) ∧ w50.cell? ⟨p, 1, none⟩ = some (.slice av lv cv) ∧ Calls Try.prog 17 #[.int .i64 (1)] w50 fun e w51 => ∃ q1 : Nat, e = .returned (.slice (some ⟨q1, 0, none⟩) 32 32) ∧ w51.cell? ⟨p, 1, none⟩ = some (.slice av lv cv) ∧ (w51.alloc (.cells #[.slice (some ⟨q0, 0, none⟩) 32 32, .int .i64 5, .slice (some ⟨q1, 0, none⟩) 32 32, .int .i64 6] 36)).cell? ⟨p, 1, none⟩ = some (.slice av lv cv) ∧ ∃ v' w4, (Builtin.append_ #[23, 23] 23 #[.slice av lv cv, .slice (some ⟨w51.heap.size, 0, none⟩) 2 2]).run Try.prog (w51.alloc (.cells #[.slice (some ⟨q0, 0, none⟩) 32 32, .int .i64 5, .slice (some ⟨q1, 0, none⟩) 32 32, .int .i64 6] 36)) = .ok v' w4 ∧ ((∃ av' cv', v' = .slice av' (lv + 2) cv') ∧ w4.cell? ⟨p, 1, none⟩ = some (.slice av lv cv) ∧ w4.frozen? ⟨p, 1, none⟩ = false ∧ Hid (DwS w (w4.setCell ⟨p, 1, none⟩ v') s g a c xs z p C S wd v' (64 + 2) (t + 1)))) := by
      have nd : Below w2.heap.size w2 w2.drew := (Below.refl _ _).drew
      refine (l16Id_any w2.drew 1).mono ?_
      rintro e w1 ⟨⟨vq, X, rfl, rfl, BX, lX, yX⟩, m1⟩
      have m1' : Below w2.heap.size w2 w1 := nd.trans m1
      have S1 := S2.out.but (But.ofBelow m1') (S2.out.D.up m1')
      refine ⟨_, rfl, S1.P.c1, ?_⟩
      refine (l16Id_any w1 1).mono ?_
      rintro e w3 ⟨⟨vr, Y, rfl, rfl, BY, lY, yY⟩, m3⟩
      have m3' : Below w2.heap.size w2 w3 := m1'.trans (m3.mono m1'.size)
      have S3 := S2.out.but (But.ofBelow m3') (S2.out.D.up m3')
      have AP := S2.out.two (by omega) (But.ofBelow m3') (S2.out.D.up m3') X Y (some ⟨w2.heap.size, 0, none⟩) (some ⟨w1.heap.size, 0, none⟩) 32 32 w2.heap.size w1.heap.size ⟨yX, by omega, fun e => by cases e⟩ ⟨yY, by omega, fun e => by cases e⟩ (BX.up m3).own0.rd BY.own0.rd (Nat.le_refl _) m1'.size 5 6
      rw [lX, lY] at AP
      exact ⟨_, rfl, S3.P.c1, (S3.P.push _).c1, AP⟩
    clear S2
    go_upto_region 8 with fail
    go_region_law (first
      | (go_simp; go_at_call 17; with_reducible refine N1.out.mono ?_; rintro e w50 ⟨q0, rfl, m1, N2⟩)
      | (go_simp; go_at_call 17; with_reducible refine N2.mono ?_; rintro e w51 ⟨q1, rfl, m2, m4, AP⟩)
      | (refine step_append_exB rfl (.tmp 30) (.tmp 35) 23 23 rfl (.slice av lv cv) (.slice (some ⟨w51.heap.size, 0, none⟩) 2 2) rfl rfl _ AP ?_; rintro v3 w4 ⟨⟨av', cv', rfl⟩, m5, f5, FF⟩)
      | fail)
    all_goals
      clear N1 AP t11
      have S9 := hide (FF.out.mono (show _ ≤ 70 by omega))
      clear FF
      go_upto_region 15 with fail
      generalize w4.setCell ⟨p, 1, none⟩ (.slice av' (lv + 2) cv') = w9 at *
      clear m5 f5
      obtain ⟨RR, c0, c1, c2, c3, f0, f1, RES⟩ := (FIN w9 _ _ _ _ _ S9 (by omega)).out
      clear FIN S9
      go_wp2
      exact bodyPost_ret (results_cellG Try.results16 _ _ z _ d1 rfl RR hd1 hrow1 iWiD) rfl RES.out
  · rw [show ((3 : Nat) : Int) = 3 from rfl]
    have t11 : w2.cell? ⟨p, 1, none⟩ = some (.slice av lv cv) := S2.out.P.c1
    have N1 : Hid (Calls Try.prog 27 #[.pointer (some ⟨s, 0, none⟩), .int .i64 31] w2.drew fun e w50 => ∃ (xa : Option Addr) (xc : Nat), e = .returned (.slice xa 31 xc) ∧ w50.cell? ⟨p, 1, none⟩ = some (.slice av lv cv) ∧ (w50.alloc (.cells #[.slice xa 31 xc, .int .i64 5] 36)).cell? ⟨p, 1, none⟩ = some (.slice av lv cv) ∧ ∃ v' w4, (Builtin.append_ #[23, 23] 23 #[.slice av lv cv, .slice (some ⟨w50.heap.size, 0, none⟩) 1 1]).run Try.prog (w50.alloc (.cells #[.slice xa 31 xc, .int .i64 5] 36)) = .ok v' w4 ∧ ((∃ av' cv', v' = .slice av' (lv + 1) cv') ∧ w4.cell? ⟨p, 1, none⟩ = some (.slice av lv cv) ∧ w4.frozen? ⟨p, 1, none⟩ = false ∧ Hid (DwS w (w4.setCell ⟨p, 1, none⟩ v') s g a c xs z p C S wd v' (64 + 1) (t + 1 + 31)))) := by
      have nd : Below w2.heap.size w2 w2.drew := (Below.refl _ _).drew
      have D0 := S2.out.D.up nd
      have CC := l1DrawBytes_any w2.drew s g a c xs (t + 1) 31 D0.S D0.R D0.ne D0.hb D0.hl D0.t0 (by omega)
      refine CC.mono ?_
      rintro e w1 ⟨ys, ly, yy, ⟨xa, xc, xg, rfl, ox, hx1, hx2, hx3⟩, Sy, by'⟩
      have b1 := (But.ofBelow (g := s) nd).trans by'
      have D1 : Dra w1 s g a c xs (t + 1 + 31) := ⟨Sy, D0.R.but by' D0.ne, D0.ne, D0.hb, D0.hl, by have := D0.t0; omega⟩
      have S1 := S2.out.but b1 D1
      have AP := S2.out.one (by omega) b1 D1 ys xa xc xg ⟨yy, by omega, hx1⟩ ox.rd hx3 5
      rw [ly] at AP ⊢
      exact ⟨_, _, rfl, S1.P.c1, (S1.P.push _).c1, AP⟩
    clear S2
    go_upto_region 10 with fail
    go_region_law (first
      | (go_simp; go_at_call 27; with_reducible refine N1.out.mono ?_; rintro e w50 ⟨xa, xc, rfl, m1, m4, AP⟩)
      | (refine step_append_exB rfl (.tmp 41) (.tmp 45) 23 23 rfl (.slice av lv cv) (.slice (some ⟨w50.heap.size, 0, none⟩) 1 1) rfl rfl _ AP ?_; rintro v3 w4 ⟨⟨av', cv', rfl⟩, m5, f5, FF⟩)
      | fail)
    all_goals
      clear N1 AP t11
      have S9 := hide (FF.out.mono (show _ ≤ 70 by omega))
      clear FF
      go_upto_region 15 with fail
      generalize w4.setCell ⟨p, 1, none⟩ (.slice av' (lv + 1) cv') = w9 at *
      clear m5 f5
      obtain ⟨RR, c0, c1, c2, c3, f0, f1, RES⟩ := (FIN w9 _ _ _ _ _ S9 (by omega)).out
      clear FIN S9
      go_wp2
      exact bodyPost_ret (results_cellG Try.results16 _ _ z _ d1 rfl RR hd1 hrow1 iWiD) rfl RES.out
  · rw [show ((4 : Nat) : Int) = 4 from rfl]
    have t11 : w2.cell? ⟨p, 1, none⟩ = some (.slice av lv cv) := S2.out.P.c1
    have N1 : Hid (Calls Try.prog 17 #[.int .i64 (90)] w2.drew fun e w50 => ∃ q0 : Nat, e = .returned (.slice (some ⟨q0, 0, none⟩) 32 32) ∧ w50.cell? ⟨p, 1, none⟩ = some (.slice av lv cv) ∧ Calls Try.prog 18 #[.pointer (some ⟨s, 0, none⟩), .int .i64 2] w50 fun e w51 => ∃ r1 : Int, e = .returned (.int .i64 r1) ∧ IntKind.i64.wrap (253402473599 + r1) = 253402473599 + r1 ∧ w51.cell? ⟨p, 1, none⟩ = some (.slice av lv cv) ∧ (w51.alloc (.cells #[.slice (some ⟨q0, 0, none⟩) 32 32, .int .i64 (253402473599 + r1)] 36)).cell? ⟨p, 1, none⟩ = some (.slice av lv cv) ∧ ∃ v' w4, (Builtin.append_ #[23, 23] 23 #[.slice av lv cv, .slice (some ⟨w51.heap.size, 0, none⟩) 1 1]).run Try.prog (w51.alloc (.cells #[.slice (some ⟨q0, 0, none⟩) 32 32, .int .i64 (253402473599 + r1)] 36)) = .ok v' w4 ∧ ((∃ av' cv', v' = .slice av' (lv + 1) cv') ∧ w4.cell? ⟨p, 1, none⟩ = some (.slice av lv cv) ∧ w4.frozen? ⟨p, 1, none⟩ = false ∧ Hid (DwS w (w4.setCell ⟨p, 1, none⟩ v') s g a c xs z p C S wd v' (64 + 1) (t + 1 + 1)))) := by
      have nd : Below w2.heap.size w2 w2.drew := (Below.refl _ _).drew
      refine (l16Id_any w2.drew 90).mono ?_
      rintro e w1 ⟨⟨vq, X, rfl, rfl, BX, lX, yX⟩, m1⟩
      have m1' : Below w2.heap.size w2 w1 := nd.trans m1
      have S1 := S2.out.but (But.ofBelow m1') (S2.out.D.up m1')
      refine ⟨_, rfl, S1.P.c1, ?_⟩
      refine (next_D S1.D (by omega) (by decide) (by decide)).mono ?_
      rintro e w3 ⟨r1, rfl, hr1, D3, b3⟩
      have b13 := (But.ofBelow m1').trans b3
      have S3 := S1.but b3 D3
      have sl2 := S2.out.b2
      have o := S2.out.b1
      have zz := S2.out.O.size
      have BX3 : Blk w3 w2.heap.size .u8 X := BX.of_block (b3.block w2.heap.size BX.lt (by omega))
      have AP := S2.out.one (by omega) b13 D3 X (some ⟨w2.heap.size, 0, none⟩) 32 w2.heap.size ⟨yX, by omega, fun e => by cases e⟩ BX3.own0.rd (Nat.le_refl _) (253402473599 + (r1 : Int))
      rw [lX] at AP
      exact ⟨_, rfl, by rw [IntKind.wrap_i64]; omega, S3.P.c1, (S3.P.push _).c1, AP⟩
    clear S2
    go_upto_region 12 with fail
    go_region_law (first
      | (go_simp; go_at_call 17; with_reducible refine N1.out.mono ?_; rintro e w50 ⟨q0, rfl, m1, N2⟩)
      | (go_simp; go_at_call 18; with_reducible refine N2.mono ?_; rintro e w51 ⟨r1, rfl, w40, m2, m4, AP⟩)
      | (refine step_append_exB rfl (.tmp 51) (.tmp 57) 23 23 rfl (.slice av lv cv) (.slice (some ⟨w51.heap.size, 0, none⟩) 1 1) rfl rfl _ AP ?_; rintro v3 w4 ⟨⟨av', cv', rfl⟩, m5, f5, FF⟩)
      | fail)
    all_goals
      clear N1 AP t11
      have S9 := hide (FF.out.mono (show _ ≤ 70 by omega))
      clear FF
      go_upto_region 15 with fail
      generalize w4.setCell ⟨p, 1, none⟩ (.slice av' (lv + 1) cv') = w9 at *
      clear m5 f5
      obtain ⟨RR, c0, c1, c2, c3, f0, f1, RES⟩ := (FIN w9 _ _ _ _ _ S9 (by omega)).out
      clear FIN S9
      go_wp2
      exact bodyPost_ret (results_cellG Try.results16 _ _ z _ d1 rfl RR hd1 hrow1 iWiD) rfl RES.out
  · rw [show ((5 : Nat) : Int) = 5 from rfl]
    have t11 : w2.cell? ⟨p, 1, none⟩ = some (.slice av lv cv) := S2.out.P.c1
    have N1 : Hid (Calls Try.prog 17 #[.int .i64 (91)] w2.drew fun e w50 => ∃ q0 : Nat, e = .returned (.slice (some ⟨q0, 0, none⟩) 32 32) ∧ w50.cell? ⟨p, 1, none⟩ = some (.slice av lv cv) ∧ Calls Try.prog 18 #[.pointer (some ⟨s, 0, none⟩), .int .i64 2] w50 fun e w51 => ∃ r1 : Int, e = .returned (.int .i64 r1) ∧ IntKind.i64.wrap (-r1) = -r1 ∧ w51.cell? ⟨p, 1, none⟩ = some (.slice av lv cv) ∧ (w51.alloc (.cells #[.slice (some ⟨q0, 0, none⟩) 32 32, .int .i64 (-r1)] 36)).cell? ⟨p, 1, none⟩ = some (.slice av lv cv) ∧ ∃ v' w4, (Builtin.append_ #[23, 23] 23 #[.slice av lv cv, .slice (some ⟨w51.heap.size, 0, none⟩) 1 1]).run Try.prog (w51.alloc (.cells #[.slice (some ⟨q0, 0, none⟩) 32 32, .int .i64 (-r1)] 36)) = .ok v' w4 ∧ ((∃ av' cv', v' = .slice av' (lv + 1) cv') ∧ w4.cell? ⟨p, 1, none⟩ = some (.slice av lv cv) ∧ w4.frozen? ⟨p, 1, none⟩ = false ∧ Hid (DwS w (w4.setCell ⟨p, 1, none⟩ v') s g a c xs z p C S wd v' (64 + 1) (t + 1 + 1)))) := by
      have nd : Below w2.heap.size w2 w2.drew := (Below.refl _ _).drew
      refine (l16Id_any w2.drew 91).mono ?_
      rintro e w1 ⟨⟨vq, X, rfl, rfl, BX, lX, yX⟩, m1⟩
      have m1' : Below w2.heap.size w2 w1 := nd.trans m1
      have S1 := S2.out.but (But.ofBelow m1') (S2.out.D.up m1')
      refine ⟨_, rfl, S1.P.c1, ?_⟩
      refine (next_D S1.D (by omega) (by decide) (by decide)).mono ?_
      rintro e w3 ⟨r1, rfl, hr1, D3, b3⟩
      have b13 := (But.ofBelow m1').trans b3
      have S3 := S1.but b3 D3
      have sl2 := S2.out.b2
      have o := S2.out.b1
      have zz := S2.out.O.size
      have BX3 : Blk w3 w2.heap.size .u8 X := BX.of_block (b3.block w2.heap.size BX.lt (by omega))
      have AP := S2.out.one (by omega) b13 D3 X (some ⟨w2.heap.size, 0, none⟩) 32 w2.heap.size ⟨yX, by omega, fun e => by cases e⟩ BX3.own0.rd (Nat.le_refl _) (-(r1 : Int))
      rw [lX] at AP
      exact ⟨_, rfl, by rw [IntKind.wrap_i64]; omega, S3.P.c1, (S3.P.push _).c1, AP⟩
    clear S2
    go_upto_region 14 with fail
    go_region_law (first
      | (go_simp; go_at_call 17; with_reducible refine N1.out.mono ?_; rintro e w50 ⟨q0, rfl, m1, N2⟩)
      | (go_simp; go_at_call 18; with_reducible refine N2.mono ?_; rintro e w51 ⟨r1, rfl, w40, m2, m4, AP⟩)
      | (refine step_append_exB rfl (.tmp 63) (.tmp 69) 23 23 rfl (.slice av lv cv) (.slice (some ⟨w51.heap.size, 0, none⟩) 1 1) rfl rfl _ AP ?_; rintro v3 w4 ⟨⟨av', cv', rfl⟩, m5, f5, FF⟩)
      | fail)
    all_goals
      clear N1 AP t11
      have S9 := hide (FF.out.mono (show _ ≤ 70 by omega))
      clear FF
      go_upto_region 15 with fail
      generalize w4.setCell ⟨p, 1, none⟩ (.slice av' (lv + 1) cv') = w9 at *
      clear m5 f5
      obtain ⟨RR, c0, c1, c2, c3, f0, f1, RES⟩ := (FIN w9 _ _ _ _ _ S9 (by omega)).out
      clear FIN S9
      go_wp2
      exact bodyPost_ret (results_cellG Try.results16 _ _ z _ d1 rfl RR hd1 hrow1 iWiD) rfl RES.out
end Go.Proofs.Ytingekgcjnkljaa
