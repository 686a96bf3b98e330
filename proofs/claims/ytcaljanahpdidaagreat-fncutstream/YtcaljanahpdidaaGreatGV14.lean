import Derived.Test.YtcaljanahpdidaaGreatGVxDmM
import Derived.Test.YtcaljanahpdidaaGreatGVxDmB
import Derived.Test.YtcaljanahpdidaaGreatGV1
import Derived.Test.YtcaljanahpdidaaGreatGV2
import Derived.WalkLawsBesides
import Derived.Test.YtcaljanahpdidaaGreatGV3
import Derived.Laws.Bits64b
import Derived.Deep.Cut
import Derived.Deep.DeepCutAuto
import Derived.Test.YtcaljanahpdidaaGreatGV9
import Derived.BigQuiet
import Derived.Test.YtcaljanahpdidaaGreatGV5
namespace Go.Proofs.YtcaljanahpdidaaGreat
open Go Go.RowKit
set_option maxRecDepth 100000 in
set_option maxHeartbeats 16000000 in
theorem drawMaybe_M {w : World} {s g : Nat} {a : Option Addr} {c : Nat} {xs : List Int} {t : Int} (d : Drm w s g a c xs t) (t1 : t ≤ 700000) :
    Calls Tryz.prog 12 #[.pointer (some ⟨s, 0, none⟩)] w fun e w' => ∃ u : Int, MsFV w' w.heap.size e ∧ u ≤ t + 200 ∧ Drm w' s g a c xs u ∧ But s w w' := by
  obtain ⟨dR, hdR, hrowR⟩ := rowM
  have ls := d.S.lt
  have lg := d.R.lt
  obtain ⟨B, hB⟩ : ∃ B, B = w.heap.size := ⟨_, rfl⟩
  have D0 : Dq w w s g a c xs B t := Dq.start d (by omega) (fun h => by have := lg h; omega) (by omega)
  have n1 : Below w.heap.size w (w.alloc (.cells #[.int .i64 0, .int .i64 0, .slice none 0 0, .slice none 0 0, .string ⟨#[]⟩, .slice none 0 0, .slice none 0 0, .int .i64 0, .int .i64 0, .slice none 0 0, .bool false, .slice none 0 0, .slice none 0 0] 28)) := (Below.refl _ _).alloc (Nat.le_refl _) _
  have Q : RwC (w.alloc (.cells #[.int .i64 0, .int .i64 0, .slice none 0 0, .slice none 0 0, .string ⟨#[]⟩, .slice none 0 0, .slice none 0 0, .int .i64 0, .int .i64 0, .slice none 0 0, .bool false, .slice none 0 0, .slice none 0 0] 28)) w.heap.size [.int .i64 0, .int .i64 0, .slice none 0 0, .slice none 0 0, .string ⟨#[]⟩, .slice none 0 0, .slice none 0 0, .int .i64 0, .int .i64 0, .slice none 0 0, .bool false, .slice none 0 0, .slice none 0 0] 28 := RwC.new w _ _
  have z1 : (w.alloc (.cells #[.int .i64 0, .int .i64 0, .slice none 0 0, .slice none 0 0, .string ⟨#[]⟩, .slice none 0 0, .slice none 0 0, .int .i64 0, .int .i64 0, .slice none 0 0, .bool false, .slice none 0 0, .slice none 0 0] 28)).heap.size = w.heap.size + 1 := by simp
  have D := D0.up n1
  have POST : ∀ (v0 v1 v2 v3 v4 v5 v6 v7 v8 v9 v10 v11 v12 : Value) (W : World) (u : Int), Hid (MsF W B v0 v1 v2 v3 v4 v5 v6 v7 v8 v9 v10 v11 v12) → Hid (Dq w W s g a c xs B u) → u ≤ t + 200 → Hid ((∃ u : Int, MsFV W w.heap.size (.returned (.agg #[v0, v1, v2, v3, v4, v5, v6, v7, v8, v9, v10, v11, v12])) ∧ u ≤ t + 200 ∧ Drm W s g a c xs u ∧ But s w W)) := fun v0 v1 v2 v3 v4 v5 v6 v7 v8 v9 v10 v11 v12 W u hm hd hu => by
    subst hB
    exact ⟨u, ⟨v0, v1, v2, v3, v4, v5, v6, v7, v8, v9, v10, v11, v12, rfl, hm.out⟩, hu, hd.out.d, hd.out.out⟩
  clear n1 d D0
  go_enter Tryz.func12, Tryz.ntmps12
  go_wp2_with fail
  generalize w.alloc (.cells #[.int .i64 0, .int .i64 0, .slice none 0 0, .slice none 0 0, .string ⟨#[]⟩, .slice none 0 0, .slice none 0 0, .int .i64 0, .int .i64 0, .slice none 0 0, .bool false, .slice none 0 0, .slice none 0 0] 28) = W0 at *
  refine (drawMsg_M D.d (by omega)).mono ?_
  rintro e W1 ⟨ux, ⟨v0, v1, v2, v3, v4, v5, v6, v7, v8, v9, v10, v11, v12, rfl, M0⟩, hux, d', b'⟩
  have M1 := M0.base (show B ≤ W0.heap.size by omega)
  obtain ⟨n0, n1, a2, l2, c2, a3, l3, c3, h4, a5, l5, c5, a6, l6, c6, n7, n8, a9, l9, c9, b10, a11, l11, c11, a12, l12, c12, rfl, rfl, rfl, rfl, rfl, rfl, rfl, rfl, rfl, rfl, rfl, rfl, rfl⟩ := M1.rd.forms
  clear M0
  have zW1 := b'.size
  replace Q := Q.butM b' (by omega)
  replace D := D.but b' d'
  clear b' d'
  have n' : Below W1.heap.size W1 (W1.alloc (.cells #[.int .i64 n0, .int .i64 n1, .slice a2 l2 c2, .slice a3 l3 c3, .string ⟨⟨h4⟩⟩, .slice a5 l5 c5, .slice a6 l6 c6, .int .i64 n7, .int .i64 n8, .slice a9 l9 c9, .bool b10, .slice a11 l11 c11, .slice a12 l12 c12] 28)) := (Below.refl _ _).alloc (Nat.le_refl _) _
  have T : RwC (W1.alloc (.cells #[.int .i64 n0, .int .i64 n1, .slice a2 l2 c2, .slice a3 l3 c3, .string ⟨⟨h4⟩⟩, .slice a5 l5 c5, .slice a6 l6 c6, .int .i64 n7, .int .i64 n8, .slice a9 l9 c9, .bool b10, .slice a11 l11 c11, .slice a12 l12 c12] 28)) W1.heap.size [.int .i64 n0, .int .i64 n1, .slice a2 l2 c2, .slice a3 l3 c3, .string ⟨⟨h4⟩⟩, .slice a5 l5 c5, .slice a6 l6 c6, .int .i64 n7, .int .i64 n8, .slice a9 l9 c9, .bool b10, .slice a11 l11 c11, .slice a12 l12 c12] 28 := RwC.new _ _ _
  have zW2 : (W1.alloc (.cells #[.int .i64 n0, .int .i64 n1, .slice a2 l2 c2, .slice a3 l3 c3, .string ⟨⟨h4⟩⟩, .slice a5 l5 c5, .slice a6 l6 c6, .int .i64 n7, .int .i64 n8, .slice a9 l9 c9, .bool b10, .slice a11 l11 c11, .slice a12 l12 c12] 28)).heap.size = W1.heap.size + 1 := by simp
  have p0 := Q.lt
  replace Q := Q.up n'
  have p1 := D.size
  replace D := D.up n'
  replace M1 := M1.kp (X := 28) (dgK.up n') (by decide)
  have M : MsO (W1.alloc (.cells #[.int .i64 n0, .int .i64 n1, .slice a2 l2 c2, .slice a3 l3 c3, .string ⟨⟨h4⟩⟩, .slice a5 l5 c5, .slice a6 l6 c6, .int .i64 n7, .int .i64 n8, .slice a9 l9 c9, .bool b10, .slice a11 l11 c11, .slice a12 l12 c12] 28)) B (.int .i64 n0) (.int .i64 n1) (.slice a2 l2 c2) (.slice a3 l3 c3) (.string ⟨⟨h4⟩⟩) (.slice a5 l5 c5) (.slice a6 l6 c6) (.int .i64 n7) (.int .i64 n8) (.slice a9 l9 c9) (.bool b10) (.slice a11 l11 c11) (.slice a12 l12 c12) := ⟨M1.i0, M1.i1, M1.b2, M1.b3, M1.s4, M1.t5, M1.b6, M1.i7, M1.i8, M1.b9, M1.o10, M1.c11, M1.b12⟩
  clear n' M1
  go_wp2_with fail
  generalize W1.alloc (.cells #[.int .i64 n0, .int .i64 n1, .slice a2 l2 c2, .slice a3 l3 c3, .string ⟨⟨h4⟩⟩, .slice a5 l5 c5, .slice a6 l6 c6, .int .i64 n7, .int .i64 n8, .slice a9 l9 c9, .bool b10, .slice a11 l11 c11, .slice a12 l12 c12] 28) = W2 at *
  refine (chance_M D.d (by omega) (by decide) (by decide)).mono ?_
  rintro e W3 ⟨b3, rfl, d', b'⟩
  have zW3 := b'.size
  replace T := T.butM b' (by omega)
  replace M := M.kp (dgK.but b' D.sB) neM
  replace Q := Q.butM b' (by omega)
  replace D := D.but b' d'
  clear b' d'
  cases b3
  case false =>
    replace M := M.rd
    have RG := T.rangeG
    have THR := Q.thereG
    have ONE := M.one
    have OS := only_setG W3 w.heap.size [.int .i64 n0, .int .i64 n1, .slice a2 l2 c2, .slice a3 l3 c3, .string ⟨⟨h4⟩⟩, .slice a5 l5 c5, .slice a6 l6 c6, .int .i64 n7, .int .i64 n8, .slice a9 l9 c9, .bool b10, .slice a11 l11 c11, .slice a12 l12 c12] 0
    have RQ : RwC (W3.setCells w.heap.size 0 [.int .i64 n0, .int .i64 n1, .slice a2 l2 c2, .slice a3 l3 c3, .string ⟨⟨h4⟩⟩, .slice a5 l5 c5, .slice a6 l6 c6, .int .i64 n7, .int .i64 n8, .slice a9 l9 c9, .bool b10, .slice a11 l11 c11, .slice a12 l12 c12]) w.heap.size [.int .i64 n0, .int .i64 n1, .slice a2 l2 c2, .slice a3 l3 c3, .string ⟨⟨h4⟩⟩, .slice a5 l5 c5, .slice a6 l6 c6, .int .i64 n7, .int .i64 n8, .slice a9 l9 c9, .bool b10, .slice a11 l11 c11, .slice a12 l12 c12] 28 := RwC.all13 Q
    have RR := RQ.rangeG
    have MF := hide (M.kp (dgK.onl OS Q) neM)
    have DF := hide (D.onl OS (by omega))
    clear RQ OS M D Q T
    go_wp2_with (first | (refine wpList_load_mid rfl 28 (.tmp 3) rfl (W1.heap.size) 0 rfl [.int .i64 n0, .int .i64 n1, .slice a2 l2 c2, .slice a3 l3 c3, .string ⟨⟨h4⟩⟩, .slice a5 l5 c5, .slice a6 l6 c6, .int .i64 n7, .int .i64 n8, .slice a9 l9 c9, .bool b10, .slice a11 l11 c11, .slice a12 l12 c12] dR RG hdR hrowR iM ?_) | (refine wpList_store_mid rfl 28 (.tmp 2) (.tmp 11) rfl (w.heap.size) 0 #[.int .i64 n0, .int .i64 n1, .slice a2 l2 c2, .slice a3 l3 c3, .string ⟨⟨h4⟩⟩, .slice a5 l5 c5, .slice a6 l6 c6, .int .i64 n7, .int .i64 n8, .slice a9 l9 c9, .bool b10, .slice a11 l11 c11, .slice a12 l12 c12] rfl rfl THR iM ONE ?_) | fail)
    refine bodyPost_ret (v := .agg #[.int .i64 n0, .int .i64 n1, .slice a2 l2 c2, .slice a3 l3 c3, .string ⟨⟨h4⟩⟩, .slice a5 l5 c5, .slice a6 l6 c6, .int .i64 n7, .int .i64 n8, .slice a9 l9 c9, .bool b10, .slice a11 l11 c11, .slice a12 l12 c12]) (results_cellG Tryz.results12 _ _ (w.heap.size) _ dR rfl RR hdR hrowR iM) rfl ?_
    exact (POST _ _ _ _ _ _ _ _ _ _ _ _ _ _ _ MF DF (by omega)).out
  case true =>
    have RG := T.rangeG
    go_wp2_with (first | (refine wpList_load_mid rfl 28 (.tmp 3) rfl (W1.heap.size) 0 rfl [.int .i64 n0, .int .i64 n1, .slice a2 l2 c2, .slice a3 l3 c3, .string ⟨⟨h4⟩⟩, .slice a5 l5 c5, .slice a6 l6 c6, .int .i64 n7, .int .i64 n8, .slice a9 l9 c9, .bool b10, .slice a11 l11 c11, .slice a12 l12 c12] dR RG hdR hrowR iM ?_) | fail)
    clear RG
    refine (break_M D.d (by omega) D.sB D.gB (by omega) M).mono ?_
    rintro e W4 ⟨uy, ⟨v0, v1, v2, v3, v4, v5, v6, v7, v8, v9, v10, v11, v12, rfl, M3⟩, huy, K3⟩
    have D3 := D.call K3
    have T3 := T.dq K3 (by omega)
    have Q3 := Q.dq K3 (by omega)
    have s3 := K3.size
    obtain ⟨n0x, n1x, a2x, l2x, c2x, a3x, l3x, c3x, h4x, a5x, l5x, c5x, a6x, l6x, c6x, n7x, n8x, a9x, l9x, c9x, b10x, a11x, l11x, c11x, a12x, l12x, c12x, rfl, rfl, rfl, rfl, rfl, rfl, rfl, rfl, rfl, rfl, rfl, rfl, rfl⟩ := M3.forms
    clear D T Q M K3
    have OS := only_setG W4 (W1.heap.size) [.int .i64 n0x, .int .i64 n1x, .slice a2x l2x c2x, .slice a3x l3x c3x, .string ⟨⟨h4x⟩⟩, .slice a5x l5x c5x, .slice a6x l6x c6x, .int .i64 n7x, .int .i64 n8x, .slice a9x l9x c9x, .bool b10x, .slice a11x l11x c11x, .slice a12x l12x c12x] 0
    have THR := T3.thereG
    have ONE := M3.one
    have T : RwC (W4.setCells W1.heap.size 0 [.int .i64 n0x, .int .i64 n1x, .slice a2x l2x c2x, .slice a3x l3x c3x, .string ⟨⟨h4x⟩⟩, .slice a5x l5x c5x, .slice a6x l6x c6x, .int .i64 n7x, .int .i64 n8x, .slice a9x l9x c9x, .bool b10x, .slice a11x l11x c11x, .slice a12x l12x c12x]) (W1.heap.size) [.int .i64 n0x, .int .i64 n1x, .slice a2x l2x c2x, .slice a3x l3x c3x, .string ⟨⟨h4x⟩⟩, .slice a5x l5x c5x, .slice a6x l6x c6x, .int .i64 n7x, .int .i64 n8x, .slice a9x l9x c9x, .bool b10x, .slice a11x l11x c11x, .slice a12x l12x c12x] 28 := RwC.all13 T3
    have M := M3.kp (dgK.onl OS T3) neM
    have Q := Q3.onl OS (by omega)
    have D := D3.onl OS (by omega)
    have zz := OS.size
    clear OS T3 M3 Q3 D3
    go_upto_region 4 with (first | (refine wpList_store_mid rfl 28 (.tmp 3) (.tmp 10) rfl (W1.heap.size) 0 #[.int .i64 n0x, .int .i64 n1x, .slice a2x l2x c2x, .slice a3x l3x c3x, .string ⟨⟨h4x⟩⟩, .slice a5x l5x c5x, .slice a6x l6x c6x, .int .i64 n7x, .int .i64 n8x, .slice a9x l9x c9x, .bool b10x, .slice a11x l11x c11x, .slice a12x l12x c12x] rfl rfl THR iM ONE ?_) | fail)
    generalize W4.setCells W1.heap.size 0 [.int .i64 n0x, .int .i64 n1x, .slice a2x l2x c2x, .slice a3x l3x c3x, .string ⟨⟨h4x⟩⟩, .slice a5x l5x c5x, .slice a6x l6x c6x, .int .i64 n7x, .int .i64 n8x, .slice a9x l9x c9x, .bool b10x, .slice a11x l11x c11x, .slice a12x l12x c12x] = W5 at *
    clear THR ONE
    have RG := T.rangeG
    have THR := Q.thereG
    have ONE := M.one
    have OS := only_setG W5 w.heap.size [.int .i64 n0x, .int .i64 n1x, .slice a2x l2x c2x, .slice a3x l3x c3x, .string ⟨⟨h4x⟩⟩, .slice a5x l5x c5x, .slice a6x l6x c6x, .int .i64 n7x, .int .i64 n8x, .slice a9x l9x c9x, .bool b10x, .slice a11x l11x c11x, .slice a12x l12x c12x] 0
    have RQ : RwC (W5.setCells w.heap.size 0 [.int .i64 n0x, .int .i64 n1x, .slice a2x l2x c2x, .slice a3x l3x c3x, .string ⟨⟨h4x⟩⟩, .slice a5x l5x c5x, .slice a6x l6x c6x, .int .i64 n7x, .int .i64 n8x, .slice a9x l9x c9x, .bool b10x, .slice a11x l11x c11x, .slice a12x l12x c12x]) w.heap.size [.int .i64 n0x, .int .i64 n1x, .slice a2x l2x c2x, .slice a3x l3x c3x, .string ⟨⟨h4x⟩⟩, .slice a5x l5x c5x, .slice a6x l6x c6x, .int .i64 n7x, .int .i64 n8x, .slice a9x l9x c9x, .bool b10x, .slice a11x l11x c11x, .slice a12x l12x c12x] 28 := RwC.all13 Q
    have RR := RQ.rangeG
    have MF := hide (M.kp (dgK.onl OS Q) neM)
    have DF := hide (D.onl OS (by omega))
    clear RQ OS M D Q T
    go_wp2_with (first | (refine wpList_load_mid rfl 28 (.tmp 3) rfl (W1.heap.size) 0 rfl [.int .i64 n0x, .int .i64 n1x, .slice a2x l2x c2x, .slice a3x l3x c3x, .string ⟨⟨h4x⟩⟩, .slice a5x l5x c5x, .slice a6x l6x c6x, .int .i64 n7x, .int .i64 n8x, .slice a9x l9x c9x, .bool b10x, .slice a11x l11x c11x, .slice a12x l12x c12x] dR RG hdR hrowR iM ?_) | (refine wpList_store_mid rfl 28 (.tmp 2) (.tmp 11) rfl (w.heap.size) 0 #[.int .i64 n0x, .int .i64 n1x, .slice a2x l2x c2x, .slice a3x l3x c3x, .string ⟨⟨h4x⟩⟩, .slice a5x l5x c5x, .slice a6x l6x c6x, .int .i64 n7x, .int .i64 n8x, .slice a9x l9x c9x, .bool b10x, .slice a11x l11x c11x, .slice a12x l12x c12x] rfl rfl THR iM ONE ?_) | fail)
    refine bodyPost_ret (v := .agg #[.int .i64 n0x, .int .i64 n1x, .slice a2x l2x c2x, .slice a3x l3x c3x, .string ⟨⟨h4x⟩⟩, .slice a5x l5x c5x, .slice a6x l6x c6x, .int .i64 n7x, .int .i64 n8x, .slice a9x l9x c9x, .bool b10x, .slice a11x l11x c11x, .slice a12x l12x c12x]) (results_cellG Tryz.results12 _ _ (w.heap.size) _ dR rfl RR hdR hrowR iM) rfl ?_
    exact (POST _ _ _ _ _ _ _ _ _ _ _ _ _ _ _ MF DF (by omega)).out
end Go.Proofs.YtcaljanahpdidaaGreat
namespace Go.Proofs.YtcaljanahpdidaaGreat
open Go Go.RowKit
theorem MsF.baseE {W : World} {B B' : Nat} {v0 v1 v2 v3 v4 v5 v6 v7 v8 v9 v10 v11 v12 : Value} (h : MsF W B v0 v1 v2 v3 v4 v5 v6 v7 v8 v9 v10 v11 v12) (hB : B' ≤ B) : MsF W B' v0 v1 v2 v3 v4 v5 v6 v7 v8 v9 v10 v11 v12 := by
  have hb : ∀ v, dgB W B v → dgB W B' v := fun v ⟨X, R, l⟩ => ⟨X, own_base R hB, l⟩
  obtain ⟨ta, tc, tg, tls, te, t1, t2, t3, t4, t5⟩ := h.t5
  obtain ⟨ca, cc, cg, cits, cps, ce, c1, c2, c3, c4⟩ := h.c11
  exact ⟨h.i0, h.i1, hb _ h.b2, hb _ h.b3, h.s4, ⟨ta, tc, tg, tls, te, t1, t2, t3, t4, fun h0 => ⟨by have := (t5 h0).1; omega, (t5 h0).2⟩⟩, hb _ h.b6, h.i7, h.i8, hb _ h.b9, h.o10, ⟨ca, cc, cg, cits, cps, ce, c1, c2, fun i hi => ⟨(c3 i hi).1, (c3 i hi).2.1, (c3 i hi).2.2.1, fun h0 => ⟨by have := ((c3 i hi).2.2.2 h0).1; omega, ((c3 i hi).2.2.2 h0).2⟩⟩, fun h0 => ⟨by have := (c4 h0).1; omega, (c4 h0).2⟩⟩, hb _ h.b12⟩
set_option maxRecDepth 100000 in
set_option maxHeartbeats 16000000 in
theorem drawEnc_any (w : World) (g : Nat) (a : Option Addr) (c : Nat) (xs : List Int) (hr : Rd w g a .u8 xs) (hb : Byt xs) (hl : xs.length ≤ 4194304) :
    Calls Tryz.prog 5 #[.slice a xs.length c] w fun e w' => MsFV w' w.heap.size e ∧ Below w.heap.size w w' := by
  obtain ⟨dR, hdR, hrowR⟩ := rowM
  have lg := hr.lt
  have n1 : Below w.heap.size w (w.alloc (.cells #[.int .i64 0, .int .i64 0, .slice none 0 0, .slice none 0 0, .string ⟨#[]⟩, .slice none 0 0, .slice none 0 0, .int .i64 0, .int .i64 0, .slice none 0 0, .bool false, .slice none 0 0, .slice none 0 0] 28)) := (Below.refl _ _).alloc (Nat.le_refl _) _
  have Q : RwC (w.alloc (.cells #[.int .i64 0, .int .i64 0, .slice none 0 0, .slice none 0 0, .string ⟨#[]⟩, .slice none 0 0, .slice none 0 0, .int .i64 0, .int .i64 0, .slice none 0 0, .bool false, .slice none 0 0, .slice none 0 0] 28)) w.heap.size [.int .i64 0, .int .i64 0, .slice none 0 0, .slice none 0 0, .string ⟨#[]⟩, .slice none 0 0, .slice none 0 0, .int .i64 0, .int .i64 0, .slice none 0 0, .bool false, .slice none 0 0, .slice none 0 0] 28 := RwC.new w _ _
  have z1 : w.heap.size < (w.alloc (.cells #[.int .i64 0, .int .i64 0, .slice none 0 0, .slice none 0 0, .string ⟨#[]⟩, .slice none 0 0, .slice none 0 0, .int .i64 0, .int .i64 0, .slice none 0 0, .bool false, .slice none 0 0, .slice none 0 0] 28)).heap.size := by simp
  replace hr := hr.up n1
  go_enter Tryz.func5, Tryz.ntmps5
  go_wp2_with fail
  generalize w.alloc (.cells #[.int .i64 0, .int .i64 0, .slice none 0 0, .slice none 0 0, .string ⟨#[]⟩, .slice none 0 0, .slice none 0 0, .int .i64 0, .int .i64 0, .slice none 0 0, .bool false, .slice none 0 0, .slice none 0 0] 28) = Wa at *
  refine (l1SourceX_any Wa a xs.length c (by omega)).mono ?_
  rintro e w1 ⟨rfl, S1, m1⟩
  obtain ⟨s, hs⟩ : ∃ s, s = Wa.heap.size := ⟨_, rfl⟩
  have y1 : Wa.heap.size < w1.heap.size := S1.lt
  rw [← hs] at S1 ⊢
  have d : Drm w1 s g a c xs 0 := ⟨S1, hr.up m1, fun h => by have := lg h; omega, hb, by omega, by omega⟩
  replace Q := Q.up m1
  have N1 := hide (show Below w.heap.size w w1 from n1.trans (m1.mono (by omega)))
  have ss : w.heap.size < s ∧ s < w1.heap.size := by omega
  clear S1 m1 n1 hr hs y1 z1 hb lg
  go_wp2_with fail
  refine (drawMaybe_M d (by omega)).mono ?_
  rintro e w2 ⟨ux, ⟨v0, v1, v2, v3, v4, v5, v6, v7, v8, v9, v10, v11, v12, rfl, M0⟩, hux, d', b'⟩
  have M := M0.baseE (show w.heap.size ≤ w1.heap.size by omega)
  obtain ⟨n0, n1, a2, l2, c2, a3, l3, c3, h4, a5, l5, c5, a6, l6, c6, n7, n8, a9, l9, c9, b10, a11, l11, c11, a12, l12, c12, rfl, rfl, rfl, rfl, rfl, rfl, rfl, rfl, rfl, rfl, rfl, rfl, rfl⟩ := M.forms
  replace Q := Q.butM b' (by omega)
  have N2 := hide (N1.out.trans (b'.below (by omega) (by omega)))
  have THR := Q.thereG
  have ONE := M.one
  have OS := only_setG w2 w.heap.size [.int .i64 n0, .int .i64 n1, .slice a2 l2 c2, .slice a3 l3 c3, .string ⟨⟨h4⟩⟩, .slice a5 l5 c5, .slice a6 l6 c6, .int .i64 n7, .int .i64 n8, .slice a9 l9 c9, .bool b10, .slice a11 l11 c11, .slice a12 l12 c12] 0
  have RQ : RwC (w2.setCells w.heap.size 0 [.int .i64 n0, .int .i64 n1, .slice a2 l2 c2, .slice a3 l3 c3, .string ⟨⟨h4⟩⟩, .slice a5 l5 c5, .slice a6 l6 c6, .int .i64 n7, .int .i64 n8, .slice a9 l9 c9, .bool b10, .slice a11 l11 c11, .slice a12 l12 c12]) w.heap.size [.int .i64 n0, .int .i64 n1, .slice a2 l2 c2, .slice a3 l3 c3, .string ⟨⟨h4⟩⟩, .slice a5 l5 c5, .slice a6 l6 c6, .int .i64 n7, .int .i64 n8, .slice a9 l9 c9, .bool b10, .slice a11 l11 c11, .slice a12 l12 c12] 28 := RwC.all13 Q
  have RR := RQ.rangeG
  have FIN := hide (show MsFV (w2.setCells w.heap.size 0 [.int .i64 n0, .int .i64 n1, .slice a2 l2 c2, .slice a3 l3 c3, .string ⟨⟨h4⟩⟩, .slice a5 l5 c5, .slice a6 l6 c6, .int .i64 n7, .int .i64 n8, .slice a9 l9 c9, .bool b10, .slice a11 l11 c11, .slice a12 l12 c12]) w.heap.size (.returned (.agg #[.int .i64 n0, .int .i64 n1, .slice a2 l2 c2, .slice a3 l3 c3, .string ⟨⟨h4⟩⟩, .slice a5 l5 c5, .slice a6 l6 c6, .int .i64 n7, .int .i64 n8, .slice a9 l9 c9, .bool b10, .slice a11 l11 c11, .slice a12 l12 c12])) ∧ Below w.heap.size w (w2.setCells w.heap.size 0 [.int .i64 n0, .int .i64 n1, .slice a2 l2 c2, .slice a3 l3 c3, .string ⟨⟨h4⟩⟩, .slice a5 l5 c5, .slice a6 l6 c6, .int .i64 n7, .int .i64 n8, .slice a9 l9 c9, .bool b10, .slice a11 l11 c11, .slice a12 l12 c12]) from ⟨⟨_, _, _, _, _, _, _, _, _, _, _, _, _, rfl, M.kp (dgK.onl OS Q) neM⟩, N2.out.trans (OS.below (Nat.le_refl _))⟩)
  clear RQ OS M M0 Q b' d' d N1 N2
  go_wp2_with (first | (refine wpList_store_mid rfl 28 (.tmp 2) (.tmp 5) rfl (w.heap.size) 0 #[.int .i64 n0, .int .i64 n1, .slice a2 l2 c2, .slice a3 l3 c3, .string ⟨⟨h4⟩⟩, .slice a5 l5 c5, .slice a6 l6 c6, .int .i64 n7, .int .i64 n8, .slice a9 l9 c9, .bool b10, .slice a11 l11 c11, .slice a12 l12 c12] rfl rfl THR iM ONE ?_) | fail)
  refine bodyPost_ret (v := .agg #[.int .i64 n0, .int .i64 n1, .slice a2 l2 c2, .slice a3 l3 c3, .string ⟨⟨h4⟩⟩, .slice a5 l5 c5, .slice a6 l6 c6, .int .i64 n7, .int .i64 n8, .slice a9 l9 c9, .bool b10, .slice a11 l11 c11, .slice a12 l12 c12]) (results_cellG Tryz.results5 _ _ (w.heap.size) _ dR rfl RR hdR hrowR iM) rfl ?_
  exact FIN.out
end Go.Proofs.YtcaljanahpdidaaGreat
namespace Go.Proofs.YtcaljanahpdidaaGreat
open Go.RowKit
theorem Rd.dropA {w : World} {g : Nat} {a : Option Addr} {k : IntKind} {xs : List Int} (h : Rd w g a k xs) (n : Nat) (hn : n < xs.length) : ∃ o, a = some ⟨g, o, none⟩ ∧ Rd w g (some ⟨g, o + n, none⟩) k (xs.drop n) := by
  obtain ⟨o, rfl, hc⟩ := h (by omega)
  refine ⟨o, rfl, fun _ => ⟨o + n, rfl, fun i hi => ?_⟩⟩
  rw [List.length_drop] at hi
  rw [Nat.add_assoc, hc (n + i) (by omega), List.getD_eq_getElem?_getD, List.getD_eq_getElem?_getD, List.getElem?_drop]
theorem Rd.takeA {w : World} {g : Nat} {a : Option Addr} {k : IntKind} {xs : List Int} (h : Rd w g a k xs) (n : Nat) : Rd w g a k (xs.take n) := fun h0 => by
  rw [List.length_take] at h0
  obtain ⟨o, e, hc⟩ := h (by omega)
  refine ⟨o, e, fun i hi => ?_⟩
  rw [List.length_take] at hi
  rw [hc i (by omega), List.getD_eq_getElem?_getD, List.getD_eq_getElem?_getD, List.getElem?_take, if_pos (by omega)]
end Go.Proofs.YtcaljanahpdidaaGreat
namespace Go.Proofs.YtcaljanahpdidaaGreat
open Go Go.RowKit
def Cur (w : World) (p : Nat) (l : Value) (i : Int) : Prop := ∃ t, w.heap[p]? = some (.cells #[l, .int .i64 i] t (0, 0))
theorem Cur.c0 {w : World} {p : Nat} {l : Value} {i : Int} (h : Cur w p l i) : w.cell? ⟨p, 0, none⟩ = some l := by
  obtain ⟨t, h⟩ := h
  simp [World.cell?, h]
theorem Cur.c1 {w : World} {p : Nat} {l : Value} {i : Int} (h : Cur w p l i) : w.cell? ⟨p, 1, none⟩ = some (.int .i64 i) := by
  obtain ⟨t, h⟩ := h
  simp [World.cell?, h]
theorem Cur.f1 {w : World} {p : Nat} {l : Value} {i : Int} (h : Cur w p l i) : w.frozen? ⟨p, 1, none⟩ = false := by
  obtain ⟨t, h⟩ := h
  simp [World.frozen?, h]
theorem Cur.lt {w : World} {p : Nat} {l : Value} {i : Int} (h : Cur w p l i) : p < w.heap.size := by
  obtain ⟨t, h⟩ := h
  exact (Array.getElem?_eq_some_iff.1 h).1
theorem Cur.of_block {w w' : World} {p : Nat} {l : Value} {i : Int} (h : Cur w p l i) (hb : w'.heap[p]? = w.heap[p]?) : Cur w' p l i := by
  obtain ⟨t, h⟩ := h
  exact ⟨t, hb.trans h⟩
theorem Cur.up {w w' : World} {p : Nat} {l : Value} {i : Int} (h : Cur w p l i) (n : Below w.heap.size w w') : Cur w' p l i := h.of_block (n.block p h.lt)
theorem Cur.drew {w : World} {p : Nat} {l : Value} {i : Int} (h : Cur w p l i) (n : Nat) : Cur (w.drewN n) p l i := h
theorem Cur.store {w : World} {p : Nat} {l : Value} {i : Int} (h : Cur w p l i) (j : Int) : Cur (w.setCell ⟨p, 1, none⟩ (.int .i64 j)) p l j := by
  obtain ⟨t, h⟩ := h
  refine ⟨t, ?_⟩
  show (w.heap.modify p _)[p]? = _
  rw [Array.getElem?_modify, if_pos rfl, h]
  rfl
def Tl (w : World) (p : Nat) (x y : Value) : Prop := ∃ t, w.heap[p]? = some (.cells #[x, y] t (0, 0))
theorem Tl.c0 {w : World} {p : Nat} {x y : Value} (h : Tl w p x y) : w.cell? ⟨p, 0, none⟩ = some x := by
  obtain ⟨t, h⟩ := h
  simp [World.cell?, h]
theorem Tl.c1 {w : World} {p : Nat} {x y : Value} (h : Tl w p x y) : w.cell? ⟨p, 1, none⟩ = some y := by
  obtain ⟨t, h⟩ := h
  simp [World.cell?, h]
theorem Tl.fr {w : World} {p : Nat} {x y : Value} (h : Tl w p x y) (i : Nat) : w.frozen? ⟨p, i, none⟩ = false := by
  obtain ⟨t, h⟩ := h
  simp [World.frozen?, h]
theorem Tl.lt {w : World} {p : Nat} {x y : Value} (h : Tl w p x y) : p < w.heap.size := by
  obtain ⟨t, h⟩ := h
  exact (Array.getElem?_eq_some_iff.1 h).1
theorem Tl.of_block {w w' : World} {p : Nat} {x y : Value} (h : Tl w p x y) (hb : w'.heap[p]? = w.heap[p]?) : Tl w' p x y := by
  obtain ⟨t, h⟩ := h
  exact ⟨t, hb.trans h⟩
theorem Tl.up {w w' : World} {p : Nat} {x y : Value} (h : Tl w p x y) (n : Below w.heap.size w w') : Tl w' p x y := h.of_block (n.block p h.lt)
theorem Tl.only {w w' : World} {p q : Nat} {x y : Value} (h : Tl w p x y) (n : Only q w w') (hne : p ≠ q) : Tl w' p x y := h.of_block (n.block p hne)
theorem Tl.new (w : World) (x y : Value) (t : TypeId) : Tl (w.alloc (.cells #[x, y] t)) w.heap.size x y := by
  refine ⟨t, ?_⟩
  show (w.heap.push _)[w.heap.size]? = _
  simp
def Pan (e : Ending) : Prop := ∃ t v, e = .panicked [{ v := .iface t v, recovered := false }]
set_option maxHeartbeats 1000000 in
theorem take_ok (w : World) (p g : Nat) (a : Option Addr) (c : Nat) (xs : List Int) (i : Nat) (hC : Cur w p (.slice a xs.length c) i) (hr : Rd w g a .u8 xs) (hi : i < xs.length) (hn : xs.length ≤ 9223372036854775807) :
    Calls Tryz.prog 56 #[.pointer (some ⟨p, 0, none⟩)] w fun e w' => e = .returned (.int .u8 (xs.getD i 0)) ∧ Cur w' p (.slice a xs.length c) ((i + 1 : Nat) : Int) ∧ Only p w w' := by
  obtain ⟨off, rfl, hc⟩ := hr (by omega)
  have h1 := hc i hi
  have c0 := hC.c0
  have c1 := hC.c1
  have f1 := hC.f1
  have t1 : decide ((i : Int) < 0) = false := by simp
  have t2 : decide ((xs.length : Int) ≤ (i : Int)) = false := by simp; omega
  have t3 : (i : Int) < (xs.length : Int) := by omega
  have K := fun k => hide (show Cur ((w.drewN k).setCell ⟨p, 1, none⟩ (.int .i64 ((i : Int) + 1))) p (.slice (some ⟨g, off, none⟩) xs.length c) ((i + 1 : Nat) : Int) from by have := (hC.drew k).store ((i : Int) + 1); rwa [show ((i : Int) + 1) = ((i + 1 : Nat) : Int) by omega] at this ⊢)
  generalize xs.getD i 0 = x at *
  generalize xs.length = n at *
  clear hc hC
  go_enter Tryz.func56, Tryz.ntmps56
  go_wp2
  go_quiet (fail)
  go_wp2
  go_quiet (fail)
  go_wp2
  go_ret
  exact ⟨rfl, (K _).out, (Only.drewN w p _).trans (Only.setCell _ _ _ _)⟩
set_option maxHeartbeats 1000000 in
theorem take_bad (w : World) (p : Nat) (a : Option Addr) (n c : Nat) (i : Int) (hC : Cur w p (.slice a n c) i) (hi : ¬ (0 ≤ i ∧ i < (n : Int))) :
    Calls Tryz.prog 56 #[.pointer (some ⟨p, 0, none⟩)] w fun e w' => Pan e ∧ Only p w w' := by
  have c0 := hC.c0
  have c1 := hC.c1
  by_cases c2 : i < 0
  · have t1 : decide (i < 0) = true := by simp; omega
    clear hC hi
    go_enter Tryz.func56, Tryz.ntmps56
    go_wp2
    go_quiet (fail)
    go_wp2
    exact ⟨rfl, ⟨_, _, rfl⟩, Only.drewN w p _⟩
  · have t1 : decide (i < 0) = false := by simp; omega
    have t2 : decide ((n : Int) ≤ i) = true := by simp; omega
    clear hC hi
    go_enter Tryz.func56, Tryz.ntmps56
    go_wp2
    go_quiet (fail)
    go_wp2
    exact ⟨rfl, ⟨_, _, rfl⟩, Only.drewN w p _⟩
end Go.Proofs.YtcaljanahpdidaaGreat
namespace Go.Proofs.YtcaljanahpdidaaGreat
open Go Go.RowKit
theorem ofInt64 (v : Int) : ((BitVec.ofInt 64 v).toNat : Int) = v % 18446744073709551616 := by
  rw [BitVec.toNat_ofInt]
  rw [Int.toNat_of_nonneg (Int.emod_nonneg _ (by decide))]
  rfl
theorem wrap_i64 (n : Int) : IntKind.i64.wrap n = (n + 9223372036854775808) % 18446744073709551616 - 9223372036854775808 := by
  simp [IntKind.wrap, IntKind.signed, IntKind.bits]
  omega
theorem or_byte (v x : Int) (h0 : -9223372036854775808 ≤ v * 256) (h1 : v * 256 < 9223372036854775808) (x0 : 0 ≤ x) (x1 : x < 256) : bits .or .i64 (v * 256) x = v * 256 + x := by
  have e : bits .or .i64 (v * 256) x = IntKind.i64.wrap ((BitVec.ofInt 64 (v * 256) ||| BitVec.ofInt 64 x).toNat : Int) := rfl
  rw [e, wrap_i64, BitVec.toNat_or]
  have a := ofInt64 (v * 256)
  have b := ofInt64 x
  obtain ⟨m, hm⟩ : ∃ m, (BitVec.ofInt 64 (v * 256)).toNat = 2 ^ 8 * m := ⟨(BitVec.ofInt 64 (v * 256)).toNat / 256, by omega⟩
  obtain ⟨y, hy⟩ : ∃ y, (BitVec.ofInt 64 x).toNat = y := ⟨_, rfl⟩
  rw [hm, hy, ← Nat.two_pow_add_eq_or_of_lt (by omega)]
  rw [hm] at a
  rw [hy] at b
  omega
end Go.Proofs.YtcaljanahpdidaaGreat
namespace Go.Proofs.YtcaljanahpdidaaGreat
open Go Go.RowKit
def beN (xs : List Int) (i : Nat) : Nat → Int
  | 0 => 0
  | k + 1 => beN xs i k * 256 + xs.getD (i + k) 0
theorem beN_rng {xs : List Int} (h : Byt xs) (i : Nat) : ∀ k, 0 ≤ beN xs i k ∧ beN xs i k < 256 ^ k
  | 0 => ⟨Int.le_refl _, by simp [beN]⟩
  | k + 1 => by
    have ih := beN_rng h i k
    have b := h (i + k)
    rw [beN, Int.pow_succ]
    omega
theorem Rd.of_block' {w w' : World} {g : Nat} {a : Option Addr} {k : IntKind} {xs : List Int} (h : Rd w g a k xs) (hb : 0 < xs.length → w'.heap[g]? = w.heap[g]?) : Rd w' g a k xs := by
  by_cases h0 : 0 < xs.length
  · exact h.of_block (hb h0)
  · exact fun q => absurd q h0
end Go.Proofs.YtcaljanahpdidaaGreat
namespace Go.Proofs.YtcaljanahpdidaaGreat
open Go Go.RowKit
def isAg (n : Int) : Bool := decide (0 ≤ n) && decide (n ≤ 4294967295)
end Go.Proofs.YtcaljanahpdidaaGreat
namespace Go.Proofs.YtcaljanahpdidaaGreat
open Go Go.RowKit
def isTm (n : Int) : Bool := decide (0 ≤ n) && decide (n ≤ 253402300799)
def isLi (n : Int) : Bool := decide (1 ≤ n) && decide (n ≤ 604800)
def sfV (n n' : Nat) (md li : Int) (ho : List UInt8) (p : Nat) (ea : Int) : Int :=
  if n ≠ 32 ∨ n' ≠ 32 then 1 else if isTm md = false then 2 else if isLi li = false then 3 else if nameF ho ≠ 0 then 4 else if 32 < p then 5 else if isAg ea = false then 6 else 0
end Go.Proofs.YtcaljanahpdidaaGreat
namespace Go.Proofs.YtcaljanahpdidaaGreat
open Go Go.RowKit
theorem RwC.at_base {w w' : World} {q B : Nat} {cs : List Value} {t : TypeId} (h : RwC w q cs t) (n : Below B w w') (hq : q < B) : RwC w' q cs t := (n.block q hq).trans h
def esL (X Y : List Int) (md li : Int) (ho pr : List UInt8) (ea : Int) : List Int := X ++ Y ++ bigL md 8 ++ bigL li 4 ++ bigL ea 4 ++ shL ho ++ shL pr
def esA (X Y : List Int) (md li : Int) (ho pr : List UInt8) (ea : Int) : List Int := if sfV X.length Y.length md li ho pr.length ea = 0 then esL X Y md li ho pr ea else []
end Go.Proofs.YtcaljanahpdidaaGreat
namespace Go.Proofs.YtcaljanahpdidaaGreat
open Go Go.RowKit
def tkB (xs : List Int) (i n : Nat) : List Int := fill (fun k => xs.getD (i + k) 0) n
theorem tkB_len (xs : List Int) (i n : Nat) : (tkB xs i n).length = n := fill_len _ _
theorem tkB_get (xs : List Int) (i n k : Nat) (h : k < n) : (tkB xs i n).getD k 0 = xs.getD (i + k) 0 := fill_get _ _ _ h
theorem tkB_byt {xs : List Int} (h : Byt xs) (i n : Nat) : Byt (tkB xs i n) := fun k => by
  by_cases hk : k < n
  · rw [tkB_get _ _ _ _ hk]; exact h _
  · rw [List.getD_eq_getElem?_getD, List.getElem?_eq_none (by rw [tkB_len]; omega)]
    exact ⟨by simp, by simp⟩
def NewI (p : Nat) (w w' : World) : Prop := w'.os = w.os ∧ w'.tape = w.tape ∧ w'.output = w.output ∧ w.heap.size ≤ w'.heap.size ∧ ∀ b, b < w.heap.size → b ≠ p → w'.heap[b]? = w.heap[b]?
theorem NewI.below {p B : Nat} {w w' : World} (h : NewI p w w') (hB : B ≤ p) (hw : B ≤ w.heap.size) : Below B w w' := ⟨h.1, h.2.1, h.2.2.1, h.2.2.2.1, fun k hk => h.2.2.2.2 k (by omega) (by omega)⟩
theorem NewI.block {p b : Nat} {w w' : World} (h : NewI p w w') (hb : b < w.heap.size) (hne : b ≠ p) : w'.heap[b]? = w.heap[b]? := h.2.2.2.2 b hb hne
theorem NewI.refl (p : Nat) (w : World) : NewI p w w := ⟨rfl, rfl, rfl, Nat.le_refl _, fun _ _ _ => rfl⟩
theorem NewI.trans {p : Nat} {a b c : World} (h : NewI p a b) (k : NewI p b c) : NewI p a c :=
  ⟨k.1.trans h.1, k.2.1.trans h.2.1, k.2.2.1.trans h.2.2.1, Nat.le_trans h.2.2.2.1 k.2.2.2.1, fun x hx hn => (k.2.2.2.2 x (Nat.lt_of_lt_of_le hx h.2.2.2.1) hn).trans (h.2.2.2.2 x hx hn)⟩
theorem NewI.of_below {p : Nat} {w w' : World} (h : Below w.heap.size w w') : NewI p w w' := ⟨h.os, h.tape, h.output, h.size, fun b hb _ => h.block b hb⟩
theorem NewI.of_only {p : Nat} {w w' : World} (h : Only p w w') : NewI p w w' := ⟨h.os, h.tape, h.output, Nat.le_of_eq h.size.symm, fun b _ hn => h.block b hn⟩
def nmV (xs : List Int) (i n : Nat) : Int := wrap64 (beN xs i n)
theorem nmV_small {xs : List Int} (hb : Byt xs) (i n : Nat) (hn : n ≤ 7) : nmV xs i n = beN xs i n := by
  have r := beN_rng hb i n
  have r1 : beN xs i n < 72057594037927936 := by
    rcases (by omega : n = 0 ∨ n = 1 ∨ n = 2 ∨ n = 3 ∨ n = 4 ∨ n = 5 ∨ n = 6 ∨ n = 7) with rfl | rfl | rfl | rfl | rfl | rfl | rfl | rfl
    all_goals (have := r.2; simp at this; omega)
  unfold nmV wrap64
  omega
end Go.Proofs.YtcaljanahpdidaaGreat
namespace Go.Proofs.YtcaljanahpdidaaGreat
open Go Go.RowKit
def txB (xs : List Int) : List UInt8 := xs.map fun n => UInt8.ofNat n.toNat
theorem txB_len (xs : List Int) : (txB xs).length = xs.length := by simp [txB]
theorem str_is (xs : List Int) : str xs = ⟨⟨txB xs⟩⟩ := by
  have h := str_data xs ByteArray.empty
  have e : (str xs).data = ⟨txB xs⟩ := by
    unfold str
    rw [h]
    show (#[] : Array UInt8) ++ (txB xs).toArray = _
    simp
  calc str xs = ⟨(str xs).data⟩ := rfl
    _ = _ := by rw [e]
theorem tkB_take (xs : List Int) (i n : Nat) (h : i + n ≤ xs.length) : (xs.drop i).take n = tkB xs i n := by
  apply eq_of_getD
  · rw [List.length_take, List.length_drop, tkB_len]; omega
  · intro k hk
    rw [List.length_take, List.length_drop] at hk
    rw [tkB_get _ _ _ _ (by omega), List.getD_eq_getElem?_getD, List.getElem?_take, if_pos (by omega), List.getElem?_drop, ← List.getD_eq_getElem?_getD]
def dn1 (b : List Int) : Nat := (beN b 80 1).toNat
def dn2 (b : List Int) : Nat := (beN b (81 + dn1 b) 1).toNat
def dX (b : List Int) : List Int := tkB b 0 32
def dY (b : List Int) : List Int := tkB b 32 32
def dM (b : List Int) : Int := nmV b 64 8
def dL (b : List Int) : Int := nmV b 72 4
def dE (b : List Int) : Int := nmV b 76 4
def dH (b : List Int) : List UInt8 := txB (tkB b 81 (dn1 b))
def dP (b : List Int) : List UInt8 := txB (tkB b (82 + dn1 b) (dn2 b))
def dsB (b : List Int) : Bool := decide (sfV (dX b).length (dY b).length (dM b) (dL b) (dH b) (dP b).length (dE b) = 0) && decide (esA (dX b) (dY b) (dM b) (dL b) (dH b) (dP b) (dE b) = b)
end Go.Proofs.YtcaljanahpdidaaGreat
namespace Go.Proofs.YtcaljanahpdidaaGreat
end Go.Proofs.YtcaljanahpdidaaGreat
namespace Go.Proofs.YtcaljanahpdidaaGreat
open Go Go.RowKit
end Go.Proofs.YtcaljanahpdidaaGreat
namespace Go.Proofs.YtcaljanahpdidaaGreat
end Go.Proofs.YtcaljanahpdidaaGreat
namespace Go.Proofs.YtcaljanahpdidaaGreat
open Go Go.RowKit
theorem Cur.only {w w' : World} {p q : Nat} {l : Value} {i : Int} (h : Cur w p l i) (n : Only q w w') (hne : p ≠ q) : Cur w' p l i := h.of_block (n.block p hne)
theorem Rd.only {w w' : World} {g q : Nat} {a : Option Addr} {k : IntKind} {xs : List Int} (h : Rd w g a k xs) (n : Only q w w') (hne : 0 < xs.length → g ≠ q) : Rd w' g a k xs := by
  by_cases h0 : 0 < xs.length
  · exact h.of_block (n.block g (hne h0))
  · obtain rfl : xs = [] := List.eq_nil_of_length_eq_zero (by omega)
    exact Rd.nil _ _ _ _
end Go.Proofs.YtcaljanahpdidaaGreat
