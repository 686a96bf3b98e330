import Derived.Test.YtmfajpplagbfcaaGreatDoorHCxDmM
import Derived.Test.YtmfajpplagbfcaaGreatDoorHCxDmB
import Derived.Test.YtmfajpplagbfcaaGreatDoorHC14
import Derived.Test.YtmfajpplagbfcaaGreatDoorHC11
import Derived.Test.YtmfajpplagbfcaaGreatDoorHC8
import Derived.Test.YtmfajpplagbfcaaGreatDoorHC6
namespace Go.Proofs.YtmfajpplagbfcaaGreatDoor
set_option maxRecDepth 100000
open Go Go.RowKit
set_option maxRecDepth 100000 in
set_option maxHeartbeats 16000000 in
theorem drawMaybe_M {w : World} {s g : Nat} {a : Option Addr} {c : Nat} {xs : List Int} {t : Int} (d : Drm w s g a c xs t) (t1 : t ≤ 700000) :
    Calls Tryz.prog 15 #[.pointer (some ⟨s, 0, none⟩)] w fun e w' => ∃ u : Int, MsFV w' w.heap.size e ∧ u ≤ t + 200 ∧ Drm w' s g a c xs u ∧ But s w w' := by
  obtain ⟨dR, hdR, hrowR⟩ := rowM
  have ls := d.S.lt
  have lg := d.R.lt
  obtain ⟨B, hB⟩ : ∃ B, B = w.heap.size := ⟨_, rfl⟩
  have D0 : Dq w w s g a c xs B t := Dq.start d (by omega) (fun h => by have := lg h; omega) (by omega)
  have n1 : Below w.heap.size w (w.alloc (.cells #[.int .i64 0, .int .i64 0, .slice none 0 0, .slice none 0 0, .string ⟨#[]⟩, .slice none 0 0, .slice none 0 0, .int .i64 0, .int .i64 0, .slice none 0 0, .bool false, .slice none 0 0, .slice none 0 0] 26)) := (Below.refl _ _).alloc (Nat.le_refl _) _
  have Q : RwC (w.alloc (.cells #[.int .i64 0, .int .i64 0, .slice none 0 0, .slice none 0 0, .string ⟨#[]⟩, .slice none 0 0, .slice none 0 0, .int .i64 0, .int .i64 0, .slice none 0 0, .bool false, .slice none 0 0, .slice none 0 0] 26)) w.heap.size [.int .i64 0, .int .i64 0, .slice none 0 0, .slice none 0 0, .string ⟨#[]⟩, .slice none 0 0, .slice none 0 0, .int .i64 0, .int .i64 0, .slice none 0 0, .bool false, .slice none 0 0, .slice none 0 0] 26 := RwC.new w _ _
  have z1 : (w.alloc (.cells #[.int .i64 0, .int .i64 0, .slice none 0 0, .slice none 0 0, .string ⟨#[]⟩, .slice none 0 0, .slice none 0 0, .int .i64 0, .int .i64 0, .slice none 0 0, .bool false, .slice none 0 0, .slice none 0 0] 26)).heap.size = w.heap.size + 1 := by simp
  have D := D0.up n1
  have POST : ∀ (v0 v1 v2 v3 v4 v5 v6 v7 v8 v9 v10 v11 v12 : Value) (W : World) (u : Int), Hid (MsF W B v0 v1 v2 v3 v4 v5 v6 v7 v8 v9 v10 v11 v12) → Hid (Dq w W s g a c xs B u) → u ≤ t + 200 → Hid ((∃ u : Int, MsFV W w.heap.size (.returned (.agg #[v0, v1, v2, v3, v4, v5, v6, v7, v8, v9, v10, v11, v12])) ∧ u ≤ t + 200 ∧ Drm W s g a c xs u ∧ But s w W)) := fun v0 v1 v2 v3 v4 v5 v6 v7 v8 v9 v10 v11 v12 W u hm hd hu => by
    subst hB
    exact ⟨u, ⟨v0, v1, v2, v3, v4, v5, v6, v7, v8, v9, v10, v11, v12, rfl, hm.out⟩, hu, hd.out.d, hd.out.out⟩
  clear n1 d D0
  go_enter Tryz.func15, Tryz.ntmps15
  go_wp2_with fail
  generalize w.alloc (.cells #[.int .i64 0, .int .i64 0, .slice none 0 0, .slice none 0 0, .string ⟨#[]⟩, .slice none 0 0, .slice none 0 0, .int .i64 0, .int .i64 0, .slice none 0 0, .bool false, .slice none 0 0, .slice none 0 0] 26) = W0 at *
  refine (drawMsg_M D.d (by omega)).mono ?_
  rintro e W1 ⟨ux, ⟨v0, v1, v2, v3, v4, v5, v6, v7, v8, v9, v10, v11, v12, rfl, M0⟩, hux, d', b'⟩
  have M1 := M0.base (show B ≤ W0.heap.size by omega)
  obtain ⟨n0, n1, a2, l2, c2, a3, l3, c3, h4, a5, l5, c5, a6, l6, c6, n7, n8, a9, l9, c9, b10, a11, l11, c11, a12, l12, c12, rfl, rfl, rfl, rfl, rfl, rfl, rfl, rfl, rfl, rfl, rfl, rfl, rfl⟩ := M1.rd.forms
  clear M0
  have zW1 := b'.size
  replace Q := Q.butM b' (by omega)
  replace D := D.but b' d'
  clear b' d'
  have n' : Below W1.heap.size W1 (W1.alloc (.cells #[.int .i64 n0, .int .i64 n1, .slice a2 l2 c2, .slice a3 l3 c3, .string ⟨⟨h4⟩⟩, .slice a5 l5 c5, .slice a6 l6 c6, .int .i64 n7, .int .i64 n8, .slice a9 l9 c9, .bool b10, .slice a11 l11 c11, .slice a12 l12 c12] 26)) := (Below.refl _ _).alloc (Nat.le_refl _) _
  have T : RwC (W1.alloc (.cells #[.int .i64 n0, .int .i64 n1, .slice a2 l2 c2, .slice a3 l3 c3, .string ⟨⟨h4⟩⟩, .slice a5 l5 c5, .slice a6 l6 c6, .int .i64 n7, .int .i64 n8, .slice a9 l9 c9, .bool b10, .slice a11 l11 c11, .slice a12 l12 c12] 26)) W1.heap.size [.int .i64 n0, .int .i64 n1, .slice a2 l2 c2, .slice a3 l3 c3, .string ⟨⟨h4⟩⟩, .slice a5 l5 c5, .slice a6 l6 c6, .int .i64 n7, .int .i64 n8, .slice a9 l9 c9, .bool b10, .slice a11 l11 c11, .slice a12 l12 c12] 26 := RwC.new _ _ _
  have zW2 : (W1.alloc (.cells #[.int .i64 n0, .int .i64 n1, .slice a2 l2 c2, .slice a3 l3 c3, .string ⟨⟨h4⟩⟩, .slice a5 l5 c5, .slice a6 l6 c6, .int .i64 n7, .int .i64 n8, .slice a9 l9 c9, .bool b10, .slice a11 l11 c11, .slice a12 l12 c12] 26)).heap.size = W1.heap.size + 1 := by simp
  have p0 := Q.lt
  replace Q := Q.up n'
  have p1 := D.size
  replace D := D.up n'
  replace M1 := M1.kp (X := 26) (dgK.up n') (by decide)
  have M : MsO (W1.alloc (.cells #[.int .i64 n0, .int .i64 n1, .slice a2 l2 c2, .slice a3 l3 c3, .string ⟨⟨h4⟩⟩, .slice a5 l5 c5, .slice a6 l6 c6, .int .i64 n7, .int .i64 n8, .slice a9 l9 c9, .bool b10, .slice a11 l11 c11, .slice a12 l12 c12] 26)) B (.int .i64 n0) (.int .i64 n1) (.slice a2 l2 c2) (.slice a3 l3 c3) (.string ⟨⟨h4⟩⟩) (.slice a5 l5 c5) (.slice a6 l6 c6) (.int .i64 n7) (.int .i64 n8) (.slice a9 l9 c9) (.bool b10) (.slice a11 l11 c11) (.slice a12 l12 c12) := ⟨M1.i0, M1.i1, M1.b2, M1.b3, M1.s4, M1.t5, M1.b6, M1.i7, M1.i8, M1.b9, M1.o10, M1.c11, M1.b12⟩
  clear n' M1
  go_wp2_with fail
  generalize W1.alloc (.cells #[.int .i64 n0, .int .i64 n1, .slice a2 l2 c2, .slice a3 l3 c3, .string ⟨⟨h4⟩⟩, .slice a5 l5 c5, .slice a6 l6 c6, .int .i64 n7, .int .i64 n8, .slice a9 l9 c9, .bool b10, .slice a11 l11 c11, .slice a12 l12 c12] 26) = W2 at *
  refine (chance_M D.d (by omega) (by decide) (by decide)).mono ?_
  rintro e W3 ⟨b3, rfl, d', b'⟩
  have zW3 := b'.size
  replace T := T.butM b' (by omega)
  replace M := M.kp (dgK.but b' D.sB) neM
  replace Q := Q.butM b' (by omega)
  replace D := D.but b' d'
  clear b' d'
  cases b3
  case false =>
    replace M := M.rd
    have RG := T.rangeG
    have THR := Q.thereG
    have ONE := M.one
    have OS := only_setG W3 w.heap.size [.int .i64 n0, .int .i64 n1, .slice a2 l2 c2, .slice a3 l3 c3, .string ⟨⟨h4⟩⟩, .slice a5 l5 c5, .slice a6 l6 c6, .int .i64 n7, .int .i64 n8, .slice a9 l9 c9, .bool b10, .slice a11 l11 c11, .slice a12 l12 c12] 0
    have RQ : RwC (W3.setCells w.heap.size 0 [.int .i64 n0, .int .i64 n1, .slice a2 l2 c2, .slice a3 l3 c3, .string ⟨⟨h4⟩⟩, .slice a5 l5 c5, .slice a6 l6 c6, .int .i64 n7, .int .i64 n8, .slice a9 l9 c9, .bool b10, .slice a11 l11 c11, .slice a12 l12 c12]) w.heap.size [.int .i64 n0, .int .i64 n1, .slice a2 l2 c2, .slice a3 l3 c3, .string ⟨⟨h4⟩⟩, .slice a5 l5 c5, .slice a6 l6 c6, .int .i64 n7, .int .i64 n8, .slice a9 l9 c9, .bool b10, .slice a11 l11 c11, .slice a12 l12 c12] 26 := RwC.all13 Q
    have RR := RQ.rangeG
    have MF := hide (M.kp (dgK.onl OS Q) neM)
    have DF := hide (D.onl OS (by omega))
    clear RQ OS M D Q T
    go_wp2_with (first | (refine wpList_load_mid rfl 26 (.tmp 3) rfl (W1.heap.size) 0 rfl [.int .i64 n0, .int .i64 n1, .slice a2 l2 c2, .slice a3 l3 c3, .string ⟨⟨h4⟩⟩, .slice a5 l5 c5, .slice a6 l6 c6, .int .i64 n7, .int .i64 n8, .slice a9 l9 c9, .bool b10, .slice a11 l11 c11, .slice a12 l12 c12] dR RG hdR hrowR iM ?_) | (refine wpList_store_mid rfl 26 (.tmp 2) (.tmp 11) rfl (w.heap.size) 0 #[.int .i64 n0, .int .i64 n1, .slice a2 l2 c2, .slice a3 l3 c3, .string ⟨⟨h4⟩⟩, .slice a5 l5 c5, .slice a6 l6 c6, .int .i64 n7, .int .i64 n8, .slice a9 l9 c9, .bool b10, .slice a11 l11 c11, .slice a12 l12 c12] rfl rfl THR iM ONE ?_) | fail)
    refine bodyPost_ret (v := .agg #[.int .i64 n0, .int .i64 n1, .slice a2 l2 c2, .slice a3 l3 c3, .string ⟨⟨h4⟩⟩, .slice a5 l5 c5, .slice a6 l6 c6, .int .i64 n7, .int .i64 n8, .slice a9 l9 c9, .bool b10, .slice a11 l11 c11, .slice a12 l12 c12]) (results_cellG Tryz.results15 _ _ (w.heap.size) _ dR rfl RR hdR hrowR iM) rfl ?_
    exact (POST _ _ _ _ _ _ _ _ _ _ _ _ _ _ _ MF DF (by omega)).out
  case true =>
    have RG := T.rangeG
    go_wp2_with (first | (refine wpList_load_mid rfl 26 (.tmp 3) rfl (W1.heap.size) 0 rfl [.int .i64 n0, .int .i64 n1, .slice a2 l2 c2, .slice a3 l3 c3, .string ⟨⟨h4⟩⟩, .slice a5 l5 c5, .slice a6 l6 c6, .int .i64 n7, .int .i64 n8, .slice a9 l9 c9, .bool b10, .slice a11 l11 c11, .slice a12 l12 c12] dR RG hdR hrowR iM ?_) | fail)
    clear RG
    refine (break_M D.d (by omega) D.sB D.gB (by omega) M).mono ?_
    rintro e W4 ⟨uy, ⟨v0, v1, v2, v3, v4, v5, v6, v7, v8, v9, v10, v11, v12, rfl, M3⟩, huy, K3⟩
    have D3 := D.call K3
    have T3 := T.dq K3 (by omega)
    have Q3 := Q.dq K3 (by omega)
    have s3 := K3.size
    obtain ⟨n0x, n1x, a2x, l2x, c2x, a3x, l3x, c3x, h4x, a5x, l5x, c5x, a6x, l6x, c6x, n7x, n8x, a9x, l9x, c9x, b10x, a11x, l11x, c11x, a12x, l12x, c12x, rfl, rfl, rfl, rfl, rfl, rfl, rfl, rfl, rfl, rfl, rfl, rfl, rfl⟩ := M3.forms
    clear D T Q M K3
    have OS := only_setG W4 (W1.heap.size) [.int .i64 n0x, .int .i64 n1x, .slice a2x l2x c2x, .slice a3x l3x c3x, .string ⟨⟨h4x⟩⟩, .slice a5x l5x c5x, .slice a6x l6x c6x, .int .i64 n7x, .int .i64 n8x, .slice a9x l9x c9x, .bool b10x, .slice a11x l11x c11x, .slice a12x l12x c12x] 0
    have THR := T3.thereG
    have ONE := M3.one
    have T : RwC (W4.setCells W1.heap.size 0 [.int .i64 n0x, .int .i64 n1x, .slice a2x l2x c2x, .slice a3x l3x c3x, .string ⟨⟨h4x⟩⟩, .slice a5x l5x c5x, .slice a6x l6x c6x, .int .i64 n7x, .int .i64 n8x, .slice a9x l9x c9x, .bool b10x, .slice a11x l11x c11x, .slice a12x l12x c12x]) (W1.heap.size) [.int .i64 n0x, .int .i64 n1x, .slice a2x l2x c2x, .slice a3x l3x c3x, .string ⟨⟨h4x⟩⟩, .slice a5x l5x c5x, .slice a6x l6x c6x, .int .i64 n7x, .int .i64 n8x, .slice a9x l9x c9x, .bool b10x, .slice a11x l11x c11x, .slice a12x l12x c12x] 26 := RwC.all13 T3
    have M := M3.kp (dgK.onl OS T3) neM
    have Q := Q3.onl OS (by omega)
    have D := D3.onl OS (by omega)
    have zz := OS.size
    clear OS T3 M3 Q3 D3
    go_upto_region 4 with (first | (refine wpList_store_mid rfl 26 (.tmp 3) (.tmp 10) rfl (W1.heap.size) 0 #[.int .i64 n0x, .int .i64 n1x, .slice a2x l2x c2x, .slice a3x l3x c3x, .string ⟨⟨h4x⟩⟩, .slice a5x l5x c5x, .slice a6x l6x c6x, .int .i64 n7x, .int .i64 n8x, .slice a9x l9x c9x, .bool b10x, .slice a11x l11x c11x, .slice a12x l12x c12x] rfl rfl THR iM ONE ?_) | fail)
    generalize W4.setCells W1.heap.size 0 [.int .i64 n0x, .int .i64 n1x, .slice a2x l2x c2x, .slice a3x l3x c3x, .string ⟨⟨h4x⟩⟩, .slice a5x l5x c5x, .slice a6x l6x c6x, .int .i64 n7x, .int .i64 n8x, .slice a9x l9x c9x, .bool b10x, .slice a11x l11x c11x, .slice a12x l12x c12x] = W5 at *
    clear THR ONE
    have RG := T.rangeG
    have THR := Q.thereG
    have ONE := M.one
    have OS := only_setG W5 w.heap.size [.int .i64 n0x, .int .i64 n1x, .slice a2x l2x c2x, .slice a3x l3x c3x, .string ⟨⟨h4x⟩⟩, .slice a5x l5x c5x, .slice a6x l6x c6x, .int .i64 n7x, .int .i64 n8x, .slice a9x l9x c9x, .bool b10x, .slice a11x l11x c11x, .slice a12x l12x c12x] 0
    have RQ : RwC (W5.setCells w.heap.size 0 [.int .i64 n0x, .int .i64 n1x, .slice a2x l2x c2x, .slice a3x l3x c3x, .string ⟨⟨h4x⟩⟩, .slice a5x l5x c5x, .slice a6x l6x c6x, .int .i64 n7x, .int .i64 n8x, .slice a9x l9x c9x, .bool b10x, .slice a11x l11x c11x, .slice a12x l12x c12x]) w.heap.size [.int .i64 n0x, .int .i64 n1x, .slice a2x l2x c2x, .slice a3x l3x c3x, .string ⟨⟨h4x⟩⟩, .slice a5x l5x c5x, .slice a6x l6x c6x, .int .i64 n7x, .int .i64 n8x, .slice a9x l9x c9x, .bool b10x, .slice a11x l11x c11x, .slice a12x l12x c12x] 26 := RwC.all13 Q
    have RR := RQ.rangeG
    have MF := hide (M.kp (dgK.onl OS Q) neM)
    have DF := hide (D.onl OS (by omega))
    clear RQ OS M D Q T
    go_wp2_with (first | (refine wpList_load_mid rfl 26 (.tmp 3) rfl (W1.heap.size) 0 rfl [.int .i64 n0x, .int .i64 n1x, .slice a2x l2x c2x, .slice a3x l3x c3x, .string ⟨⟨h4x⟩⟩, .slice a5x l5x c5x, .slice a6x l6x c6x, .int .i64 n7x, .int .i64 n8x, .slice a9x l9x c9x, .bool b10x, .slice a11x l11x c11x, .slice a12x l12x c12x] dR RG hdR hrowR iM ?_) | (refine wpList_store_mid rfl 26 (.tmp 2) (.tmp 11) rfl (w.heap.size) 0 #[.int .i64 n0x, .int .i64 n1x, .slice a2x l2x c2x, .slice a3x l3x c3x, .string ⟨⟨h4x⟩⟩, .slice a5x l5x c5x, .slice a6x l6x c6x, .int .i64 n7x, .int .i64 n8x, .slice a9x l9x c9x, .bool b10x, .slice a11x l11x c11x, .slice a12x l12x c12x] rfl rfl THR iM ONE ?_) | fail)
    refine bodyPost_ret (v := .agg #[.int .i64 n0x, .int .i64 n1x, .slice a2x l2x c2x, .slice a3x l3x c3x, .string ⟨⟨h4x⟩⟩, .slice a5x l5x c5x, .slice a6x l6x c6x, .int .i64 n7x, .int .i64 n8x, .slice a9x l9x c9x, .bool b10x, .slice a11x l11x c11x, .slice a12x l12x c12x]) (results_cellG Tryz.results15 _ _ (w.heap.size) _ dR rfl RR hdR hrowR iM) rfl ?_
    exact (POST _ _ _ _ _ _ _ _ _ _ _ _ _ _ _ MF DF (by omega)).out
end Go.Proofs.YtmfajpplagbfcaaGreatDoor
namespace Go.Proofs.YtmfajpplagbfcaaGreatDoor
set_option maxRecDepth 100000
open Go Go.RowKit
theorem MsF.base {W : World} {B B' : Nat} {v0 v1 v2 v3 v4 v5 v6 v7 v8 v9 v10 v11 v12 : Value} (h : MsF W B v0 v1 v2 v3 v4 v5 v6 v7 v8 v9 v10 v11 v12) (hB : B' ≤ B) : MsF W B' v0 v1 v2 v3 v4 v5 v6 v7 v8 v9 v10 v11 v12 := by
  have hb : ∀ v, dgB W B v → dgB W B' v := fun v ⟨X, R, l⟩ => ⟨X, own_base R hB, l⟩
  obtain ⟨ta, tc, tg, tls, te, t1, t2, t3, t4, t5⟩ := h.t5
  obtain ⟨ca, cc, cg, cits, cps, ce, c1, c2, c3, c4⟩ := h.c11
  exact ⟨h.i0, h.i1, hb _ h.b2, hb _ h.b3, h.s4, ⟨ta, tc, tg, tls, te, t1, t2, t3, t4, fun h0 => ⟨by have := (t5 h0).1; omega, (t5 h0).2⟩⟩, hb _ h.b6, h.i7, h.i8, hb _ h.b9, h.o10, ⟨ca, cc, cg, cits, cps, ce, c1, c2, fun i hi => ⟨(c3 i hi).1, (c3 i hi).2.1, (c3 i hi).2.2.1, fun h0 => ⟨by have := ((c3 i hi).2.2.2 h0).1; omega, ((c3 i hi).2.2.2 h0).2⟩⟩, fun h0 => ⟨by have := (c4 h0).1; omega, (c4 h0).2⟩⟩, hb _ h.b12⟩
set_option maxRecDepth 100000 in
set_option maxHeartbeats 16000000 in
theorem drawHead_any (w : World) (g : Nat) (a : Option Addr) (c : Nat) (xs : List Int) (hr : Rd w g a .u8 xs) (hb : Byt xs) (hl : xs.length ≤ 4194304) :
    Calls Tryz.prog 4 #[.slice a xs.length c] w fun e w' => ∃ (p : MQ) (m : Msg), e = .returned (.agg (mgV p m)) ∧ HasM w' p m ∧ IsM m ∧ HasZ p m ∧ Below w.heap.size w w' := by
  obtain ⟨dR, hdR, hrowR⟩ := rowM
  have lg := hr.lt
  have n1 : Below w.heap.size w (w.alloc (.cells #[.int .i64 0, .int .i64 0, .slice none 0 0, .slice none 0 0, .string ⟨#[]⟩, .slice none 0 0, .slice none 0 0, .int .i64 0, .int .i64 0, .slice none 0 0, .bool false, .slice none 0 0, .slice none 0 0] 26)) := (Below.refl _ _).alloc (Nat.le_refl _) _
  have Q : RwC (w.alloc (.cells #[.int .i64 0, .int .i64 0, .slice none 0 0, .slice none 0 0, .string ⟨#[]⟩, .slice none 0 0, .slice none 0 0, .int .i64 0, .int .i64 0, .slice none 0 0, .bool false, .slice none 0 0, .slice none 0 0] 26)) w.heap.size [.int .i64 0, .int .i64 0, .slice none 0 0, .slice none 0 0, .string ⟨#[]⟩, .slice none 0 0, .slice none 0 0, .int .i64 0, .int .i64 0, .slice none 0 0, .bool false, .slice none 0 0, .slice none 0 0] 26 := RwC.new w _ _
  have z1 : (w.alloc (.cells #[.int .i64 0, .int .i64 0, .slice none 0 0, .slice none 0 0, .string ⟨#[]⟩, .slice none 0 0, .slice none 0 0, .int .i64 0, .int .i64 0, .slice none 0 0, .bool false, .slice none 0 0, .slice none 0 0] 26)).heap.size = w.heap.size + 1 := by simp
  replace hr := hr.up n1
  go_enter Tryz.func4, Tryz.ntmps4
  go_wp2_with fail
  generalize w.alloc (.cells #[.int .i64 0, .int .i64 0, .slice none 0 0, .slice none 0 0, .string ⟨#[]⟩, .slice none 0 0, .slice none 0 0, .int .i64 0, .int .i64 0, .slice none 0 0, .bool false, .slice none 0 0, .slice none 0 0] 26) = Wa at *
  refine (l1SourceX_any Wa a xs.length c (by omega)).mono ?_
  rintro e w1 ⟨rfl, S1, m1⟩
  obtain ⟨s, hs⟩ : ∃ s, s = Wa.heap.size := ⟨_, rfl⟩
  have y1 : Wa.heap.size < w1.heap.size := S1.lt
  rw [← hs] at S1 ⊢
  have d : Drm w1 s g a c xs 0 := ⟨S1, hr.up m1, fun h => by have := lg h; omega, hb, by omega, by omega⟩
  replace Q := Q.up m1
  have N1 : Below w.heap.size w w1 := n1.trans (m1.mono (by omega))
  obtain ⟨B, hB⟩ : ∃ B, B = w1.heap.size := ⟨_, rfl⟩
  have D : Dq w1 w1 s g a c xs B 0 := Dq.start d (by omega) (fun h => by have := lg h; omega) (by omega)
  have POST : ∀ (v0 v1 v2 v3 v4 v5 v6 v7 v8 v9 v10 v11 v12 : Value) (W W' : World) (u : Int), Hid (MsF W' B v0 v1 v2 v3 v4 v5 v6 v7 v8 v9 v10 v11 v12) → Hid (Dq w1 W s g a c xs B u) → Hid (Only w.heap.size W W') → Hid ((∃ (p : MQ) (m : Msg), Ending.returned (.agg #[v0, v1, v2, v3, v4, v5, v6, v7, v8, v9, v10, v11, v12]) = .returned (.agg (mgV p m)) ∧ HasM W' p m ∧ IsM m ∧ HasZ p m ∧ Below w.heap.size w W')) := fun v0 v1 v2 v3 v4 v5 v6 v7 v8 v9 v10 v11 v12 W W' u hm hd ho => by
    obtain ⟨p, m, e, h1, h2, h3⟩ := hm.out.msg
    have hbut : Below w.heap.size w1 W := by
      subst hB
      exact hd.out.out.below (by omega) (by omega)
    exact ⟨p, m, by rw [e], h1, h2, h3, (N1.trans hbut).trans (ho.out.below (Nat.le_refl _))⟩
  have ss : w.heap.size < s ∧ s < B ∧ B ≤ w1.heap.size := by omega
  clear S1 m1 n1 hr d N1 hs hB y1 z1 hb lg
  go_wp2_with fail
  refine (drawHello_M D.d (by omega)).mono ?_
  rintro e W1 ⟨ux, ⟨v0, v1, v2, v3, v4, v5, v6, v7, v8, v9, v10, v11, v12, rfl, M0⟩, hux, d', b'⟩
  have M1 := M0.base (show B ≤ w1.heap.size by omega)
  obtain ⟨n0, n1, a2, l2, c2, a3, l3, c3, h4, a5, l5, c5, a6, l6, c6, n7, n8, a9, l9, c9, b10, a11, l11, c11, a12, l12, c12, rfl, rfl, rfl, rfl, rfl, rfl, rfl, rfl, rfl, rfl, rfl, rfl, rfl⟩ := M1.rd.forms
  clear M0
  have zW1 := b'.size
  replace Q := Q.butM b' (by omega)
  replace D := D.but b' d'
  clear b' d'
  have n' : Below W1.heap.size W1 (W1.alloc (.cells #[.int .i64 n0, .int .i64 n1, .slice a2 l2 c2, .slice a3 l3 c3, .string ⟨⟨h4⟩⟩, .slice a5 l5 c5, .slice a6 l6 c6, .int .i64 n7, .int .i64 n8, .slice a9 l9 c9, .bool b10, .slice a11 l11 c11, .slice a12 l12 c12] 26)) := (Below.refl _ _).alloc (Nat.le_refl _) _
  have T : RwC (W1.alloc (.cells #[.int .i64 n0, .int .i64 n1, .slice a2 l2 c2, .slice a3 l3 c3, .string ⟨⟨h4⟩⟩, .slice a5 l5 c5, .slice a6 l6 c6, .int .i64 n7, .int .i64 n8, .slice a9 l9 c9, .bool b10, .slice a11 l11 c11, .slice a12 l12 c12] 26)) W1.heap.size [.int .i64 n0, .int .i64 n1, .slice a2 l2 c2, .slice a3 l3 c3, .string ⟨⟨h4⟩⟩, .slice a5 l5 c5, .slice a6 l6 c6, .int .i64 n7, .int .i64 n8, .slice a9 l9 c9, .bool b10, .slice a11 l11 c11, .slice a12 l12 c12] 26 := RwC.new _ _ _
  have zW2 : (W1.alloc (.cells #[.int .i64 n0, .int .i64 n1, .slice a2 l2 c2, .slice a3 l3 c3, .string ⟨⟨h4⟩⟩, .slice a5 l5 c5, .slice a6 l6 c6, .int .i64 n7, .int .i64 n8, .slice a9 l9 c9, .bool b10, .slice a11 l11 c11, .slice a12 l12 c12] 26)).heap.size = W1.heap.size + 1 := by simp
  have p0 := Q.lt
  replace Q := Q.up n'
  have p1 := D.size
  replace D := D.up n'
  replace M1 := M1.kp (X := 26) (dgK.up n') (by decide)
  have M : MsO (W1.alloc (.cells #[.int .i64 n0, .int .i64 n1, .slice a2 l2 c2, .slice a3 l3 c3, .string ⟨⟨h4⟩⟩, .slice a5 l5 c5, .slice a6 l6 c6, .int .i64 n7, .int .i64 n8, .slice a9 l9 c9, .bool b10, .slice a11 l11 c11, .slice a12 l12 c12] 26)) B (.int .i64 n0) (.int .i64 n1) (.slice a2 l2 c2) (.slice a3 l3 c3) (.string ⟨⟨h4⟩⟩) (.slice a5 l5 c5) (.slice a6 l6 c6) (.int .i64 n7) (.int .i64 n8) (.slice a9 l9 c9) (.bool b10) (.slice a11 l11 c11) (.slice a12 l12 c12) := ⟨M1.i0, M1.i1, M1.b2, M1.b3, M1.s4, M1.t5, M1.b6, M1.i7, M1.i8, M1.b9, M1.o10, M1.c11, M1.b12⟩
  clear n' M1
  go_wp2_with fail
  generalize W1.alloc (.cells #[.int .i64 n0, .int .i64 n1, .slice a2 l2 c2, .slice a3 l3 c3, .string ⟨⟨h4⟩⟩, .slice a5 l5 c5, .slice a6 l6 c6, .int .i64 n7, .int .i64 n8, .slice a9 l9 c9, .bool b10, .slice a11 l11 c11, .slice a12 l12 c12] 26) = W2 at *
  refine (chance_M D.d (by omega) (by decide) (by decide)).mono ?_
  rintro e W3 ⟨b3, rfl, d', b'⟩
  have zW3 := b'.size
  replace T := T.butM b' (by omega)
  replace M := M.kp (dgK.but b' D.sB) neM
  replace Q := Q.butM b' (by omega)
  replace D := D.but b' d'
  clear b' d'
  replace M := M.rd
  cases b3
  case false =>
    have RG := T.rangeG
    have THR := Q.thereG
    have ONE := M.one
    have OS := only_setG W3 w.heap.size [.int .i64 n0, .int .i64 n1, .slice a2 l2 c2, .slice a3 l3 c3, .string ⟨⟨h4⟩⟩, .slice a5 l5 c5, .slice a6 l6 c6, .int .i64 n7, .int .i64 n8, .slice a9 l9 c9, .bool b10, .slice a11 l11 c11, .slice a12 l12 c12] 0
    have RQ : RwC (W3.setCells w.heap.size 0 [.int .i64 n0, .int .i64 n1, .slice a2 l2 c2, .slice a3 l3 c3, .string ⟨⟨h4⟩⟩, .slice a5 l5 c5, .slice a6 l6 c6, .int .i64 n7, .int .i64 n8, .slice a9 l9 c9, .bool b10, .slice a11 l11 c11, .slice a12 l12 c12]) w.heap.size [.int .i64 n0, .int .i64 n1, .slice a2 l2 c2, .slice a3 l3 c3, .string ⟨⟨h4⟩⟩, .slice a5 l5 c5, .slice a6 l6 c6, .int .i64 n7, .int .i64 n8, .slice a9 l9 c9, .bool b10, .slice a11 l11 c11, .slice a12 l12 c12] 26 := RwC.all13 Q
    have RR := RQ.rangeG
    have FIN := POST _ _ _ _ _ _ _ _ _ _ _ _ _ _ _ _ (hide (M.kp (dgK.onl OS Q) neM)) (hide D) (hide OS)
    clear RQ OS M D Q T
    go_wp2_with (first | (refine wpList_load_mid rfl 26 (.tmp 4) rfl (W1.heap.size) 0 rfl [.int .i64 n0, .int .i64 n1, .slice a2 l2 c2, .slice a3 l3 c3, .string ⟨⟨h4⟩⟩, .slice a5 l5 c5, .slice a6 l6 c6, .int .i64 n7, .int .i64 n8, .slice a9 l9 c9, .bool b10, .slice a11 l11 c11, .slice a12 l12 c12] dR RG hdR hrowR iM ?_) | (refine wpList_store_mid rfl 26 (.tmp 2) (.tmp 13) rfl (w.heap.size) 0 #[.int .i64 n0, .int .i64 n1, .slice a2 l2 c2, .slice a3 l3 c3, .string ⟨⟨h4⟩⟩, .slice a5 l5 c5, .slice a6 l6 c6, .int .i64 n7, .int .i64 n8, .slice a9 l9 c9, .bool b10, .slice a11 l11 c11, .slice a12 l12 c12] rfl rfl THR iM ONE ?_) | fail)
    refine bodyPost_ret (v := .agg #[.int .i64 n0, .int .i64 n1, .slice a2 l2 c2, .slice a3 l3 c3, .string ⟨⟨h4⟩⟩, .slice a5 l5 c5, .slice a6 l6 c6, .int .i64 n7, .int .i64 n8, .slice a9 l9 c9, .bool b10, .slice a11 l11 c11, .slice a12 l12 c12]) (results_cellG Tryz.results4 _ _ (w.heap.size) _ dR rfl RR hdR hrowR iM) rfl ?_
    exact FIN.out
  case true =>
    go_wp2_with fail
    refine (drawMaybe_M D.d (by omega)).mono ?_
    rintro e W4 ⟨uy, ⟨v0, v1, v2, v3, v4, v5, v6, v7, v8, v9, v10, v11, v12, rfl, M3⟩, huy, d', b'⟩
    have D3 := D.but b' d'
    have T3 := T.butM b' (by omega)
    have Q3 := Q.butM b' (by omega)
    have s3 := b'.size
    replace M3 := M3.base (show B ≤ W3.heap.size by omega)
    obtain ⟨n0x, n1x, a2x, l2x, c2x, a3x, l3x, c3x, h4x, a5x, l5x, c5x, a6x, l6x, c6x, n7x, n8x, a9x, l9x, c9x, b10x, a11x, l11x, c11x, a12x, l12x, c12x, rfl, rfl, rfl, rfl, rfl, rfl, rfl, rfl, rfl, rfl, rfl, rfl, rfl⟩ := M3.forms
    clear D T Q M b' d'
    have OS := only_setG W4 (W1.heap.size) [.int .i64 n0x, .int .i64 n1x, .slice a2x l2x c2x, .slice a3x l3x c3x, .string ⟨⟨h4x⟩⟩, .slice a5x l5x c5x, .slice a6x l6x c6x, .int .i64 n7x, .int .i64 n8x, .slice a9x l9x c9x, .bool b10x, .slice a11x l11x c11x, .slice a12x l12x c12x] 0
    have THR := T3.thereG
    have ONE := M3.one
    have T : RwC (W4.setCells W1.heap.size 0 [.int .i64 n0x, .int .i64 n1x, .slice a2x l2x c2x, .slice a3x l3x c3x, .string ⟨⟨h4x⟩⟩, .slice a5x l5x c5x, .slice a6x l6x c6x, .int .i64 n7x, .int .i64 n8x, .slice a9x l9x c9x, .bool b10x, .slice a11x l11x c11x, .slice a12x l12x c12x]) (W1.heap.size) [.int .i64 n0x, .int .i64 n1x, .slice a2x l2x c2x, .slice a3x l3x c3x, .string ⟨⟨h4x⟩⟩, .slice a5x l5x c5x, .slice a6x l6x c6x, .int .i64 n7x, .int .i64 n8x, .slice a9x l9x c9x, .bool b10x, .slice a11x l11x c11x, .slice a12x l12x c12x] 26 := RwC.all13 T3
    have M := M3.kp (dgK.onl OS T3) neM
    have Q := Q3.onl OS (by omega)
    have D := D3.onl OS (by omega)
    have zz := OS.size
    clear OS T3 M3 Q3 D3
    go_upto_region 5 with (first | (refine wpList_store_mid rfl 26 (.tmp 4) (.tmp 12) rfl (W1.heap.size) 0 #[.int .i64 n0x, .int .i64 n1x, .slice a2x l2x c2x, .slice a3x l3x c3x, .string ⟨⟨h4x⟩⟩, .slice a5x l5x c5x, .slice a6x l6x c6x, .int .i64 n7x, .int .i64 n8x, .slice a9x l9x c9x, .bool b10x, .slice a11x l11x c11x, .slice a12x l12x c12x] rfl rfl THR iM ONE ?_) | fail)
    generalize W4.setCells W1.heap.size 0 [.int .i64 n0x, .int .i64 n1x, .slice a2x l2x c2x, .slice a3x l3x c3x, .string ⟨⟨h4x⟩⟩, .slice a5x l5x c5x, .slice a6x l6x c6x, .int .i64 n7x, .int .i64 n8x, .slice a9x l9x c9x, .bool b10x, .slice a11x l11x c11x, .slice a12x l12x c12x] = W5 at *
    clear THR ONE
    have RG := T.rangeG
    have THR := Q.thereG
    have ONE := M.one
    have OS := only_setG W5 w.heap.size [.int .i64 n0x, .int .i64 n1x, .slice a2x l2x c2x, .slice a3x l3x c3x, .string ⟨⟨h4x⟩⟩, .slice a5x l5x c5x, .slice a6x l6x c6x, .int .i64 n7x, .int .i64 n8x, .slice a9x l9x c9x, .bool b10x, .slice a11x l11x c11x, .slice a12x l12x c12x] 0
    have RQ : RwC (W5.setCells w.heap.size 0 [.int .i64 n0x, .int .i64 n1x, .slice a2x l2x c2x, .slice a3x l3x c3x, .string ⟨⟨h4x⟩⟩, .slice a5x l5x c5x, .slice a6x l6x c6x, .int .i64 n7x, .int .i64 n8x, .slice a9x l9x c9x, .bool b10x, .slice a11x l11x c11x, .slice a12x l12x c12x]) w.heap.size [.int .i64 n0x, .int .i64 n1x, .slice a2x l2x c2x, .slice a3x l3x c3x, .string ⟨⟨h4x⟩⟩, .slice a5x l5x c5x, .slice a6x l6x c6x, .int .i64 n7x, .int .i64 n8x, .slice a9x l9x c9x, .bool b10x, .slice a11x l11x c11x, .slice a12x l12x c12x] 26 := RwC.all13 Q
    have RR := RQ.rangeG
    have FIN := POST _ _ _ _ _ _ _ _ _ _ _ _ _ _ _ _ (hide (M.kp (dgK.onl OS Q) neM)) (hide D) (hide OS)
    clear RQ OS M D Q T
    go_wp2_with (first | (refine wpList_load_mid rfl 26 (.tmp 4) rfl (W1.heap.size) 0 rfl [.int .i64 n0x, .int .i64 n1x, .slice a2x l2x c2x, .slice a3x l3x c3x, .string ⟨⟨h4x⟩⟩, .slice a5x l5x c5x, .slice a6x l6x c6x, .int .i64 n7x, .int .i64 n8x, .slice a9x l9x c9x, .bool b10x, .slice a11x l11x c11x, .slice a12x l12x c12x] dR RG hdR hrowR iM ?_) | (refine wpList_store_mid rfl 26 (.tmp 2) (.tmp 13) rfl (w.heap.size) 0 #[.int .i64 n0x, .int .i64 n1x, .slice a2x l2x c2x, .slice a3x l3x c3x, .string ⟨⟨h4x⟩⟩, .slice a5x l5x c5x, .slice a6x l6x c6x, .int .i64 n7x, .int .i64 n8x, .slice a9x l9x c9x, .bool b10x, .slice a11x l11x c11x, .slice a12x l12x c12x] rfl rfl THR iM ONE ?_) | fail)
    refine bodyPost_ret (v := .agg #[.int .i64 n0x, .int .i64 n1x, .slice a2x l2x c2x, .slice a3x l3x c3x, .string ⟨⟨h4x⟩⟩, .slice a5x l5x c5x, .slice a6x l6x c6x, .int .i64 n7x, .int .i64 n8x, .slice a9x l9x c9x, .bool b10x, .slice a11x l11x c11x, .slice a12x l12x c12x]) (results_cellG Tryz.results4 _ _ (w.heap.size) _ dR rfl RR hdR hrowR iM) rfl ?_
    exact FIN.out
end Go.Proofs.YtmfajpplagbfcaaGreatDoor
namespace Go.Proofs.YtmfajpplagbfcaaGreatDoor
set_option maxRecDepth 100000
open Go Go.RowKit
theorem row_slice {w : World} {b : Nat} {v : Value} {xs : List Int} (R : RowB w b v xs) : ∃ (a : Option Addr) (c g : Nat), v = .slice a xs.length c ∧ Rd w g a .u8 xs ∧ (a = none → c = 0) := by
  obtain ⟨a, c, g, e, r, z, -, -⟩ := R.rd
  exact ⟨a, c, g, e, r, z⟩
theorem Gr.row {w W : World} {cs : List Value} {v : Value} {xs : List Int} (h : Gr w cs W v xs) {b : Nat} {u : Value} {us : List Int} (R : RowB W b u us) (hl : xs.length + us.length ≤ 1099511627776) :
    ∃ v' w', (Builtin.append_ #[22, 22] 22 #[v, u]).run Tryz.prog W = .ok v' w' ∧ Gr w cs w' v' (xs ++ us) := by
  obtain ⟨a, c, g, e, r, z⟩ := row_slice R
  obtain ⟨v', w', h1, h2, -⟩ := h.app g a c us r z hl
  rw [e]
  exact ⟨v', w', h1, h2⟩
set_option maxRecDepth 100000 in
set_option maxHeartbeats 4000000 in
theorem sbTicket_any (w : World) (x1 x3 x4 x5 x9 x10 x11 x12 : Value) (ag ea : Int) (a0 : 0 ≤ ag) (a1 : ag < 9223372036854775808) (e0 : 0 ≤ ea) (e1 : ea < 9223372036854775808) (l2 l6 : LstZ) (H2 : LstR w l2) (H6 : LstR w l6) :
    Calls Tryz.prog 36 #[.agg #[.int .i64 4, x1, .slice l2.a l2.xs.length l2.c, x3, x4, x5, .slice l6.a l6.xs.length l6.c, .int .i64 ag, .int .i64 ea, x9, x10, x11, x12]] w (BodP w (tkL ag ea l2.xs l6.xs)) := by
  have G0 := Gr.start w #[.int .i64 4, x1, .slice l2.a l2.xs.length l2.c, x3, x4, x5, .slice l6.a l6.xs.length l6.c, .int .i64 ag, .int .i64 ea, x9, x10, x11, x12].toList
  have m2 := H2.m
  have m6 := H6.m
  obtain ⟨OUT, hO'⟩ : ∃ l : List Int, l = tkL ag ea l2.xs l6.xs := ⟨_, rfl⟩
  rw [← hO']
  have hO := hide hO'
  clear hO'
  have k0 := G0.c.cell 0
  have z1 : (w.alloc (.cells #[.int .i64 4, x1, .slice l2.a l2.xs.length l2.c, x3, x4, x5, .slice l6.a l6.xs.length l6.c, .int .i64 ag, .int .i64 ea, x9, x10, x11, x12] 26)).heap.size = w.heap.size + 1 := by simp
  go_enter Tryz.func36, Tryz.ntmps36
  go_upto_region 19 with fail
  clear k0 z1
  obtain ⟨vR, hvR⟩ : ∃ x, x = Value.slice (some ⟨w.heap.size + 1, 0, none⟩) 0 0 := ⟨_, rfl⟩
  rw [← hvR] at G0 ⊢
  clear hvR
  generalize (w.alloc (.cells #[.int .i64 4, x1, .slice l2.a l2.xs.length l2.c, x3, x4, x5, .slice l6.a l6.xs.length l6.c, .int .i64 ag, .int .i64 ea, x9, x10, x11, x12] 26)).alloc (.cells #[] 5) = W2 at *
  have c7 := G0.c.cell 7
  have L1 := hide (l1BigB_any W2 ag 4 a0 a1 (by decide))
  go_wp2_with fail
  refine L1.out.mono ?_
  rintro e W3 ⟨rfl, R3, n3⟩
  obtain ⟨v4, W4, hap, G1⟩ := (G0.up n3).row R3 (by rw [bigL_len]; simp)
  rw [List.nil_append] at G1
  have c8 := G1.c.cell 8
  have L2 := hide (l1BigB_any W4 ea 4 e0 e1 (by decide))
  clear G0 R3 n3 L1 c7
  go_wp2_with (at_builtin; refine Lib.wpList_append_run _ rfl _ _ 22 22 rfl _ _ rfl rfl _ _ hap ?_)
  clear hap
  refine L2.out.mono ?_
  rintro e W5 ⟨rfl, R5, n5⟩
  obtain ⟨v6, W6, hap, G2⟩ := (G1.up n5).row R5 (by rw [bigL_len, bigL_len]; simp)
  clear G1 R5 n5 L2 c8
  go_upto_region 21 with (at_builtin; refine Lib.wpList_append_run _ rfl _ _ 22 22 rfl _ _ rfl rfl _ _ hap ?_)
  clear hap
  obtain ⟨BB, hBB⟩ : ∃ l, l = bigL ag 4 ++ bigL ea 4 := ⟨_, rfl⟩
  have lB : Hid (BB.length = 8) := by show _ = _; rw [hBB, List.length_append, bigL_len, bigL_len]
  rw [← hBB] at G2
  have hO2 : Hid (OUT = (BB ++ l2.xs) ++ loL l6.xs) := by show _ = _; rw [hO.out, hBB]; rfl
  clear hBB hO
  have nd : Below W6.heap.size W6 W6.drew := (Below.refl _ _).drew
  have G3 := G2.up nd
  have A95 := hide (G3.app l2.g l2.a l2.c l2.xs (G3.list H2).r H2.z (by rw [lB.out]; omega))
  have A98 : Hid (∀ v' W zs, Gr w #[.int .i64 4, x1, .slice l2.a l2.xs.length l2.c, x3, x4, x5, .slice l6.a l6.xs.length l6.c, .int .i64 ag, .int .i64 ea, x9, x10, x11, x12].toList W v' zs → Calls Tryz.prog 58 #[.slice l6.a l6.xs.length l6.c] W (BodP W (loL l6.xs))) := fun v' W zs h => l13Long_any W l6 (h.list H6)
  have A99 : Hid (∀ v' W u b, Gr w #[.int .i64 4, x1, .slice l2.a l2.xs.length l2.c, x3, x4, x5, .slice l6.a l6.xs.length l6.c, .int .i64 ag, .int .i64 ea, x9, x10, x11, x12].toList W v' (BB ++ l2.xs) → RowB W b u (loL l6.xs) → ∃ v'' w', (Builtin.append_ #[22, 22] 22 #[v', u]).run Tryz.prog W = .ok v'' w' ∧ Gr w #[.int .i64 4, x1, .slice l2.a l2.xs.length l2.c, x3, x4, x5, .slice l6.a l6.xs.length l6.c, .int .i64 ag, .int .i64 ea, x9, x10, x11, x12].toList w' v'' ((BB ++ l2.xs) ++ loL l6.xs)) := fun v' W u b h R => h.row R (by rw [List.length_append, lB.out, loL_len]; omega)
  have CY : Hid (∀ W v' zs, Gr w #[.int .i64 4, x1, .slice l2.a l2.xs.length l2.c, x3, x4, x5, .slice l6.a l6.xs.length l6.c, .int .i64 ag, .int .i64 ea, x9, x10, x11, x12].toList W v' zs → (W.cell? ⟨w.heap.size, 2, none⟩ = some (.slice l2.a l2.xs.length l2.c) ∧ W.cell? ⟨w.heap.size, 6, none⟩ = some (.slice l6.a l6.xs.length l6.c))) := fun W v' zs h => ⟨h.c.cell 2, h.c.cell 6⟩
  go_region_held3 (fun W => W.cell? ⟨w.heap.size, 2, none⟩ = some (.slice l2.a l2.xs.length l2.c) ∧ W.cell? ⟨w.heap.size, 6, none⟩ = some (.slice l6.a l6.xs.length l6.c))
    (first | exact (unhide CY) _ _ _ G3 | exact (unhide CY) _ _ _ G4 | exact (unhide CY) _ _ _ G5 | exact (unhide CY) _ _ _ G6)
    (first
      | (refine step_append_exM rfl (.tmp 92) (.tmp 94) 22 22 rfl v6 (.slice l2.a l2.xs.length l2.c) rfl rfl _ A95.out ?_; rintro v95 w95 ⟨G4, -⟩; (have B98 := hide ((unhide A98) v95 w95 _ G4)))
      | (go_at_call 58; refine B98.out.mono ?_; rintro rr w98 ⟨⟨v98, rfl, R98⟩, n98⟩; (have G5 := G4.up n98); (have B99 := hide ((unhide A99) v95 w98 v98 _ G5 R98)))
      | (refine step_append_exM rfl (.tmp 95) (.tmp 98) 22 22 rfl v95 v98 rfl rfl _ B99.out ?_; rintro v99 w99 G6)
      | fail)
  have FIN : Hid (BodP w OUT (.returned v99) w99) := by show BodP _ _ _ _; rw [hO2.out]; exact G6.body
  clear A95 A98 A99 B98 B99 CY G2 G3 G4 G5 G6 nd R98 n98
  go_wp2
  go_ret
  exact FIN.out
set_option maxRecDepth 100000 in
set_option maxHeartbeats 4000000 in
theorem sbExtras_any (w : World) (x1 x2 x3 x4 x6 x7 x9 x10 x11 x12 : Value) (g : Nat) (a : Option Addr) (c : Nat) (ls : List (List UInt8)) (H : TxsR w g a ls) (hs : ∀ l ∈ ls, l.length ≤ 255) (ea : Int) (e0 : 0 ≤ ea) (e1 : ea ≤ 255) :
    Calls Tryz.prog 36 #[.agg #[.int .i64 8, x1, x2, x3, x4, .slice a ls.length c, x6, x7, .int .i64 ea, x9, x10, x11, x12]] w (BodP w (lsL ls ++ bigL ea 1)) := by
  obtain ⟨i0, hi, hz0, hz1, hz2⟩ := info_parts Tryz.info5
  have G0 := Gr.start w #[.int .i64 8, x1, x2, x3, x4, .slice a ls.length c, x6, x7, .int .i64 ea, x9, x10, x11, x12].toList
  obtain ⟨OUT, hO'⟩ : ∃ l : List Int, l = lsL ls ++ bigL ea 1 := ⟨_, rfl⟩
  rw [← hO']
  have hO : Hid (OUT = lsL ls ++ [ea]) := by show _ = _; rw [hO', big1 ea e0 e1]
  clear hO'
  have LL : Hid ((lsL ls).length ≤ 8388617) := lsL_len ls H.n H.z
  have k0 := G0.c.cell 0
  have z1 : (w.alloc (.cells #[.int .i64 8, x1, x2, x3, x4, .slice a ls.length c, x6, x7, .int .i64 ea, x9, x10, x11, x12] 26)).heap.size = w.heap.size + 1 := by simp
  have w8 : IntKind.u8.wrap ea = ea := by simp [IntKind.wrap, IntKind.signed, IntKind.bits]; omega
  go_enter Tryz.func36, Tryz.ntmps36
  go_upto_region 23 with fail
  clear k0 z1
  obtain ⟨vR, hvR⟩ : ∃ x, x = Value.slice (some ⟨w.heap.size + 1, 0, none⟩) 0 0 := ⟨_, rfl⟩
  rw [← hvR] at G0 ⊢
  clear hvR
  generalize (w.alloc (.cells #[.int .i64 8, x1, x2, x3, x4, .slice a ls.length c, x6, x7, .int .i64 ea, x9, x10, x11, x12] 26)).alloc (.cells #[] 5) = W2 at *
  have nd : Below W2.heap.size W2 W2.drew := (Below.refl _ _).drew
  have zz := G0.n.size
  have bA : ∀ {W : World}, Below W2.heap.size W2 W → ∀ o, Below W2.heap.size W2 (W.alloc o) := fun n o => n.alloc n.size o
  have CL : Hid (∀ W, Below W2.heap.size W2 W → Calls Tryz.prog 57 #[.slice a ls.length c] W fun e w' => ∃ v, e = .returned v ∧ RowB w' W2.heap.size v (lsL ls) ∧ Below W2.heap.size W2 w' ∧ Below W.heap.size W w') := fun W m => (l13List_any W g a c ls (H.up (nxt G0.n m)) hs).mono (by rintro e w' ⟨⟨v, rfl, R⟩, n⟩; exact ⟨v, rfl, R.base m.size, nxt m n, n⟩)
  have AP : Hid (∀ W v q, Below W2.heap.size W2 W → RowB W W2.heap.size v (lsL ls) → Rd W q (some ⟨q, 0, none⟩) .u8 [ea] → ∃ v' w', (Builtin.append_ #[22, 22] 22 #[v, .slice (some ⟨q, 0, none⟩) 1 1]).run Tryz.prog W = .ok v' w' ∧ (RowB w' W2.heap.size v' (lsL ls ++ [ea]) ∧ Below W2.heap.size W2 w')) := fun W v q m R r => by
    obtain ⟨v', w', h1, h2, h3⟩ := append_any (P := Tryz.prog) W 22 i0 Tryz.underlying22 hi hz0 hz1 hz2 W2.heap.size W2.heap.size v (lsL ls) R q (some ⟨q, 0, none⟩) 1 [ea] r (fun h => nomatch h) (by have := LL.out; simp; omega) (Nat.le_refl _) m.size
    exact ⟨v', w', h1, h2, m.trans h3⟩
  have CY : Hid (∀ W, Below W2.heap.size W2 W → (W.cell? ⟨w.heap.size, 5, none⟩ = some (.slice a ls.length c) ∧ W.cell? ⟨w.heap.size, 8, none⟩ = some (.int .i64 ea))) := fun W m => ⟨(G0.c.up m).cell 5, (G0.c.up m).cell 8⟩
  have C0 := hide ((unhide CL) W2.drew nd)
  have C1 := hide ((unhide CL) (W2.drew.alloc (.cells #[.int .u8 ea] 5)) (bA nd _))
  have rE : Rd (W2.drew.alloc (.cells #[.int .u8 ea] 5)) W2.heap.size (some ⟨W2.heap.size, 0, none⟩) .u8 [ea] := (blk_lit1 W2.drew .u8 5 ea).own0.rd
  go_region_held3 (fun W => W.cell? ⟨w.heap.size, 5, none⟩ = some (.slice a ls.length c) ∧ W.cell? ⟨w.heap.size, 8, none⟩ = some (.int .i64 ea))
    (first | exact (unhide CY) _ nd | exact (unhide CY) _ (bA nd _) | exact (unhide CY) _ n104 | exact (unhide CY) _ (bA n104 _) | exact (unhide CY) _ n109)
    (first
      | (go_at_call 57; refine C0.out.mono ?_; rintro rr w104 ⟨v104, rfl, R104, n104, m104⟩; (have B109a := hide ((unhide AP) (w104.alloc (.cells #[.int .u8 ea] 5)) v104 w104.heap.size (bA n104 _) (R104.up ((Below.refl _ _).alloc (Nat.le_refl _) _)) (blk_lit1 w104 .u8 5 ea).own0.rd)))
      | (go_at_call 57; refine C1.out.mono ?_; rintro rr w104 ⟨v104, rfl, R104, n104, m104⟩; (have B109b := hide ((unhide AP) w104 v104 W2.heap.size n104 R104 (rE.up m104))))
      | (refine step_append_exM rfl (.tmp 104) (.tmp 108) 22 22 rfl v104 (.slice (some ⟨w104.heap.size, 0, none⟩) 1 1) rfl rfl _ B109a.out ?_; rintro v109 w109 ⟨R109, n109⟩)
      | (refine step_append_exM rfl (.tmp 104) (.tmp 108) 22 22 rfl v104 (.slice (some ⟨W2.heap.size, 0, none⟩) 1 1) rfl rfl _ B109b.out ?_; rintro v109 w109 ⟨R109, n109⟩)
      | fail)
  all_goals
    have FIN : Hid (BodP w OUT (.returned v109) w109) := ⟨⟨v109, rfl, by rw [hO.out]; exact R109.base zz⟩, nxt G0.n n109⟩
    clear C0 C1 CL AP CY R104 m104 n104 R109 n109 G0 nd bA rE
    go_wp2
    go_ret
    exact FIN.out
end Go.Proofs.YtmfajpplagbfcaaGreatDoor
namespace Go.Proofs.YtmfajpplagbfcaaGreatDoor
set_option maxRecDepth 100000
open Go Go.RowKit
set_option maxRecDepth 100000 in
set_option maxHeartbeats 8000000 in
theorem sbHello_any (w : World) (x10 x11 x12 : Value) (v : Int) (v0 : 0 ≤ v) (v1 : v ≤ 255) (l2 l3 l6 l9 : LstZ) (H2 : LstR w l2) (H3 : LstR w l3) (H6 : LstR w l6) (H9 : LstR w l9) (ho : List UInt8) (hh : ho.length ≤ 255) (g : Nat) (a : Option Addr) (c : Nat) (ls : List (List UInt8)) (H : TxsR w g a ls) (hs : ∀ l ∈ ls, l.length ≤ 255) (ag ea : Int) (a0 : 0 ≤ ag) (a1 : ag < 9223372036854775808) (e0 : 0 ≤ ea) (e1 : ea ≤ 255) :
    Calls Tryz.prog 36 #[.agg #[.int .i64 1, .int .i64 v, .slice l2.a l2.xs.length l2.c, .slice l3.a l3.xs.length l3.c, .string ⟨⟨ho⟩⟩, .slice a ls.length c, .slice l6.a l6.xs.length l6.c, .int .i64 ag, .int .i64 ea, .slice l9.a l9.xs.length l9.c, x10, x11, x12]] w (BodP w (heL v l2.xs l3.xs ho ls l6.xs ag ea l9.xs)) := by
  have G0 := Gr.start w #[.int .i64 1, .int .i64 v, .slice l2.a l2.xs.length l2.c, .slice l3.a l3.xs.length l3.c, .string ⟨⟨ho⟩⟩, .slice a ls.length c, .slice l6.a l6.xs.length l6.c, .int .i64 ag, .int .i64 ea, .slice l9.a l9.xs.length l9.c, x10, x11, x12].toList
  have m2 := H2.m
  have m3 := H3.m
  have m6 := H6.m
  have m9 := H9.m
  have LL : Hid ((lsL ls).length ≤ 8388617) := lsL_len ls H.n H.z
  obtain ⟨OUT, hO'⟩ : ∃ l : List Int, l = heL v l2.xs l3.xs ho ls l6.xs ag ea l9.xs := ⟨_, rfl⟩
  rw [← hO']
  have hO : Hid (OUT = ((((([v] ++ l2.xs) ++ l3.xs) ++ shL ho) ++ lsL ls) ++ loL l6.xs) ++ bdL l6.xs ag ea l9.xs) := by show _ = _; rw [hO']; unfold heL fpL; rw [big1 v v0 v1]; simp only [List.append_assoc]
  clear hO'
  have k0 := G0.c.cell 0
  have z1 : (w.alloc (.cells #[.int .i64 1, .int .i64 v, .slice l2.a l2.xs.length l2.c, .slice l3.a l3.xs.length l3.c, .string ⟨⟨ho⟩⟩, .slice a ls.length c, .slice l6.a l6.xs.length l6.c, .int .i64 ag, .int .i64 ea, .slice l9.a l9.xs.length l9.c, x10, x11, x12] 26)).heap.size = w.heap.size + 1 := by simp
  have v256 : v < 256 := by omega
  go_enter Tryz.func36, Tryz.ntmps36
  go_upto_region 4 with fail
  clear k0 z1
  obtain ⟨vR, hvR⟩ : ∃ x, x = Value.slice (some ⟨w.heap.size + 1, 0, none⟩) 0 0 := ⟨_, rfl⟩
  rw [← hvR] at G0 ⊢
  clear hvR
  generalize (w.alloc (.cells #[.int .i64 1, .int .i64 v, .slice l2.a l2.xs.length l2.c, .slice l3.a l3.xs.length l3.c, .string ⟨⟨ho⟩⟩, .slice a ls.length c, .slice l6.a l6.xs.length l6.c, .int .i64 ag, .int .i64 ea, .slice l9.a l9.xs.length l9.c, x10, x11, x12] 26)).alloc (.cells #[] 5) = W2 at *
  have c1 := G0.c.cell 1
  obtain ⟨v1', W3, hap, G1⟩ := G0.one v (by simp)
  clear G0
  go_upto_region 5 with (at_builtin; refine Lib.wpList_append_run _ rfl _ _ 22 22 rfl _ _ rfl rfl _ _ hap ?_)
  clear hap c1
  rw [List.nil_append] at G1
  have nd : Below W3.heap.size W3 W3.drew := (Below.refl _ _).drew
  have G2 := G1.up nd
  have A19 := hide (G2.app l2.g l2.a l2.c l2.xs (G2.list H2).r H2.z (by simp; omega))
  have A22 : Hid (∀ v' W, Gr w #[.int .i64 1, .int .i64 v, .slice l2.a l2.xs.length l2.c, .slice l3.a l3.xs.length l3.c, .string ⟨⟨ho⟩⟩, .slice a ls.length c, .slice l6.a l6.xs.length l6.c, .int .i64 ag, .int .i64 ea, .slice l9.a l9.xs.length l9.c, x10, x11, x12].toList W v' ([v] ++ l2.xs) → ∃ v'' w', (Builtin.append_ #[22, 22] 22 #[v', .slice l3.a l3.xs.length l3.c]).run Tryz.prog W = .ok v'' w' ∧ (Gr w #[.int .i64 1, .int .i64 v, .slice l2.a l2.xs.length l2.c, .slice l3.a l3.xs.length l3.c, .string ⟨⟨ho⟩⟩, .slice a ls.length c, .slice l6.a l6.xs.length l6.c, .int .i64 ag, .int .i64 ea, .slice l9.a l9.xs.length l9.c, x10, x11, x12].toList w' v'' (([v] ++ l2.xs) ++ l3.xs) ∧ Below (w.heap.size + 1) W w')) := fun v' W h => h.app l3.g l3.a l3.c l3.xs (h.list H3).r H3.z (by simp; omega)
  have CY : Hid (∀ W v' zs, Gr w #[.int .i64 1, .int .i64 v, .slice l2.a l2.xs.length l2.c, .slice l3.a l3.xs.length l3.c, .string ⟨⟨ho⟩⟩, .slice a ls.length c, .slice l6.a l6.xs.length l6.c, .int .i64 ag, .int .i64 ea, .slice l9.a l9.xs.length l9.c, x10, x11, x12].toList W v' zs → (W.cell? ⟨w.heap.size, 2, none⟩ = some (.slice l2.a l2.xs.length l2.c) ∧ W.cell? ⟨w.heap.size, 3, none⟩ = some (.slice l3.a l3.xs.length l3.c))) := fun W v' zs h => ⟨h.c.cell 2, h.c.cell 3⟩
  go_region_held3 (fun W => W.cell? ⟨w.heap.size, 2, none⟩ = some (.slice l2.a l2.xs.length l2.c) ∧ W.cell? ⟨w.heap.size, 3, none⟩ = some (.slice l3.a l3.xs.length l3.c))
    (first | exact (unhide CY) _ _ _ G2 | exact (unhide CY) _ _ _ G3 | exact (unhide CY) _ _ _ G4)
    (first
      | (refine step_append_exM rfl (.tmp 16) (.tmp 18) 22 22 rfl v1' (.slice l2.a l2.xs.length l2.c) rfl rfl _ A19.out ?_; rintro v19 w19 ⟨G3, -⟩; (have B22 := hide ((unhide A22) v19 w19 G3)))
      | (refine step_append_exM rfl (.tmp 19) (.tmp 21) 22 22 rfl v19 (.slice l3.a l3.xs.length l3.c) rfl rfl _ B22.out ?_; rintro v22 w22 ⟨G4, -⟩)
      | fail)
  clear A19 A22 B22 CY G1 G2 G3 nd
  obtain ⟨Z1, hZ1⟩ : ∃ l, l = ([v] ++ l2.xs) ++ l3.xs := ⟨_, rfl⟩
  have lZ1 : Hid (Z1.length ≤ 2097153) := by show _ ≤ _; rw [hZ1]; simp; omega
  rw [← hZ1] at G4 hO
  clear hZ1
  have c4 := G4.c.cell 4
  obtain ⟨cx, wx, hcv, DX, -, mx⟩ := convT w22 ho
  have SH := hide (l13ShortR_any wx w22.heap.size (some ⟨w22.heap.size, 0, none⟩) cx (txL ho) DX (fun h => nomatch h) (by rw [txL_len]; omega))
  rw [txL_len, ← shL_is ho hh] at SH
  clear DX
  go_wp2_with (first | (refine wpList_convT _ rfl 9 22 (.tmp 25) rfl (.string ⟨⟨ho⟩⟩) rfl _ _ hcv ?_) | fail)
  refine SH.out.mono ?_
  rintro e w27 ⟨v27, rfl, R27, n27⟩
  have G5 := (G4.up mx).up n27
  obtain ⟨v28, w28, hap, G6⟩ := G5.row R27 (by rw [shL_len]; have := lZ1.out; omega)
  clear G4 G5 R27 n27 mx hcv SH c4
  obtain ⟨Z2, hZ2⟩ : ∃ l, l = Z1 ++ shL ho := ⟨_, rfl⟩
  have lZ2 : Hid (Z2.length ≤ 2098000) := by show _ ≤ _; rw [hZ2, List.length_append, shL_len]; have := lZ1.out; omega
  rw [← hZ2] at G6 hO
  clear hZ2
  have c5 := G6.c.cell 5
  have CL := hide (l13List_any w28 g a c ls (H.up G6.n) hs)
  go_wp2_with (at_builtin; refine Lib.wpList_append_run _ rfl _ _ 22 22 rfl _ _ rfl rfl _ _ hap ?_)
  clear hap
  refine CL.out.mono ?_
  rintro e w32 ⟨⟨v32, rfl, R32⟩, n32⟩
  obtain ⟨v33, w33, hap, G7⟩ := (G6.up n32).row R32 (by have := lZ2.out; have := LL.out; omega)
  clear G6 R32 n32 CL c5
  obtain ⟨Z3, hZ3⟩ : ∃ l, l = Z2 ++ lsL ls := ⟨_, rfl⟩
  have lZ3 : Hid (Z3.length ≤ 11000000) := by show _ ≤ _; rw [hZ3, List.length_append]; have := lZ2.out; have := LL.out; omega
  rw [← hZ3] at G7 hO
  clear hZ3
  have c6 := G7.c.cell 6
  have CG := hide (l13Long_any w33 l6 (G7.list H6))
  go_wp2_with (at_builtin; refine Lib.wpList_append_run _ rfl _ _ 22 22 rfl _ _ rfl rfl _ _ hap ?_)
  clear hap
  refine CG.out.mono ?_
  rintro e w37 ⟨⟨v37, rfl, R37⟩, n37⟩
  obtain ⟨v38, w38, hap, G8⟩ := (G7.up n37).row R37 (by rw [loL_len]; have := lZ3.out; omega)
  clear G7 R37 n37 CG c6
  obtain ⟨Z4, hZ4⟩ : ∃ l, l = Z3 ++ loL l6.xs := ⟨_, rfl⟩
  have lZ4 : Hid (Z4.length ≤ 13000000) := by show _ ≤ _; rw [hZ4, List.length_append, loL_len]; have := lZ3.out; omega
  rw [← hZ4] at G8 hO
  clear hZ4
  have c6 := G8.c.cell 6
  by_cases h6 : l6.xs.length = 0
  · have t6 : ¬ (0 < l6.xs.length) := by omega
    have FIN : Hid (BodP w OUT (.returned v38) w38) := by show BodP _ _ _ _; rw [hO.out]; unfold bdL; rw [if_pos h6, List.append_nil]; exact G8.body
    clear G8 h6
    go_wp2_with (at_builtin; refine Lib.wpList_append_run _ rfl _ _ 22 22 rfl _ _ rfl rfl _ _ hap ?_)
    clear hap
    go_ret
    exact FIN.out
  · have t6 : 0 < l6.xs.length := by omega
    have c7 := G8.c.cell 7
    have L1 := hide (l1BigB_any w38 ag 4 a0 a1 (by decide))
    have hO2 : Hid (OUT = ((Z4 ++ bigL ag 4) ++ [ea]) ++ l9.xs) := by show _ = _; rw [hO.out]; unfold bdL; rw [if_neg h6, big1 ea e0 e1]; simp only [List.append_assoc]
    clear hO h6
    go_wp2_with (at_builtin; refine Lib.wpList_append_run _ rfl _ _ 22 22 rfl _ _ rfl rfl _ _ hap ?_)
    clear hap
    refine L1.out.mono ?_
    rintro e w46 ⟨rfl, R46, n46⟩
    obtain ⟨v47, w47, hap, G9⟩ := (G8.up n46).row R46 (by rw [bigL_len]; have := lZ4.out; omega)
    clear G8 R46 n46 L1 c7 c6
    obtain ⟨Z5, hZ5⟩ : ∃ l, l = Z4 ++ bigL ag 4 := ⟨_, rfl⟩
    have lZ5 : Hid (Z5.length ≤ 13000004) := by show _ ≤ _; rw [hZ5, List.length_append, bigL_len]; have := lZ4.out; omega
    rw [← hZ5] at G9 hO2
    clear hZ5
    go_upto_region 11 with (at_builtin; refine Lib.wpList_append_run _ rfl _ _ 22 22 rfl _ _ rfl rfl _ _ hap ?_)
    clear hap
    have w8 : IntKind.u8.wrap ea = ea := by simp [IntKind.wrap, IntKind.signed, IntKind.bits]; omega
    have nd : Below w47.heap.size w47 w47.drew := (Below.refl _ _).drew
    have GA := G9.up nd
    have GL := GA.up (show Below w47.drew.heap.size w47.drew (w47.drew.alloc (.cells #[.int .u8 ea] 5)) from (Below.refl _ _).alloc (Nat.le_refl _) _)
    have A53 : Hid (∃ v' w', (Builtin.append_ #[22, 22] 22 #[v47, .slice (some ⟨w47.heap.size, 0, none⟩) 1 1]).run Tryz.prog (w47.drew.alloc (.cells #[.int .u8 ea] 5)) = .ok v' w' ∧ Gr w #[.int .i64 1, .int .i64 v, .slice l2.a l2.xs.length l2.c, .slice l3.a l3.xs.length l3.c, .string ⟨⟨ho⟩⟩, .slice a ls.length c, .slice l6.a l6.xs.length l6.c, .int .i64 ag, .int .i64 ea, .slice l9.a l9.xs.length l9.c, x10, x11, x12].toList w' v' (Z5 ++ [ea])) := GA.one ea (by have := lZ5.out; omega)
    have A56 : Hid (∀ v' W, Gr w #[.int .i64 1, .int .i64 v, .slice l2.a l2.xs.length l2.c, .slice l3.a l3.xs.length l3.c, .string ⟨⟨ho⟩⟩, .slice a ls.length c, .slice l6.a l6.xs.length l6.c, .int .i64 ag, .int .i64 ea, .slice l9.a l9.xs.length l9.c, x10, x11, x12].toList W v' (Z5 ++ [ea]) → ∃ v'' w', (Builtin.append_ #[22, 22] 22 #[v', .slice l9.a l9.xs.length l9.c]).run Tryz.prog W = .ok v'' w' ∧ (Gr w #[.int .i64 1, .int .i64 v, .slice l2.a l2.xs.length l2.c, .slice l3.a l3.xs.length l3.c, .string ⟨⟨ho⟩⟩, .slice a ls.length c, .slice l6.a l6.xs.length l6.c, .int .i64 ag, .int .i64 ea, .slice l9.a l9.xs.length l9.c, x10, x11, x12].toList w' v'' ((Z5 ++ [ea]) ++ l9.xs) ∧ Below (w.heap.size + 1) W w')) := fun v' W h => h.app l9.g l9.a l9.c l9.xs (h.list H9).r H9.z (by have := lZ5.out; simp; omega)
    have CY : Hid (∀ W v' zs, Gr w #[.int .i64 1, .int .i64 v, .slice l2.a l2.xs.length l2.c, .slice l3.a l3.xs.length l3.c, .string ⟨⟨ho⟩⟩, .slice a ls.length c, .slice l6.a l6.xs.length l6.c, .int .i64 ag, .int .i64 ea, .slice l9.a l9.xs.length l9.c, x10, x11, x12].toList W v' zs → (W.cell? ⟨w.heap.size, 8, none⟩ = some (.int .i64 ea) ∧ W.cell? ⟨w.heap.size, 9, none⟩ = some (.slice l9.a l9.xs.length l9.c))) := fun W v' zs h => ⟨h.c.cell 8, h.c.cell 9⟩
    go_region_held3 (fun W => W.cell? ⟨w.heap.size, 8, none⟩ = some (.int .i64 ea) ∧ W.cell? ⟨w.heap.size, 9, none⟩ = some (.slice l9.a l9.xs.length l9.c))
      (first | exact (unhide CY) _ _ _ GA | exact (unhide CY) _ _ _ GL | exact (unhide CY) _ _ _ GB | exact (unhide CY) _ _ _ GC)
      (first
        | (refine step_append_exM rfl (.tmp 48) (.tmp 52) 22 22 rfl v47 (.slice (some ⟨w47.heap.size, 0, none⟩) 1 1) rfl rfl _ A53.out ?_; rintro v53 w53 GB; (have B56 := hide ((unhide A56) v53 w53 GB)))
        | (refine step_append_exM rfl (.tmp 53) (.tmp 55) 22 22 rfl v53 (.slice l9.a l9.xs.length l9.c) rfl rfl _ B56.out ?_; rintro v56 w56 ⟨GC, -⟩)
        | fail)
    have FIN : Hid (BodP w OUT (.returned v56) w56) := by show BodP _ _ _ _; rw [hO2.out]; exact GC.body
    clear A53 A56 B56 CY G9 GA GL GB GC nd
    go_wp2
    go_ret
    exact FIN.out
end Go.Proofs.YtmfajpplagbfcaaGreatDoor
namespace Go.Proofs.YtmfajpplagbfcaaGreatDoor
set_option maxRecDepth 100000
open Go Go.RowKit
theorem cellB {w w' : World} {b : Nat} (n : Below b w w') {q i : Nat} {x : Value} (h : w.cell? ⟨q, i, none⟩ = some x) (hq : q < b) : w'.cell? ⟨q, i, none⟩ = some x :=
  (World.cell?_of_block (a := ⟨q, i, none⟩) (n.block q hq)).trans h
theorem LstR.of_row' {w : World} {b : Nat} {v : Value} {xs : List Int} (R : RowB w b v xs) : ∃ l : LstZ, v = .slice l.a l.xs.length l.c ∧ l.xs = xs ∧ (Rd w l.g l.a .u8 l.xs ∧ (l.a = none → l.c = 0)) := by
  obtain ⟨a, c, g, e, r, z, _, _⟩ := R.rd
  exact ⟨⟨g, a, c, xs⟩, e, rfl, r, z⟩
set_option maxRecDepth 100000 in
set_option maxHeartbeats 2000000 in
theorem sbCerts_any (w : World) (x1 x2 x3 x4 x5 x6 x7 x8 x9 x10 x12 : Value) (g : Nat) (a : Option Addr) (c : Nat) (bs : List (List Int)) (ps : List Plb) (H : CtsR w g a bs ps) :
    Calls Tryz.prog 36 #[.agg #[.int .i64 11, x1, x2, x3, x4, x5, x6, x7, x8, x9, x10, .slice a bs.length c, x12]] w (BodP w (clL bs)) := by
  obtain ⟨i0, hi, hz0, hz1, hz2⟩ := info_parts Tryz.info5
  obtain ⟨N, RC, R⟩ := boxed w [.int .i64 11, x1, x2, x3, x4, x5, x6, x7, x8, x9, x10, .slice a bs.length c, x12] 26
  have hn := H.n
  have SUM := hide (lo_sum bs 1048576 H.z)
  have c0 := RC.cell 0
  have c11 := RC.cell 11
  have z1 : (w.alloc (.cells #[.int .i64 11, x1, x2, x3, x4, x5, x6, x7, x8, x9, x10, .slice a bs.length c, x12] 26)).heap.size = w.heap.size + 1 := by simp
  have z2 : w.heap.size + 1 ≤ ((w.alloc (.cells #[.int .i64 11, x1, x2, x3, x4, x5, x6, x7, x8, x9, x10, .slice a bs.length c, x12] 26)).alloc (.cells #[] 5)).heap.size := by simp
  have R' : RowB ((w.alloc (.cells #[.int .i64 11, x1, x2, x3, x4, x5, x6, x7, x8, x9, x10, .slice a bs.length c, x12] 26)).alloc (.cells #[] 5)) (w.heap.size + 1) (.slice (some ⟨w.heap.size + 1, 0, none⟩) 0 0) [] := R
  have N' : Below w.heap.size w ((w.alloc (.cells #[.int .i64 11, x1, x2, x3, x4, x5, x6, x7, x8, x9, x10, .slice a bs.length c, x12] 26)).alloc (.cells #[] 5)) := N
  have c0' : ((w.alloc (.cells #[.int .i64 11, x1, x2, x3, x4, x5, x6, x7, x8, x9, x10, .slice a bs.length c, x12] 26)).alloc (.cells #[] 5)).cell? ⟨w.heap.size, 0, none⟩ = some (.int .i64 11) := c0
  have c11' : ((w.alloc (.cells #[.int .i64 11, x1, x2, x3, x4, x5, x6, x7, x8, x9, x10, .slice a bs.length c, x12] 26)).alloc (.cells #[] 5)).cell? ⟨w.heap.size, 11, none⟩ = some (.slice a bs.length c) := c11
  clear RC R N c0 c11
  go_enter Tryz.func36, Tryz.ntmps36
  go_upto_region 25 with fail
  generalize (w.alloc (.cells #[.int .i64 11, x1, x2, x3, x4, x5, x6, x7, x8, x9, x10, .slice a bs.length c, x12] 26)).alloc (.cells #[] 5) = W at *
  have nL : Below W.heap.size W (W.alloc (.cells #[.int .u8 (bs.length : Int)] 5)) := (Below.refl _ _).alloc (Nat.le_refl _) _
  obtain ⟨v1, w1, hap, R1, n1⟩ := append_any (P := Tryz.prog) (W.alloc (.cells #[.int .u8 (bs.length : Int)] 5)) 22 i0 Tryz.underlying22 hi hz0 hz1 hz2 (w.heap.size + 1) (w.heap.size + 1) _ _ (R'.up nL) _ _ 1 [(bs.length : Int)] (blk_lit1 W .u8 5 (bs.length : Int)).own0.rd (by simp) (by simp) (by omega) (Nat.le_trans z2 nL.size)
  have N1 : Below (w.heap.size + 1) W w1 := (nL.mono z2).trans n1
  rw [List.nil_append] at R1
  clear R' n1 nL
  go_wp2_with (at_builtin; refine Lib.wpList_append_run _ rfl _ _ 22 22 rfl _ _ rfl rfl _ _ hap ?_)
  clear hap
  go_loopw [3, 4] (fun x i wr => ∃ k : Nat, k ≤ bs.length ∧ i = .int .i64 k ∧ RowB wr (w.heap.size + 1) x ([(bs.length : Int)] ++ ((bs.map loL).take k).flatten) ∧ Below (w.heap.size + 1) W wr) (fun _ i _ => bs.length - (intOf i).toNat)
  case atStart => exact ⟨0, Nat.zero_le _, rfl, by simpa using R1, N1⟩
  case round =>
    obtain ⟨k, hk, rfl, R, hN⟩ := hrel
    clear R1 N1
    have k11 := cellB hN c11' (by omega)
    have NW : Below w.heap.size w wr := N'.trans (hN.mono (by omega))
    by_cases hlt : k < bs.length
    · have HW := H.up NW
      obtain ⟨off, ea, hc⟩ := HW.r.r (by omega)
      have t0 : (k : Int) < (bs.length : Int) := by omega
      have c1 := hc k hlt
      have LX : LstR wr ⟨(ps.getD k plb0).q, (ps.getD k plb0).a, (ps.getD k plb0).c, bs.getD k []⟩ := ⟨HW.r.b k hlt, HW.y k hlt, HW.z k hlt, HW.q k hlt⟩
      have ST := hide (lo_take bs k hlt)
      have SK : ([(bs.length : Int)] ++ ((bs.map loL).take k).flatten).length ≤ 1073741824 := by
        have := SUM.out k
        have : k * (1048576 + 2) ≤ 4 * (1048576 + 2) := Nat.mul_le_mul_right _ (by omega)
        simp only [List.length_append, List.length_cons, List.length_nil]
        omega
      clear hc HW SUM H
      subst ea
      generalize bs.getD k [] = y at *
      generalize ps.getD k plb0 = p at *
      have zy : y.length ≤ 1048576 := LX.m
      have CL := hide (l13Long_any wr _ LX)
      clear LX
      go_wp2_with fail
      refine CL.out.mono ?_
      rintro r w3 ⟨⟨v3, rfl, R3⟩, n3⟩
      have lz := loL_len y
      obtain ⟨l3, e3, x3, L3⟩ := LstR.of_row' R3
      subst e3
      have RR := R.up n3
      have M3 : Below (w.heap.size + 1) W w3 := hN.trans (n3.mono (Nat.le_trans z2 hN.size))
      obtain ⟨v4, w4, hap, R4, n4⟩ := append_any (P := Tryz.prog) w3 22 i0 Tryz.underlying22 hi hz0 hz1 hz2 (w.heap.size + 1) (w.heap.size + 1) _ _ RR l3.g l3.a l3.c l3.xs L3.1 L3.2 (by rw [x3]; show _ + (loL y).length ≤ _; omega) (Nat.le_refl _) (Nat.le_trans z2 M3.size)
      rw [x3] at R4
      have R5 : RowB w4 (w.heap.size + 1) v4 ([(bs.length : Int)] ++ ((bs.map loL).take (k + 1)).flatten) := by rw [ST.out, ← List.append_assoc]; exact R4
      have N4 := M3.trans n4
      clear CL n4 hN ST c1 R RR R3 R4 M3 n3 L3 x3 k11 NW lz SK zy
      go_wp2_with (at_builtin; refine Lib.wpList_append_run _ rfl _ _ 22 22 rfl _ _ rfl rfl _ _ hap ?_)
      clear hap
      go_roundw
      case rel => exact ⟨k + 1, by omega, by go_num, R5, N4⟩
      case measure => simp [intOf]; omega
    · obtain rfl : k = bs.length := by omega
      rw [List.take_of_length_le (by simp)] at R
      clear H SUM
      go_wp2
      go_ret
      exact ⟨⟨_, rfl, R.base (by omega)⟩, NW⟩
end Go.Proofs.YtmfajpplagbfcaaGreatDoor
namespace Go.Proofs.YtmfajpplagbfcaaGreatDoor
set_option maxRecDepth 100000
open Go Go.RowKit
def kfF (m : Msg) : Option (Msg × Int) := if m.k = 1 then some (helloM m, heF m.v m.r.length m.s.length m.ho m.pr m.ti.length m.bi.length m.ag m.ea) else if m.k = 2 then some (answerM m, fpF m.v m.r.length m.s.length) else if m.k = 4 then some (ticketM m, tiF m.ag m.ea m.r.length m.ti.length) else if m.k = 5 then some (endM m, 0) else if m.k = 8 then some (extrasM m, exF m.pr m.ea) else if m.k = 11 then some (certsM m, ceF m.ce) else if m.k = 15 then some (proofM m, pfF 64 m.pf.length) else if m.k = 20 then some (finishedM m, pfF 32 m.pf.length) else if m.k = 24 then some (updateM m, upF m.ea) else none
def mfF (m : Msg) : Int :=
  match kfF m with
  | none => 1
  | some (m', f) => if sameM m' m = true then f else 2
end Go.Proofs.YtmfajpplagbfcaaGreatDoor
