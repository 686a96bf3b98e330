import Derived.Test.YtcaljanahpdidaaGreatGV12
import Derived.Deep.MidRow
import Derived.Test.YtcaljanahpdidaaGreatGV9
import Derived.Test.YtcaljanahpdidaaGreatGV3
import Derived.Lib.ConvBytes
import Derived.Test.YtcaljanahpdidaaGreatGV10
import Derived.Test.YtcaljanahpdidaaGreatGV6
import Derived.Deep.RegionHeld3
namespace Go.Proofs.YtcaljanahpdidaaGreat
open Go Go.RowKit
theorem RwC.butM {w w' : World} {q s : Nat} {cs : List Value} {t : TypeId} (h : RwC w q cs t) (n : But s w w') (hq : q ≠ s) : RwC w' q cs t := (n.block q h.lt hq).trans h
def MsOV (W : World) (B : Nat) (e : Ending) : Prop := ∃ v0 v1 v2 v3 v4 v5 v6 v7 v8 v9 v10 v11 v12 : Value, e = .returned (.agg #[v0, v1, v2, v3, v4, v5, v6, v7, v8, v9, v10, v11, v12]) ∧ MsO W B v0 v1 v2 v3 v4 v5 v6 v7 v8 v9 v10 v11 v12
def MsFV (W : World) (B : Nat) (e : Ending) : Prop := ∃ v0 v1 v2 v3 v4 v5 v6 v7 v8 v9 v10 v11 v12 : Value, e = .returned (.agg #[v0, v1, v2, v3, v4, v5, v6, v7, v8, v9, v10, v11, v12]) ∧ MsF W B v0 v1 v2 v3 v4 v5 v6 v7 v8 v9 v10 v11 v12
theorem make_dgB {w w' : World} {n B : Nat} (hn : n ≤ 10000) (h : w'.ownsRow w.heap.size 5 1 (.slice (some ⟨w.heap.size, 0, none⟩) n n) n (madeCells (Value.int .u8 0).cells (n * 1)).toList) (hB : B ≤ w.heap.size) : dgB w' B (.slice (some ⟨w.heap.size, 0, none⟩) n n) := by
  refine ⟨List.replicate n 0, ?_, by simpa using hn, fun i => ?_⟩
  · have e : (madeCells (Value.int .u8 0).cells (n * 1)).toList = (List.replicate n (0 : Int)).map (Value.int .u8) := by
      apply List.ext_getElem
      · simp [madeCells]
      · intro i h1 h2
        simp [madeCells, Value.cells, Nat.mod_one]
    rw [e] at h
    have := own_base h hB
    show w'.ownsRow B 5 1 _ (List.replicate n (0 : Int)).length _
    rw [List.length_replicate]
    exact this
  · rw [List.getD_eq_getElem?_getD, List.getElem?_replicate]
    split <;> exact ⟨by simp, by simp⟩
set_option maxRecDepth 100000 in
set_option maxHeartbeats 8000000 in
theorem drawHello_M {w : World} {s g : Nat} {a : Option Addr} {c : Nat} {xs : List Int} {t : Int} (d : Drm w s g a c xs t) (t1 : t ≤ 900000) :
    Calls Tryz.prog 46 #[.pointer (some ⟨s, 0, none⟩)] w fun e w' => ∃ u : Int, MsOV w' w.heap.size e ∧ u ≤ t + 30 ∧ Drm w' s g a c xs u ∧ But s w w' := by
  obtain ⟨dR, hdR, hrowR⟩ := rowM
  obtain ⟨i0, hi, hz0, hz1, hz2⟩ := info_parts Tryz.info5
  have ls := d.S.lt
  have lg := d.R.lt
  obtain ⟨B, hB⟩ : ∃ B, B = w.heap.size := ⟨_, rfl⟩
  have D0 : Dq w w s g a c xs B t := Dq.start d (by omega) (fun h => by have := lg h; omega) (by omega)
  have n1 : Below w.heap.size w (w.alloc (.cells #[.int .i64 0, .int .i64 0, .slice none 0 0, .slice none 0 0, .string ⟨#[]⟩, .slice none 0 0, .slice none 0 0, .int .i64 0, .int .i64 0, .slice none 0 0, .bool false, .slice none 0 0, .slice none 0 0] 28)) := (Below.refl _ _).alloc (Nat.le_refl _) _
  have Q : RwC (w.alloc (.cells #[.int .i64 0, .int .i64 0, .slice none 0 0, .slice none 0 0, .string ⟨#[]⟩, .slice none 0 0, .slice none 0 0, .int .i64 0, .int .i64 0, .slice none 0 0, .bool false, .slice none 0 0, .slice none 0 0] 28)) w.heap.size [.int .i64 0, .int .i64 0, .slice none 0 0, .slice none 0 0, .string ⟨#[]⟩, .slice none 0 0, .slice none 0 0, .int .i64 0, .int .i64 0, .slice none 0 0, .bool false, .slice none 0 0, .slice none 0 0] 28 := RwC.new w _ _
  have z1 : (w.alloc (.cells #[.int .i64 0, .int .i64 0, .slice none 0 0, .slice none 0 0, .string ⟨#[]⟩, .slice none 0 0, .slice none 0 0, .int .i64 0, .int .i64 0, .slice none 0 0, .bool false, .slice none 0 0, .slice none 0 0] 28)).heap.size = w.heap.size + 1 := by simp
  have D := D0.up n1
  have POST : ∀ (v0 v1 v2 v3 v4 v5 v6 v7 v8 v9 v10 v11 v12 : Value) (W : World) (u : Int), Hid (MsO W B v0 v1 v2 v3 v4 v5 v6 v7 v8 v9 v10 v11 v12) → Hid (Dq w W s g a c xs B u) → u ≤ t + 30 → Hid ((∃ u : Int, MsOV W w.heap.size (.returned (.agg #[v0, v1, v2, v3, v4, v5, v6, v7, v8, v9, v10, v11, v12])) ∧ u ≤ t + 30 ∧ Drm W s g a c xs u ∧ But s w W)) := fun v0 v1 v2 v3 v4 v5 v6 v7 v8 v9 v10 v11 v12 W u hm hd hu => by
    subst hB
    exact ⟨u, ⟨v0, v1, v2, v3, v4, v5, v6, v7, v8, v9, v10, v11, v12, rfl, hm.out⟩, hu, hd.out.d, hd.out.out⟩
  clear n1 d D0
  go_enter Tryz.func46, Tryz.ntmps46
  go_wp2_with fail
  generalize w.alloc (.cells #[.int .i64 0, .int .i64 0, .slice none 0 0, .slice none 0 0, .string ⟨#[]⟩, .slice none 0 0, .slice none 0 0, .int .i64 0, .int .i64 0, .slice none 0 0, .bool false, .slice none 0 0, .slice none 0 0] 28) = W0 at *
  refine (bytes_M D.d 32 (by omega) (by omega)).mono ?_
  rintro e W1 ⟨v', ys, rfl, yl, yb, R', d', b'⟩
  have f2 : dgB W1 B v' := dgB.row R' (by omega) yb (by omega)
  obtain ⟨a2, l2, c2, rfl⟩ := f2.form
  clear R' yl yb
  have zW1 := b'.size
  replace Q := Q.butM b' (by omega)
  replace D := D.but b' d'
  clear b' d'
  go_wp2_with fail
  refine (bytes_M D.d 32 (by omega) (by omega)).mono ?_
  rintro e W2 ⟨v', ys, rfl, yl, yb, R', d', b'⟩
  have f3 : dgB W2 B v' := dgB.row R' (by omega) yb (by omega)
  obtain ⟨a3, l3, c3, rfl⟩ := f3.form
  clear R' yl yb
  have zW2 := b'.size
  replace Q := Q.butM b' (by omega)
  replace f2 := f2.kp (X := 28) (dgK.but b' D.sB) (by decide)
  replace D := D.but b' d'
  clear b' d'
  go_wp2_with fail
  refine (drawName_M D.d (by omega)).mono ?_
  rintro e W3 ⟨h4, u4, rfl, lh, hu4, d', b'⟩
  have zW3 := b'.size
  replace Q := Q.butM b' (by omega)
  replace f2 := f2.kp (X := 28) (dgK.but b' D.sB) (by decide)
  replace f3 := f3.kp (X := 28) (dgK.but b' D.sB) (by decide)
  replace D := D.but b' d'
  clear b' d'
  go_wp2_with fail
  refine (drawProt_M D.d (by omega) 4 (by omega)).mono ?_
  rintro e W4 ⟨v', u5, rfl, f5, hu5, d', b'⟩
  obtain ⟨ps, R5, p1, p2⟩ := f5
  have f5 : dgT W4 B v' := ⟨ps, own_base R5 (by omega), p1, p2⟩
  obtain ⟨a5, c5, g5, rfl, _⟩ := R5.form
  obtain ⟨l5, hl5⟩ : ∃ l, l = ps.length := ⟨_, rfl⟩
  rw [← hl5] at f5 ⊢
  clear R5 p1 p2 hl5
  have zW4 := b'.size
  replace Q := Q.butM b' (by omega)
  replace f2 := f2.kp (X := 28) (dgK.but b' D.sB) (by decide)
  replace f3 := f3.kp (X := 28) (dgK.but b' D.sB) (by decide)
  replace D := D.but b' d'
  clear b' d'
  have n' : Below W4.heap.size W4 (W4.alloc (.cells #[.int .i64 1, .int .i64 1, .slice a2 l2 c2, .slice a3 l3 c3, .string ⟨⟨h4⟩⟩, .slice a5 l5 c5, .slice none 0 0, .int .i64 0, .int .i64 0, .slice none 0 0, .bool false, .slice none 0 0, .slice none 0 0] 28)) := (Below.refl _ _).alloc (Nat.le_refl _) _
  have T : RwC (W4.alloc (.cells #[.int .i64 1, .int .i64 1, .slice a2 l2 c2, .slice a3 l3 c3, .string ⟨⟨h4⟩⟩, .slice a5 l5 c5, .slice none 0 0, .int .i64 0, .int .i64 0, .slice none 0 0, .bool false, .slice none 0 0, .slice none 0 0] 28)) W4.heap.size [.int .i64 1, .int .i64 1, .slice a2 l2 c2, .slice a3 l3 c3, .string ⟨⟨h4⟩⟩, .slice a5 l5 c5, .slice none 0 0, .int .i64 0, .int .i64 0, .slice none 0 0, .bool false, .slice none 0 0, .slice none 0 0] 28 := RwC.new _ _ _
  have zW5 : (W4.alloc (.cells #[.int .i64 1, .int .i64 1, .slice a2 l2 c2, .slice a3 l3 c3, .string ⟨⟨h4⟩⟩, .slice a5 l5 c5, .slice none 0 0, .int .i64 0, .int .i64 0, .slice none 0 0, .bool false, .slice none 0 0, .slice none 0 0] 28)).heap.size = W4.heap.size + 1 := by simp
  have p0 := Q.lt
  replace Q := Q.up n'
  have p1 := D.size
  replace D := D.up n'
  replace f2 := f2.kp (X := 28) (dgK.up n') (by decide)
  replace f3 := f3.kp (X := 28) (dgK.up n') (by decide)
  replace f5 := f5.kp (X := 28) (dgK.up n') (by decide)
  have M : MsO (W4.alloc (.cells #[.int .i64 1, .int .i64 1, .slice a2 l2 c2, .slice a3 l3 c3, .string ⟨⟨h4⟩⟩, .slice a5 l5 c5, .slice none 0 0, .int .i64 0, .int .i64 0, .slice none 0 0, .bool false, .slice none 0 0, .slice none 0 0] 28)) B (.int .i64 1) (.int .i64 1) (.slice a2 l2 c2) (.slice a3 l3 c3) (.string ⟨⟨h4⟩⟩) (.slice a5 l5 c5) (.slice none 0 0) (.int .i64 0) (.int .i64 0) (.slice none 0 0) (.bool false) (.slice none 0 0) (.slice none 0 0) := ⟨⟨_, rfl⟩, ⟨_, rfl⟩, f2, f3, ⟨h4, rfl, by omega⟩, f5, dgB.nil _ _, ⟨_, rfl⟩, ⟨_, rfl⟩, dgB.nil _ _, ⟨_, rfl⟩, dgC.nil _ _, dgB.nil _ _⟩
  clear n' f2 f3 f5
  go_wp2_with fail
  generalize W4.alloc (.cells #[.int .i64 1, .int .i64 1, .slice a2 l2 c2, .slice a3 l3 c3, .string ⟨⟨h4⟩⟩, .slice a5 l5 c5, .slice none 0 0, .int .i64 0, .int .i64 0, .slice none 0 0, .bool false, .slice none 0 0, .slice none 0 0] 28) = W5 at *
  refine (chance_M D.d (by omega) (by decide) (by decide)).mono ?_
  rintro e W6 ⟨b2, rfl, d', b'⟩
  have zW6 := b'.size
  replace T := T.butM b' (by omega)
  replace M := M.kp (dgK.but b' D.sB) neM
  replace Q := Q.butM b' (by omega)
  replace D := D.but b' d'
  clear b' d'
  cases b2
  case false =>
    go_wp2_with fail
    refine (chance_M D.d (by omega) (by decide) (by decide)).mono ?_
    rintro e W7 ⟨b9, rfl, d', b'⟩
    have zW7 := b'.size
    replace T := T.butM b' (by omega)
    replace M := M.kp (dgK.but b' D.sB) neM
    replace Q := Q.butM b' (by omega)
    replace D := D.but b' d'
    clear b' d'
    cases b9
    case false =>
      have RG := T.rangeG
      have THR := Q.thereG
      have ONE := M.rd.one
      have OS := only_setG W7 w.heap.size [.int .i64 1, .int .i64 1, .slice a2 l2 c2, .slice a3 l3 c3, .string ⟨⟨h4⟩⟩, .slice a5 l5 c5, .slice none 0 0, .int .i64 0, .int .i64 0, .slice none 0 0, .bool false, .slice none 0 0, .slice none 0 0] 0
      have RQ : RwC (W7.setCells w.heap.size 0 [.int .i64 1, .int .i64 1, .slice a2 l2 c2, .slice a3 l3 c3, .string ⟨⟨h4⟩⟩, .slice a5 l5 c5, .slice none 0 0, .int .i64 0, .int .i64 0, .slice none 0 0, .bool false, .slice none 0 0, .slice none 0 0]) w.heap.size [.int .i64 1, .int .i64 1, .slice a2 l2 c2, .slice a3 l3 c3, .string ⟨⟨h4⟩⟩, .slice a5 l5 c5, .slice none 0 0, .int .i64 0, .int .i64 0, .slice none 0 0, .bool false, .slice none 0 0, .slice none 0 0] 28 := RwC.all13 Q
      have RR := RQ.rangeG
      have MF := hide (M.kp (dgK.onl OS Q) neM)
      have DF := hide (D.onl OS (by omega))
      clear RQ OS M D Q T
      go_wp2_with (first | (refine wpList_load_mid rfl 28 (.tmp 3) rfl (W4.heap.size) 0 rfl [.int .i64 1, .int .i64 1, .slice a2 l2 c2, .slice a3 l3 c3, .string ⟨⟨h4⟩⟩, .slice a5 l5 c5, .slice none 0 0, .int .i64 0, .int .i64 0, .slice none 0 0, .bool false, .slice none 0 0, .slice none 0 0] dR RG hdR hrowR iM ?_) | (refine wpList_store_mid rfl 28 (.tmp 2) (.tmp 39) rfl (w.heap.size) 0 #[.int .i64 1, .int .i64 1, .slice a2 l2 c2, .slice a3 l3 c3, .string ⟨⟨h4⟩⟩, .slice a5 l5 c5, .slice none 0 0, .int .i64 0, .int .i64 0, .slice none 0 0, .bool false, .slice none 0 0, .slice none 0 0] rfl rfl THR iM ONE ?_) | fail)
      refine bodyPost_ret (v := .agg #[.int .i64 1, .int .i64 1, .slice a2 l2 c2, .slice a3 l3 c3, .string ⟨⟨h4⟩⟩, .slice a5 l5 c5, .slice none 0 0, .int .i64 0, .int .i64 0, .slice none 0 0, .bool false, .slice none 0 0, .slice none 0 0]) (results_cellG Tryz.results46 _ _ (w.heap.size) _ dR rfl RR hdR hrowR iM) rfl ?_
      exact (POST _ _ _ _ _ _ _ _ _ _ _ _ _ _ _ MF DF (by omega)).out
    case true =>
      go_wp2_with fail
      refine (next_M D.d (by omega) (by decide) (by decide)).mono ?_
      rintro e W8 ⟨r1, rfl, hr1, d', b'⟩
      have zW8 := b'.size
      replace T := T.butM b' (by omega)
      replace M := M.kp (dgK.but b' D.sB) neM
      replace Q := Q.butM b' (by omega)
      replace D := D.but b' d'
      clear b' d'
      have tc : W8.cell? ⟨W4.heap.size, 1, none⟩ = some (.int .i64 1) := T.cell 1
      have tf := T.free 1
      have OS := Only.setCell W8 W4.heap.size 1 (.int .i64 (r1 : Int))
      have M1 := M.kp (dgK.onl OS T) neM
      have T1 : RwC (W8.setCell ⟨W4.heap.size, 1, none⟩ (.int .i64 (r1 : Int))) W4.heap.size [.int .i64 1, .int .i64 (r1 : Int), .slice a2 l2 c2, .slice a3 l3 c3, .string ⟨⟨h4⟩⟩, .slice a5 l5 c5, .slice none 0 0, .int .i64 0, .int .i64 0, .slice none 0 0, .bool false, .slice none 0 0, .slice none 0 0] 28 := T.set 1 _
      have Q1 := Q.onl OS (by omega)
      have D1 := D.onl OS (by omega)
      have M2 : MsO (W8.setCell ⟨W4.heap.size, 1, none⟩ (.int .i64 (r1 : Int))) B (.int .i64 1) (.int .i64 (r1 : Int)) (.slice a2 l2 c2) (.slice a3 l3 c3) (.string ⟨⟨h4⟩⟩) (.slice a5 l5 c5) (.slice none 0 0) (.int .i64 0) (.int .i64 0) (.slice none 0 0) (.bool false) (.slice none 0 0) (.slice none 0 0) := ⟨M1.i0, ⟨_, rfl⟩, M1.b2, M1.b3, M1.s4, M1.t5, M1.b6, M1.i7, M1.i8, M1.b9, M1.o10, M1.c11, M1.b12⟩
      have zz := OS.size
      clear M M1 T Q D OS
      go_upto_region 11 with fail
      generalize W8.setCell ⟨W4.heap.size, 1, none⟩ (.int .i64 (r1 : Int)) = W9 at *
      have T := T1
      have Q := Q1
      have D := D1
      have M := M2
      clear T1 Q1 D1 M2 tc tf
      have RG := T.rangeG
      have THR := Q.thereG
      have ONE := M.rd.one
      have OS := only_setG W9 w.heap.size [.int .i64 1, .int .i64 (r1 : Int), .slice a2 l2 c2, .slice a3 l3 c3, .string ⟨⟨h4⟩⟩, .slice a5 l5 c5, .slice none 0 0, .int .i64 0, .int .i64 0, .slice none 0 0, .bool false, .slice none 0 0, .slice none 0 0] 0
      have RQ : RwC (W9.setCells w.heap.size 0 [.int .i64 1, .int .i64 (r1 : Int), .slice a2 l2 c2, .slice a3 l3 c3, .string ⟨⟨h4⟩⟩, .slice a5 l5 c5, .slice none 0 0, .int .i64 0, .int .i64 0, .slice none 0 0, .bool false, .slice none 0 0, .slice none 0 0]) w.heap.size [.int .i64 1, .int .i64 (r1 : Int), .slice a2 l2 c2, .slice a3 l3 c3, .string ⟨⟨h4⟩⟩, .slice a5 l5 c5, .slice none 0 0, .int .i64 0, .int .i64 0, .slice none 0 0, .bool false, .slice none 0 0, .slice none 0 0] 28 := RwC.all13 Q
      have RR := RQ.rangeG
      have MF := hide (M.kp (dgK.onl OS Q) neM)
      have DF := hide (D.onl OS (by omega))
      clear RQ OS M D Q T
      go_wp2_with (first | (refine wpList_load_mid rfl 28 (.tmp 3) rfl (W4.heap.size) 0 rfl [.int .i64 1, .int .i64 (r1 : Int), .slice a2 l2 c2, .slice a3 l3 c3, .string ⟨⟨h4⟩⟩, .slice a5 l5 c5, .slice none 0 0, .int .i64 0, .int .i64 0, .slice none 0 0, .bool false, .slice none 0 0, .slice none 0 0] dR RG hdR hrowR iM ?_) | (refine wpList_store_mid rfl 28 (.tmp 2) (.tmp 39) rfl (w.heap.size) 0 #[.int .i64 1, .int .i64 (r1 : Int), .slice a2 l2 c2, .slice a3 l3 c3, .string ⟨⟨h4⟩⟩, .slice a5 l5 c5, .slice none 0 0, .int .i64 0, .int .i64 0, .slice none 0 0, .bool false, .slice none 0 0, .slice none 0 0] rfl rfl THR iM ONE ?_) | fail)
      refine bodyPost_ret (v := .agg #[.int .i64 1, .int .i64 (r1 : Int), .slice a2 l2 c2, .slice a3 l3 c3, .string ⟨⟨h4⟩⟩, .slice a5 l5 c5, .slice none 0 0, .int .i64 0, .int .i64 0, .slice none 0 0, .bool false, .slice none 0 0, .slice none 0 0]) (results_cellG Tryz.results46 _ _ (w.heap.size) _ dR rfl RR hdR hrowR iM) rfl ?_
      exact (POST _ _ _ _ _ _ _ _ _ _ _ _ _ _ _ MF DF (by omega)).out
  case true =>
    go_wp2_with fail
    refine (next_M D.d (by omega) (by decide) (by decide)).mono ?_
    rintro e W10 ⟨r3, rfl, hr3, d', b'⟩
    have zW10 := b'.size
    replace T := T.butM b' (by omega)
    replace M := M.kp (dgK.but b' D.sB) neM
    replace Q := Q.butM b' (by omega)
    replace D := D.but b' d'
    clear b' d'
    obtain ⟨k3, hk3⟩ : ∃ k : Nat, k = 1 + r3 := ⟨_, rfl⟩
    have q3 : k3 ≤ 100 := by omega
    have w3 : IntKind.i64.wrap (1 + (r3 : Int)) = (k3 : Int) := by rw [IntKind.wrap_i64]; omega
    have w3' : (1 + (r3 : Int)) = (k3 : Int) := by omega
    clear hr3 hk3
    go_wp2_with fail
    try rw [w3']
    clear w3 w3'
    refine (bytes_M D.d k3 (by omega) (by omega)).mono ?_
    rintro e W11 ⟨v', ys, rfl, yl, yb, R', d', b'⟩
    have f6 : dgB W11 B v' := dgB.row R' (by omega) yb (by omega)
    obtain ⟨a6, l6, c6, rfl⟩ := f6.form
    clear R' yl yb
    have zW11 := b'.size
    replace T := T.butM b' (by omega)
    replace M := M.kp (dgK.but b' D.sB) neM
    replace Q := Q.butM b' (by omega)
    replace D := D.but b' d'
    clear b' d'
    have tc : W11.cell? ⟨W4.heap.size, 6, none⟩ = some (.slice none 0 0) := T.cell 6
    have tf := T.free 6
    have OS := Only.setCell W11 W4.heap.size 6 (.slice a6 l6 c6)
    have M1 := M.kp (dgK.onl OS T) neM
    have nf := f6.kp (dgK.onl OS T) (by decide)
    have T1 : RwC (W11.setCell ⟨W4.heap.size, 6, none⟩ (.slice a6 l6 c6)) W4.heap.size [.int .i64 1, .int .i64 1, .slice a2 l2 c2, .slice a3 l3 c3, .string ⟨⟨h4⟩⟩, .slice a5 l5 c5, .slice a6 l6 c6, .int .i64 0, .int .i64 0, .slice none 0 0, .bool false, .slice none 0 0, .slice none 0 0] 28 := T.set 6 _
    have Q1 := Q.onl OS (by omega)
    have D1 := D.onl OS (by omega)
    have M2 : MsO (W11.setCell ⟨W4.heap.size, 6, none⟩ (.slice a6 l6 c6)) B (.int .i64 1) (.int .i64 1) (.slice a2 l2 c2) (.slice a3 l3 c3) (.string ⟨⟨h4⟩⟩) (.slice a5 l5 c5) (.slice a6 l6 c6) (.int .i64 0) (.int .i64 0) (.slice none 0 0) (.bool false) (.slice none 0 0) (.slice none 0 0) := ⟨M1.i0, M1.i1, M1.b2, M1.b3, M1.s4, M1.t5, nf, M1.i7, M1.i8, M1.b9, M1.o10, M1.c11, M1.b12⟩
    have zz := OS.size
    clear M M1 T Q D OS nf
    go_upto_region 4 with fail
    generalize W11.setCell ⟨W4.heap.size, 6, none⟩ (.slice a6 l6 c6) = W12 at *
    have T := T1
    have Q := Q1
    have D := D1
    have M := M2
    clear T1 Q1 D1 M2 tc tf
    go_wp2_with fail
    refine (chance_M D.d (by omega) (by decide) (by decide)).mono ?_
    rintro e W13 ⟨b4, rfl, d', b'⟩
    have zW13 := b'.size
    replace T := T.butM b' (by omega)
    replace M := M.kp (dgK.but b' D.sB) neM
    replace Q := Q.butM b' (by omega)
    replace D := D.but b' d'
    clear b' d'
    cases b4
    case false =>
      go_wp2_with fail
      refine (next_M D.d (by omega) (by decide) (by decide)).mono ?_
      rintro e W14 ⟨r7, rfl, hr7, d', b'⟩
      have zW14 := b'.size
      replace T := T.butM b' (by omega)
      replace M := M.kp (dgK.but b' D.sB) neM
      replace Q := Q.butM b' (by omega)
      replace D := D.but b' d'
      clear b' d'
      have tc : W14.cell? ⟨W4.heap.size, 7, none⟩ = some (.int .i64 0) := T.cell 7
      have tf := T.free 7
      have OS := Only.setCell W14 W4.heap.size 7 (.int .i64 (r7 : Int))
      have M1 := M.kp (dgK.onl OS T) neM
      have T1 : RwC (W14.setCell ⟨W4.heap.size, 7, none⟩ (.int .i64 (r7 : Int))) W4.heap.size [.int .i64 1, .int .i64 1, .slice a2 l2 c2, .slice a3 l3 c3, .string ⟨⟨h4⟩⟩, .slice a5 l5 c5, .slice a6 l6 c6, .int .i64 (r7 : Int), .int .i64 0, .slice none 0 0, .bool false, .slice none 0 0, .slice none 0 0] 28 := T.set 7 _
      have Q1 := Q.onl OS (by omega)
      have D1 := D.onl OS (by omega)
      have M2 : MsO (W14.setCell ⟨W4.heap.size, 7, none⟩ (.int .i64 (r7 : Int))) B (.int .i64 1) (.int .i64 1) (.slice a2 l2 c2) (.slice a3 l3 c3) (.string ⟨⟨h4⟩⟩) (.slice a5 l5 c5) (.slice a6 l6 c6) (.int .i64 (r7 : Int)) (.int .i64 0) (.slice none 0 0) (.bool false) (.slice none 0 0) (.slice none 0 0) := ⟨M1.i0, M1.i1, M1.b2, M1.b3, M1.s4, M1.t5, M1.b6, ⟨_, rfl⟩, M1.i8, M1.b9, M1.o10, M1.c11, M1.b12⟩
      have zz := OS.size
      clear M M1 T Q D OS
      go_upto_region 7 with fail
      generalize W14.setCell ⟨W4.heap.size, 7, none⟩ (.int .i64 (r7 : Int)) = W15 at *
      have T := T1
      have Q := Q1
      have D := D1
      have M := M2
      clear T1 Q1 D1 M2 tc tf
      go_wp2_with fail
      refine (next_M D.d (by omega) (by decide) (by decide)).mono ?_
      rintro e W16 ⟨r8, rfl, hr8, d', b'⟩
      have zW16 := b'.size
      replace T := T.butM b' (by omega)
      replace M := M.kp (dgK.but b' D.sB) neM
      replace Q := Q.butM b' (by omega)
      replace D := D.but b' d'
      clear b' d'
      have tc : W16.cell? ⟨W4.heap.size, 8, none⟩ = some (.int .i64 0) := T.cell 8
      have tf := T.free 8
      have OS := Only.setCell W16 W4.heap.size 8 (.int .i64 (r8 : Int))
      have M1 := M.kp (dgK.onl OS T) neM
      have T1 : RwC (W16.setCell ⟨W4.heap.size, 8, none⟩ (.int .i64 (r8 : Int))) W4.heap.size [.int .i64 1, .int .i64 1, .slice a2 l2 c2, .slice a3 l3 c3, .string ⟨⟨h4⟩⟩, .slice a5 l5 c5, .slice a6 l6 c6, .int .i64 (r7 : Int), .int .i64 (r8 : Int), .slice none 0 0, .bool false, .slice none 0 0, .slice none 0 0] 28 := T.set 8 _
      have Q1 := Q.onl OS (by omega)
      have D1 := D.onl OS (by omega)
      have M2 : MsO (W16.setCell ⟨W4.heap.size, 8, none⟩ (.int .i64 (r8 : Int))) B (.int .i64 1) (.int .i64 1) (.slice a2 l2 c2) (.slice a3 l3 c3) (.string ⟨⟨h4⟩⟩) (.slice a5 l5 c5) (.slice a6 l6 c6) (.int .i64 (r7 : Int)) (.int .i64 (r8 : Int)) (.slice none 0 0) (.bool false) (.slice none 0 0) (.slice none 0 0) := ⟨M1.i0, M1.i1, M1.b2, M1.b3, M1.s4, M1.t5, M1.b6, M1.i7, ⟨_, rfl⟩, M1.b9, M1.o10, M1.c11, M1.b12⟩
      have zz := OS.size
      clear M M1 T Q D OS
      go_upto_region 8 with fail
      generalize W16.setCell ⟨W4.heap.size, 8, none⟩ (.int .i64 (r8 : Int)) = W17 at *
      have T := T1
      have Q := Q1
      have D := D1
      have M := M2
      clear T1 Q1 D1 M2 tc tf
      go_wp2_with fail
      refine (bytes_M D.d 32 (by omega) (by omega)).mono ?_
      rintro e W18 ⟨v', ys, rfl, yl, yb, R', d', b'⟩
      have f9 : dgB W18 B v' := dgB.row R' (by omega) yb (by omega)
      obtain ⟨a9, l9, c9, rfl⟩ := f9.form
      clear R' yl yb
      have zW18 := b'.size
      replace T := T.butM b' (by omega)
      replace M := M.kp (dgK.but b' D.sB) neM
      replace Q := Q.butM b' (by omega)
      replace D := D.but b' d'
      clear b' d'
      have tc : W18.cell? ⟨W4.heap.size, 9, none⟩ = some (.slice none 0 0) := T.cell 9
      have tf := T.free 9
      have OS := Only.setCell W18 W4.heap.size 9 (.slice a9 l9 c9)
      have M1 := M.kp (dgK.onl OS T) neM
      have nf := f9.kp (dgK.onl OS T) (by decide)
      have T1 : RwC (W18.setCell ⟨W4.heap.size, 9, none⟩ (.slice a9 l9 c9)) W4.heap.size [.int .i64 1, .int .i64 1, .slice a2 l2 c2, .slice a3 l3 c3, .string ⟨⟨h4⟩⟩, .slice a5 l5 c5, .slice a6 l6 c6, .int .i64 (r7 : Int), .int .i64 (r8 : Int), .slice a9 l9 c9, .bool false, .slice none 0 0, .slice none 0 0] 28 := T.set 9 _
      have Q1 := Q.onl OS (by omega)
      have D1 := D.onl OS (by omega)
      have M2 : MsO (W18.setCell ⟨W4.heap.size, 9, none⟩ (.slice a9 l9 c9)) B (.int .i64 1) (.int .i64 1) (.slice a2 l2 c2) (.slice a3 l3 c3) (.string ⟨⟨h4⟩⟩) (.slice a5 l5 c5) (.slice a6 l6 c6) (.int .i64 (r7 : Int)) (.int .i64 (r8 : Int)) (.slice a9 l9 c9) (.bool false) (.slice none 0 0) (.slice none 0 0) := ⟨M1.i0, M1.i1, M1.b2, M1.b3, M1.s4, M1.t5, M1.b6, M1.i7, M1.i8, nf, M1.o10, M1.c11, M1.b12⟩
      have zz := OS.size
      clear M M1 T Q D OS nf
      go_upto_region 9 with fail
      generalize W18.setCell ⟨W4.heap.size, 9, none⟩ (.slice a9 l9 c9) = W19 at *
      have T := T1
      have Q := Q1
      have D := D1
      have M := M2
      clear T1 Q1 D1 M2 tc tf
      go_wp2_with fail
      refine (chance_M D.d (by omega) (by decide) (by decide)).mono ?_
      rintro e W20 ⟨b9, rfl, d', b'⟩
      have zW20 := b'.size
      replace T := T.butM b' (by omega)
      replace M := M.kp (dgK.but b' D.sB) neM
      replace Q := Q.butM b' (by omega)
      replace D := D.but b' d'
      clear b' d'
      cases b9
      case false =>
        have RG := T.rangeG
        have THR := Q.thereG
        have ONE := M.rd.one
        have OS := only_setG W20 w.heap.size [.int .i64 1, .int .i64 1, .slice a2 l2 c2, .slice a3 l3 c3, .string ⟨⟨h4⟩⟩, .slice a5 l5 c5, .slice a6 l6 c6, .int .i64 (r7 : Int), .int .i64 (r8 : Int), .slice a9 l9 c9, .bool false, .slice none 0 0, .slice none 0 0] 0
        have RQ : RwC (W20.setCells w.heap.size 0 [.int .i64 1, .int .i64 1, .slice a2 l2 c2, .slice a3 l3 c3, .string ⟨⟨h4⟩⟩, .slice a5 l5 c5, .slice a6 l6 c6, .int .i64 (r7 : Int), .int .i64 (r8 : Int), .slice a9 l9 c9, .bool false, .slice none 0 0, .slice none 0 0]) w.heap.size [.int .i64 1, .int .i64 1, .slice a2 l2 c2, .slice a3 l3 c3, .string ⟨⟨h4⟩⟩, .slice a5 l5 c5, .slice a6 l6 c6, .int .i64 (r7 : Int), .int .i64 (r8 : Int), .slice a9 l9 c9, .bool false, .slice none 0 0, .slice none 0 0] 28 := RwC.all13 Q
        have RR := RQ.rangeG
        have MF := hide (M.kp (dgK.onl OS Q) neM)
        have DF := hide (D.onl OS (by omega))
        clear RQ OS M D Q T
        go_wp2_with (first | (refine wpList_load_mid rfl 28 (.tmp 3) rfl (W4.heap.size) 0 rfl [.int .i64 1, .int .i64 1, .slice a2 l2 c2, .slice a3 l3 c3, .string ⟨⟨h4⟩⟩, .slice a5 l5 c5, .slice a6 l6 c6, .int .i64 (r7 : Int), .int .i64 (r8 : Int), .slice a9 l9 c9, .bool false, .slice none 0 0, .slice none 0 0] dR RG hdR hrowR iM ?_) | (refine wpList_store_mid rfl 28 (.tmp 2) (.tmp 39) rfl (w.heap.size) 0 #[.int .i64 1, .int .i64 1, .slice a2 l2 c2, .slice a3 l3 c3, .string ⟨⟨h4⟩⟩, .slice a5 l5 c5, .slice a6 l6 c6, .int .i64 (r7 : Int), .int .i64 (r8 : Int), .slice a9 l9 c9, .bool false, .slice none 0 0, .slice none 0 0] rfl rfl THR iM ONE ?_) | fail)
        refine bodyPost_ret (v := .agg #[.int .i64 1, .int .i64 1, .slice a2 l2 c2, .slice a3 l3 c3, .string ⟨⟨h4⟩⟩, .slice a5 l5 c5, .slice a6 l6 c6, .int .i64 (r7 : Int), .int .i64 (r8 : Int), .slice a9 l9 c9, .bool false, .slice none 0 0, .slice none 0 0]) (results_cellG Tryz.results46 _ _ (w.heap.size) _ dR rfl RR hdR hrowR iM) rfl ?_
        exact (POST _ _ _ _ _ _ _ _ _ _ _ _ _ _ _ MF DF (by omega)).out
      case true =>
        go_wp2_with fail
        refine (next_M D.d (by omega) (by decide) (by decide)).mono ?_
        rintro e W21 ⟨r1, rfl, hr1, d', b'⟩
        have zW21 := b'.size
        replace T := T.butM b' (by omega)
        replace M := M.kp (dgK.but b' D.sB) neM
        replace Q := Q.butM b' (by omega)
        replace D := D.but b' d'
        clear b' d'
        have tc : W21.cell? ⟨W4.heap.size, 1, none⟩ = some (.int .i64 1) := T.cell 1
        have tf := T.free 1
        have OS := Only.setCell W21 W4.heap.size 1 (.int .i64 (r1 : Int))
        have M1 := M.kp (dgK.onl OS T) neM
        have T1 : RwC (W21.setCell ⟨W4.heap.size, 1, none⟩ (.int .i64 (r1 : Int))) W4.heap.size [.int .i64 1, .int .i64 (r1 : Int), .slice a2 l2 c2, .slice a3 l3 c3, .string ⟨⟨h4⟩⟩, .slice a5 l5 c5, .slice a6 l6 c6, .int .i64 (r7 : Int), .int .i64 (r8 : Int), .slice a9 l9 c9, .bool false, .slice none 0 0, .slice none 0 0] 28 := T.set 1 _
        have Q1 := Q.onl OS (by omega)
        have D1 := D.onl OS (by omega)
        have M2 : MsO (W21.setCell ⟨W4.heap.size, 1, none⟩ (.int .i64 (r1 : Int))) B (.int .i64 1) (.int .i64 (r1 : Int)) (.slice a2 l2 c2) (.slice a3 l3 c3) (.string ⟨⟨h4⟩⟩) (.slice a5 l5 c5) (.slice a6 l6 c6) (.int .i64 (r7 : Int)) (.int .i64 (r8 : Int)) (.slice a9 l9 c9) (.bool false) (.slice none 0 0) (.slice none 0 0) := ⟨M1.i0, ⟨_, rfl⟩, M1.b2, M1.b3, M1.s4, M1.t5, M1.b6, M1.i7, M1.i8, M1.b9, M1.o10, M1.c11, M1.b12⟩
        have zz := OS.size
        clear M M1 T Q D OS
        go_upto_region 11 with fail
        generalize W21.setCell ⟨W4.heap.size, 1, none⟩ (.int .i64 (r1 : Int)) = W22 at *
        have T := T1
        have Q := Q1
        have D := D1
        have M := M2
        clear T1 Q1 D1 M2 tc tf
        have RG := T.rangeG
        have THR := Q.thereG
        have ONE := M.rd.one
        have OS := only_setG W22 w.heap.size [.int .i64 1, .int .i64 (r1 : Int), .slice a2 l2 c2, .slice a3 l3 c3, .string ⟨⟨h4⟩⟩, .slice a5 l5 c5, .slice a6 l6 c6, .int .i64 (r7 : Int), .int .i64 (r8 : Int), .slice a9 l9 c9, .bool false, .slice none 0 0, .slice none 0 0] 0
        have RQ : RwC (W22.setCells w.heap.size 0 [.int .i64 1, .int .i64 (r1 : Int), .slice a2 l2 c2, .slice a3 l3 c3, .string ⟨⟨h4⟩⟩, .slice a5 l5 c5, .slice a6 l6 c6, .int .i64 (r7 : Int), .int .i64 (r8 : Int), .slice a9 l9 c9, .bool false, .slice none 0 0, .slice none 0 0]) w.heap.size [.int .i64 1, .int .i64 (r1 : Int), .slice a2 l2 c2, .slice a3 l3 c3, .string ⟨⟨h4⟩⟩, .slice a5 l5 c5, .slice a6 l6 c6, .int .i64 (r7 : Int), .int .i64 (r8 : Int), .slice a9 l9 c9, .bool false, .slice none 0 0, .slice none 0 0] 28 := RwC.all13 Q
        have RR := RQ.rangeG
        have MF := hide (M.kp (dgK.onl OS Q) neM)
        have DF := hide (D.onl OS (by omega))
        clear RQ OS M D Q T
        go_wp2_with (first | (refine wpList_load_mid rfl 28 (.tmp 3) rfl (W4.heap.size) 0 rfl [.int .i64 1, .int .i64 (r1 : Int), .slice a2 l2 c2, .slice a3 l3 c3, .string ⟨⟨h4⟩⟩, .slice a5 l5 c5, .slice a6 l6 c6, .int .i64 (r7 : Int), .int .i64 (r8 : Int), .slice a9 l9 c9, .bool false, .slice none 0 0, .slice none 0 0] dR RG hdR hrowR iM ?_) | (refine wpList_store_mid rfl 28 (.tmp 2) (.tmp 39) rfl (w.heap.size) 0 #[.int .i64 1, .int .i64 (r1 : Int), .slice a2 l2 c2, .slice a3 l3 c3, .string ⟨⟨h4⟩⟩, .slice a5 l5 c5, .slice a6 l6 c6, .int .i64 (r7 : Int), .int .i64 (r8 : Int), .slice a9 l9 c9, .bool false, .slice none 0 0, .slice none 0 0] rfl rfl THR iM ONE ?_) | fail)
        refine bodyPost_ret (v := .agg #[.int .i64 1, .int .i64 (r1 : Int), .slice a2 l2 c2, .slice a3 l3 c3, .string ⟨⟨h4⟩⟩, .slice a5 l5 c5, .slice a6 l6 c6, .int .i64 (r7 : Int), .int .i64 (r8 : Int), .slice a9 l9 c9, .bool false, .slice none 0 0, .slice none 0 0]) (results_cellG Tryz.results46 _ _ (w.heap.size) _ dR rfl RR hdR hrowR iM) rfl ?_
        exact (POST _ _ _ _ _ _ _ _ _ _ _ _ _ _ _ MF DF (by omega)).out
    case true =>
      go_wp2_with (at_make; refine wpList_make_full _ rfl _ _ 22 rfl W13.heap.size 5 i0 (.int .u8 0) 1 Tryz.underlying22 hi hz0 hz1 .i64 .i64 _ _ 400 rfl rfl rfl rfl (by rw [hz2]; omega) (by unfold maxLen; omega) (Nat.le_refl _) ?_; intro W23 hown hgrow; have fx6 : dgB W23 B _ := make_dgB (by omega) hown (by omega); have n' : Below W13.heap.size W13 W23 := (Below.refl _ _).grown hgrow (Nat.le_refl _) (by simp); have zW23 := n'.size; replace Q := Q.up n'; replace T := T.up n'; replace D := D.up n'; replace M := M.kp (dgK.up n') neM; clear hown hgrow n'; have tc : W23.cell? ⟨W4.heap.size, 6, none⟩ = some (.slice a6 l6 c6) := T.cell 6; have tf := T.free 6; have OS := Only.setCell W23 W4.heap.size 6 (.slice (some ⟨W13.heap.size, 0, none⟩) 400 400); have M1 := M.kp (dgK.onl OS T) neM; have nf := fx6.kp (dgK.onl OS T) (by decide); have T1 : RwC (W23.setCell ⟨W4.heap.size, 6, none⟩ (.slice (some ⟨W13.heap.size, 0, none⟩) 400 400)) W4.heap.size [.int .i64 1, .int .i64 1, .slice a2 l2 c2, .slice a3 l3 c3, .string ⟨⟨h4⟩⟩, .slice a5 l5 c5, .slice (some ⟨W13.heap.size, 0, none⟩) 400 400, .int .i64 0, .int .i64 0, .slice none 0 0, .bool false, .slice none 0 0, .slice none 0 0] 28 := T.set 6 _; have Q1 := Q.onl OS (by omega); have D1 := D.onl OS (by omega); have M2 : MsO (W23.setCell ⟨W4.heap.size, 6, none⟩ (.slice (some ⟨W13.heap.size, 0, none⟩) 400 400)) B (.int .i64 1) (.int .i64 1) (.slice a2 l2 c2) (.slice a3 l3 c3) (.string ⟨⟨h4⟩⟩) (.slice a5 l5 c5) (.slice (some ⟨W13.heap.size, 0, none⟩) 400 400) (.int .i64 0) (.int .i64 0) (.slice none 0 0) (.bool false) (.slice none 0 0) (.slice none 0 0) := ⟨M1.i0, M1.i1, M1.b2, M1.b3, M1.s4, M1.t5, nf, M1.i7, M1.i8, M1.b9, M1.o10, M1.c11, M1.b12⟩; have zz := OS.size; clear M M1 T Q D OS nf)
      generalize W23.setCell ⟨W4.heap.size, 6, none⟩ (.slice (some ⟨W13.heap.size, 0, none⟩) 400 400) = W24 at *
      have T := T1
      have Q := Q1
      have D := D1
      have M := M2
      clear T1 Q1 D1 M2 tc tf
      refine (next_M D.d (by omega) (by decide) (by decide)).mono ?_
      rintro e W25 ⟨r7, rfl, hr7, d', b'⟩
      have zW25 := b'.size
      replace T := T.butM b' (by omega)
      replace M := M.kp (dgK.but b' D.sB) neM
      replace Q := Q.butM b' (by omega)
      replace D := D.but b' d'
      clear b' d'
      have tc : W25.cell? ⟨W4.heap.size, 7, none⟩ = some (.int .i64 0) := T.cell 7
      have tf := T.free 7
      have OS := Only.setCell W25 W4.heap.size 7 (.int .i64 (r7 : Int))
      have M1 := M.kp (dgK.onl OS T) neM
      have T1 : RwC (W25.setCell ⟨W4.heap.size, 7, none⟩ (.int .i64 (r7 : Int))) W4.heap.size [.int .i64 1, .int .i64 1, .slice a2 l2 c2, .slice a3 l3 c3, .string ⟨⟨h4⟩⟩, .slice a5 l5 c5, .slice (some ⟨W13.heap.size, 0, none⟩) 400 400, .int .i64 (r7 : Int), .int .i64 0, .slice none 0 0, .bool false, .slice none 0 0, .slice none 0 0] 28 := T.set 7 _
      have Q1 := Q.onl OS (by omega)
      have D1 := D.onl OS (by omega)
      have M2 : MsO (W25.setCell ⟨W4.heap.size, 7, none⟩ (.int .i64 (r7 : Int))) B (.int .i64 1) (.int .i64 1) (.slice a2 l2 c2) (.slice a3 l3 c3) (.string ⟨⟨h4⟩⟩) (.slice a5 l5 c5) (.slice (some ⟨W13.heap.size, 0, none⟩) 400 400) (.int .i64 (r7 : Int)) (.int .i64 0) (.slice none 0 0) (.bool false) (.slice none 0 0) (.slice none 0 0) := ⟨M1.i0, M1.i1, M1.b2, M1.b3, M1.s4, M1.t5, M1.b6, ⟨_, rfl⟩, M1.i8, M1.b9, M1.o10, M1.c11, M1.b12⟩
      have zz := OS.size
      clear M M1 T Q D OS
      go_upto_region 7 with fail
      generalize W25.setCell ⟨W4.heap.size, 7, none⟩ (.int .i64 (r7 : Int)) = W26 at *
      have T := T1
      have Q := Q1
      have D := D1
      have M := M2
      clear T1 Q1 D1 M2 tc tf
      go_wp2_with fail
      refine (next_M D.d (by omega) (by decide) (by decide)).mono ?_
      rintro e W27 ⟨r8, rfl, hr8, d', b'⟩
      have zW27 := b'.size
      replace T := T.butM b' (by omega)
      replace M := M.kp (dgK.but b' D.sB) neM
      replace Q := Q.butM b' (by omega)
      replace D := D.but b' d'
      clear b' d'
      have tc : W27.cell? ⟨W4.heap.size, 8, none⟩ = some (.int .i64 0) := T.cell 8
      have tf := T.free 8
      have OS := Only.setCell W27 W4.heap.size 8 (.int .i64 (r8 : Int))
      have M1 := M.kp (dgK.onl OS T) neM
      have T1 : RwC (W27.setCell ⟨W4.heap.size, 8, none⟩ (.int .i64 (r8 : Int))) W4.heap.size [.int .i64 1, .int .i64 1, .slice a2 l2 c2, .slice a3 l3 c3, .string ⟨⟨h4⟩⟩, .slice a5 l5 c5, .slice (some ⟨W13.heap.size, 0, none⟩) 400 400, .int .i64 (r7 : Int), .int .i64 (r8 : Int), .slice none 0 0, .bool false, .slice none 0 0, .slice none 0 0] 28 := T.set 8 _
      have Q1 := Q.onl OS (by omega)
      have D1 := D.onl OS (by omega)
      have M2 : MsO (W27.setCell ⟨W4.heap.size, 8, none⟩ (.int .i64 (r8 : Int))) B (.int .i64 1) (.int .i64 1) (.slice a2 l2 c2) (.slice a3 l3 c3) (.string ⟨⟨h4⟩⟩) (.slice a5 l5 c5) (.slice (some ⟨W13.heap.size, 0, none⟩) 400 400) (.int .i64 (r7 : Int)) (.int .i64 (r8 : Int)) (.slice none 0 0) (.bool false) (.slice none 0 0) (.slice none 0 0) := ⟨M1.i0, M1.i1, M1.b2, M1.b3, M1.s4, M1.t5, M1.b6, M1.i7, ⟨_, rfl⟩, M1.b9, M1.o10, M1.c11, M1.b12⟩
      have zz := OS.size
      clear M M1 T Q D OS
      go_upto_region 8 with fail
      generalize W27.setCell ⟨W4.heap.size, 8, none⟩ (.int .i64 (r8 : Int)) = W28 at *
      have T := T1
      have Q := Q1
      have D := D1
      have M := M2
      clear T1 Q1 D1 M2 tc tf
      go_wp2_with fail
      refine (bytes_M D.d 32 (by omega) (by omega)).mono ?_
      rintro e W29 ⟨v', ys, rfl, yl, yb, R', d', b'⟩
      have f9 : dgB W29 B v' := dgB.row R' (by omega) yb (by omega)
      obtain ⟨a9, l9, c9, rfl⟩ := f9.form
      clear R' yl yb
      have zW29 := b'.size
      replace T := T.butM b' (by omega)
      replace M := M.kp (dgK.but b' D.sB) neM
      replace Q := Q.butM b' (by omega)
      replace D := D.but b' d'
      clear b' d'
      have tc : W29.cell? ⟨W4.heap.size, 9, none⟩ = some (.slice none 0 0) := T.cell 9
      have tf := T.free 9
      have OS := Only.setCell W29 W4.heap.size 9 (.slice a9 l9 c9)
      have M1 := M.kp (dgK.onl OS T) neM
      have nf := f9.kp (dgK.onl OS T) (by decide)
      have T1 : RwC (W29.setCell ⟨W4.heap.size, 9, none⟩ (.slice a9 l9 c9)) W4.heap.size [.int .i64 1, .int .i64 1, .slice a2 l2 c2, .slice a3 l3 c3, .string ⟨⟨h4⟩⟩, .slice a5 l5 c5, .slice (some ⟨W13.heap.size, 0, none⟩) 400 400, .int .i64 (r7 : Int), .int .i64 (r8 : Int), .slice a9 l9 c9, .bool false, .slice none 0 0, .slice none 0 0] 28 := T.set 9 _
      have Q1 := Q.onl OS (by omega)
      have D1 := D.onl OS (by omega)
      have M2 : MsO (W29.setCell ⟨W4.heap.size, 9, none⟩ (.slice a9 l9 c9)) B (.int .i64 1) (.int .i64 1) (.slice a2 l2 c2) (.slice a3 l3 c3) (.string ⟨⟨h4⟩⟩) (.slice a5 l5 c5) (.slice (some ⟨W13.heap.size, 0, none⟩) 400 400) (.int .i64 (r7 : Int)) (.int .i64 (r8 : Int)) (.slice a9 l9 c9) (.bool false) (.slice none 0 0) (.slice none 0 0) := ⟨M1.i0, M1.i1, M1.b2, M1.b3, M1.s4, M1.t5, M1.b6, M1.i7, M1.i8, nf, M1.o10, M1.c11, M1.b12⟩
      have zz := OS.size
      clear M M1 T Q D OS nf
      go_upto_region 9 with fail
      generalize W29.setCell ⟨W4.heap.size, 9, none⟩ (.slice a9 l9 c9) = W30 at *
      have T := T1
      have Q := Q1
      have D := D1
      have M := M2
      clear T1 Q1 D1 M2 tc tf
      go_wp2_with fail
      refine (chance_M D.d (by omega) (by decide) (by decide)).mono ?_
      rintro e W31 ⟨b9, rfl, d', b'⟩
      have zW31 := b'.size
      replace T := T.butM b' (by omega)
      replace M := M.kp (dgK.but b' D.sB) neM
      replace Q := Q.butM b' (by omega)
      replace D := D.but b' d'
      clear b' d'
      cases b9
      case false =>
        have RG := T.rangeG
        have THR := Q.thereG
        have ONE := M.rd.one
        have OS := only_setG W31 w.heap.size [.int .i64 1, .int .i64 1, .slice a2 l2 c2, .slice a3 l3 c3, .string ⟨⟨h4⟩⟩, .slice a5 l5 c5, .slice (some ⟨W13.heap.size, 0, none⟩) 400 400, .int .i64 (r7 : Int), .int .i64 (r8 : Int), .slice a9 l9 c9, .bool false, .slice none 0 0, .slice none 0 0] 0
        have RQ : RwC (W31.setCells w.heap.size 0 [.int .i64 1, .int .i64 1, .slice a2 l2 c2, .slice a3 l3 c3, .string ⟨⟨h4⟩⟩, .slice a5 l5 c5, .slice (some ⟨W13.heap.size, 0, none⟩) 400 400, .int .i64 (r7 : Int), .int .i64 (r8 : Int), .slice a9 l9 c9, .bool false, .slice none 0 0, .slice none 0 0]) w.heap.size [.int .i64 1, .int .i64 1, .slice a2 l2 c2, .slice a3 l3 c3, .string ⟨⟨h4⟩⟩, .slice a5 l5 c5, .slice (some ⟨W13.heap.size, 0, none⟩) 400 400, .int .i64 (r7 : Int), .int .i64 (r8 : Int), .slice a9 l9 c9, .bool false, .slice none 0 0, .slice none 0 0] 28 := RwC.all13 Q
        have RR := RQ.rangeG
        have MF := hide (M.kp (dgK.onl OS Q) neM)
        have DF := hide (D.onl OS (by omega))
        clear RQ OS M D Q T
        go_wp2_with (first | (refine wpList_load_mid rfl 28 (.tmp 3) rfl (W4.heap.size) 0 rfl [.int .i64 1, .int .i64 1, .slice a2 l2 c2, .slice a3 l3 c3, .string ⟨⟨h4⟩⟩, .slice a5 l5 c5, .slice (some ⟨W13.heap.size, 0, none⟩) 400 400, .int .i64 (r7 : Int), .int .i64 (r8 : Int), .slice a9 l9 c9, .bool false, .slice none 0 0, .slice none 0 0] dR RG hdR hrowR iM ?_) | (refine wpList_store_mid rfl 28 (.tmp 2) (.tmp 39) rfl (w.heap.size) 0 #[.int .i64 1, .int .i64 1, .slice a2 l2 c2, .slice a3 l3 c3, .string ⟨⟨h4⟩⟩, .slice a5 l5 c5, .slice (some ⟨W13.heap.size, 0, none⟩) 400 400, .int .i64 (r7 : Int), .int .i64 (r8 : Int), .slice a9 l9 c9, .bool false, .slice none 0 0, .slice none 0 0] rfl rfl THR iM ONE ?_) | fail)
        refine bodyPost_ret (v := .agg #[.int .i64 1, .int .i64 1, .slice a2 l2 c2, .slice a3 l3 c3, .string ⟨⟨h4⟩⟩, .slice a5 l5 c5, .slice (some ⟨W13.heap.size, 0, none⟩) 400 400, .int .i64 (r7 : Int), .int .i64 (r8 : Int), .slice a9 l9 c9, .bool false, .slice none 0 0, .slice none 0 0]) (results_cellG Tryz.results46 _ _ (w.heap.size) _ dR rfl RR hdR hrowR iM) rfl ?_
        exact (POST _ _ _ _ _ _ _ _ _ _ _ _ _ _ _ MF DF (by omega)).out
      case true =>
        go_wp2_with fail
        refine (next_M D.d (by omega) (by decide) (by decide)).mono ?_
        rintro e W32 ⟨r1, rfl, hr1, d', b'⟩
        have zW32 := b'.size
        replace T := T.butM b' (by omega)
        replace M := M.kp (dgK.but b' D.sB) neM
        replace Q := Q.butM b' (by omega)
        replace D := D.but b' d'
        clear b' d'
        have tc : W32.cell? ⟨W4.heap.size, 1, none⟩ = some (.int .i64 1) := T.cell 1
        have tf := T.free 1
        have OS := Only.setCell W32 W4.heap.size 1 (.int .i64 (r1 : Int))
        have M1 := M.kp (dgK.onl OS T) neM
        have T1 : RwC (W32.setCell ⟨W4.heap.size, 1, none⟩ (.int .i64 (r1 : Int))) W4.heap.size [.int .i64 1, .int .i64 (r1 : Int), .slice a2 l2 c2, .slice a3 l3 c3, .string ⟨⟨h4⟩⟩, .slice a5 l5 c5, .slice (some ⟨W13.heap.size, 0, none⟩) 400 400, .int .i64 (r7 : Int), .int .i64 (r8 : Int), .slice a9 l9 c9, .bool false, .slice none 0 0, .slice none 0 0] 28 := T.set 1 _
        have Q1 := Q.onl OS (by omega)
        have D1 := D.onl OS (by omega)
        have M2 : MsO (W32.setCell ⟨W4.heap.size, 1, none⟩ (.int .i64 (r1 : Int))) B (.int .i64 1) (.int .i64 (r1 : Int)) (.slice a2 l2 c2) (.slice a3 l3 c3) (.string ⟨⟨h4⟩⟩) (.slice a5 l5 c5) (.slice (some ⟨W13.heap.size, 0, none⟩) 400 400) (.int .i64 (r7 : Int)) (.int .i64 (r8 : Int)) (.slice a9 l9 c9) (.bool false) (.slice none 0 0) (.slice none 0 0) := ⟨M1.i0, ⟨_, rfl⟩, M1.b2, M1.b3, M1.s4, M1.t5, M1.b6, M1.i7, M1.i8, M1.b9, M1.o10, M1.c11, M1.b12⟩
        have zz := OS.size
        clear M M1 T Q D OS
        go_upto_region 11 with fail
        generalize W32.setCell ⟨W4.heap.size, 1, none⟩ (.int .i64 (r1 : Int)) = W33 at *
        have T := T1
        have Q := Q1
        have D := D1
        have M := M2
        clear T1 Q1 D1 M2 tc tf
        have RG := T.rangeG
        have THR := Q.thereG
        have ONE := M.rd.one
        have OS := only_setG W33 w.heap.size [.int .i64 1, .int .i64 (r1 : Int), .slice a2 l2 c2, .slice a3 l3 c3, .string ⟨⟨h4⟩⟩, .slice a5 l5 c5, .slice (some ⟨W13.heap.size, 0, none⟩) 400 400, .int .i64 (r7 : Int), .int .i64 (r8 : Int), .slice a9 l9 c9, .bool false, .slice none 0 0, .slice none 0 0] 0
        have RQ : RwC (W33.setCells w.heap.size 0 [.int .i64 1, .int .i64 (r1 : Int), .slice a2 l2 c2, .slice a3 l3 c3, .string ⟨⟨h4⟩⟩, .slice a5 l5 c5, .slice (some ⟨W13.heap.size, 0, none⟩) 400 400, .int .i64 (r7 : Int), .int .i64 (r8 : Int), .slice a9 l9 c9, .bool false, .slice none 0 0, .slice none 0 0]) w.heap.size [.int .i64 1, .int .i64 (r1 : Int), .slice a2 l2 c2, .slice a3 l3 c3, .string ⟨⟨h4⟩⟩, .slice a5 l5 c5, .slice (some ⟨W13.heap.size, 0, none⟩) 400 400, .int .i64 (r7 : Int), .int .i64 (r8 : Int), .slice a9 l9 c9, .bool false, .slice none 0 0, .slice none 0 0] 28 := RwC.all13 Q
        have RR := RQ.rangeG
        have MF := hide (M.kp (dgK.onl OS Q) neM)
        have DF := hide (D.onl OS (by omega))
        clear RQ OS M D Q T
        go_wp2_with (first | (refine wpList_load_mid rfl 28 (.tmp 3) rfl (W4.heap.size) 0 rfl [.int .i64 1, .int .i64 (r1 : Int), .slice a2 l2 c2, .slice a3 l3 c3, .string ⟨⟨h4⟩⟩, .slice a5 l5 c5, .slice (some ⟨W13.heap.size, 0, none⟩) 400 400, .int .i64 (r7 : Int), .int .i64 (r8 : Int), .slice a9 l9 c9, .bool false, .slice none 0 0, .slice none 0 0] dR RG hdR hrowR iM ?_) | (refine wpList_store_mid rfl 28 (.tmp 2) (.tmp 39) rfl (w.heap.size) 0 #[.int .i64 1, .int .i64 (r1 : Int), .slice a2 l2 c2, .slice a3 l3 c3, .string ⟨⟨h4⟩⟩, .slice a5 l5 c5, .slice (some ⟨W13.heap.size, 0, none⟩) 400 400, .int .i64 (r7 : Int), .int .i64 (r8 : Int), .slice a9 l9 c9, .bool false, .slice none 0 0, .slice none 0 0] rfl rfl THR iM ONE ?_) | fail)
        refine bodyPost_ret (v := .agg #[.int .i64 1, .int .i64 (r1 : Int), .slice a2 l2 c2, .slice a3 l3 c3, .string ⟨⟨h4⟩⟩, .slice a5 l5 c5, .slice (some ⟨W13.heap.size, 0, none⟩) 400 400, .int .i64 (r7 : Int), .int .i64 (r8 : Int), .slice a9 l9 c9, .bool false, .slice none 0 0, .slice none 0 0]) (results_cellG Tryz.results46 _ _ (w.heap.size) _ dR rfl RR hdR hrowR iM) rfl ?_
        exact (POST _ _ _ _ _ _ _ _ _ _ _ _ _ _ _ MF DF (by omega)).out
end Go.Proofs.YtcaljanahpdidaaGreat
namespace Go.Proofs.YtcaljanahpdidaaGreat
open Go Go.RowKit
end Go.Proofs.YtcaljanahpdidaaGreat
namespace Go.Proofs.YtcaljanahpdidaaGreat
open Go Go.RowKit
end Go.Proofs.YtcaljanahpdidaaGreat
namespace Go.Proofs.YtcaljanahpdidaaGreat
open Go Go.RowKit
theorem boxed (w : World) (cs : List Value) (t : TypeId) : Below w.heap.size w ((w.alloc (.cells cs.toArray t)).alloc (.cells #[] 5)) ∧ RwC ((w.alloc (.cells cs.toArray t)).alloc (.cells #[] 5)) w.heap.size cs t ∧ RowB ((w.alloc (.cells cs.toArray t)).alloc (.cells #[] 5)) (w.heap.size + 1) (.slice (some ⟨w.heap.size + 1, 0, none⟩) 0 0) [] := by
  have n0 : Below w.heap.size w (w.alloc (.cells cs.toArray t)) := (Below.refl _ _).alloc (Nat.le_refl _) _
  have n1 : Below (w.alloc (.cells cs.toArray t)).heap.size (w.alloc (.cells cs.toArray t)) ((w.alloc (.cells cs.toArray t)).alloc (.cells #[] 5)) := (Below.refl _ _).alloc (Nat.le_refl _) _
  have z : (w.alloc (.cells cs.toArray t)).heap.size = w.heap.size + 1 := by simp
  refine ⟨nxt n0 n1, (RwC.new w cs t).up n1, ?_⟩
  have := RowB.lit0 (w.alloc (.cells cs.toArray t))
  rw [z] at this
  exact this
end Go.Proofs.YtcaljanahpdidaaGreat
namespace Go.Proofs.YtcaljanahpdidaaGreat
open Go Go.RowKit
theorem step_append_exM {P : Program} {ops : Array Oper} {o : Oper} {a : Act} {w : World} {K : Act → World → Prop} {Q : Exit → Act → World → Prop} {E : Prop} (hg : o.guard = none) (s x : Operand) (t tn : TypeId)
    (ho : o.op = .call { callee := .builtin .append, args := #[s, x], argTypes := #[t, tn] }) (vs vx : Value) (hs : a.eval s = vs) (hx : a.eval x = vx) (R : Value → World → Prop)
    (H : ∃ v' w', (Builtin.append_ #[t, tn] o.type #[vs, vx]).run P w = .ok v' w' ∧ R v' w') (hK : ∀ v' w', R v' w' → K (a.put o.dst v') w') :
    if Region.wanted o (yielded ops a.tmps) = true then Oper.wp P o a w K Q else E := by
  have hw : Region.wanted o (yielded ops a.tmps) = true := by simp [Region.wanted, hg]
  rw [if_pos hw]
  obtain ⟨v', w', hr, hR⟩ := H
  exact Lib.wp_append_run w s x t tn ho vs vx hs hx v' w' hr (hK v' w' hR)
structure Gr (w : World) (cs : List Value) (W : World) (v : Value) (xs : List Int) : Prop where
  n : Below w.heap.size w W
  c : RwC W w.heap.size cs 28
  r : RowB W (w.heap.size + 1) v xs
theorem Gr.up {w W W' : World} {cs : List Value} {v : Value} {xs : List Int} (h : Gr w cs W v xs) (m : Below W.heap.size W W') : Gr w cs W' v xs := ⟨nxt h.n m, h.c.up m, h.r.up m⟩
theorem Gr.app {w W : World} {cs : List Value} {v : Value} {xs : List Int} (h : Gr w cs W v xs) (g : Nat) (a : Option Addr) (c : Nat) (us : List Int) (hr : Rd W g a .u8 us) (hc : a = none → c = 0) (hl : xs.length + us.length ≤ 1099511627776) :
    ∃ v' w', (Builtin.append_ #[22, 22] 22 #[v, .slice a us.length c]).run Tryz.prog W = .ok v' w' ∧ (Gr w cs w' v' (xs ++ us) ∧ Below (w.heap.size + 1) W w') := by
  obtain ⟨i0, hi, hz0, hz1, hz2⟩ := info_parts Tryz.info5
  have l := h.c.lt
  obtain ⟨v', w', h1, h2, h3⟩ := append_any (P := Tryz.prog) W 22 i0 Tryz.underlying22 hi hz0 hz1 hz2 (w.heap.size + 1) (w.heap.size + 1) v xs h.r g a c us hr hc hl (Nat.le_refl _) (by omega)
  exact ⟨v', w', h1, ⟨h.n.trans (h3.mono (by omega)), (h3.block w.heap.size (by omega)).trans h.c, h2⟩, h3⟩
theorem Gr.start (w : World) (cs : List Value) : Gr w cs ((w.alloc (.cells cs.toArray 28)).alloc (.cells #[] 5)) (.slice (some ⟨w.heap.size + 1, 0, none⟩) 0 0) [] := by
  obtain ⟨n, c, r⟩ := boxed w cs 28
  exact ⟨n, c, r⟩
theorem Gr.body {w W : World} {cs : List Value} {v : Value} {xs : List Int} (h : Gr w cs W v xs) : BodP w xs (.returned v) W := ⟨⟨v, rfl, h.r.base (by omega)⟩, h.n⟩
theorem Gr.one {w W : World} {cs : List Value} {v : Value} {xs : List Int} (h : Gr w cs W v xs) (x : Int) (hl : xs.length ≤ 1099511627775) :
    ∃ v' w', (Builtin.append_ #[22, 22] 22 #[v, .slice (some ⟨W.heap.size, 0, none⟩) 1 1]).run Tryz.prog (W.alloc (.cells #[.int .u8 x] 5)) = .ok v' w' ∧ Gr w cs w' v' (xs ++ [x]) := by
  have na : Below W.heap.size W (W.alloc (.cells #[.int .u8 x] 5)) := (Below.refl _ _).alloc (Nat.le_refl _) _
  obtain ⟨v', w', h1, h2, -⟩ := (h.up na).app W.heap.size (some ⟨W.heap.size, 0, none⟩) 1 [x] (blk_lit1 W .u8 5 x).own0.rd (fun h => nomatch h) (by simp; omega)
  exact ⟨v', w', h1, h2⟩
end Go.Proofs.YtcaljanahpdidaaGreat
namespace Go.Proofs.YtcaljanahpdidaaGreat
open Go Go.RowKit
theorem RwC.kpM {W W' : World} {p B : Nat} {zs : List Value} {t X : TypeId} (h : RwC W p zs t) (k : dgK B X W W') (hB : B ≤ p) (ht : t ≠ X) : RwC W' p zs t := (k p _ _ _ hB h ht).trans h
theorem Dq.app {w W W' : World} {s g : Nat} {a : Option Addr} {c : Nat} {xs : List Int} {B : Nat} {t : Int} {e : TypeId} (h : Dq w W s g a c xs B t) (n : Below B W W') (k : dgK B e W W') (he : e = 9 ∨ e = 46) : Dq w W' s g a c xs B t := by
  refine ⟨h.d.keep (n.block s h.sB) (fun h0 => n.block g (h.gB h0)), h.sB, h.gB, h.wB, n.os.trans h.os, n.tape.trans h.tape, n.output.trans h.output, Nat.le_trans h.size n.size, fun k hk hn => (n.block k hk).trans (h.low k hk hn), fun j cs t mk hj hn ej h1 h2 => ?_⟩
  have e1 := h.typ j cs t mk hj hn ej h1 h2
  by_cases hB : j < B
  · exact (n.block j hB).trans e1
  · exact (k j cs t mk (by omega) (e1.trans ej) (by rcases he with rfl | rfl; exact h1; exact h2)).trans e1
set_option maxRecDepth 100000 in
theorem append_txs (w : World) (ty : TypeId) (base : Nat) (v : Value) (ls ms : List (List UInt8)) (hown : RowT w base v ls) (hl : ls.length ≤ 1000) (hm : ms.length ≤ 100) (hbase : base ≤ w.heap.size) :
    ∃ v' w', (Builtin.append_ #[25, 25] ty #[v, .slice (some ⟨w.heap.size, 0, none⟩) ms.length ms.length]).run Tryz.prog (w.alloc (.cells (ms.map tx).toArray 9)) = .ok v' w' ∧ RowT w' base v' (ls ++ ms) ∧ Below base w w' ∧ dgK base 9 w w' := by
  obtain ⟨i, hi, hz, hs, hb⟩ := info_parts infoTx
  have h0 : RowT (w.alloc (.cells (ms.map tx).toArray 9)) base v ls := World.ownsRow.alloc hown _
  have m1 : Below base w (w.alloc (.cells (ms.map tx).toArray 9)) := (Below.refl _ _).alloc hbase _
  have m2 : Below w.heap.size w (w.alloc (.cells (ms.map tx).toArray 9)) := (Below.refl _ _).alloc (Nat.le_refl _) _
  have hc : ∀ j u, (ms.map tx)[j]? = some u → (w.alloc (.cells (ms.map tx).toArray 9)).cell? ((⟨w.heap.size, 0, none⟩ : Addr).add j) = some u := by
    intro j u hj
    have e : (w.alloc (.cells (ms.map tx).toArray 9)).heap[w.heap.size]? = some (.cells (ms.map tx).toArray 9) := heap_alloc_new w _
    rw [Addr.add_mid, Nat.zero_add, cell_of_row _ _ j _ _ (0, 0) e]
    simpa using hj
  obtain ⟨v', w', h1, h2, h3, _⟩ := run_append_own (P := Tryz.prog) (w.alloc (.cells (ms.map tx).toArray 9)) base 25 ty 9 i (.string ⟨#[]⟩) 1 16 undTx hi hz hs hb rfl (by decide) v ls.length (ls.map tx) h0 ⟨w.heap.size, 0, none⟩ ms.length ms.length (ms.map tx) (by simp) hc (tx_one ms) (by unfold maxLen; omega) (by omega) (by simp; omega)
  refine ⟨v', w', h1, ?_, m1.grown h3 (by simp; omega) (fun k hk => by have := (World.ownsRow.lt h0 k hk).1; omega), (dgK.up m2).trans (dgK.grown h0 h3)⟩
  show w'.ownsRow base 9 1 v' (ls ++ ms).length ((ls ++ ms).map tx)
  rw [List.length_append, List.map_append]
  exact h2
set_option maxRecDepth 100000 in
theorem dgE.app {W0 W : World} {B : Nat} {v vx : Value} {X : List Int} {n : Nat} (h : dgE W0 B v n) (k : dgK B 28 W0 W) (sz : W0.heap.size ≤ W.heap.size) (R : RowB W W0.heap.size vx X) (l : X.length ≤ 10000) (b : Byt X) (hB : B ≤ W0.heap.size) (hn : n ≤ 1000) :
    ∃ v' w', (Builtin.append_ #[26, 26] 26 #[v, .slice (some ⟨W.heap.size, 0, none⟩) 1 1]).run Tryz.prog (W.alloc (.cells #[vx] 46)) = .ok v' w' ∧ dgE w' B v' (n + 1) ∧ (∃ a l c, v' = .slice a l c) ∧ Below B W w' ∧ dgK B 46 W w' := by
  obtain ⟨its, bs, R0, l0, b0⟩ := h
  have same : ∀ i, i < its.length → 0 < (its.getD i []).length → W.heap[(bs.getD i plc0).q]? = W0.heap[(bs.getD i plc0).q]? := fun i hi h0 => by
    obtain ⟨cs, mk, e⟩ := (b0 i hi).2.2 h0
    exact k _ cs _ mk (R0.h i hi h0).1 e (by decide)
  have R1 : BRow W B v its bs := ⟨own_dg R0.o (by decide) k, R0.l, fun i hi => (R0.b i hi).of (same i hi), R0.h, R0.d⟩
  obtain ⟨ax, cx, gx, rfl, ox, zx, kx, hx⟩ := R.own
  have ob := R0.o.lt
  obtain ⟨v', w', h1, R2, kp, nB, -⟩ := R1.app X ⟨ax, cx, gx⟩ (by omega) ⟨ox, zx, kx⟩ W0.heap.size hB (fun i hi h0 => R0.lt hi h0) (fun j hj => (ob j hj).2) hx (by omega)
  have ne : ∀ g, W0.heap.size ≤ g → v.ownBlock ≠ some g := fun g hg e => by have := (ob g e).2; omega
  have A1 : ∀ j, j < its.length → (bs ++ [(⟨ax, cx, gx⟩ : Plc)]).getD j plc0 = bs.getD j plc0 := fun j hj => by
    have : j < bs.length := by rw [R0.l]; exact hj
    simp [List.getD, List.getElem?_append_left this]
  have A2 : ∀ j, j < its.length → (its ++ [X]).getD j [] = its.getD j [] := fun j hj => by simp [List.getD, List.getElem?_append_left hj]
  have A3 : (bs ++ [(⟨ax, cx, gx⟩ : Plc)]).getD its.length plc0 = ⟨ax, cx, gx⟩ := by rw [← R0.l]; simp
  have A4 : (its ++ [X]).getD its.length [] = X := by simp
  refine ⟨v', w', h1, ⟨its ++ [X], bs ++ [(⟨ax, cx, gx⟩ : Plc)], R2, by simp; omega, fun j hj => ?_⟩, ?_, nB, fun g cs t mk hg hc ht => kp g (heap_lt hc) (fun e => ?_)⟩
  · by_cases hj' : j < its.length
    · rw [A1 j hj', A2 j hj']
      refine ⟨(b0 j hj').1, (b0 j hj').2.1, fun h0 => ?_⟩
      obtain ⟨cs, mk, e⟩ := (b0 j hj').2.2 h0
      exact ⟨cs, mk, (kp _ (R1.lt hj' h0) (R1.h j hj' h0).2).trans ((same j hj' h0).trans e)⟩
    · have ej : j = its.length := by simp at hj; omega
      subst ej
      rw [A3, A4]
      refine ⟨b, l, fun h0 => ?_⟩
      rcases R.2 with ⟨_, e⟩ | ⟨g, cap, cur, e, hb, hg, _⟩
      · omega
      · obtain ⟨off, ha, hc⟩ := ox h0
        simp only [Value.slice.injEq] at e
        obtain ⟨e1, _⟩ := e
        rw [ha] at e1
        simp only [Option.some.injEq, Addr.mk.injEq, and_true] at e1
        obtain ⟨rfl, _⟩ := e1
        exact ⟨cur, _, (kp gx (heap_lt hg) (ne gx hb)).trans hg⟩
  · rcases R2.o.2 with ⟨rfl, _⟩ | ⟨g, cap, cur, rfl, _⟩
    · exact ⟨_, _, _, rfl⟩
    · exact ⟨_, _, _, rfl⟩
  · rcases R1.o.2 with ⟨rfl, _⟩ | ⟨q, cap, cur, rfl, hb, hq, _⟩
    · simp [Value.ownBlock] at e
    · simp only [Value.ownBlock, Option.some.injEq] at e
      subst e
      rw [hc] at hq
      exact ht (by injection hq with hq; injection hq)
end Go.Proofs.YtcaljanahpdidaaGreat
