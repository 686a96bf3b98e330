import Derived.Test.YtmmbkkfjiaoeiaaGreatGV12
import Derived.Deep.MidRow
import Derived.Test.YtmmbkkfjiaoeiaaGreatGV9
import Derived.Test.YtmmbkkfjiaoeiaaGreatGV3
import Derived.Lib.ConvBytes
import Derived.Test.YtmmbkkfjiaoeiaaGreatGV10
namespace Go.Proofs.YtmmbkkfjiaoeiaaGreat
open Go Go.RowKit
theorem RwC.butM {w w' : World} {q s : Nat} {cs : List Value} {t : TypeId} (h : RwC w q cs t) (n : But s w w') (hq : q ≠ s) : RwC w' q cs t := (n.block q h.lt hq).trans h
def MsOV (W : World) (B : Nat) (m : Msg) (e : Ending) : Prop := ∃ v0 v1 v2 v3 v4 v5 v6 v7 v8 v9 v10 v11 v12 : Value, e = .returned (.agg #[v0, v1, v2, v3, v4, v5, v6, v7, v8, v9, v10, v11, v12]) ∧ MsO W B m v0 v1 v2 v3 v4 v5 v6 v7 v8 v9 v10 v11 v12
def MsFV (W : World) (B : Nat) (m : Msg) (e : Ending) : Prop := ∃ v0 v1 v2 v3 v4 v5 v6 v7 v8 v9 v10 v11 v12 : Value, e = .returned (.agg #[v0, v1, v2, v3, v4, v5, v6, v7, v8, v9, v10, v11, v12]) ∧ MsF W B m v0 v1 v2 v3 v4 v5 v6 v7 v8 v9 v10 v11 v12
theorem make_dgB {w w' : World} {n B : Nat} (hn : n ≤ 10000) (h : w'.ownsRow w.heap.size 5 1 (.slice (some ⟨w.heap.size, 0, none⟩) n n) n (madeCells (Value.int .u8 0).cells (n * 1)).toList) (hB : B ≤ w.heap.size) : dgB w' B (.slice (some ⟨w.heap.size, 0, none⟩) n n) (List.replicate n 0) := by
  refine ⟨?_, by simpa using hn, fun i => ?_⟩
  · have e : (madeCells (Value.int .u8 0).cells (n * 1)).toList = (List.replicate n (0 : Int)).map (Value.int .u8) := by
      apply List.ext_getElem
      · simp [madeCells]
      · intro i h1 h2
        simp [madeCells, Value.cells, Nat.mod_one]
    rw [e] at h
    have := own_base h hB
    show w'.ownsRow B 5 1 _ (List.replicate n (0 : Int)).length _
    rw [List.length_replicate]
    exact this
  · rw [List.getD_eq_getElem?_getD, List.getElem?_replicate]
    split <;> exact ⟨by simp, by simp⟩
set_option maxRecDepth 100000 in
set_option maxHeartbeats 8000000 in
set_option linter.unusedSimpArgs false in
theorem drawHello_M {w : World} {s g : Nat} {a : Option Addr} {c : Nat} {xs : List Int} {t : Int} (d : Drm w s g a c xs t) (t1 : t ≤ 900000) :
    Calls Tryz.prog 57 #[.pointer (some ⟨s, 0, none⟩)] w fun e w' => ∃ (m : Msg) (u : Int), hdF xs t = (m, u) ∧ MsOV w' w.heap.size m e ∧ u ≤ t + 30 ∧ Drm w' s g a c xs u ∧ But s w w' := by
  obtain ⟨dR, hdR, hrowR⟩ := rowM
  obtain ⟨i0, hi, hz0, hz1, hz2⟩ := info_parts Tryz.info5
  have ls := d.S.lt
  have lg := d.R.lt
  obtain ⟨B, hB⟩ : ∃ B, B = w.heap.size := ⟨_, rfl⟩
  have D0 : Dq w w s g a c xs B t := Dq.start d (by omega) (fun h => by have := lg h; omega) (by omega)
  have n1 : Below w.heap.size w (w.alloc (.cells #[.int .i64 0, .int .i64 0, .slice none 0 0, .slice none 0 0, .string ⟨#[]⟩, .slice none 0 0, .slice none 0 0, .int .i64 0, .int .i64 0, .slice none 0 0, .bool false, .slice none 0 0, .slice none 0 0] 26)) := (Below.refl _ _).alloc (Nat.le_refl _) _
  have Q : RwC (w.alloc (.cells #[.int .i64 0, .int .i64 0, .slice none 0 0, .slice none 0 0, .string ⟨#[]⟩, .slice none 0 0, .slice none 0 0, .int .i64 0, .int .i64 0, .slice none 0 0, .bool false, .slice none 0 0, .slice none 0 0] 26)) w.heap.size [.int .i64 0, .int .i64 0, .slice none 0 0, .slice none 0 0, .string ⟨#[]⟩, .slice none 0 0, .slice none 0 0, .int .i64 0, .int .i64 0, .slice none 0 0, .bool false, .slice none 0 0, .slice none 0 0] 26 := RwC.new w _ _
  have z1 : (w.alloc (.cells #[.int .i64 0, .int .i64 0, .slice none 0 0, .slice none 0 0, .string ⟨#[]⟩, .slice none 0 0, .slice none 0 0, .int .i64 0, .int .i64 0, .slice none 0 0, .bool false, .slice none 0 0, .slice none 0 0] 26)).heap.size = w.heap.size + 1 := by simp
  have D := D0.up n1
  have POST : ∀ (m : Msg) (v0 v1 v2 v3 v4 v5 v6 v7 v8 v9 v10 v11 v12 : Value) (W : World) (u : Int), Hid (MsO W B m v0 v1 v2 v3 v4 v5 v6 v7 v8 v9 v10 v11 v12) → Hid (Dq w W s g a c xs B u) → u ≤ t + 30 → Hid (hdF xs t = (m, u)) → Hid (∃ (m : Msg) (u : Int), hdF xs t = (m, u) ∧ MsOV W w.heap.size m (.returned (.agg #[v0, v1, v2, v3, v4, v5, v6, v7, v8, v9, v10, v11, v12])) ∧ u ≤ t + 30 ∧ Drm W s g a c xs u ∧ But s w W) := fun m v0 v1 v2 v3 v4 v5 v6 v7 v8 v9 v10 v11 v12 W u hm hd hu he => by
    subst hB
    exact ⟨m, u, he.out, ⟨v0, v1, v2, v3, v4, v5, v6, v7, v8, v9, v10, v11, v12, rfl, hm.out⟩, hu, hd.out.d, hd.out.out⟩
  clear n1 d D0
  go_enter Tryz.func57, Tryz.ntmps57
  go_wp2_with fail
  generalize w.alloc (.cells #[.int .i64 0, .int .i64 0, .slice none 0 0, .slice none 0 0, .string ⟨#[]⟩, .slice none 0 0, .slice none 0 0, .int .i64 0, .int .i64 0, .slice none 0 0, .bool false, .slice none 0 0, .slice none 0 0] 26) = W0 at *
  refine (bytes_M D.d 32 (by omega) (by omega)).mono ?_
  rintro e W1 ⟨v', rfl, yb, R', d', b'⟩
  obtain ⟨X2, hX2⟩ : ∃ X, X = byF xs (t) 32 := ⟨_, rfl⟩
  have yl : X2.length = 32 := by rw [hX2, byF_len]
  rw [← hX2] at R' yb
  have f2 : dgB W1 B v' X2 := dgB.row R' (by omega) yb (by omega)
  obtain ⟨a2, l2, c2, rfl⟩ := f2.form
  have EX2 := hide hX2
  clear R' yl yb hX2
  have zW1 := b'.size
  replace Q := Q.butM b' (by omega)
  replace D := D.but b' d'
  clear b' d'
  go_wp2_with fail
  refine (bytes_M D.d 32 (by omega) (by omega)).mono ?_
  rintro e W2 ⟨v', rfl, yb, R', d', b'⟩
  obtain ⟨X3, hX3⟩ : ∃ X, X = byF xs (t + 1) 32 := ⟨_, rfl⟩
  have yl : X3.length = 32 := by rw [hX3, byF_len]
  rw [← hX3] at R' yb
  have f3 : dgB W2 B v' X3 := dgB.row R' (by omega) yb (by omega)
  obtain ⟨a3, l3, c3, rfl⟩ := f3.form
  have EX3 := hide hX3
  clear R' yl yb hX3
  have zW2 := b'.size
  replace Q := Q.butM b' (by omega)
  replace f2 := f2.kp (X := 26) (dgK.but b' D.sB) (by decide)
  replace D := D.but b' d'
  clear b' d'
  go_wp2_with fail
  refine (drawName_M D.d (by omega)).mono ?_
  rintro e W3 ⟨h4, u4, rfl, en4, lh, hu4, d', b'⟩
  have EN4 := hide en4
  clear en4
  have zW3 := b'.size
  replace Q := Q.butM b' (by omega)
  replace f2 := f2.kp (X := 26) (dgK.but b' D.sB) (by decide)
  replace f3 := f3.kp (X := 26) (dgK.but b' D.sB) (by decide)
  replace D := D.but b' d'
  clear b' d'
  go_wp2_with fail
  refine (drawProt_M D.d (by omega) 4 (by omega)).mono ?_
  rintro e W4 ⟨v', ps, u5, rfl, en5, f5, hu5, d', b'⟩
  have EN5 := hide en5
  clear en5
  obtain ⟨R5, p1, p2⟩ := f5
  have f5 : dgT W4 B v' ps := ⟨own_base R5 (by omega), p1, p2⟩
  obtain ⟨a5, c5, g5, rfl, _⟩ := R5.form
  obtain ⟨l5, hl5⟩ : ∃ l, l = ps.length := ⟨_, rfl⟩
  rw [← hl5] at f5 ⊢
  clear R5 p1 p2 hl5
  have zW4 := b'.size
  replace Q := Q.butM b' (by omega)
  replace f2 := f2.kp (X := 26) (dgK.but b' D.sB) (by decide)
  replace f3 := f3.kp (X := 26) (dgK.but b' D.sB) (by decide)
  replace D := D.but b' d'
  clear b' d'
  have n' : Below W4.heap.size W4 (W4.alloc (.cells #[.int .i64 1, .int .i64 1, .slice a2 l2 c2, .slice a3 l3 c3, .string ⟨⟨h4⟩⟩, .slice a5 l5 c5, .slice none 0 0, .int .i64 0, .int .i64 0, .slice none 0 0, .bool false, .slice none 0 0, .slice none 0 0] 26)) := (Below.refl _ _).alloc (Nat.le_refl _) _
  have T : RwC (W4.alloc (.cells #[.int .i64 1, .int .i64 1, .slice a2 l2 c2, .slice a3 l3 c3, .string ⟨⟨h4⟩⟩, .slice a5 l5 c5, .slice none 0 0, .int .i64 0, .int .i64 0, .slice none 0 0, .bool false, .slice none 0 0, .slice none 0 0] 26)) W4.heap.size [.int .i64 1, .int .i64 1, .slice a2 l2 c2, .slice a3 l3 c3, .string ⟨⟨h4⟩⟩, .slice a5 l5 c5, .slice none 0 0, .int .i64 0, .int .i64 0, .slice none 0 0, .bool false, .slice none 0 0, .slice none 0 0] 26 := RwC.new _ _ _
  have zW5 : (W4.alloc (.cells #[.int .i64 1, .int .i64 1, .slice a2 l2 c2, .slice a3 l3 c3, .string ⟨⟨h4⟩⟩, .slice a5 l5 c5, .slice none 0 0, .int .i64 0, .int .i64 0, .slice none 0 0, .bool false, .slice none 0 0, .slice none 0 0] 26)).heap.size = W4.heap.size + 1 := by simp
  have p0 := Q.lt
  replace Q := Q.up n'
  have p1 := D.size
  replace D := D.up n'
  replace f2 := f2.kp (X := 26) (dgK.up n') (by decide)
  replace f3 := f3.kp (X := 26) (dgK.up n') (by decide)
  replace f5 := f5.kp (X := 26) (dgK.up n') (by decide)
  have M : MsO (W4.alloc (.cells #[.int .i64 1, .int .i64 1, .slice a2 l2 c2, .slice a3 l3 c3, .string ⟨⟨h4⟩⟩, .slice a5 l5 c5, .slice none 0 0, .int .i64 0, .int .i64 0, .slice none 0 0, .bool false, .slice none 0 0, .slice none 0 0] 26)) B (⟨1, 1, X2, X3, h4, ps, [], 0, 0, [], false, [], []⟩ : Msg) (.int .i64 1) (.int .i64 1) (.slice a2 l2 c2) (.slice a3 l3 c3) (.string ⟨⟨h4⟩⟩) (.slice a5 l5 c5) (.slice none 0 0) (.int .i64 0) (.int .i64 0) (.slice none 0 0) (.bool false) (.slice none 0 0) (.slice none 0 0) := ⟨rfl, rfl, f2, f3, ⟨rfl, by show h4.length ≤ 300; omega⟩, f5, dgB.nil _ _, rfl, rfl, dgB.nil _ _, rfl, dgC.nil _ _, dgB.nil _ _⟩
  clear n' f2 f3 f5
  go_wp2_with fail
  generalize W4.alloc (.cells #[.int .i64 1, .int .i64 1, .slice a2 l2 c2, .slice a3 l3 c3, .string ⟨⟨h4⟩⟩, .slice a5 l5 c5, .slice none 0 0, .int .i64 0, .int .i64 0, .slice none 0 0, .bool false, .slice none 0 0, .slice none 0 0] 26) = W5 at *
  refine (chance_M D.d (by omega) (by decide) (by decide)).mono ?_
  rintro e W6 ⟨b2, rfl, eb2, d', b'⟩
  have Eb2 := hide eb2
  clear eb2
  have zW6 := b'.size
  replace T := T.butM b' (by omega)
  replace M := M.kp (dgK.but b' D.sB) neM
  replace Q := Q.butM b' (by omega)
  replace D := D.but b' d'
  clear b' d'
  cases b2
  case false =>
    have Cb2 : Hid (¬ (nxF xs (u5) 2 = 0)) := hide (of_decide_eq_false Eb2.out.symm)
    go_wp2_with fail
    refine (chance_M D.d (by omega) (by decide) (by decide)).mono ?_
    rintro e W7 ⟨b9, rfl, eb9, d', b'⟩
    have Eb9 := hide eb9
    clear eb9
    have zW7 := b'.size
    replace T := T.butM b' (by omega)
    replace M := M.kp (dgK.but b' D.sB) neM
    replace Q := Q.butM b' (by omega)
    replace D := D.but b' d'
    clear b' d'
    cases b9
    case false =>
      have Cb9 : Hid (¬ (nxF xs (u5 + 1) 8 = 0)) := hide (of_decide_eq_false Eb9.out.symm)
      have RG := T.rangeG
      have THR := Q.thereG
      have ONE := M.rd.one
      have OS := only_setG W7 w.heap.size [.int .i64 1, .int .i64 1, .slice a2 l2 c2, .slice a3 l3 c3, .string ⟨⟨h4⟩⟩, .slice a5 l5 c5, .slice none 0 0, .int .i64 0, .int .i64 0, .slice none 0 0, .bool false, .slice none 0 0, .slice none 0 0] 0
      have RQ : RwC (W7.setCells w.heap.size 0 [.int .i64 1, .int .i64 1, .slice a2 l2 c2, .slice a3 l3 c3, .string ⟨⟨h4⟩⟩, .slice a5 l5 c5, .slice none 0 0, .int .i64 0, .int .i64 0, .slice none 0 0, .bool false, .slice none 0 0, .slice none 0 0]) w.heap.size [.int .i64 1, .int .i64 1, .slice a2 l2 c2, .slice a3 l3 c3, .string ⟨⟨h4⟩⟩, .slice a5 l5 c5, .slice none 0 0, .int .i64 0, .int .i64 0, .slice none 0 0, .bool false, .slice none 0 0, .slice none 0 0] 26 := RwC.all13 Q
      have RR := RQ.rangeG
      have MF := hide (M.kp (dgK.onl OS Q) neM)
      have DF := hide (D.onl OS (by omega))
      clear RQ OS M D Q T
      have EQ : Hid (hdF xs t = ((⟨1, 1, X2, X3, h4, ps, [], 0, 0, [], false, [], []⟩ : Msg), u5 + 1 + 1)) := by
        show _ = _
        simp only [hdF, heG, ← EX2.out, ← EX3.out, EN4.out, EN5.out, Cb2.out, Cb9.out, Int.toNat_natCast, if_true, if_false, ite_self, reduceIte]
      go_wp2_with (first | (refine wpList_load_mid rfl 26 (.tmp 3) rfl (W4.heap.size) 0 rfl [.int .i64 1, .int .i64 1, .slice a2 l2 c2, .slice a3 l3 c3, .string ⟨⟨h4⟩⟩, .slice a5 l5 c5, .slice none 0 0, .int .i64 0, .int .i64 0, .slice none 0 0, .bool false, .slice none 0 0, .slice none 0 0] dR RG hdR hrowR iM ?_) | (refine wpList_store_mid rfl 26 (.tmp 2) (.tmp 39) rfl (w.heap.size) 0 #[.int .i64 1, .int .i64 1, .slice a2 l2 c2, .slice a3 l3 c3, .string ⟨⟨h4⟩⟩, .slice a5 l5 c5, .slice none 0 0, .int .i64 0, .int .i64 0, .slice none 0 0, .bool false, .slice none 0 0, .slice none 0 0] rfl rfl THR iM ONE ?_) | fail)
      refine bodyPost_ret (v := .agg #[.int .i64 1, .int .i64 1, .slice a2 l2 c2, .slice a3 l3 c3, .string ⟨⟨h4⟩⟩, .slice a5 l5 c5, .slice none 0 0, .int .i64 0, .int .i64 0, .slice none 0 0, .bool false, .slice none 0 0, .slice none 0 0]) (results_cellG Tryz.results57 _ _ (w.heap.size) _ dR rfl RR hdR hrowR iM) rfl ?_
      exact (POST _ _ _ _ _ _ _ _ _ _ _ _ _ _ _ _ MF DF (by omega) EQ).out
    case true =>
      have Cb9 : Hid ((nxF xs (u5 + 1) 8 = 0)) := hide (of_decide_eq_true Eb9.out.symm)
      go_wp2_with fail
      refine (next_M D.d (by omega) (by decide) (by decide)).mono ?_
      rintro e W8 ⟨r1, rfl, er1, hr1, d', b'⟩
      have Er1 := hide er1
      clear er1
      have zW8 := b'.size
      replace T := T.butM b' (by omega)
      replace M := M.kp (dgK.but b' D.sB) neM
      replace Q := Q.butM b' (by omega)
      replace D := D.but b' d'
      clear b' d'
      have tc : W8.cell? ⟨W4.heap.size, 1, none⟩ = some (.int .i64 1) := T.cell 1
      have tf := T.free 1
      have OS := Only.setCell W8 W4.heap.size 1 (.int .i64 (r1 : Int))
      have M1 := M.kp (dgK.onl OS T) neM
      have T1 : RwC (W8.setCell ⟨W4.heap.size, 1, none⟩ (.int .i64 (r1 : Int))) W4.heap.size [.int .i64 1, .int .i64 (r1 : Int), .slice a2 l2 c2, .slice a3 l3 c3, .string ⟨⟨h4⟩⟩, .slice a5 l5 c5, .slice none 0 0, .int .i64 0, .int .i64 0, .slice none 0 0, .bool false, .slice none 0 0, .slice none 0 0] 26 := T.set 1 _
      have Q1 := Q.onl OS (by omega)
      have D1 := D.onl OS (by omega)
      have M2 : MsO (W8.setCell ⟨W4.heap.size, 1, none⟩ (.int .i64 (r1 : Int))) B (⟨1, (r1 : Int), X2, X3, h4, ps, [], 0, 0, [], false, [], []⟩ : Msg) (.int .i64 1) (.int .i64 (r1 : Int)) (.slice a2 l2 c2) (.slice a3 l3 c3) (.string ⟨⟨h4⟩⟩) (.slice a5 l5 c5) (.slice none 0 0) (.int .i64 0) (.int .i64 0) (.slice none 0 0) (.bool false) (.slice none 0 0) (.slice none 0 0) := ⟨M1.i0, rfl, M1.b2, M1.b3, M1.s4, M1.t5, M1.b6, M1.i7, M1.i8, M1.b9, M1.o10, M1.c11, M1.b12⟩
      have zz := OS.size
      clear M M1 T Q D OS
      go_upto_region 11 with fail
      generalize W8.setCell ⟨W4.heap.size, 1, none⟩ (.int .i64 (r1 : Int)) = W9 at *
      have T := T1
      have Q := Q1
      have D := D1
      have M := M2
      clear T1 Q1 D1 M2 tc tf
      have RG := T.rangeG
      have THR := Q.thereG
      have ONE := M.rd.one
      have OS := only_setG W9 w.heap.size [.int .i64 1, .int .i64 (r1 : Int), .slice a2 l2 c2, .slice a3 l3 c3, .string ⟨⟨h4⟩⟩, .slice a5 l5 c5, .slice none 0 0, .int .i64 0, .int .i64 0, .slice none 0 0, .bool false, .slice none 0 0, .slice none 0 0] 0
      have RQ : RwC (W9.setCells w.heap.size 0 [.int .i64 1, .int .i64 (r1 : Int), .slice a2 l2 c2, .slice a3 l3 c3, .string ⟨⟨h4⟩⟩, .slice a5 l5 c5, .slice none 0 0, .int .i64 0, .int .i64 0, .slice none 0 0, .bool false, .slice none 0 0, .slice none 0 0]) w.heap.size [.int .i64 1, .int .i64 (r1 : Int), .slice a2 l2 c2, .slice a3 l3 c3, .string ⟨⟨h4⟩⟩, .slice a5 l5 c5, .slice none 0 0, .int .i64 0, .int .i64 0, .slice none 0 0, .bool false, .slice none 0 0, .slice none 0 0] 26 := RwC.all13 Q
      have RR := RQ.rangeG
      have MF := hide (M.kp (dgK.onl OS Q) neM)
      have DF := hide (D.onl OS (by omega))
      clear RQ OS M D Q T
      have EQ : Hid (hdF xs t = ((⟨1, (r1 : Int), X2, X3, h4, ps, [], 0, 0, [], false, [], []⟩ : Msg), u5 + 1 + 1 + 1)) := by
        show _ = _
        simp only [hdF, heG, ← EX2.out, ← EX3.out, EN4.out, EN5.out, Cb2.out, Cb9.out, Er1.out, Int.toNat_natCast, if_true, if_false, ite_self, reduceIte]
      go_wp2_with (first | (refine wpList_load_mid rfl 26 (.tmp 3) rfl (W4.heap.size) 0 rfl [.int .i64 1, .int .i64 (r1 : Int), .slice a2 l2 c2, .slice a3 l3 c3, .string ⟨⟨h4⟩⟩, .slice a5 l5 c5, .slice none 0 0, .int .i64 0, .int .i64 0, .slice none 0 0, .bool false, .slice none 0 0, .slice none 0 0] dR RG hdR hrowR iM ?_) | (refine wpList_store_mid rfl 26 (.tmp 2) (.tmp 39) rfl (w.heap.size) 0 #[.int .i64 1, .int .i64 (r1 : Int), .slice a2 l2 c2, .slice a3 l3 c3, .string ⟨⟨h4⟩⟩, .slice a5 l5 c5, .slice none 0 0, .int .i64 0, .int .i64 0, .slice none 0 0, .bool false, .slice none 0 0, .slice none 0 0] rfl rfl THR iM ONE ?_) | fail)
      refine bodyPost_ret (v := .agg #[.int .i64 1, .int .i64 (r1 : Int), .slice a2 l2 c2, .slice a3 l3 c3, .string ⟨⟨h4⟩⟩, .slice a5 l5 c5, .slice none 0 0, .int .i64 0, .int .i64 0, .slice none 0 0, .bool false, .slice none 0 0, .slice none 0 0]) (results_cellG Tryz.results57 _ _ (w.heap.size) _ dR rfl RR hdR hrowR iM) rfl ?_
      exact (POST _ _ _ _ _ _ _ _ _ _ _ _ _ _ _ _ MF DF (by omega) EQ).out
  case true =>
    have Cb2 : Hid ((nxF xs (u5) 2 = 0)) := hide (of_decide_eq_true Eb2.out.symm)
    go_wp2_with fail
    refine (next_M D.d (by omega) (by decide) (by decide)).mono ?_
    rintro e W10 ⟨r3, rfl, er3, hr3, d', b'⟩
    have Er3 := hide er3
    clear er3
    have zW10 := b'.size
    replace T := T.butM b' (by omega)
    replace M := M.kp (dgK.but b' D.sB) neM
    replace Q := Q.butM b' (by omega)
    replace D := D.but b' d'
    clear b' d'
    obtain ⟨k3, hk3⟩ : ∃ k : Nat, k = 1 + r3 := ⟨_, rfl⟩
    have q3 : k3 ≤ 100 := by omega
    have w3 : IntKind.i64.wrap (1 + (r3 : Int)) = (k3 : Int) := by rw [IntKind.wrap_i64]; omega
    have w3' : (1 + (r3 : Int)) = (k3 : Int) := by omega
    have HK3 := hide hk3
    clear hr3 hk3
    go_wp2_with fail
    try rw [w3']
    clear w3 w3'
    refine (bytes_M D.d k3 (by omega) (by omega)).mono ?_
    rintro e W11 ⟨v', rfl, yb, R', d', b'⟩
    obtain ⟨X6, hX6⟩ : ∃ X, X = byF xs (u5 + 1 + 1) k3 := ⟨_, rfl⟩
    have yl : X6.length = k3 := by rw [hX6, byF_len]
    rw [← hX6] at R' yb
    have f6 : dgB W11 B v' X6 := dgB.row R' (by omega) yb (by omega)
    obtain ⟨a6, l6, c6, rfl⟩ := f6.form
    have EX6 := hide hX6
    clear R' yl yb hX6
    have zW11 := b'.size
    replace T := T.butM b' (by omega)
    replace M := M.kp (dgK.but b' D.sB) neM
    replace Q := Q.butM b' (by omega)
    replace D := D.but b' d'
    clear b' d'
    have tc : W11.cell? ⟨W4.heap.size, 6, none⟩ = some (.slice none 0 0) := T.cell 6
    have tf := T.free 6
    have OS := Only.setCell W11 W4.heap.size 6 (.slice a6 l6 c6)
    have M1 := M.kp (dgK.onl OS T) neM
    have nf := f6.kp (dgK.onl OS T) (by decide)
    have T1 : RwC (W11.setCell ⟨W4.heap.size, 6, none⟩ (.slice a6 l6 c6)) W4.heap.size [.int .i64 1, .int .i64 1, .slice a2 l2 c2, .slice a3 l3 c3, .string ⟨⟨h4⟩⟩, .slice a5 l5 c5, .slice a6 l6 c6, .int .i64 0, .int .i64 0, .slice none 0 0, .bool false, .slice none 0 0, .slice none 0 0] 26 := T.set 6 _
    have Q1 := Q.onl OS (by omega)
    have D1 := D.onl OS (by omega)
    have M2 : MsO (W11.setCell ⟨W4.heap.size, 6, none⟩ (.slice a6 l6 c6)) B (⟨1, 1, X2, X3, h4, ps, X6, 0, 0, [], false, [], []⟩ : Msg) (.int .i64 1) (.int .i64 1) (.slice a2 l2 c2) (.slice a3 l3 c3) (.string ⟨⟨h4⟩⟩) (.slice a5 l5 c5) (.slice a6 l6 c6) (.int .i64 0) (.int .i64 0) (.slice none 0 0) (.bool false) (.slice none 0 0) (.slice none 0 0) := ⟨M1.i0, M1.i1, M1.b2, M1.b3, M1.s4, M1.t5, nf, M1.i7, M1.i8, M1.b9, M1.o10, M1.c11, M1.b12⟩
    have zz := OS.size
    clear M M1 T Q D OS nf
    go_upto_region 4 with fail
    generalize W11.setCell ⟨W4.heap.size, 6, none⟩ (.slice a6 l6 c6) = W12 at *
    have T := T1
    have Q := Q1
    have D := D1
    have M := M2
    clear T1 Q1 D1 M2 tc tf
    go_wp2_with fail
    refine (chance_M D.d (by omega) (by decide) (by decide)).mono ?_
    rintro e W13 ⟨b4, rfl, eb4, d', b'⟩
    have Eb4 := hide eb4
    clear eb4
    have zW13 := b'.size
    replace T := T.butM b' (by omega)
    replace M := M.kp (dgK.but b' D.sB) neM
    replace Q := Q.butM b' (by omega)
    replace D := D.but b' d'
    clear b' d'
    cases b4
    case false =>
      have Cb4 : Hid (¬ (nxF xs (u5 + 1 + 1 + 1) 8 = 0)) := hide (of_decide_eq_false Eb4.out.symm)
      go_wp2_with fail
      refine (next_M D.d (by omega) (by decide) (by decide)).mono ?_
      rintro e W14 ⟨r7, rfl, er7, hr7, d', b'⟩
      have Er7 := hide er7
      clear er7
      have zW14 := b'.size
      replace T := T.butM b' (by omega)
      replace M := M.kp (dgK.but b' D.sB) neM
      replace Q := Q.butM b' (by omega)
      replace D := D.but b' d'
      clear b' d'
      have tc : W14.cell? ⟨W4.heap.size, 7, none⟩ = some (.int .i64 0) := T.cell 7
      have tf := T.free 7
      have OS := Only.setCell W14 W4.heap.size 7 (.int .i64 (r7 : Int))
      have M1 := M.kp (dgK.onl OS T) neM
      have T1 : RwC (W14.setCell ⟨W4.heap.size, 7, none⟩ (.int .i64 (r7 : Int))) W4.heap.size [.int .i64 1, .int .i64 1, .slice a2 l2 c2, .slice a3 l3 c3, .string ⟨⟨h4⟩⟩, .slice a5 l5 c5, .slice a6 l6 c6, .int .i64 (r7 : Int), .int .i64 0, .slice none 0 0, .bool false, .slice none 0 0, .slice none 0 0] 26 := T.set 7 _
      have Q1 := Q.onl OS (by omega)
      have D1 := D.onl OS (by omega)
      have M2 : MsO (W14.setCell ⟨W4.heap.size, 7, none⟩ (.int .i64 (r7 : Int))) B (⟨1, 1, X2, X3, h4, ps, X6, (r7 : Int), 0, [], false, [], []⟩ : Msg) (.int .i64 1) (.int .i64 1) (.slice a2 l2 c2) (.slice a3 l3 c3) (.string ⟨⟨h4⟩⟩) (.slice a5 l5 c5) (.slice a6 l6 c6) (.int .i64 (r7 : Int)) (.int .i64 0) (.slice none 0 0) (.bool false) (.slice none 0 0) (.slice none 0 0) := ⟨M1.i0, M1.i1, M1.b2, M1.b3, M1.s4, M1.t5, M1.b6, rfl, M1.i8, M1.b9, M1.o10, M1.c11, M1.b12⟩
      have zz := OS.size
      clear M M1 T Q D OS
      go_upto_region 7 with fail
      generalize W14.setCell ⟨W4.heap.size, 7, none⟩ (.int .i64 (r7 : Int)) = W15 at *
      have T := T1
      have Q := Q1
      have D := D1
      have M := M2
      clear T1 Q1 D1 M2 tc tf
      go_wp2_with fail
      refine (next_M D.d (by omega) (by decide) (by decide)).mono ?_
      rintro e W16 ⟨r8, rfl, er8, hr8, d', b'⟩
      have Er8 := hide er8
      clear er8
      have zW16 := b'.size
      replace T := T.butM b' (by omega)
      replace M := M.kp (dgK.but b' D.sB) neM
      replace Q := Q.butM b' (by omega)
      replace D := D.but b' d'
      clear b' d'
      have tc : W16.cell? ⟨W4.heap.size, 8, none⟩ = some (.int .i64 0) := T.cell 8
      have tf := T.free 8
      have OS := Only.setCell W16 W4.heap.size 8 (.int .i64 (r8 : Int))
      have M1 := M.kp (dgK.onl OS T) neM
      have T1 : RwC (W16.setCell ⟨W4.heap.size, 8, none⟩ (.int .i64 (r8 : Int))) W4.heap.size [.int .i64 1, .int .i64 1, .slice a2 l2 c2, .slice a3 l3 c3, .string ⟨⟨h4⟩⟩, .slice a5 l5 c5, .slice a6 l6 c6, .int .i64 (r7 : Int), .int .i64 (r8 : Int), .slice none 0 0, .bool false, .slice none 0 0, .slice none 0 0] 26 := T.set 8 _
      have Q1 := Q.onl OS (by omega)
      have D1 := D.onl OS (by omega)
      have M2 : MsO (W16.setCell ⟨W4.heap.size, 8, none⟩ (.int .i64 (r8 : Int))) B (⟨1, 1, X2, X3, h4, ps, X6, (r7 : Int), (r8 : Int), [], false, [], []⟩ : Msg) (.int .i64 1) (.int .i64 1) (.slice a2 l2 c2) (.slice a3 l3 c3) (.string ⟨⟨h4⟩⟩) (.slice a5 l5 c5) (.slice a6 l6 c6) (.int .i64 (r7 : Int)) (.int .i64 (r8 : Int)) (.slice none 0 0) (.bool false) (.slice none 0 0) (.slice none 0 0) := ⟨M1.i0, M1.i1, M1.b2, M1.b3, M1.s4, M1.t5, M1.b6, M1.i7, rfl, M1.b9, M1.o10, M1.c11, M1.b12⟩
      have zz := OS.size
      clear M M1 T Q D OS
      go_upto_region 8 with fail
      generalize W16.setCell ⟨W4.heap.size, 8, none⟩ (.int .i64 (r8 : Int)) = W17 at *
      have T := T1
      have Q := Q1
      have D := D1
      have M := M2
      clear T1 Q1 D1 M2 tc tf
      go_wp2_with fail
      refine (bytes_M D.d 32 (by omega) (by omega)).mono ?_
      rintro e W18 ⟨v', rfl, yb, R', d', b'⟩
      obtain ⟨X9, hX9⟩ : ∃ X, X = byF xs (u5 + 1 + 1 + 1 + 1 + 1 + 1) 32 := ⟨_, rfl⟩
      have yl : X9.length = 32 := by rw [hX9, byF_len]
      rw [← hX9] at R' yb
      have f9 : dgB W18 B v' X9 := dgB.row R' (by omega) yb (by omega)
      obtain ⟨a9, l9, c9, rfl⟩ := f9.form
      have EX9 := hide hX9
      clear R' yl yb hX9
      have zW18 := b'.size
      replace T := T.butM b' (by omega)
      replace M := M.kp (dgK.but b' D.sB) neM
      replace Q := Q.butM b' (by omega)
      replace D := D.but b' d'
      clear b' d'
      have tc : W18.cell? ⟨W4.heap.size, 9, none⟩ = some (.slice none 0 0) := T.cell 9
      have tf := T.free 9
      have OS := Only.setCell W18 W4.heap.size 9 (.slice a9 l9 c9)
      have M1 := M.kp (dgK.onl OS T) neM
      have nf := f9.kp (dgK.onl OS T) (by decide)
      have T1 : RwC (W18.setCell ⟨W4.heap.size, 9, none⟩ (.slice a9 l9 c9)) W4.heap.size [.int .i64 1, .int .i64 1, .slice a2 l2 c2, .slice a3 l3 c3, .string ⟨⟨h4⟩⟩, .slice a5 l5 c5, .slice a6 l6 c6, .int .i64 (r7 : Int), .int .i64 (r8 : Int), .slice a9 l9 c9, .bool false, .slice none 0 0, .slice none 0 0] 26 := T.set 9 _
      have Q1 := Q.onl OS (by omega)
      have D1 := D.onl OS (by omega)
      have M2 : MsO (W18.setCell ⟨W4.heap.size, 9, none⟩ (.slice a9 l9 c9)) B (⟨1, 1, X2, X3, h4, ps, X6, (r7 : Int), (r8 : Int), X9, false, [], []⟩ : Msg) (.int .i64 1) (.int .i64 1) (.slice a2 l2 c2) (.slice a3 l3 c3) (.string ⟨⟨h4⟩⟩) (.slice a5 l5 c5) (.slice a6 l6 c6) (.int .i64 (r7 : Int)) (.int .i64 (r8 : Int)) (.slice a9 l9 c9) (.bool false) (.slice none 0 0) (.slice none 0 0) := ⟨M1.i0, M1.i1, M1.b2, M1.b3, M1.s4, M1.t5, M1.b6, M1.i7, M1.i8, nf, M1.o10, M1.c11, M1.b12⟩
      have zz := OS.size
      clear M M1 T Q D OS nf
      go_upto_region 9 with fail
      generalize W18.setCell ⟨W4.heap.size, 9, none⟩ (.slice a9 l9 c9) = W19 at *
      have T := T1
      have Q := Q1
      have D := D1
      have M := M2
      clear T1 Q1 D1 M2 tc tf
      go_wp2_with fail
      refine (chance_M D.d (by omega) (by decide) (by decide)).mono ?_
      rintro e W20 ⟨b9, rfl, eb9, d', b'⟩
      have Eb9 := hide eb9
      clear eb9
      have zW20 := b'.size
      replace T := T.butM b' (by omega)
      replace M := M.kp (dgK.but b' D.sB) neM
      replace Q := Q.butM b' (by omega)
      replace D := D.but b' d'
      clear b' d'
      cases b9
      case false =>
        have Cb9 : Hid (¬ (nxF xs (u5 + 1 + 1 + 1 + 1 + 1 + 1 + 1) 8 = 0)) := hide (of_decide_eq_false Eb9.out.symm)
        have RG := T.rangeG
        have THR := Q.thereG
        have ONE := M.rd.one
        have OS := only_setG W20 w.heap.size [.int .i64 1, .int .i64 1, .slice a2 l2 c2, .slice a3 l3 c3, .string ⟨⟨h4⟩⟩, .slice a5 l5 c5, .slice a6 l6 c6, .int .i64 (r7 : Int), .int .i64 (r8 : Int), .slice a9 l9 c9, .bool false, .slice none 0 0, .slice none 0 0] 0
        have RQ : RwC (W20.setCells w.heap.size 0 [.int .i64 1, .int .i64 1, .slice a2 l2 c2, .slice a3 l3 c3, .string ⟨⟨h4⟩⟩, .slice a5 l5 c5, .slice a6 l6 c6, .int .i64 (r7 : Int), .int .i64 (r8 : Int), .slice a9 l9 c9, .bool false, .slice none 0 0, .slice none 0 0]) w.heap.size [.int .i64 1, .int .i64 1, .slice a2 l2 c2, .slice a3 l3 c3, .string ⟨⟨h4⟩⟩, .slice a5 l5 c5, .slice a6 l6 c6, .int .i64 (r7 : Int), .int .i64 (r8 : Int), .slice a9 l9 c9, .bool false, .slice none 0 0, .slice none 0 0] 26 := RwC.all13 Q
        have RR := RQ.rangeG
        have MF := hide (M.kp (dgK.onl OS Q) neM)
        have DF := hide (D.onl OS (by omega))
        clear RQ OS M D Q T
        have EQ : Hid (hdF xs t = ((⟨1, 1, X2, X3, h4, ps, X6, (r7 : Int), (r8 : Int), X9, false, [], []⟩ : Msg), u5 + 1 + 1 + 1 + 1 + 1 + 1 + 1 + 1)) := by
          show _ = _
          simp only [hdF, heG, ← EX2.out, ← EX3.out, EN4.out, EN5.out, Cb2.out, Er3.out, ← HK3.out, ← EX6.out, Cb4.out, Er7.out, Er8.out, ← EX9.out, Cb9.out, Int.toNat_natCast, if_true, if_false, ite_self, reduceIte]
        go_wp2_with (first | (refine wpList_load_mid rfl 26 (.tmp 3) rfl (W4.heap.size) 0 rfl [.int .i64 1, .int .i64 1, .slice a2 l2 c2, .slice a3 l3 c3, .string ⟨⟨h4⟩⟩, .slice a5 l5 c5, .slice a6 l6 c6, .int .i64 (r7 : Int), .int .i64 (r8 : Int), .slice a9 l9 c9, .bool false, .slice none 0 0, .slice none 0 0] dR RG hdR hrowR iM ?_) | (refine wpList_store_mid rfl 26 (.tmp 2) (.tmp 39) rfl (w.heap.size) 0 #[.int .i64 1, .int .i64 1, .slice a2 l2 c2, .slice a3 l3 c3, .string ⟨⟨h4⟩⟩, .slice a5 l5 c5, .slice a6 l6 c6, .int .i64 (r7 : Int), .int .i64 (r8 : Int), .slice a9 l9 c9, .bool false, .slice none 0 0, .slice none 0 0] rfl rfl THR iM ONE ?_) | fail)
        refine bodyPost_ret (v := .agg #[.int .i64 1, .int .i64 1, .slice a2 l2 c2, .slice a3 l3 c3, .string ⟨⟨h4⟩⟩, .slice a5 l5 c5, .slice a6 l6 c6, .int .i64 (r7 : Int), .int .i64 (r8 : Int), .slice a9 l9 c9, .bool false, .slice none 0 0, .slice none 0 0]) (results_cellG Tryz.results57 _ _ (w.heap.size) _ dR rfl RR hdR hrowR iM) rfl ?_
        exact (POST _ _ _ _ _ _ _ _ _ _ _ _ _ _ _ _ MF DF (by omega) EQ).out
      case true =>
        have Cb9 : Hid ((nxF xs (u5 + 1 + 1 + 1 + 1 + 1 + 1 + 1) 8 = 0)) := hide (of_decide_eq_true Eb9.out.symm)
        go_wp2_with fail
        refine (next_M D.d (by omega) (by decide) (by decide)).mono ?_
        rintro e W21 ⟨r1, rfl, er1, hr1, d', b'⟩
        have Er1 := hide er1
        clear er1
        have zW21 := b'.size
        replace T := T.butM b' (by omega)
        replace M := M.kp (dgK.but b' D.sB) neM
        replace Q := Q.butM b' (by omega)
        replace D := D.but b' d'
        clear b' d'
        have tc : W21.cell? ⟨W4.heap.size, 1, none⟩ = some (.int .i64 1) := T.cell 1
        have tf := T.free 1
        have OS := Only.setCell W21 W4.heap.size 1 (.int .i64 (r1 : Int))
        have M1 := M.kp (dgK.onl OS T) neM
        have T1 : RwC (W21.setCell ⟨W4.heap.size, 1, none⟩ (.int .i64 (r1 : Int))) W4.heap.size [.int .i64 1, .int .i64 (r1 : Int), .slice a2 l2 c2, .slice a3 l3 c3, .string ⟨⟨h4⟩⟩, .slice a5 l5 c5, .slice a6 l6 c6, .int .i64 (r7 : Int), .int .i64 (r8 : Int), .slice a9 l9 c9, .bool false, .slice none 0 0, .slice none 0 0] 26 := T.set 1 _
        have Q1 := Q.onl OS (by omega)
        have D1 := D.onl OS (by omega)
        have M2 : MsO (W21.setCell ⟨W4.heap.size, 1, none⟩ (.int .i64 (r1 : Int))) B (⟨1, (r1 : Int), X2, X3, h4, ps, X6, (r7 : Int), (r8 : Int), X9, false, [], []⟩ : Msg) (.int .i64 1) (.int .i64 (r1 : Int)) (.slice a2 l2 c2) (.slice a3 l3 c3) (.string ⟨⟨h4⟩⟩) (.slice a5 l5 c5) (.slice a6 l6 c6) (.int .i64 (r7 : Int)) (.int .i64 (r8 : Int)) (.slice a9 l9 c9) (.bool false) (.slice none 0 0) (.slice none 0 0) := ⟨M1.i0, rfl, M1.b2, M1.b3, M1.s4, M1.t5, M1.b6, M1.i7, M1.i8, M1.b9, M1.o10, M1.c11, M1.b12⟩
        have zz := OS.size
        clear M M1 T Q D OS
        go_upto_region 11 with fail
        generalize W21.setCell ⟨W4.heap.size, 1, none⟩ (.int .i64 (r1 : Int)) = W22 at *
        have T := T1
        have Q := Q1
        have D := D1
        have M := M2
        clear T1 Q1 D1 M2 tc tf
        have RG := T.rangeG
        have THR := Q.thereG
        have ONE := M.rd.one
        have OS := only_setG W22 w.heap.size [.int .i64 1, .int .i64 (r1 : Int), .slice a2 l2 c2, .slice a3 l3 c3, .string ⟨⟨h4⟩⟩, .slice a5 l5 c5, .slice a6 l6 c6, .int .i64 (r7 : Int), .int .i64 (r8 : Int), .slice a9 l9 c9, .bool false, .slice none 0 0, .slice none 0 0] 0
        have RQ : RwC (W22.setCells w.heap.size 0 [.int .i64 1, .int .i64 (r1 : Int), .slice a2 l2 c2, .slice a3 l3 c3, .string ⟨⟨h4⟩⟩, .slice a5 l5 c5, .slice a6 l6 c6, .int .i64 (r7 : Int), .int .i64 (r8 : Int), .slice a9 l9 c9, .bool false, .slice none 0 0, .slice none 0 0]) w.heap.size [.int .i64 1, .int .i64 (r1 : Int), .slice a2 l2 c2, .slice a3 l3 c3, .string ⟨⟨h4⟩⟩, .slice a5 l5 c5, .slice a6 l6 c6, .int .i64 (r7 : Int), .int .i64 (r8 : Int), .slice a9 l9 c9, .bool false, .slice none 0 0, .slice none 0 0] 26 := RwC.all13 Q
        have RR := RQ.rangeG
        have MF := hide (M.kp (dgK.onl OS Q) neM)
        have DF := hide (D.onl OS (by omega))
        clear RQ OS M D Q T
        have EQ : Hid (hdF xs t = ((⟨1, (r1 : Int), X2, X3, h4, ps, X6, (r7 : Int), (r8 : Int), X9, false, [], []⟩ : Msg), u5 + 1 + 1 + 1 + 1 + 1 + 1 + 1 + 1 + 1)) := by
          show _ = _
          simp only [hdF, heG, ← EX2.out, ← EX3.out, EN4.out, EN5.out, Cb2.out, Er3.out, ← HK3.out, ← EX6.out, Cb4.out, Er7.out, Er8.out, ← EX9.out, Cb9.out, Er1.out, Int.toNat_natCast, if_true, if_false, ite_self, reduceIte]
        go_wp2_with (first | (refine wpList_load_mid rfl 26 (.tmp 3) rfl (W4.heap.size) 0 rfl [.int .i64 1, .int .i64 (r1 : Int), .slice a2 l2 c2, .slice a3 l3 c3, .string ⟨⟨h4⟩⟩, .slice a5 l5 c5, .slice a6 l6 c6, .int .i64 (r7 : Int), .int .i64 (r8 : Int), .slice a9 l9 c9, .bool false, .slice none 0 0, .slice none 0 0] dR RG hdR hrowR iM ?_) | (refine wpList_store_mid rfl 26 (.tmp 2) (.tmp 39) rfl (w.heap.size) 0 #[.int .i64 1, .int .i64 (r1 : Int), .slice a2 l2 c2, .slice a3 l3 c3, .string ⟨⟨h4⟩⟩, .slice a5 l5 c5, .slice a6 l6 c6, .int .i64 (r7 : Int), .int .i64 (r8 : Int), .slice a9 l9 c9, .bool false, .slice none 0 0, .slice none 0 0] rfl rfl THR iM ONE ?_) | fail)
        refine bodyPost_ret (v := .agg #[.int .i64 1, .int .i64 (r1 : Int), .slice a2 l2 c2, .slice a3 l3 c3, .string ⟨⟨h4⟩⟩, .slice a5 l5 c5, .slice a6 l6 c6, .int .i64 (r7 : Int), .int .i64 (r8 : Int), .slice a9 l9 c9, .bool false, .slice none 0 0, .slice none 0 0]) (results_cellG Tryz.results57 _ _ (w.heap.size) _ dR rfl RR hdR hrowR iM) rfl ?_
        exact (POST _ _ _ _ _ _ _ _ _ _ _ _ _ _ _ _ MF DF (by omega) EQ).out
    case true =>
      have Cb4 : Hid ((nxF xs (u5 + 1 + 1 + 1) 8 = 0)) := hide (of_decide_eq_true Eb4.out.symm)
      go_wp2_with (at_make; refine wpList_make_full _ rfl _ _ 22 rfl W13.heap.size 5 i0 (.int .u8 0) 1 Tryz.underlying22 hi hz0 hz1 .i64 .i64 _ _ 400 rfl rfl rfl rfl (by rw [hz2]; omega) (by unfold maxLen; omega) (Nat.le_refl _) ?_; intro W23 hown hgrow; have fx6 : dgB W23 B _ (List.replicate 400 0) := make_dgB (by omega) hown (by omega); have n' : Below W13.heap.size W13 W23 := (Below.refl _ _).grown hgrow (Nat.le_refl _) (by simp); have zW23 := n'.size; replace Q := Q.up n'; replace T := T.up n'; replace D := D.up n'; replace M := M.kp (dgK.up n') neM; clear hown hgrow n'; have tc : W23.cell? ⟨W4.heap.size, 6, none⟩ = some (.slice a6 l6 c6) := T.cell 6; have tf := T.free 6; have OS := Only.setCell W23 W4.heap.size 6 (.slice (some ⟨W13.heap.size, 0, none⟩) 400 400); have M1 := M.kp (dgK.onl OS T) neM; have nf := fx6.kp (dgK.onl OS T) (by decide); have T1 : RwC (W23.setCell ⟨W4.heap.size, 6, none⟩ (.slice (some ⟨W13.heap.size, 0, none⟩) 400 400)) W4.heap.size [.int .i64 1, .int .i64 1, .slice a2 l2 c2, .slice a3 l3 c3, .string ⟨⟨h4⟩⟩, .slice a5 l5 c5, .slice (some ⟨W13.heap.size, 0, none⟩) 400 400, .int .i64 0, .int .i64 0, .slice none 0 0, .bool false, .slice none 0 0, .slice none 0 0] 26 := T.set 6 _; have Q1 := Q.onl OS (by omega); have D1 := D.onl OS (by omega); have M2 : MsO (W23.setCell ⟨W4.heap.size, 6, none⟩ (.slice (some ⟨W13.heap.size, 0, none⟩) 400 400)) B (⟨1, 1, X2, X3, h4, ps, List.replicate 400 0, 0, 0, [], false, [], []⟩ : Msg) (.int .i64 1) (.int .i64 1) (.slice a2 l2 c2) (.slice a3 l3 c3) (.string ⟨⟨h4⟩⟩) (.slice a5 l5 c5) (.slice (some ⟨W13.heap.size, 0, none⟩) 400 400) (.int .i64 0) (.int .i64 0) (.slice none 0 0) (.bool false) (.slice none 0 0) (.slice none 0 0) := ⟨M1.i0, M1.i1, M1.b2, M1.b3, M1.s4, M1.t5, nf, M1.i7, M1.i8, M1.b9, M1.o10, M1.c11, M1.b12⟩; have zz := OS.size; clear M M1 T Q D OS nf)
      generalize W23.setCell ⟨W4.heap.size, 6, none⟩ (.slice (some ⟨W13.heap.size, 0, none⟩) 400 400) = W24 at *
      have T := T1
      have Q := Q1
      have D := D1
      have M := M2
      clear T1 Q1 D1 M2 tc tf
      refine (next_M D.d (by omega) (by decide) (by decide)).mono ?_
      rintro e W25 ⟨r7, rfl, er7, hr7, d', b'⟩
      have Er7 := hide er7
      clear er7
      have zW25 := b'.size
      replace T := T.butM b' (by omega)
      replace M := M.kp (dgK.but b' D.sB) neM
      replace Q := Q.butM b' (by omega)
      replace D := D.but b' d'
      clear b' d'
      have tc : W25.cell? ⟨W4.heap.size, 7, none⟩ = some (.int .i64 0) := T.cell 7
      have tf := T.free 7
      have OS := Only.setCell W25 W4.heap.size 7 (.int .i64 (r7 : Int))
      have M1 := M.kp (dgK.onl OS T) neM
      have T1 : RwC (W25.setCell ⟨W4.heap.size, 7, none⟩ (.int .i64 (r7 : Int))) W4.heap.size [.int .i64 1, .int .i64 1, .slice a2 l2 c2, .slice a3 l3 c3, .string ⟨⟨h4⟩⟩, .slice a5 l5 c5, .slice (some ⟨W13.heap.size, 0, none⟩) 400 400, .int .i64 (r7 : Int), .int .i64 0, .slice none 0 0, .bool false, .slice none 0 0, .slice none 0 0] 26 := T.set 7 _
      have Q1 := Q.onl OS (by omega)
      have D1 := D.onl OS (by omega)
      have M2 : MsO (W25.setCell ⟨W4.heap.size, 7, none⟩ (.int .i64 (r7 : Int))) B (⟨1, 1, X2, X3, h4, ps, List.replicate 400 0, (r7 : Int), 0, [], false, [], []⟩ : Msg) (.int .i64 1) (.int .i64 1) (.slice a2 l2 c2) (.slice a3 l3 c3) (.string ⟨⟨h4⟩⟩) (.slice a5 l5 c5) (.slice (some ⟨W13.heap.size, 0, none⟩) 400 400) (.int .i64 (r7 : Int)) (.int .i64 0) (.slice none 0 0) (.bool false) (.slice none 0 0) (.slice none 0 0) := ⟨M1.i0, M1.i1, M1.b2, M1.b3, M1.s4, M1.t5, M1.b6, rfl, M1.i8, M1.b9, M1.o10, M1.c11, M1.b12⟩
      have zz := OS.size
      clear M M1 T Q D OS
      go_upto_region 7 with fail
      generalize W25.setCell ⟨W4.heap.size, 7, none⟩ (.int .i64 (r7 : Int)) = W26 at *
      have T := T1
      have Q := Q1
      have D := D1
      have M := M2
      clear T1 Q1 D1 M2 tc tf
      go_wp2_with fail
      refine (next_M D.d (by omega) (by decide) (by decide)).mono ?_
      rintro e W27 ⟨r8, rfl, er8, hr8, d', b'⟩
      have Er8 := hide er8
      clear er8
      have zW27 := b'.size
      replace T := T.butM b' (by omega)
      replace M := M.kp (dgK.but b' D.sB) neM
      replace Q := Q.butM b' (by omega)
      replace D := D.but b' d'
      clear b' d'
      have tc : W27.cell? ⟨W4.heap.size, 8, none⟩ = some (.int .i64 0) := T.cell 8
      have tf := T.free 8
      have OS := Only.setCell W27 W4.heap.size 8 (.int .i64 (r8 : Int))
      have M1 := M.kp (dgK.onl OS T) neM
      have T1 : RwC (W27.setCell ⟨W4.heap.size, 8, none⟩ (.int .i64 (r8 : Int))) W4.heap.size [.int .i64 1, .int .i64 1, .slice a2 l2 c2, .slice a3 l3 c3, .string ⟨⟨h4⟩⟩, .slice a5 l5 c5, .slice (some ⟨W13.heap.size, 0, none⟩) 400 400, .int .i64 (r7 : Int), .int .i64 (r8 : Int), .slice none 0 0, .bool false, .slice none 0 0, .slice none 0 0] 26 := T.set 8 _
      have Q1 := Q.onl OS (by omega)
      have D1 := D.onl OS (by omega)
      have M2 : MsO (W27.setCell ⟨W4.heap.size, 8, none⟩ (.int .i64 (r8 : Int))) B (⟨1, 1, X2, X3, h4, ps, List.replicate 400 0, (r7 : Int), (r8 : Int), [], false, [], []⟩ : Msg) (.int .i64 1) (.int .i64 1) (.slice a2 l2 c2) (.slice a3 l3 c3) (.string ⟨⟨h4⟩⟩) (.slice a5 l5 c5) (.slice (some ⟨W13.heap.size, 0, none⟩) 400 400) (.int .i64 (r7 : Int)) (.int .i64 (r8 : Int)) (.slice none 0 0) (.bool false) (.slice none 0 0) (.slice none 0 0) := ⟨M1.i0, M1.i1, M1.b2, M1.b3, M1.s4, M1.t5, M1.b6, M1.i7, rfl, M1.b9, M1.o10, M1.c11, M1.b12⟩
      have zz := OS.size
      clear M M1 T Q D OS
      go_upto_region 8 with fail
      generalize W27.setCell ⟨W4.heap.size, 8, none⟩ (.int .i64 (r8 : Int)) = W28 at *
      have T := T1
      have Q := Q1
      have D := D1
      have M := M2
      clear T1 Q1 D1 M2 tc tf
      go_wp2_with fail
      refine (bytes_M D.d 32 (by omega) (by omega)).mono ?_
      rintro e W29 ⟨v', rfl, yb, R', d', b'⟩
      obtain ⟨X9, hX9⟩ : ∃ X, X = byF xs (u5 + 1 + 1 + 1 + 1 + 1 + 1) 32 := ⟨_, rfl⟩
      have yl : X9.length = 32 := by rw [hX9, byF_len]
      rw [← hX9] at R' yb
      have f9 : dgB W29 B v' X9 := dgB.row R' (by omega) yb (by omega)
      obtain ⟨a9, l9, c9, rfl⟩ := f9.form
      have EX9 := hide hX9
      clear R' yl yb hX9
      have zW29 := b'.size
      replace T := T.butM b' (by omega)
      replace M := M.kp (dgK.but b' D.sB) neM
      replace Q := Q.butM b' (by omega)
      replace D := D.but b' d'
      clear b' d'
      have tc : W29.cell? ⟨W4.heap.size, 9, none⟩ = some (.slice none 0 0) := T.cell 9
      have tf := T.free 9
      have OS := Only.setCell W29 W4.heap.size 9 (.slice a9 l9 c9)
      have M1 := M.kp (dgK.onl OS T) neM
      have nf := f9.kp (dgK.onl OS T) (by decide)
      have T1 : RwC (W29.setCell ⟨W4.heap.size, 9, none⟩ (.slice a9 l9 c9)) W4.heap.size [.int .i64 1, .int .i64 1, .slice a2 l2 c2, .slice a3 l3 c3, .string ⟨⟨h4⟩⟩, .slice a5 l5 c5, .slice (some ⟨W13.heap.size, 0, none⟩) 400 400, .int .i64 (r7 : Int), .int .i64 (r8 : Int), .slice a9 l9 c9, .bool false, .slice none 0 0, .slice none 0 0] 26 := T.set 9 _
      have Q1 := Q.onl OS (by omega)
      have D1 := D.onl OS (by omega)
      have M2 : MsO (W29.setCell ⟨W4.heap.size, 9, none⟩ (.slice a9 l9 c9)) B (⟨1, 1, X2, X3, h4, ps, List.replicate 400 0, (r7 : Int), (r8 : Int), X9, false, [], []⟩ : Msg) (.int .i64 1) (.int .i64 1) (.slice a2 l2 c2) (.slice a3 l3 c3) (.string ⟨⟨h4⟩⟩) (.slice a5 l5 c5) (.slice (some ⟨W13.heap.size, 0, none⟩) 400 400) (.int .i64 (r7 : Int)) (.int .i64 (r8 : Int)) (.slice a9 l9 c9) (.bool false) (.slice none 0 0) (.slice none 0 0) := ⟨M1.i0, M1.i1, M1.b2, M1.b3, M1.s4, M1.t5, M1.b6, M1.i7, M1.i8, nf, M1.o10, M1.c11, M1.b12⟩
      have zz := OS.size
      clear M M1 T Q D OS nf
      go_upto_region 9 with fail
      generalize W29.setCell ⟨W4.heap.size, 9, none⟩ (.slice a9 l9 c9) = W30 at *
      have T := T1
      have Q := Q1
      have D := D1
      have M := M2
      clear T1 Q1 D1 M2 tc tf
      go_wp2_with fail
      refine (chance_M D.d (by omega) (by decide) (by decide)).mono ?_
      rintro e W31 ⟨b9, rfl, eb9, d', b'⟩
      have Eb9 := hide eb9
      clear eb9
      have zW31 := b'.size
      replace T := T.butM b' (by omega)
      replace M := M.kp (dgK.but b' D.sB) neM
      replace Q := Q.butM b' (by omega)
      replace D := D.but b' d'
      clear b' d'
      cases b9
      case false =>
        have Cb9 : Hid (¬ (nxF xs (u5 + 1 + 1 + 1 + 1 + 1 + 1 + 1) 8 = 0)) := hide (of_decide_eq_false Eb9.out.symm)
        have RG := T.rangeG
        have THR := Q.thereG
        have ONE := M.rd.one
        have OS := only_setG W31 w.heap.size [.int .i64 1, .int .i64 1, .slice a2 l2 c2, .slice a3 l3 c3, .string ⟨⟨h4⟩⟩, .slice a5 l5 c5, .slice (some ⟨W13.heap.size, 0, none⟩) 400 400, .int .i64 (r7 : Int), .int .i64 (r8 : Int), .slice a9 l9 c9, .bool false, .slice none 0 0, .slice none 0 0] 0
        have RQ : RwC (W31.setCells w.heap.size 0 [.int .i64 1, .int .i64 1, .slice a2 l2 c2, .slice a3 l3 c3, .string ⟨⟨h4⟩⟩, .slice a5 l5 c5, .slice (some ⟨W13.heap.size, 0, none⟩) 400 400, .int .i64 (r7 : Int), .int .i64 (r8 : Int), .slice a9 l9 c9, .bool false, .slice none 0 0, .slice none 0 0]) w.heap.size [.int .i64 1, .int .i64 1, .slice a2 l2 c2, .slice a3 l3 c3, .string ⟨⟨h4⟩⟩, .slice a5 l5 c5, .slice (some ⟨W13.heap.size, 0, none⟩) 400 400, .int .i64 (r7 : Int), .int .i64 (r8 : Int), .slice a9 l9 c9, .bool false, .slice none 0 0, .slice none 0 0] 26 := RwC.all13 Q
        have RR := RQ.rangeG
        have MF := hide (M.kp (dgK.onl OS Q) neM)
        have DF := hide (D.onl OS (by omega))
        clear RQ OS M D Q T
        have EQ : Hid (hdF xs t = ((⟨1, 1, X2, X3, h4, ps, List.replicate 400 0, (r7 : Int), (r8 : Int), X9, false, [], []⟩ : Msg), u5 + 1 + 1 + 1 + 1 + 1 + 1 + 1 + 1)) := by
          show _ = _
          simp only [hdF, heG, ← EX2.out, ← EX3.out, EN4.out, EN5.out, Cb2.out, Er3.out, ← HK3.out, ← EX6.out, Cb4.out, Er7.out, Er8.out, ← EX9.out, Cb9.out, Int.toNat_natCast, if_true, if_false, ite_self, reduceIte]
        go_wp2_with (first | (refine wpList_load_mid rfl 26 (.tmp 3) rfl (W4.heap.size) 0 rfl [.int .i64 1, .int .i64 1, .slice a2 l2 c2, .slice a3 l3 c3, .string ⟨⟨h4⟩⟩, .slice a5 l5 c5, .slice (some ⟨W13.heap.size, 0, none⟩) 400 400, .int .i64 (r7 : Int), .int .i64 (r8 : Int), .slice a9 l9 c9, .bool false, .slice none 0 0, .slice none 0 0] dR RG hdR hrowR iM ?_) | (refine wpList_store_mid rfl 26 (.tmp 2) (.tmp 39) rfl (w.heap.size) 0 #[.int .i64 1, .int .i64 1, .slice a2 l2 c2, .slice a3 l3 c3, .string ⟨⟨h4⟩⟩, .slice a5 l5 c5, .slice (some ⟨W13.heap.size, 0, none⟩) 400 400, .int .i64 (r7 : Int), .int .i64 (r8 : Int), .slice a9 l9 c9, .bool false, .slice none 0 0, .slice none 0 0] rfl rfl THR iM ONE ?_) | fail)
        refine bodyPost_ret (v := .agg #[.int .i64 1, .int .i64 1, .slice a2 l2 c2, .slice a3 l3 c3, .string ⟨⟨h4⟩⟩, .slice a5 l5 c5, .slice (some ⟨W13.heap.size, 0, none⟩) 400 400, .int .i64 (r7 : Int), .int .i64 (r8 : Int), .slice a9 l9 c9, .bool false, .slice none 0 0, .slice none 0 0]) (results_cellG Tryz.results57 _ _ (w.heap.size) _ dR rfl RR hdR hrowR iM) rfl ?_
        exact (POST _ _ _ _ _ _ _ _ _ _ _ _ _ _ _ _ MF DF (by omega) EQ).out
      case true =>
        have Cb9 : Hid ((nxF xs (u5 + 1 + 1 + 1 + 1 + 1 + 1 + 1) 8 = 0)) := hide (of_decide_eq_true Eb9.out.symm)
        go_wp2_with fail
        refine (next_M D.d (by omega) (by decide) (by decide)).mono ?_
        rintro e W32 ⟨r1, rfl, er1, hr1, d', b'⟩
        have Er1 := hide er1
        clear er1
        have zW32 := b'.size
        replace T := T.butM b' (by omega)
        replace M := M.kp (dgK.but b' D.sB) neM
        replace Q := Q.butM b' (by omega)
        replace D := D.but b' d'
        clear b' d'
        have tc : W32.cell? ⟨W4.heap.size, 1, none⟩ = some (.int .i64 1) := T.cell 1
        have tf := T.free 1
        have OS := Only.setCell W32 W4.heap.size 1 (.int .i64 (r1 : Int))
        have M1 := M.kp (dgK.onl OS T) neM
        have T1 : RwC (W32.setCell ⟨W4.heap.size, 1, none⟩ (.int .i64 (r1 : Int))) W4.heap.size [.int .i64 1, .int .i64 (r1 : Int), .slice a2 l2 c2, .slice a3 l3 c3, .string ⟨⟨h4⟩⟩, .slice a5 l5 c5, .slice (some ⟨W13.heap.size, 0, none⟩) 400 400, .int .i64 (r7 : Int), .int .i64 (r8 : Int), .slice a9 l9 c9, .bool false, .slice none 0 0, .slice none 0 0] 26 := T.set 1 _
        have Q1 := Q.onl OS (by omega)
        have D1 := D.onl OS (by omega)
        have M2 : MsO (W32.setCell ⟨W4.heap.size, 1, none⟩ (.int .i64 (r1 : Int))) B (⟨1, (r1 : Int), X2, X3, h4, ps, List.replicate 400 0, (r7 : Int), (r8 : Int), X9, false, [], []⟩ : Msg) (.int .i64 1) (.int .i64 (r1 : Int)) (.slice a2 l2 c2) (.slice a3 l3 c3) (.string ⟨⟨h4⟩⟩) (.slice a5 l5 c5) (.slice (some ⟨W13.heap.size, 0, none⟩) 400 400) (.int .i64 (r7 : Int)) (.int .i64 (r8 : Int)) (.slice a9 l9 c9) (.bool false) (.slice none 0 0) (.slice none 0 0) := ⟨M1.i0, rfl, M1.b2, M1.b3, M1.s4, M1.t5, M1.b6, M1.i7, M1.i8, M1.b9, M1.o10, M1.c11, M1.b12⟩
        have zz := OS.size
        clear M M1 T Q D OS
        go_upto_region 11 with fail
        generalize W32.setCell ⟨W4.heap.size, 1, none⟩ (.int .i64 (r1 : Int)) = W33 at *
        have T := T1
        have Q := Q1
        have D := D1
        have M := M2
        clear T1 Q1 D1 M2 tc tf
        have RG := T.rangeG
        have THR := Q.thereG
        have ONE := M.rd.one
        have OS := only_setG W33 w.heap.size [.int .i64 1, .int .i64 (r1 : Int), .slice a2 l2 c2, .slice a3 l3 c3, .string ⟨⟨h4⟩⟩, .slice a5 l5 c5, .slice (some ⟨W13.heap.size, 0, none⟩) 400 400, .int .i64 (r7 : Int), .int .i64 (r8 : Int), .slice a9 l9 c9, .bool false, .slice none 0 0, .slice none 0 0] 0
        have RQ : RwC (W33.setCells w.heap.size 0 [.int .i64 1, .int .i64 (r1 : Int), .slice a2 l2 c2, .slice a3 l3 c3, .string ⟨⟨h4⟩⟩, .slice a5 l5 c5, .slice (some ⟨W13.heap.size, 0, none⟩) 400 400, .int .i64 (r7 : Int), .int .i64 (r8 : Int), .slice a9 l9 c9, .bool false, .slice none 0 0, .slice none 0 0]) w.heap.size [.int .i64 1, .int .i64 (r1 : Int), .slice a2 l2 c2, .slice a3 l3 c3, .string ⟨⟨h4⟩⟩, .slice a5 l5 c5, .slice (some ⟨W13.heap.size, 0, none⟩) 400 400, .int .i64 (r7 : Int), .int .i64 (r8 : Int), .slice a9 l9 c9, .bool false, .slice none 0 0, .slice none 0 0] 26 := RwC.all13 Q
        have RR := RQ.rangeG
        have MF := hide (M.kp (dgK.onl OS Q) neM)
        have DF := hide (D.onl OS (by omega))
        clear RQ OS M D Q T
        have EQ : Hid (hdF xs t = ((⟨1, (r1 : Int), X2, X3, h4, ps, List.replicate 400 0, (r7 : Int), (r8 : Int), X9, false, [], []⟩ : Msg), u5 + 1 + 1 + 1 + 1 + 1 + 1 + 1 + 1 + 1)) := by
          show _ = _
          simp only [hdF, heG, ← EX2.out, ← EX3.out, EN4.out, EN5.out, Cb2.out, Er3.out, ← HK3.out, ← EX6.out, Cb4.out, Er7.out, Er8.out, ← EX9.out, Cb9.out, Er1.out, Int.toNat_natCast, if_true, if_false, ite_self, reduceIte]
        go_wp2_with (first | (refine wpList_load_mid rfl 26 (.tmp 3) rfl (W4.heap.size) 0 rfl [.int .i64 1, .int .i64 (r1 : Int), .slice a2 l2 c2, .slice a3 l3 c3, .string ⟨⟨h4⟩⟩, .slice a5 l5 c5, .slice (some ⟨W13.heap.size, 0, none⟩) 400 400, .int .i64 (r7 : Int), .int .i64 (r8 : Int), .slice a9 l9 c9, .bool false, .slice none 0 0, .slice none 0 0] dR RG hdR hrowR iM ?_) | (refine wpList_store_mid rfl 26 (.tmp 2) (.tmp 39) rfl (w.heap.size) 0 #[.int .i64 1, .int .i64 (r1 : Int), .slice a2 l2 c2, .slice a3 l3 c3, .string ⟨⟨h4⟩⟩, .slice a5 l5 c5, .slice (some ⟨W13.heap.size, 0, none⟩) 400 400, .int .i64 (r7 : Int), .int .i64 (r8 : Int), .slice a9 l9 c9, .bool false, .slice none 0 0, .slice none 0 0] rfl rfl THR iM ONE ?_) | fail)
        refine bodyPost_ret (v := .agg #[.int .i64 1, .int .i64 (r1 : Int), .slice a2 l2 c2, .slice a3 l3 c3, .string ⟨⟨h4⟩⟩, .slice a5 l5 c5, .slice (some ⟨W13.heap.size, 0, none⟩) 400 400, .int .i64 (r7 : Int), .int .i64 (r8 : Int), .slice a9 l9 c9, .bool false, .slice none 0 0, .slice none 0 0]) (results_cellG Tryz.results57 _ _ (w.heap.size) _ dR rfl RR hdR hrowR iM) rfl ?_
        exact (POST _ _ _ _ _ _ _ _ _ _ _ _ _ _ _ _ MF DF (by omega) EQ).out
end Go.Proofs.YtmmbkkfjiaoeiaaGreat
namespace Go.Proofs.YtmmbkkfjiaoeiaaGreat
open Go Go.RowKit
set_option maxRecDepth 100000 in
theorem convT (w : World) (l : List UInt8) : ∃ (c : Nat) (w' : World), (convert 9 22 (.string ⟨⟨l⟩⟩)).run Tryz.prog w = .ok (.slice (some ⟨w.heap.size, 0, none⟩) l.length c) w' ∧ Rd w' w.heap.size (some ⟨w.heap.size, 0, none⟩) .u8 (txL l) ∧ l.length ≤ c ∧ Below w.heap.size w w' := by
  refine ⟨_, _, Lib.run_convert_string_bytes w 9 22 5 ⟨⟨l⟩⟩ Tryz.underlying9 Tryz.underlying22 Tryz.underlying5, fun _ => ⟨0, rfl, fun i hi => ?_⟩, grownCap_ge w _ 0 5, ⟨rfl, rfl, rfl, by rw [Lib.bytesWorld_size]; omega, fun b hb => Lib.bytesWorld_at_old w 5 _ b hb⟩⟩
  rw [txL_len] at hi
  rw [Nat.zero_add, Lib.bytesWorld_cell w 5 ⟨⟨l⟩⟩ i hi]
  unfold txL
  rw [List.getD_eq_getElem?_getD, List.getD_eq_getElem?_getD, List.getElem?_map]
  have h : l[i]? = some l[i] := List.getElem?_eq_getElem hi
  rw [h]
  simp
theorem wpList_convT {P : Program} (w : World) {ops : Array Oper} {rest : List Oper} {o : Oper} {a : Act} {Q : Exit → Act → World → Prop} (hgd : o.guard = none) (src dst : TypeId) (x : Operand) (ho : o.op = .convert src dst x) (v : Value) (hx : a.eval x = v)
    (v' : Value) (w' : World) (hr : (convert src dst v).run P w = .ok v' w') (h : wpList P ops Q rest (a.put o.dst v') w') : wpList P ops Q (o :: rest) a w :=
  wpList_plain hgd fun _ hK => by
    unfold Oper.wp execOp
    simp only [ho, hx]
    rw [Sem.run_bind, hr]
    exact hK _ _ h
theorem shL_is (l : List UInt8) (h : l.length ≤ 255) : shL l = ((l.length : Int) :: txL l) := by
  unfold shL bigL
  simp [List.range_succ]
  omega
set_option maxRecDepth 100000 in
set_option maxHeartbeats 1000000 in
theorem l13ShortR_any (w : World) (g : Nat) (a : Option Addr) (c : Nat) (xs : List Int) (h : Rd w g a .u8 xs) (hz : a = none → c = 0) (hl : xs.length ≤ 255) :
    Calls Tryz.prog 66 #[.slice a xs.length c] w fun e w' => ∃ v, e = .returned v ∧ RowB w' w.heap.size v ((xs.length : Int) :: xs) ∧ Below w.heap.size w w' := by
  obtain ⟨i0, hi, hz0, hz1, hz2⟩ := info_parts Tryz.info5
  have n0 : Below w.heap.size w (w.alloc (.cells #[.int .u8 (xs.length : Int)] 5)) := (Below.refl _ _).alloc (Nat.le_refl _) _
  obtain ⟨v1, w1, hap, R1, n1⟩ := append_any (P := Tryz.prog) (w.alloc (.cells #[.int .u8 (xs.length : Int)] 5)) 22 i0 Tryz.underlying22 hi hz0 hz1 hz2 w.heap.size w.heap.size _ _ (RowB.lit1 w (xs.length : Int)) g a c xs (h.up n0) hz (by simp; omega) (Nat.le_refl _) n0.size
  have N1 := n0.trans n1
  rw [List.cons_append, List.nil_append] at R1
  clear n0 n1 h
  go_enter Tryz.func66, Tryz.ntmps66
  go_wp2_with (at_builtin; refine Lib.wpList_append_run _ rfl _ _ 22 22 rfl _ _ rfl rfl _ _ hap ?_)
  go_ret
  exact ⟨_, rfl, R1, N1⟩
end Go.Proofs.YtmmbkkfjiaoeiaaGreat
namespace Go.Proofs.YtmmbkkfjiaoeiaaGreat
open Go Go.RowKit
set_option maxHeartbeats 1000000 in
theorem l13Short_any (w : World) (l : Lst) (h : LstR w l) (hl : l.xs.length ≤ 255) :
    Calls Tryz.prog 66 #[.slice l.a l.xs.length l.c] w (BodP w ((l.xs.length : Int) :: l.xs)) := by
  obtain ⟨i0, hi, hz0, hz1, hz2⟩ := info_parts Tryz.info5
  have n0 : Below w.heap.size w (w.alloc (.cells #[.int .u8 (l.xs.length : Int)] 5)) := (Below.refl _ _).alloc (Nat.le_refl _) _
  obtain ⟨v1, w1, hap, R1, n1⟩ := append_any (P := Tryz.prog) (w.alloc (.cells #[.int .u8 (l.xs.length : Int)] 5)) 22 i0 Tryz.underlying22 hi hz0 hz1 hz2 w.heap.size w.heap.size _ _ (RowB.lit1 w (l.xs.length : Int)) l.g l.a l.c l.xs (h.up n0).r h.z (by simp; omega) (Nat.le_refl _) n0.size
  have N1 := n0.trans n1
  rw [List.cons_append, List.nil_append] at R1
  clear n0 n1 h
  go_enter Tryz.func66, Tryz.ntmps66
  go_wp2_with (at_builtin; refine Lib.wpList_append_run _ rfl _ _ 22 22 rfl _ _ rfl rfl _ _ hap ?_)
  go_ret
  exact ⟨⟨_, rfl, R1⟩, N1⟩
set_option maxHeartbeats 1000000 in
theorem l13Long_any (w : World) (l : Lst) (h : LstR w l) :
    Calls Tryz.prog 68 #[.slice l.a l.xs.length l.c] w (BodP w (loL l.xs)) := by
  obtain ⟨i0, hi, hz0, hz1, hz2⟩ := info_parts Tryz.info5
  have m := h.m
  have BG := hide (l1BigB_any w (l.xs.length : Int) 2 (by omega) (by omega) (by decide))
  go_enter Tryz.func68, Tryz.ntmps68
  go_wp2_with fail
  refine BG.out.mono ?_
  rintro r w1 ⟨rfl, R1, n1⟩
  obtain ⟨v2, w2, hap, R2, n2⟩ := append_any (P := Tryz.prog) w1 22 i0 Tryz.underlying22 hi hz0 hz1 hz2 w.heap.size w.heap.size _ _ R1 l.g l.a l.c l.xs (h.up n1).r h.z (by rw [bigL_len]; omega) (Nat.le_refl _) n1.size
  have N2 := n1.trans n2
  clear n1 n2 h BG R1
  go_wp2_with (at_builtin; refine Lib.wpList_append_run _ rfl _ _ 22 22 rfl _ _ rfl rfl _ _ hap ?_)
  go_ret
  exact ⟨⟨_, rfl, R2⟩, N2⟩
theorem LstR.of_row {w : World} {b : Nat} {v : Value} {xs : List Int} (R : RowB w b v xs) (m : xs.length ≤ 1048576) : ∃ l : Lst, v = .slice l.a l.xs.length l.c ∧ l.xs = xs ∧ LstR w l := by
  obtain ⟨a, c, g, e, r, z, _, _⟩ := R.rd
  refine ⟨⟨g, a, c, xs⟩, e, rfl, ⟨r, z, m, ?_⟩⟩
  by_cases h0 : 0 < xs.length
  · obtain ⟨off, ha, hc⟩ := r h0
    exact .inr (block_lt_of_cell (hc 0 h0))
  · exact .inl (by show xs.length = 0; omega)
set_option maxRecDepth 100000 in
set_option maxHeartbeats 1000000 in
theorem l13List_any (w : World) (g : Nat) (a : Option Addr) (c : Nat) (ls : List (List UInt8)) (H : TxsR w g a ls) (hs : ∀ l ∈ ls, l.length ≤ 255) :
    Calls Tryz.prog 67 #[.slice a ls.length c] w (BodP w (lsL ls)) := by
  obtain ⟨i0, hi, hz0, hz1, hz2⟩ := info_parts Tryz.info5
  have hn := H.n
  have SUM := hide (sh_sum ls 1048576 H.z)
  have HS := hide hs
  have n1 : Below w.heap.size w (w.alloc (.cells #[.int .u8 (ls.length : Int)] 5)) := (Below.refl _ _).alloc (Nat.le_refl _) _
  have R1 := RowB.lit1 w (ls.length : Int)
  clear hs
  go_enter Tryz.func67, Tryz.ntmps67
  go_wp2
  generalize w.alloc (.cells #[.int .u8 (ls.length : Int)] 5) = wa at *
  go_loopw [3, 4] (fun x i wr => ∃ k : Nat, k ≤ ls.length ∧ i = .int .i64 k ∧ RowB wr w.heap.size x ([(ls.length : Int)] ++ ((ls.map shL).take k).flatten) ∧ Below w.heap.size w wr) (fun _ i _ => ls.length - (intOf i).toNat)
  case atStart => exact ⟨0, Nat.zero_le _, rfl, by simpa using R1, n1⟩
  case round =>
    obtain ⟨k, hk, rfl, R, hN⟩ := hrel
    clear R1 n1
    by_cases hlt : k < ls.length
    · obtain ⟨off, ea, hc⟩ := (H.up hN).r (by omega)
      have t0 : (k : Int) < (ls.length : Int) := by omega
      have c1 := hc k hlt
      have ST := hide (sh_take ls k hlt)
      have z8 : (ls.getD k []).length ≤ 255 := HS.out _ (by rw [List.getD_eq_getElem?_getD, List.getElem?_eq_getElem hlt]; exact List.getElem_mem hlt)
      have SK : ([(ls.length : Int)] ++ ((ls.map shL).take k).flatten).length ≤ 1073741824 := by
        have := SUM.out k
        have : k * (1048576 + 1) ≤ 8 * (1048576 + 1) := Nat.mul_le_mul_right _ (by omega)
        simp only [List.length_append, List.length_cons, List.length_nil]
        omega
      subst ea
      clear hc SUM HS
      generalize ls.getD k [] = x at *
      simp only [tx] at c1
      obtain ⟨cv, w2, hcv, rb, cb, n2⟩ := convT wr x
      have N2 := nxt hN n2
      have tl := txL_len x
      have LX : LstR w2 ⟨wr.heap.size, some ⟨wr.heap.size, 0, none⟩, cv, txL x⟩ := ⟨rb, by simp, by show (txL x).length ≤ _; omega, by
        by_cases h0 : 0 < (txL x).length
        · obtain ⟨o, _, hc⟩ := rb h0
          exact .inr (block_lt_of_cell (hc 0 h0))
        · exact .inl (by show (txL x).length = 0; omega)⟩
      have CS : Hid (Calls Tryz.prog 66 #[.slice (some ⟨wr.heap.size, 0, none⟩) x.length cv] w2 (BodP w2 (shL x))) := by
        have C0 := l13Short_any w2 _ LX (by show (txL x).length ≤ 255; omega)
        show Calls _ _ _ _ _
        rw [shL_is x z8, ← tl]
        exact C0
      clear tl cb LX rb
      go_wp2_with (refine wpList_convT wr rfl 9 22 (.tmp 19) rfl _ rfl _ _ hcv ?_)
      refine CS.out.mono ?_
      rintro r w3 ⟨⟨v3, rfl, R3⟩, n3⟩
      obtain ⟨l3, e3, x3, L3⟩ := LstR.of_row R3 (by rw [shL_len]; omega)
      subst e3
      have RR := (R.up n2).up n3
      have N3 := nxt N2 n3
      obtain ⟨v4, w4, hap, R4, n4⟩ := append_any (P := Tryz.prog) w3 22 i0 Tryz.underlying22 hi hz0 hz1 hz2 w.heap.size w.heap.size _ _ RR l3.g l3.a l3.c l3.xs L3.r L3.z (by have := L3.m; omega) (Nat.le_refl _) N3.size
      rw [x3, List.append_assoc, ← ST.out] at R4
      have N4 := N3.trans n4
      clear CS n4 hN ST c1 R RR R3 N2 N3 n2 n3 L3 x3 hcv
      go_wp2_with (at_builtin; refine Lib.wpList_append_run _ rfl _ _ 22 22 rfl _ _ rfl rfl _ _ hap ?_)
      clear hap
      go_roundw
      case rel => exact ⟨k + 1, by omega, by go_num, R4, N4⟩
      case measure => simp [intOf]; omega
    · obtain rfl : k = ls.length := by omega
      rw [List.take_of_length_le (by simp)] at R
      clear H SUM
      go_wp2
      go_ret
      exact ⟨⟨_, rfl, R⟩, hN⟩
end Go.Proofs.YtmmbkkfjiaoeiaaGreat
