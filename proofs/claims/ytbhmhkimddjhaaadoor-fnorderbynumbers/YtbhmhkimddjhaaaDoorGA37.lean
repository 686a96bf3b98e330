import Derived.Test.YtbhmhkimddjhaaaDoorGA36
import Derived.Test.YtbhmhkimddjhaaaDoorGA8
/-
  natural.divide.
-/
namespace Go.Proofs.YtbhmhkimddjhaaaDoor
set_option maxRecDepth 100000
open Go.RowKit

set_option maxHeartbeats 2000000 in
theorem divide_any (w : World) (g g' : Nat) (a b : Option Addr) (ca cb : Nat) (zs ms : List Int) (ha : Rd w g a .u32 zs) (hb : Rd w g' b .u32 ms) (hz : Lmb zs) (hm : Lmb ms) (tz : Top zs) (tm : Top ms) (hn : zs.length ≤ 1024) (hk : ms.length ≤ 1024) (h0 : 0 < ms.length) :
    Calls Tryd.prog 67 #[.slice a zs.length ca, .slice b ms.length cb] w fun e w' => DivRes w' e (lval zs) (lval ms) ∧ Below w.heap.size w w' := by
  have zb := (lval_bd hz).1
  go_enter Tryd.func67, Tryd.ntmps67
  go_wp2_with fail
  refine (compare_any w g g' a b ca cb zs ms ha hb hz hm tz tm (by omega) (by omega)).mono ?_
  rintro e w1 ⟨rfl, n1⟩
  have ha1 := ha.up n1
  have hb1 := hb.up n1
  by_cases hlt : lval zs < lval ms
  · have t1 : decide (sg (lval zs) (lval ms) < 0) = true := by rw [sg_lt hlt]; decide
    generalize sg (lval zs) (lval ms) = s at *
    have D := hide (div_of1 (A := lval zs) (D := lval ms) (q := 0) (r := lval zs) (by omega) zb hlt)
    go_wp2_with fail
    refine (clone_any w1 g a ca zs ha1 (by omega)).mono ?_
    rintro e w2 ⟨rfl, B2, n2⟩
    have N2 := nxt n1 n2
    go_wp2
    go_ret2
    exact ⟨⟨[], zs, none, _, 0, zs.length, 0, w1.heap.size, rfl, ⟨Own.nil _ _ _ _, lmb_nil, fun h => absurd h (by simp), Nat.le_refl _, by omega⟩, ⟨B2.own0, hz, tz, Nat.le_refl _, by omega⟩, D.out.1, D.out.2⟩, N2⟩
  · have t1 : decide (sg (lval zs) (lval ms) < 0) = false := by unfold sg; simp; split <;> (try split) <;> omega
    generalize sg (lval zs) (lval ms) = s at *
    have hml : ms.length ≤ zs.length := by
      by_cases h : zs.length < ms.length
      · have := lval_lt_of_len hz hm tm h
        omega
      · omega
    by_cases h1 : ms.length = 1
    · have t2 : ((ms.length : Int) == 1) = true := by simp [h1]
      obtain ⟨d, rfl⟩ : ∃ d, ms = [d] := by
        match ms, h1 with
        | [d], _ => exact ⟨d, rfl⟩
      obtain ⟨off, rfl, hc⟩ := hb1 (by simp)
      have c1 := hc 0 (by simp)
      have d0 := hm 0
      have dt := tm (by simp)
      simp only [List.getD_cons_zero, List.length_singleton, Nat.add_zero] at c1 d0 dt
      have lv : lval [d] = d := by simp [lval]
      have LV := hide lv
      have dt' : d ≠ 0 := by simpa using dt
      have d1 : 1 ≤ d := by omega
      clear hc hb lv h1 dt dt' hlt
      go_wp2_with fail
      refine (divideByLimb_any w1 g a ca zs d ha1 hz (by omega) d1 d0.2).mono ?_
      rintro e w2 ⟨⟨qs, rs, a1, a2, c1', c2, g1, g2, rfl, R1, R2, v1, v2⟩, n2⟩
      have N2 := nxt n1 n2
      have V := hide (And.intro v1 v2)
      clear v1 v2
      go_wp2
      go_ret2
      exact ⟨⟨qs, rs, a1, a2, c1', c2, g1, g2, rfl, R1, R2, by rw [LV.out]; exact V.out.1, by rw [LV.out]; exact V.out.2⟩, N2⟩
    · have t2 : ((ms.length : Int) == 1) = false := beq_eq_false_iff_ne.2 (by omega)
      obtain ⟨n, hl⟩ : ∃ n : Nat, ms.length = n + 2 := ⟨ms.length - 2, by omega⟩
      have DL := divideLong_any w1 g g' a b ca cb n zs ms ha1 hb1 hz hm tm hl hn hml
      rw [← hl] at DL
      have HDL := hide DL
      clear DL hl hlt h1
      go_wp2_with fail
      refine (unhide HDL).mono ?_
      rintro e w2 ⟨⟨qs, rs, a1, a2, c1', c2, g1, g2, rfl, R1, R2, v1, v2⟩, n2⟩
      have N2 := nxt n1 n2
      have V := hide (And.intro v1 v2)
      clear v1 v2
      go_wp2
      go_ret2
      exact ⟨⟨qs, rs, a1, a2, c1', c2, g1, g2, rfl, R1, R2, V.out.1, V.out.2⟩, N2⟩
end Go.Proofs.YtbhmhkimddjhaaaDoor
/-
  Results of three cells: good, quotient, rest.
-/
namespace Go.Proofs.YtbhmhkimddjhaaaDoor
set_option maxRecDepth 100000
open Go.RowKit

theorem Canon.pos {ys : List Int} {v : Int} (h : Canon ys v) (hv : 0 < v) : 0 < ys.length := by
  cases ys with
  | nil => have := h.2.1; rw [bval_nil] at this; omega
  | cons _ _ => simp
theorem Canon.nil_of {ys : List Int} (h : Canon ys 0) : ys = [] := h.uniq ⟨byt_zeros 0, rfl, fun h => absurd h (by simp)⟩
theorem lval_pos {zs : List Int} (h : Lmb zs) (t : Top zs) (h0 : 0 < zs.length) : 0 < lval zs := Int.lt_of_lt_of_le (Int.pow_pos (by decide)) (lval_ge h t h0)
theorem lval_zero {zs : List Int} (h : Lmb zs) (t : Top zs) (h0 : lval zs = 0) : zs.length = 0 := by
  by_cases k : 0 < zs.length
  · have := lval_pos h t k
    omega
  · omega

/-- A block of three cells, known and free. -/
structure Three (w : World) (p : Nat) (x y z : Value) : Prop where
  c0 : w.cell? ⟨p, 0, none⟩ = some x
  c1 : w.cell? ⟨p, 1, none⟩ = some y
  c2 : w.cell? ⟨p, 2, none⟩ = some z
  f0 : w.frozen? ⟨p, 0, none⟩ = false
  f1 : w.frozen? ⟨p, 1, none⟩ = false
  f2 : w.frozen? ⟨p, 2, none⟩ = false
theorem Three.lt {w : World} {p : Nat} {x y z : Value} (h : Three w p x y z) : p < w.heap.size := block_lt_of_cell h.c0
theorem Three.of_block {w w' : World} {p : Nat} {x y z : Value} (h : Three w p x y z) (hb : w'.heap[p]? = w.heap[p]?) : Three w' p x y z :=
  ⟨(World.cell?_of_block (a := ⟨p, 0, none⟩) hb).trans h.c0, (World.cell?_of_block (a := ⟨p, 1, none⟩) hb).trans h.c1, (World.cell?_of_block (a := ⟨p, 2, none⟩) hb).trans h.c2, (World.frozen?_of_block (a := ⟨p, 0, none⟩) hb).trans h.f0, (World.frozen?_of_block (a := ⟨p, 1, none⟩) hb).trans h.f1, (World.frozen?_of_block (a := ⟨p, 2, none⟩) hb).trans h.f2⟩
theorem Three.up {w w' : World} {p : Nat} {x y z : Value} (h : Three w p x y z) (n : Below w.heap.size w w') : Three w' p x y z := h.of_block (n.block p h.lt)
theorem Three.only {w w' : World} {p g : Nat} {x y z : Value} (h : Three w p x y z) (n : Only g w w') (hne : p ≠ g) : Three w' p x y z := h.of_block (n.block p hne)
theorem Three.new (w : World) (x y z : Value) (t : TypeId) : Three (w.alloc (.cells #[x, y, z] t)) w.heap.size x y z :=
  ⟨by simp [World.cell?_alloc_at], by simp [World.cell?_alloc_at], by simp [World.cell?_alloc_at], by simp [World.frozen?_alloc_at], by simp [World.frozen?_alloc_at], by simp [World.frozen?_alloc_at]⟩
/-- The result is laid into its cells: all else stands. -/
theorem three_laid (w2 : World) (p : Nat) (u v x : Value) : Only p w2 (((w2.setCell ⟨p, 0, none⟩ u).setCell ⟨p, 1, none⟩ v).setCell ⟨p, 2, none⟩ x) :=
  ((Only.setCell w2 p 0 u).trans (Only.setCell _ p 1 v)).trans (Only.setCell _ p 2 x)

/-- What is answered for a quotient. -/
def QuoOf (A : Prop) (x d : Int) (t : Bool) (qs rs : List Int) : Prop := (A ∧ t = true ∧ Canon qs (x / d) ∧ Canon rs (x % d)) ∨ (¬ A ∧ t = false ∧ qs = [] ∧ rs = [])
theorem QuoOf.uniq {A : Prop} {x d : Int} {t t' : Bool} {qs rs qs' rs' : List Int} (h : QuoOf A x d t qs rs) (k : QuoOf A x d t' qs' rs') : t = t' ∧ qs = qs' ∧ rs = rs' := by
  rcases h with ⟨h1, rfl, h2, h3⟩ | ⟨h1, rfl, rfl, rfl⟩
  · rcases k with ⟨k1, rfl, k2, k3⟩ | ⟨k1, rfl, rfl, rfl⟩
    · exact ⟨rfl, h2.uniq k2, h3.uniq k3⟩
    · exact absurd h1 k1
  · rcases k with ⟨k1, rfl, k2, k3⟩ | ⟨k1, rfl, rfl, rfl⟩
    · exact absurd k1 h1
    · exact ⟨rfl, rfl, rfl⟩
/-- A struct of a truth and two slices that the call made is handed back. -/
def NewQuo (B : Nat) (w' : World) (e : Ending) (t : Bool) (qs rs : List Int) : Prop :=
  ∃ (a1 : Option Addr) (c1 g1 : Nat) (a2 : Option Addr) (c2 g2 : Nat), e = .returned (.agg #[.bool t, .slice a1 qs.length c1, .slice a2 rs.length c2]) ∧ (Own w' g1 a1 .u8 qs ∧ (a1 = none → c1 = 0) ∧ qs.length ≤ c1 ∧ B ≤ g1) ∧ (Own w' g2 a2 .u8 rs ∧ (a2 = none → c2 = 0) ∧ rs.length ≤ c2 ∧ B ≤ g2) ∧ (0 < qs.length → g1 < g2)
theorem NewQuo.none {B : Nat} {w : World} (h : B ≤ w.heap.size) : NewQuo B w (.returned (.agg #[.bool false, .slice none 0 0, .slice none 0 0])) false [] [] :=
  ⟨_, 0, w.heap.size, _, 0, w.heap.size, rfl, ⟨Own.nil _ _ _ _, by simp, Nat.zero_le _, h⟩, ⟨Own.nil _ _ _ _, by simp, Nat.zero_le _, h⟩, fun h => absurd h (by simp)⟩

set_option maxHeartbeats 2000000 in
theorem implNumDivide_any (w : World) (g g' : Nat) (a b : Option Addr) (ca cb : Nat) (xs us : List Int) (ha : Rd w g a .u8 xs) (hb : Rd w g' b .u8 us) (hx : Byt xs) (hu : Byt us) :
    Calls Tryd.prog 29 #[.slice a xs.length ca, .slice b us.length cb] w fun e w' => ∃ t qs rs, QuoOf (xs.length ≤ 128 ∧ us.length ≤ 128 ∧ 0 < bval us) (bval xs) (bval us) t qs rs ∧ NewQuo w.heap.size w' e t qs rs ∧ Below w.heap.size w w' := by
  have hal : Below w.heap.size w (w.alloc (.cells #[.bool false, .slice none 0 0, .slice none 0 0] 37)) := (Below.refl _ _).alloc (Nat.le_refl _) _
  by_cases h1 : xs.length ≤ 128
  · have t1 : decide ((xs.length : Int) ≤ 128) = true := by simp; omega
    by_cases h2 : us.length ≤ 128
    · have t2 : decide ((us.length : Int) ≤ 128) = true := by simp; omega
      go_enter Tryd.func29, Tryd.ntmps29
      go_wp2_with (go_at_call 62; go_in)
      have T0 := Three.new w (.bool false) (.slice none 0 0) (.slice none 0 0) 37
      have s0 : (w.alloc (.cells #[.bool false, .slice none 0 0, .slice none 0 0] 37)).heap.size = w.heap.size + 1 := by simp
      generalize w.alloc (.cells #[.bool false, .slice none 0 0, .slice none 0 0] 37) = wa at *
      have S0 := hide s0
      clear s0
      refine (readNatural_any wa g' b cb us (hb.up hal) hu h2).mono ?_
      rintro e w1 ⟨ds, c1, l1, m1, rfl, o1, b1, p1, v1, n1, s1⟩
      have V1 := hide v1
      have N1 := nxt hal n1
      have T1 := T0.up n1
      clear v1
      by_cases h3 : 0 < bval us
      · have dp : 0 < ds.length := by
          by_cases k : 0 < ds.length
          · exact k
          · have e0 : ds = [] := List.eq_nil_of_length_eq_zero (by omega)
            have := V1.out
            rw [e0] at this
            simp [lval] at this
            omega
        have t3 : ((ds.length : Int) == 0) = false := beq_eq_false_iff_ne.2 (by omega)
        go_wp2_with fail
        refine (readNatural_any w1 g a ca xs (ha.up N1) hx h1).mono ?_
        rintro e w2 ⟨zs, c2, l2, m2, rfl, o2, b2, p2, v2, n2, s2⟩
        have V2 := hide v2
        clear v2
        have o1a := o1.up n2
        go_wp2_with fail
        refine (divide_any w2 _ _ _ _ c2 c1 zs ds o2.rd o1a.rd b2 b1 p2 p1 (by omega) (by omega) dp).mono ?_
        rintro e w3 ⟨⟨qs, rs, a3, a4, c3, c4, g3, g4, rfl, R3, R4, v3, v4⟩, n3⟩
        have V3 := hide v3
        have V4 := hide v4
        clear v3 v4 o1 o1a o2
        go_wp2_with fail
        refine (bytes_any1 w3 g3 a3 c3 qs R3.1.rd R3.2.1 (by have := R3.2.2.2.1; have := R3.2.2.2.2; omega)).mono ?_
        rintro e w4 ⟨ys, Cy, ⟨a5, c5, g5, rfl, o5, p51, p52, p53⟩, n4⟩
        rw [V3.out, V1.out, V2.out] at Cy
        have R4a := R4.up n4
        go_wp2_with fail
        refine (bytes_any1 w4 g4 a4 c4 rs R4a.1.rd R4a.2.1 (by have := R4a.2.2.2.1; have := R4a.2.2.2.2; omega)).mono ?_
        rintro e w5 ⟨vs, Cv, ⟨a6, c6, g6, rfl, o6, p61, p62, p63⟩, n5⟩
        rw [V4.out, V1.out, V2.out] at Cv
        have n15 := nxt (nxt (nxt (nxt n1 n2) n3) n4) n5
        obtain ⟨k1, k2, k3, k4, k5, k6⟩ := T0.up n15
        have z0 := S0.out
        have z1 := n1.size
        have z2 := n2.size
        have z3 := n3.size
        have z4 := n4.size
        have lt : 0 < ys.length → g5 < g6 := fun h => by have := o5.rd.lt h; omega
        have O := three_laid w5 w.heap.size (.bool true) (.slice a5 ys.length c5) (.slice a6 vs.length c6)
        have N6 := (nxt hal n15).trans (O.below (Nat.le_refl _))
        have o5a := (o5.up n5).only O (fun _ => by omega)
        have o6a := o6.only O (fun _ => by omega)
        have y5 : w.heap.size ≤ g5 := by omega
        have y6 : w.heap.size ≤ g6 := by omega
        clear n1 n2 n3 n4 n5 n15 N1 T0 T1 z0 O o5 o6 R3 R4 R4a s1 s2
        go_wp2
        exact bodyPost_ret (v := .agg #[.bool true, .slice a5 ys.length c5, .slice a6 vs.length c6]) (by simp [results, Tryd.results29, go_sem, k1, k2, k3]) rfl ⟨true, ys, vs, .inl ⟨⟨h1, h2, h3⟩, rfl, Cy, Cv⟩, ⟨a5, c5, g5, a6, c6, g6, rfl, ⟨o5a, p51, p52, y5⟩, ⟨o6a, p61, p62, y6⟩, lt⟩, N6⟩
      · have h0 : bval us = 0 := by have := bval_nonneg hu; omega
        have d0 := lval_zero b1 p1 (by rw [V1.out, h0])
        have t3 : ((ds.length : Int) == 0) = true := by simp [d0]
        obtain ⟨k1, k2, k3, k4, k5, k6⟩ := T1
        clear h0 d0
        go_wp2
        have O := three_laid w1 w.heap.size (.bool false) (.slice none 0 0) (.slice none 0 0)
        exact bodyPost_ret (v := .agg #[.bool false, .slice none 0 0, .slice none 0 0]) (by simp [results, Tryd.results29, go_sem, k1, k2, k3]) rfl ⟨false, [], [], .inr ⟨by omega, rfl, rfl, rfl⟩, NewQuo.none (by have := N1.size; simpa using this), N1.trans (O.below (Nat.le_refl _))⟩
    · have t2 : decide ((us.length : Int) ≤ 128) = false := by simp; omega
      go_enter Tryd.func29, Tryd.ntmps29
      go_wp2
      exact bodyPost_ret (v := .agg #[.bool false, .slice none 0 0, .slice none 0 0]) (by simp [results, Tryd.results29, go_sem]) rfl ⟨false, [], [], .inr ⟨by omega, rfl, rfl, rfl⟩, NewQuo.none (by simp), hal⟩
  · have t1 : decide ((xs.length : Int) ≤ 128) = false := by simp; omega
    go_enter Tryd.func29, Tryd.ntmps29
    go_wp2
    exact bodyPost_ret (v := .agg #[.bool false, .slice none 0 0, .slice none 0 0]) (by simp [results, Tryd.results29, go_sem]) rfl ⟨false, [], [], .inr ⟨by omega, rfl, rfl, rfl⟩, NewQuo.none (by simp), hal⟩
end Go.Proofs.YtbhmhkimddjhaaaDoor
