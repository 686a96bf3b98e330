/-
  Results of three cells: good, quotient, rest.
-/
import Derived.Test.YthdjopkmlcdoeaaDivS
import Derived.Test.YthdjopkmlcdoeaaDivN
namespace Go.Proofs.Ythdjopkmlcdoeaa
open Go.RowKit

theorem Canon.pos {ys : List Int} {v : Int} (h : Canon ys v) (hv : 0 < v) : 0 < ys.length := by
  cases ys with
  | nil => have := h.2.1; rw [bval_nil] at this; omega
  | cons _ _ => simp
theorem Canon.nil_of {ys : List Int} (h : Canon ys 0) : ys = [] := h.uniq ⟨byt_zeros 0, rfl, fun h => absurd h (by simp)⟩
theorem lval_pos {zs : List Int} (h : Lmb zs) (t : Top zs) (h0 : 0 < zs.length) : 0 < lval zs := Int.lt_of_lt_of_le (Int.pow_pos (by decide)) (lval_ge h t h0)
theorem lval_zero {zs : List Int} (h : Lmb zs) (t : Top zs) (h0 : lval zs = 0) : zs.length = 0 := by
  by_cases k : 0 < zs.length
  · have := lval_pos h t k
    omega
  · omega

/-- A block of three cells, known and free. -/
structure Three (w : World) (p : Nat) (x y z : Value) : Prop where
  c0 : w.cell? ⟨p, 0, none⟩ = some x
  c1 : w.cell? ⟨p, 1, none⟩ = some y
  c2 : w.cell? ⟨p, 2, none⟩ = some z
  f0 : w.frozen? ⟨p, 0, none⟩ = false
  f1 : w.frozen? ⟨p, 1, none⟩ = false
  f2 : w.frozen? ⟨p, 2, none⟩ = false
theorem Three.lt {w : World} {p : Nat} {x y z : Value} (h : Three w p x y z) : p < w.heap.size := block_lt_of_cell h.c0
theorem Three.of_block {w w' : World} {p : Nat} {x y z : Value} (h : Three w p x y z) (hb : w'.heap[p]? = w.heap[p]?) : Three w' p x y z :=
  ⟨(World.cell?_of_block (a := ⟨p, 0, none⟩) hb).trans h.c0, (World.cell?_of_block (a := ⟨p, 1, none⟩) hb).trans h.c1, (World.cell?_of_block (a := ⟨p, 2, none⟩) hb).trans h.c2, (World.frozen?_of_block (a := ⟨p, 0, none⟩) hb).trans h.f0, (World.frozen?_of_block (a := ⟨p, 1, none⟩) hb).trans h.f1, (World.frozen?_of_block (a := ⟨p, 2, none⟩) hb).trans h.f2⟩
theorem Three.up {w w' : World} {p : Nat} {x y z : Value} (h : Three w p x y z) (n : Below w.heap.size w w') : Three w' p x y z := h.of_block (n.block p h.lt)
theorem Three.only {w w' : World} {p g : Nat} {x y z : Value} (h : Three w p x y z) (n : Only g w w') (hne : p ≠ g) : Three w' p x y z := h.of_block (n.block p hne)
theorem Three.new (w : World) (x y z : Value) (t : TypeId) : Three (w.alloc (.cells #[x, y, z] t)) w.heap.size x y z :=
  ⟨by simp [World.cell?_alloc_at], by simp [World.cell?_alloc_at], by simp [World.cell?_alloc_at], by simp [World.frozen?_alloc_at], by simp [World.frozen?_alloc_at], by simp [World.frozen?_alloc_at]⟩
/-- The result is laid into its cells: all else stands. -/
theorem three_laid (w2 : World) (p : Nat) (u v x : Value) : Only p w2 (((w2.setCell ⟨p, 0, none⟩ u).setCell ⟨p, 1, none⟩ v).setCell ⟨p, 2, none⟩ x) :=
  ((Only.setCell w2 p 0 u).trans (Only.setCell _ p 1 v)).trans (Only.setCell _ p 2 x)

/-- What is answered for a quotient. -/
def QuoOf (A : Prop) (x d : Int) (t : Bool) (qs rs : List Int) : Prop := (A ∧ t = true ∧ Canon qs (x / d) ∧ Canon rs (x % d)) ∨ (¬ A ∧ t = false ∧ qs = [] ∧ rs = [])
theorem QuoOf.uniq {A : Prop} {x d : Int} {t t' : Bool} {qs rs qs' rs' : List Int} (h : QuoOf A x d t qs rs) (k : QuoOf A x d t' qs' rs') : t = t' ∧ qs = qs' ∧ rs = rs' := by
  rcases h with ⟨h1, rfl, h2, h3⟩ | ⟨h1, rfl, rfl, rfl⟩
  · rcases k with ⟨k1, rfl, k2, k3⟩ | ⟨k1, rfl, rfl, rfl⟩
    · exact ⟨rfl, h2.uniq k2, h3.uniq k3⟩
    · exact absurd h1 k1
  · rcases k with ⟨k1, rfl, k2, k3⟩ | ⟨k1, rfl, rfl, rfl⟩
    · exact absurd k1 h1
    · exact ⟨rfl, rfl, rfl⟩
/-- A struct of a truth and two slices that the call made is handed back. -/
def NewQuo (B : Nat) (w' : World) (e : Ending) (t : Bool) (qs rs : List Int) : Prop :=
  ∃ (a1 : Option Addr) (c1 g1 : Nat) (a2 : Option Addr) (c2 g2 : Nat), e = .returned (.agg #[.bool t, .slice a1 qs.length c1, .slice a2 rs.length c2]) ∧ (Own w' g1 a1 .u8 qs ∧ (a1 = none → c1 = 0) ∧ qs.length ≤ c1 ∧ B ≤ g1) ∧ (Own w' g2 a2 .u8 rs ∧ (a2 = none → c2 = 0) ∧ rs.length ≤ c2 ∧ B ≤ g2) ∧ (0 < qs.length → g1 < g2)
theorem NewQuo.none {B : Nat} {w : World} (h : B ≤ w.heap.size) : NewQuo B w (.returned (.agg #[.bool false, .slice none 0 0, .slice none 0 0])) false [] [] :=
  ⟨_, 0, w.heap.size, _, 0, w.heap.size, rfl, ⟨Own.nil _ _ _ _, by simp, Nat.zero_le _, h⟩, ⟨Own.nil _ _ _ _, by simp, Nat.zero_le _, h⟩, fun h => absurd h (by simp)⟩

set_option maxHeartbeats 2000000 in
theorem specNumDivide_any (w : World) (g g' : Nat) (a b : Option Addr) (ca cb : Nat) (xs us : List Int) (ha : Rd w g a .u8 xs) (hb : Rd w g' b .u8 us) (hx : Byt xs) (hu : Byt us) (hb0 : b = none → cb = 0) (hbc : us.length ≤ cb) :
    Calls Try.prog 31 #[.slice a xs.length ca, .slice b us.length cb] w fun e w' => ∃ t qs rs, QuoOf (xs.length ≤ 128 ∧ us.length ≤ 128 ∧ 0 < bval us) (bval xs) (bval us) t qs rs ∧ NewQuo w.heap.size w' e t qs rs ∧ Below w.heap.size w w' := by
  have hal : Below w.heap.size w (w.alloc (.cells #[.bool false, .slice none 0 0, .slice none 0 0] 36)) := (Below.refl _ _).alloc (Nat.le_refl _) _
  by_cases h1 : xs.length ≤ 128
  · have t1 : decide ((xs.length : Int) ≤ 128) = true := by simp; omega
    by_cases h2 : us.length ≤ 128
    · have t2 : decide ((us.length : Int) ≤ 128) = true := by simp; omega
      go_enter Try.func31, Try.ntmps31
      go_wp2_with (go_at_call 46; go_in)
      have T0 := Three.new w (.bool false) (.slice none 0 0) (.slice none 0 0) 36
      have s0 : (w.alloc (.cells #[.bool false, .slice none 0 0, .slice none 0 0] 36)).heap.size = w.heap.size + 1 := by simp
      generalize w.alloc (.cells #[.bool false, .slice none 0 0, .slice none 0 0] 36) = wa at *
      have S0 := hide s0
      clear s0
      refine (l1Trim_any wa g' b cb us (hb.up hal) hu hb0 hbc (by omega)).mono ?_
      rintro e w1 ⟨ds, C, dl, ⟨a1, c1, g1, rfl, o1, q1, q2, q3⟩, n1⟩
      have N1 := nxt hal n1
      have T1 := T0.up n1
      by_cases h3 : 0 < bval us
      · have t3 : ((ds.length : Int) == 0) = false := beq_eq_false_iff_ne.2 (by have := C.pos h3; omega)
        go_wp2_with fail
        refine (l1Div_any w1 g g' a b ca cb xs us (ha.up N1) (hb.up N1) hx hu hb0 hbc (by omega) (by omega) h3).mono ?_
        rintro e w2 ⟨⟨qs, rs, a4, c4, g4, a5, c5, g5, rfl, C4, C5, R4, R5, lt⟩, n2⟩
        have N2 := nxt N1 n2
        obtain ⟨k1, k2, k3, k4, k5, k6⟩ := T1.up n2
        have z1 := n1.size
        have z0 := S0.out
        have O := three_laid w2 w.heap.size (.bool true) (.slice a4 qs.length c4) (.slice a5 rs.length c5)
        have N3 := N2.trans (O.below (Nat.le_refl _))
        have o4 := R4.1.only O (fun _ => by have := R4.2.2.2; omega)
        have o5 := R5.1.only O (fun _ => by have := R5.2.2.2; omega)
        clear n1 n2 N1 N2 T0 T1 z0 O
        go_wp2
        exact bodyPost_ret (v := .agg #[.bool true, .slice a4 qs.length c4, .slice a5 rs.length c5]) (by simp [results, Try.results31, go_sem, k1, k2, k3]) rfl ⟨true, qs, rs, .inl ⟨⟨h1, h2, h3⟩, rfl, C4, C5⟩, ⟨a4, c4, g4, a5, c5, g5, rfl, ⟨o4, R4.2.1, R4.2.2.1, by have := R4.2.2.2; have := hal.size; omega⟩, ⟨o5, R5.2.1, R5.2.2.1, by have := R5.2.2.2; have := hal.size; omega⟩, lt⟩, N3⟩
      · have h0 : bval us = 0 := by have := bval_nonneg hu; omega
        have C0 := C
        rw [h0] at C0
        obtain rfl := C0.nil_of
        obtain ⟨k1, k2, k3, k4, k5, k6⟩ := T1
        have H0 := hide h0
        clear h0 C C0
        go_wp2
        have O := three_laid w1 w.heap.size (.bool false) (.slice none 0 0) (.slice none 0 0)
        exact bodyPost_ret (v := .agg #[.bool false, .slice none 0 0, .slice none 0 0]) (by simp [results, Try.results31, go_sem, k1, k2, k3]) rfl ⟨false, [], [], .inr ⟨by omega, rfl, rfl, rfl⟩, NewQuo.none (by have := N1.size; simpa using this), N1.trans (O.below (Nat.le_refl _))⟩
    · have t2 : decide ((us.length : Int) ≤ 128) = false := by simp; omega
      go_enter Try.func31, Try.ntmps31
      go_wp2
      exact bodyPost_ret (v := .agg #[.bool false, .slice none 0 0, .slice none 0 0]) (by simp [results, Try.results31, go_sem]) rfl ⟨false, [], [], .inr ⟨by omega, rfl, rfl, rfl⟩, NewQuo.none (by simp), hal⟩
  · have t1 : decide ((xs.length : Int) ≤ 128) = false := by simp; omega
    go_enter Try.func31, Try.ntmps31
    go_wp2
    exact bodyPost_ret (v := .agg #[.bool false, .slice none 0 0, .slice none 0 0]) (by simp [results, Try.results31, go_sem]) rfl ⟨false, [], [], .inr ⟨by omega, rfl, rfl, rfl⟩, NewQuo.none (by simp), hal⟩

set_option maxHeartbeats 2000000 in
theorem implNumDivide_any (w : World) (g g' : Nat) (a b : Option Addr) (ca cb : Nat) (xs us : List Int) (ha : Rd w g a .u8 xs) (hb : Rd w g' b .u8 us) (hx : Byt xs) (hu : Byt us) :
    Calls Try.prog 32 #[.slice a xs.length ca, .slice b us.length cb] w fun e w' => ∃ t qs rs, QuoOf (xs.length ≤ 128 ∧ us.length ≤ 128 ∧ 0 < bval us) (bval xs) (bval us) t qs rs ∧ NewQuo w.heap.size w' e t qs rs ∧ Below w.heap.size w w' := by
  have hal : Below w.heap.size w (w.alloc (.cells #[.bool false, .slice none 0 0, .slice none 0 0] 36)) := (Below.refl _ _).alloc (Nat.le_refl _) _
  by_cases h1 : xs.length ≤ 128
  · have t1 : decide ((xs.length : Int) ≤ 128) = true := by simp; omega
    by_cases h2 : us.length ≤ 128
    · have t2 : decide ((us.length : Int) ≤ 128) = true := by simp; omega
      go_enter Try.func32, Try.ntmps32
      go_wp2_with (go_at_call 48; go_in)
      have T0 := Three.new w (.bool false) (.slice none 0 0) (.slice none 0 0) 36
      have s0 : (w.alloc (.cells #[.bool false, .slice none 0 0, .slice none 0 0] 36)).heap.size = w.heap.size + 1 := by simp
      generalize w.alloc (.cells #[.bool false, .slice none 0 0, .slice none 0 0] 36) = wa at *
      have S0 := hide s0
      clear s0
      refine (readNatural_any wa g' b cb us (hb.up hal) hu h2).mono ?_
      rintro e w1 ⟨ds, c1, l1, m1, rfl, o1, b1, p1, v1, n1, s1⟩
      have V1 := hide v1
      have N1 := nxt hal n1
      have T1 := T0.up n1
      clear v1
      by_cases h3 : 0 < bval us
      · have dp : 0 < ds.length := by
          by_cases k : 0 < ds.length
          · exact k
          · have e0 : ds = [] := List.eq_nil_of_length_eq_zero (by omega)
            have := V1.out
            rw [e0] at this
            simp [lval] at this
            omega
        have t3 : ((ds.length : Int) == 0) = false := beq_eq_false_iff_ne.2 (by omega)
        go_wp2_with fail
        refine (readNatural_any w1 g a ca xs (ha.up N1) hx h1).mono ?_
        rintro e w2 ⟨zs, c2, l2, m2, rfl, o2, b2, p2, v2, n2, s2⟩
        have V2 := hide v2
        clear v2
        have o1a := o1.up n2
        go_wp2_with fail
        refine (divide_any w2 _ _ _ _ c2 c1 zs ds o2.rd o1a.rd b2 b1 p2 p1 (by omega) (by omega) dp).mono ?_
        rintro e w3 ⟨⟨qs, rs, a3, a4, c3, c4, g3, g4, rfl, R3, R4, v3, v4⟩, n3⟩
        have V3 := hide v3
        have V4 := hide v4
        clear v3 v4 o1 o1a o2
        go_wp2_with fail
        refine (bytes_any w3 g3 a3 c3 qs R3.1.rd R3.2.1 (by have := R3.2.2.2.1; have := R3.2.2.2.2; omega)).mono ?_
        rintro e w4 ⟨ys, Cy, ⟨a5, c5, g5, rfl, o5, p51, p52, p53⟩, n4⟩
        rw [V3.out, V1.out, V2.out] at Cy
        have R4a := R4.up n4
        go_wp2_with fail
        refine (bytes_any w4 g4 a4 c4 rs R4a.1.rd R4a.2.1 (by have := R4a.2.2.2.1; have := R4a.2.2.2.2; omega)).mono ?_
        rintro e w5 ⟨vs, Cv, ⟨a6, c6, g6, rfl, o6, p61, p62, p63⟩, n5⟩
        rw [V4.out, V1.out, V2.out] at Cv
        have n15 := nxt (nxt (nxt (nxt n1 n2) n3) n4) n5
        obtain ⟨k1, k2, k3, k4, k5, k6⟩ := T0.up n15
        have z0 := S0.out
        have z1 := n1.size
        have z2 := n2.size
        have z3 := n3.size
        have z4 := n4.size
        have lt : 0 < ys.length → g5 < g6 := fun h => by have := o5.rd.lt h; omega
        have O := three_laid w5 w.heap.size (.bool true) (.slice a5 ys.length c5) (.slice a6 vs.length c6)
        have N6 := (nxt hal n15).trans (O.below (Nat.le_refl _))
        have o5a := (o5.up n5).only O (fun _ => by omega)
        have o6a := o6.only O (fun _ => by omega)
        have y5 : w.heap.size ≤ g5 := by omega
        have y6 : w.heap.size ≤ g6 := by omega
        clear n1 n2 n3 n4 n5 n15 N1 T0 T1 z0 O o5 o6 R3 R4 R4a s1 s2
        go_wp2
        exact bodyPost_ret (v := .agg #[.bool true, .slice a5 ys.length c5, .slice a6 vs.length c6]) (by simp [results, Try.results32, go_sem, k1, k2, k3]) rfl ⟨true, ys, vs, .inl ⟨⟨h1, h2, h3⟩, rfl, Cy, Cv⟩, ⟨a5, c5, g5, a6, c6, g6, rfl, ⟨o5a, p51, p52, y5⟩, ⟨o6a, p61, p62, y6⟩, lt⟩, N6⟩
      · have h0 : bval us = 0 := by have := bval_nonneg hu; omega
        have d0 := lval_zero b1 p1 (by rw [V1.out, h0])
        have t3 : ((ds.length : Int) == 0) = true := by simp [d0]
        obtain ⟨k1, k2, k3, k4, k5, k6⟩ := T1
        clear h0 d0
        go_wp2
        have O := three_laid w1 w.heap.size (.bool false) (.slice none 0 0) (.slice none 0 0)
        exact bodyPost_ret (v := .agg #[.bool false, .slice none 0 0, .slice none 0 0]) (by simp [results, Try.results32, go_sem, k1, k2, k3]) rfl ⟨false, [], [], .inr ⟨by omega, rfl, rfl, rfl⟩, NewQuo.none (by have := N1.size; simpa using this), N1.trans (O.below (Nat.le_refl _))⟩
    · have t2 : decide ((us.length : Int) ≤ 128) = false := by simp; omega
      go_enter Try.func32, Try.ntmps32
      go_wp2
      exact bodyPost_ret (v := .agg #[.bool false, .slice none 0 0, .slice none 0 0]) (by simp [results, Try.results32, go_sem]) rfl ⟨false, [], [], .inr ⟨by omega, rfl, rfl, rfl⟩, NewQuo.none (by simp), hal⟩
  · have t1 : decide ((xs.length : Int) ≤ 128) = false := by simp; omega
    go_enter Try.func32, Try.ntmps32
    go_wp2
    exact bodyPost_ret (v := .agg #[.bool false, .slice none 0 0, .slice none 0 0]) (by simp [results, Try.results32, go_sem]) rfl ⟨false, [], [], .inr ⟨by omega, rfl, rfl, rfl⟩, NewQuo.none (by simp), hal⟩
end Go.Proofs.Ythdjopkmlcdoeaa
