/-
  spec.l1Mod, spec.NumPower.
-/
import Derived.Test.YthdjopkmlcdoeaaThr
import Derived.Test.YthdjopkmlcdoeaaNum9
import Derived.Test.YthdjopkmlcdoeaaMulS
namespace Go.Proofs.Ythdjopkmlcdoeaa
open Go.RowKit

/-- A row of bytes of a number. -/
def BRow (w : World) (B g : Nat) (a : Option Addr) (c : Nat) (ys : List Int) (v : Int) : Prop := Own w g a .u8 ys ∧ (a = none → c = 0) ∧ ys.length ≤ c ∧ B ≤ g ∧ Canon ys v
theorem BRow.up {w w' : World} {B g : Nat} {a : Option Addr} {c : Nat} {ys : List Int} {v : Int} (h : BRow w B g a c ys v) (n : Below w.heap.size w w') : BRow w' B g a c ys v := ⟨h.1.up n, h.2⟩
theorem BRow.low {w : World} {B g : Nat} {a : Option Addr} {c : Nat} {ys : List Int} {v : Int} (h : BRow w B g a c ys v) (B' : Nat) (hB : B' ≤ B) : BRow w B' g a c ys v := ⟨h.1, h.2.1, h.2.2.1, by have := h.2.2.2.1; omega, h.2.2.2.2⟩
def NewB (B : Nat) (w' : World) (e : Ending) (v : Int) : Prop := ∃ (ys : List Int) (a : Option Addr) (c g : Nat), e = .returned (.slice a ys.length c) ∧ BRow w' B g a c ys v

set_option maxHeartbeats 1000000 in
theorem l1Mod_any (w : World) (g g' : Nat) (a b : Option Addr) (ca cb : Nat) (xs us : List Int) (ha : Rd w g a .u8 xs) (hb : Rd w g' b .u8 us) (hx : Byt xs) (hu : Byt us) (hb0 : b = none → cb = 0) (hbc : us.length ≤ cb)
    (hn : xs.length ≤ 4096) (hm : us.length ≤ 4096) (h0 : 0 < bval us) :
    Calls Try.prog 65 #[.slice a xs.length ca, .slice b us.length cb] w fun e w' => NewB w.heap.size w' e (bval xs % bval us) ∧ Below w.heap.size w w' := by
  go_enter Try.func65, Try.ntmps65
  go_wp2_with fail
  refine (l1Div_any w g g' a b ca cb xs us ha hb hx hu hb0 hbc hn hm h0).mono ?_
  rintro e w1 ⟨⟨qs, rs, a1, c1, g1, a2, c2, g2, rfl, C1, C2, R1, R2, _⟩, n1⟩
  go_wp2
  go_ret
  exact ⟨⟨rs, a2, c2, g2, rfl, R2.1, R2.2.1, R2.2.2.1, R2.2.2.2, C2⟩, n1⟩

theorem mod_blen {ys ms : List Int} {v : Int} (h : Canon ys (v % bval ms)) (hm : Byt ms) (h0 : 0 < bval ms) : ys.length ≤ ms.length :=
  h.len (Int.lt_trans (Int.emod_lt_of_pos _ h0) (bval_lt hm))
theorem mul_blen {xs ys ps : List Int} (hx : Byt xs) (hy : Byt ys) (h : Canon ps (bval xs * bval ys)) : ps.length ≤ xs.length + ys.length :=
  h.len (mul_lt_pow (by decide) (bval_nonneg hx) (bval_lt hx) (bval_nonneg hy) (bval_lt hy))

set_option maxRecDepth 100000 in
set_option maxHeartbeats 4000000 in
theorem specNumPower_any (w : World) (g g' g'' : Nat) (a b d : Option Addr) (ca cb cd : Nat) (xs us ms : List Int) (ha : Rd w g a .u8 xs) (hb : Rd w g' b .u8 us) (hd : Rd w g'' d .u8 ms) (hx : Byt xs) (hu : Byt us) (hm : Byt ms) (hb0 : b = none → cb = 0) (hbc : us.length ≤ cb) (hd0 : d = none → cd = 0) (hdc : ms.length ≤ cd) :
    Calls Try.prog 38 #[.slice a xs.length ca, .slice b us.length cb, .slice d ms.length cd] w fun e w' => ∃ t zs, NumOf (xs.length ≤ 40 ∧ us.length ≤ 40 ∧ ms.length ≤ 40 ∧ 0 < bval ms) (bval xs ^ (bval us).toNat % bval ms) t zs ∧ NewRes w.heap.size w' e t zs ∧ Below w.heap.size w w' := by
  have hal : Below w.heap.size w (w.alloc (.cells #[.bool false, .slice none 0 0] 31)) := (Below.refl _ _).alloc (Nat.le_refl _) _
  by_cases h1 : xs.length ≤ 40
  · have t1 : decide ((40 : Int) < (xs.length : Int)) = false := by simp; omega
    by_cases h2 : us.length ≤ 40
    · have t2 : decide ((40 : Int) < (us.length : Int)) = false := by simp; omega
      by_cases h3 : ms.length ≤ 40
      · have t3 : decide ((40 : Int) < (ms.length : Int)) = false := by simp; omega
        go_enter Try.func38, Try.ntmps38
        go_wp2_with fail
        have T0 := Two.new w (.bool false) (.slice none 0 0) 31
        have s0 : (w.alloc (.cells #[.bool false, .slice none 0 0] 31)).heap.size = w.heap.size + 1 := by simp
        generalize w.alloc (.cells #[.bool false, .slice none 0 0] 31) = wa at *
        have S0 := hide s0
        clear s0
        refine (l1Trim_any wa g'' d cd ms (hd.up hal) hm hd0 hdc (by omega)).mono ?_
        rintro e w1 ⟨ds, C, dl, ⟨a1, c1, g1, rfl, o1, q1, q2, q3⟩, n1⟩
        have N1 := nxt hal n1
        have T1 := T0.up n1
        by_cases h4 : 0 < bval ms
        · have t4 : ((ds.length : Int) == 0) = false := beq_eq_false_iff_ne.2 (by have := C.pos h4; omega)
          have al2 : Below w1.heap.size w1 (w1.alloc (.cells #[.int .u8 1] 5)) := (Below.refl _ _).alloc (Nat.le_refl _) _
          have hO : Blk (w1.alloc (.cells #[.int .u8 1] 5)) w1.heap.size .u8 [1] := ⟨5, heap_alloc_new w1 _⟩
          clear C o1 q1 q2 q3 dl
          go_wp2_with fail
          generalize w1.alloc (.cells #[.int .u8 1] 5) = w2 at *
          have N2 := nxt N1 al2
          have lm1 : Byt [1] := fun i => by match i with | 0 => simp | i + 1 => simp
          refine (l1Mod_any w2 w1.heap.size g'' (some ⟨w1.heap.size, 0, none⟩) d 1 cd [1] ms hO.own0.rd (hd.up N2) lm1 hm hd0 hdc (by simp) (by omega) h4).mono ?_
          rintro e w3 ⟨⟨os, a3, c3, g3, rfl, R3⟩, n3⟩
          have N3 := nxt N2 n3
          clear lm1
          go_wp2_with fail
          refine (l1Mod_any w3 g g'' a d ca cd xs ms (ha.up N3) (hd.up N3) hx hm hd0 hdc (by omega) (by omega) h4).mono ?_
          rintro e w4 ⟨⟨qs, a4, c4, g4, rfl, R4⟩, n4⟩
          have N4 := nxt N3 n4
          go_wp2_with fail
          refine (l1Trim_any w4 g' b cb us (hb.up N4) hu hb0 hbc (by omega)).mono ?_
          rintro e w5 ⟨ts, C5, l5, ⟨a5, c5, g5, rfl, o5, q51, q52, q53⟩, n5⟩
          have N5 := nxt N4 n5
          have R3a := (R3.up n4).up n5
          have R4a := R4.up n5
          have tb := C5.1
          have z0 := S0.out
          have z1 := n1.size
          have z2 := al2.size
          have z3 := n3.size
          have y3 : w.heap.size < g3 := by have := R3.2.2.2.1; omega
          have n05 := nxt (nxt (nxt (nxt n1 al2) n3) n4) n5
          have T5 := T0.up n05
          have E5 : ((bval us).toNat : Int) = bval ts := by rw [C5.2.1]; exact Int.toNat_of_nonneg (bval_nonneg hu)
          obtain ⟨E, hEE⟩ : ∃ E, (bval us).toNat = E := ⟨_, rfl⟩
          rw [hEE] at E5
          have HE := hide E5
          have HEE := hide hEE
          have R3b := R3a.low (w.heap.size + 1) (by omega)
          have R4b := R4a.low (w.heap.size + 1) (by omega)
          have z5 := N5.size
          have z6 := n05.size
          have zq : w.heap.size + 1 ≤ w5.heap.size := by omega
          clear E5 hEE C5 R3 R4 R3a R4a al2 n1 n3 n4 n5 N1 N2 N3 N4 hO n05 T0 T1 z0 y3
          go_wp2
          go_loopw [7, 8, 10] (fun p q i wr => ∃ (k : Nat) (os qs : List Int) (a3 : Option Addr) (c3 g3 : Nat) (a4 : Option Addr) (c4 g4 : Nat), k ≤ 8 * ts.length ∧ i = .int .i64 (k : Int) ∧ p = .slice a3 os.length c3 ∧ q = .slice a4 qs.length c4 ∧ BRow wr (w.heap.size + 1) g3 a3 c3 os (bval xs ^ (E % 2 ^ k) % bval ms) ∧ BRow wr (w.heap.size + 1) g4 a4 c4 qs (bval xs ^ (2 ^ k) % bval ms) ∧ Below w5.heap.size w5 wr) (fun _ _ i _ => 8 * ts.length - (intOf i).toNat)
          case atStart =>
            refine ⟨0, os, qs, a3, c3, g3, a4, c4, g4, Nat.zero_le _, rfl, rfl, rfl, ?_, ?_, Below.refl _ _⟩
            · rw [Nat.pow_zero, Nat.mod_one, Int.pow_zero]; exact R3b
            · rw [Nat.pow_zero, Int.pow_succ, Int.pow_zero, Int.one_mul]; exact R4b
          case round =>
            clear R3b R4b
            obtain ⟨k, us', qs', b3, d3, h3', b4, d4, h4', hk, rfl, rfl, rfl, R3, R4, hN⟩ := hrel
            have M := nxt N5 hN
            have hd1 := hd.up M
            have o5a := o5.up hN
            have zr := hN.size
            by_cases hlt : k < 8 * ts.length
            · have B := nbit HE.out (bbit tb k)
              have L := low_of E k
              have dg := dig_byt tb (k / 8)
              have LD := l1Digit_any wr g5 a5 c5 ts ((k / 8 : Nat) : Int) o5a.rd tb (by omega) (by omega) (by omega)
              rw [Int.toNat_natCast] at LD
              have HLD := hide LD
              have kx : (k : Int) / 8 = ((k / 8 : Nat) : Int) := by omega
              have kr : (k : Int) % 8 = ((k % 8 : Nat) : Int) := by omega
              have k5 : (k : Int) < (ts.length : Int) * 8 := by omega
              have r7 : k % 8 ≤ 7 := by omega
              generalize k / 8 = p at *
              generalize k % 8 = r at *
              generalize dig ts p = x at *
              have pr := p2pos r
              have v0 : 0 ≤ x / 2 ^ r := Int.ediv_nonneg dg.1 (by omega)
              have v1 : x / 2 ^ r < 256 := Int.lt_of_le_of_lt (Int.ediv_le_self _ dg.1) (by omega)
              have e1 := and1 _ v0 v1
              have l3 := mod_blen R3.2.2.2.2 hm h4
              have l4 := mod_blen R4.2.2.2.2 hm h4
              have C3 := R3.2.2.2.2
              have C4 := R4.2.2.2.2
              have SQ := hide (show bval qs' * bval qs' % bval ms = bval xs ^ 2 ^ (k + 1) % bval ms by rw [C4.2.1, pow_sq, Nat.pow_succ, Nat.mul_comm])
              clear LD
              go_wp2_with fail
              refine (unhide HLD).mono ?_
              rintro e wq ⟨rfl, rfl⟩
              by_cases hbit : x / 2 ^ r % 2 = 1
              · have tb1 : (x / 2 ^ r % 2 == 1) = true := by simp [hbit]
                have OUT := hide (show bval us' * bval qs' % bval ms = bval xs ^ (E % 2 ^ (k + 1)) % bval ms by
                  rw [C3.2.1, C4.2.1, pow_on, show E % 2 ^ k + 2 ^ k = E % 2 ^ (k + 1) by
                    have : E / 2 ^ k % 2 = 1 := by omega
                    rw [L, this, Nat.mul_one]])
                clear hbit B L
                go_wp2_with fail
                refine (l1Mul_any wq h3' h4' b3 b4 d3 d4 us' qs' R3.1.rd R4.1.rd C3.1 C4.1 (by omega) (by omega)).mono ?_
                rintro e x3 ⟨po, CO, ⟨b7, d7, h7', rfl, o7, q71, q72, q73⟩, m3⟩
                have OL := mul_blen C3.1 C4.1 CO
                have COv := hide CO.2.1
                have COb := CO.1
                clear CO
                go_wp2_with fail
                refine (l1Mod_any x3 h7' g'' b7 d d7 cd po ms o7.rd (hd1.up m3) COb hm hd0 hdc (by omega) (by omega) h4).mono ?_
                rintro e x4 ⟨⟨vo, b8, d8, h8', rfl, R8⟩, m4⟩
                rw [COv.out, OUT.out] at R8
                have zy := m3.size
                have R8b := R8.low (w.heap.size + 1) (by omega)
                have m34 := nxt m3 m4
                have N14 := nxt hN m34
                have zz := m34.size
                have R4x := R4.up m34
                have hd3 := hd1.up m34
                clear R8 o7 m3 m4 m34 OUT COv COb OL q71 q72 q73 R3 C3
                go_wp2_with fail
                refine (l1Mul_any x4 h4' h4' b4 b4 d4 d4 qs' qs' R4x.1.rd R4x.1.rd C4.1 C4.1 (by omega) (by omega)).mono ?_
                rintro e x1 ⟨pp, CP, ⟨b5, d5, h5', rfl, o6, q61, q62, q63⟩, m1⟩
                have PL := mul_blen C4.1 C4.1 CP
                have CPv := hide CP.2.1
                have CPb := CP.1
                clear CP
                go_wp2_with fail
                refine (l1Mod_any x1 h5' g'' b5 d d5 cd pp ms o6.rd (hd3.up m1) CPb hm hd0 hdc (by omega) (by omega) h4).mono ?_
                rintro e x2 ⟨⟨vs, b6, d6, h6', rfl, R6⟩, m2⟩
                rw [CPv.out, SQ.out] at R6
                have zx := m1.size
                have R6b := R6.low (w.heap.size + 1) (by omega)
                have NX := nxt (nxt N14 m1) m2
                have R8c := (R8b.up m1).up m2
                clear R6 o6 m1 m2 SQ CPv CPb PL q61 q62 q63 R4 R4x C4 R8b
                go_wp2
                go_roundw
                case rel => exact ⟨k + 1, vo, vs, b8, d8, h8', b6, d6, h6', by omega, by go_num, rfl, rfl, R8c, R6b, NX⟩
                case measure => simp [intOf]; omega
              · have tb1 : (x / 2 ^ r % 2 == 1) = false := beq_eq_false_iff_ne.2 hbit
                have OUT : E % 2 ^ (k + 1) = E % 2 ^ k := by
                  have : E / 2 ^ k % 2 = 0 := by omega
                  rw [L, this, Nat.mul_zero, Nat.add_zero]
                have HOUT := hide OUT
                clear hbit B L OUT
                go_wp2_with fail
                refine (l1Mul_any wq h4' h4' b4 b4 d4 d4 qs' qs' R4.1.rd R4.1.rd C4.1 C4.1 (by omega) (by omega)).mono ?_
                rintro e x1 ⟨pp, CP, ⟨b5, d5, h5', rfl, o6, q61, q62, q63⟩, m1⟩
                have PL := mul_blen C4.1 C4.1 CP
                have CPv := hide CP.2.1
                have CPb := CP.1
                clear CP
                go_wp2_with fail
                refine (l1Mod_any x1 h5' g'' b5 d d5 cd pp ms o6.rd (hd1.up m1) CPb hm hd0 hdc (by omega) (by omega) h4).mono ?_
                rintro e x2 ⟨⟨vs, b6, d6, h6', rfl, R6⟩, m2⟩
                rw [CPv.out, SQ.out] at R6
                have zx := m1.size
                have R6b := R6.low (w.heap.size + 1) (by omega)
                have NX := nxt (nxt hN m1) m2
                have R3c := (R3.up m1).up m2
                clear R6 o6 m1 m2 SQ CPv CPb PL q61 q62 q63 R4 C4 R3 C3
                go_wp2
                go_roundw
                case rel => exact ⟨k + 1, us', vs, b3, d3, h3', b6, d6, h6', by omega, by go_num, rfl, rfl, by rw [HOUT.out]; exact R3c, R6b, NX⟩
                case measure => simp [intOf]; omega
            · obtain rfl : k = 8 * ts.length := by omega
              have EE : E % 2 ^ (8 * ts.length) = E := Nat.mod_eq_of_lt (by have := bval_lt tb; rw [← HE.out, p256_2] at this; exact_mod_cast this)
              rw [EE] at R3
              have kk : (((8 * ts.length : Nat) : Int)) = (ts.length : Int) * 8 := by omega
              have hlast : decide ((ts.length : Int) * 8 < (ts.length : Int) * 8) = false := by simp
              obtain ⟨k1, k2, k3, k4⟩ := T5.up hN
              have C3 := R3.2.2.2.2
              have ol := mod_blen C3 hm h4
              have g0 := R3.2.2.2.1
              rw [← HEE.out] at C3
              rw [kk]
              clear R4 EE kk T5
              go_wp2
              obtain ⟨o9, N9⟩ := two_laid (u := .bool true) (v := .slice b3 us'.length d3) M R3.1 (by omega)
              exact bodyPost_ret (v := .agg #[.bool true, .slice b3 us'.length d3]) (by simp [results, Try.results38, go_sem, k1, k2]) rfl ⟨true, us', .inl ⟨⟨h1, h2, h3, h4⟩, us', C3, .inl ⟨by omega, rfl, rfl⟩⟩, ⟨b3, d3, h3', rfl, o9, R3.2.1, R3.2.2.1, by omega⟩, N9⟩
        · have h0 : bval ms = 0 := by have := bval_nonneg hm; omega
          have C0 := C
          rw [h0] at C0
          obtain rfl := C0.nil_of
          obtain ⟨k1, k2, k3, k4⟩ := T1
          have H0 := hide h0
          clear h0 C C0
          go_wp2
          have O := (Only.setCell w1 w.heap.size 0 (.bool false)).trans (Only.setCell _ w.heap.size 1 (.slice none 0 0))
          exact bodyPost_ret (v := .agg #[.bool false, .slice none 0 0]) (by simp [results, Try.results38, go_sem, k1, k2]) rfl ⟨false, [], .inr ⟨by omega, rfl, rfl⟩, NewRes.none (by have := N1.size; simpa using this), N1.trans (O.below (Nat.le_refl _))⟩
      · have t3 : decide ((40 : Int) < (ms.length : Int)) = true := by simp; omega
        go_enter Try.func38, Try.ntmps38
        go_wp2
        exact bodyPost_ret (v := .agg #[.bool false, .slice none 0 0]) (by simp [results, Try.results38, go_sem]) rfl ⟨false, [], .inr ⟨by omega, rfl, rfl⟩, NewRes.none (by simp), hal⟩
    · have t2 : decide ((40 : Int) < (us.length : Int)) = true := by simp; omega
      go_enter Try.func38, Try.ntmps38
      go_wp2
      exact bodyPost_ret (v := .agg #[.bool false, .slice none 0 0]) (by simp [results, Try.results38, go_sem]) rfl ⟨false, [], .inr ⟨by omega, rfl, rfl⟩, NewRes.none (by simp), hal⟩
  · have t1 : decide ((40 : Int) < (xs.length : Int)) = true := by simp; omega
    go_enter Try.func38, Try.ntmps38
    go_wp2
    exact bodyPost_ret (v := .agg #[.bool false, .slice none 0 0]) (by simp [results, Try.results38, go_sem]) rfl ⟨false, [], .inr ⟨by omega, rfl, rfl⟩, NewRes.none (by simp), hal⟩
end Go.Proofs.Ythdjopkmlcdoeaa
