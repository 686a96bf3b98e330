/-
  natural.modulo, natural.power, impl.NumPower.
-/
import Derived.Test.YthdjopkmlcdoeaaThr
import Derived.Test.YthdjopkmlcdoeaaNum9
import Derived.Test.YthdjopkmlcdoeaaMulI
namespace Go.Proofs.Ythdjopkmlcdoeaa
open Go.RowKit

/-- A number as limbs. -/
def NewLim (w' : World) (e : Ending) (v : Int) : Prop := ∃ (zs : List Int) (a : Option Addr) (c g : Nat), e = .returned (.slice a zs.length c) ∧ NRow w' g a c zs ∧ lval zs = v

set_option maxHeartbeats 1000000 in
theorem modulo_any (w : World) (g g' : Nat) (a b : Option Addr) (ca cb : Nat) (zs ms : List Int) (ha : Rd w g a .u32 zs) (hb : Rd w g' b .u32 ms) (hz : Lmb zs) (hm : Lmb ms) (tz : Top zs) (tm : Top ms) (hn : zs.length ≤ 1024) (hk : ms.length ≤ 1024) (h0 : 0 < ms.length) :
    Calls Try.prog 83 #[.slice a zs.length ca, .slice b ms.length cb] w fun e w' => NewLim w' e (lval zs % lval ms) ∧ Below w.heap.size w w' := by
  go_enter Try.func83, Try.ntmps83
  go_wp2_with fail
  refine (divide_any w g g' a b ca cb zs ms ha hb hz hm tz tm hn hk h0).mono ?_
  rintro e w1 ⟨⟨qs, rs, a3, a4, c3, c4, g3, g4, rfl, R3, R4, v3, v4⟩, n1⟩
  have V := hide v4
  clear v3 v4
  go_wp2
  go_ret
  exact ⟨⟨rs, a4, c4, g4, rfl, R4, V.out⟩, n1⟩

theorem and1u32 (x : Int) (h0 : 0 ≤ x) (h1 : x < 4294967296) : bits BinOp.and IntKind.u32 x 1 = x % 2 :=
  bits_mask .u32 32 (by decide) (fun n a b => by rw [IntKind.wrap_u32]; omega) 1 (by decide) x h0 h1
theorem mul_len {zs ms ps : List Int} (hz : Lmb zs) (hm : Lmb ms) (hp : Lmb ps) (tp : Top ps) (hv : lval ps = lval zs * lval ms) : ps.length ≤ zs.length + ms.length :=
  lval_len hp tp (by rw [hv]; exact mul_lt_pow (by decide) (lval_bd hz).1 (lval_bd hz).2 (lval_bd hm).1 (lval_bd hm).2)
theorem mod_len {zs ms : List Int} {v : Int} (hz : Lmb zs) (tz : Top zs) (hm : Lmb ms) (h0 : 0 < lval ms) (hv : lval zs = v % lval ms) : zs.length ≤ ms.length :=
  lval_len hz tz (by rw [hv]; exact Int.lt_trans (Int.emod_lt_of_pos _ h0) (lval_bd hm).2)

set_option maxRecDepth 100000 in
set_option maxHeartbeats 4000000 in
theorem power_any (w : World) (g g' g'' : Nat) (a b d : Option Addr) (ca cb cd : Nat) (zs es ms : List Int) (ha : Rd w g a .u32 zs) (hb : Rd w g' b .u32 es) (hd : Rd w g'' d .u32 ms) (hz : Lmb zs) (he : Lmb es) (hm : Lmb ms) (tz : Top zs) (tm : Top ms) (hn : zs.length ≤ 256) (hn2 : es.length ≤ 256) (hk : ms.length ≤ 256) (h0 : 0 < ms.length) (E : Nat) (hE : (E : Int) = lval es) :
    Calls Try.prog 67 #[.slice a zs.length ca, .slice b es.length cb, .slice d ms.length cd] w fun e w' => NewLim w' e (lval zs ^ E % lval ms) ∧ Below w.heap.size w w' := by
  have m0 := lval_pos hm tm h0
  have HE := hide hE
  clear hE
  go_enter Try.func67, Try.ntmps67
  go_wp2_with fail
  refine (modulo_any w g g'' a d ca cd zs ms ha hd hz hm tz tm (by omega) (by omega) h0).mono ?_
  rintro e w1 ⟨⟨bs, a1, c1, g1, rfl, R1, v1⟩, n1⟩
  have V1 := hide v1
  have L1 := mod_len R1.2.1 R1.2.2.1 hm m0 v1
  clear v1
  have hal : Below w1.heap.size w1 (w1.alloc (.cells #[.int .u32 1] 69)) := (Below.refl _ _).alloc (Nat.le_refl _) _
  have hO : Blk (w1.alloc (.cells #[.int .u32 1] 69)) w1.heap.size .u32 [1] := ⟨69, heap_alloc_new w1 _⟩
  go_wp2_with fail
  generalize w1.alloc (.cells #[.int .u32 1] 69) = w2 at *
  have N2 := nxt n1 hal
  have lm1 : Lmb [1] := fun i => by match i with | 0 => simp | i + 1 => simp
  have tp1 : Top [1] := fun _ => by simp
  refine (modulo_any w2 w1.heap.size g'' (some ⟨w1.heap.size, 0, none⟩) d 1 cd [1] ms hO.own0.rd (hd.up N2) lm1 hm tp1 tm (by simp) (by omega) h0).mono ?_
  rintro e w3 ⟨⟨os, a3, c3, g3, rfl, R3, v3⟩, n3⟩
  have V3 : Hid (lval os = lval zs ^ (E / 2 ^ (32 * es.length)) % lval ms) := by
    show _ = _
    have : E / 2 ^ (32 * es.length) = 0 := Nat.div_eq_of_lt (by have := (lval_bd he).2; rw [← HE.out, p32_2] at this; exact_mod_cast this)
    rw [this, v3]
    simp [lval]
  have L3 := mod_len R3.2.1 R3.2.2.1 hm m0 v3
  have N3 := nxt N2 n3
  have R1a := (R1.up hal).up n3
  clear v3 R1 hal hO n1 n3 N2 lm1 tp1
  go_wp2
  go_loopw [8, 9] (fun q i wr => ∃ (k : Nat) (ws : List Int) (aa : Option Addr) (c gg : Nat), k ≤ 32 * es.length ∧ i = .int .i64 ((k : Int) - 1) ∧ q = .slice aa ws.length c ∧ NRow wr gg aa c ws ∧ ws.length ≤ ms.length ∧ Hid (lval ws = lval zs ^ (E / 2 ^ k) % lval ms) ∧ Below w3.heap.size w3 wr) (fun _ i _ => (intOf i + 1).toNat)
  case atStart => exact ⟨32 * es.length, os, a3, c3, g3, Nat.le_refl _, by go_num, rfl, R3, L3, V3, Below.refl _ _⟩
  case round =>
    obtain ⟨k, ws, aa, c, gg, hk', rfl, rfl, RA, LA, VA, hN⟩ := hrel
    clear R3 V3 L3
    have hb1 := (hb.up N3).up hN
    have hd1 := (hd.up N3).up hN
    have R1b := R1a.up hN
    by_cases hlt : 0 < k
    · obtain ⟨j, rfl⟩ : ∃ j, k = j + 1 := ⟨k - 1, by omega⟩
      rw [show (((j + 1 : Nat) : Int) - 1) = (j : Int) by omega]
      have B := nbit HE.out (lbit he j)
      have H2 := half_of E j
      have eb := he (j / 32)
      have S := hide (show lval ws * lval ws % lval ms = lval zs ^ (2 * (E / 2 ^ (j + 1))) % lval ms by rw [VA.out, pow_sq])
      have al := RA.2.2.2
      clear VA
      go_wp2_with fail
      refine (mul_any wr gg gg aa aa c c ws ws RA.1.rd RA.1.rd RA.2.1 RA.2.1 (by omega) (by omega)).mono ?_
      rintro e w4 ⟨⟨ps, c4, l4, m4, rfl, o4, b4, p4, v4⟩, n4⟩
      have P4 := mul_len RA.2.1 RA.2.1 b4 p4 v4
      have V4 := hide v4
      clear v4
      go_wp2_with fail
      refine (modulo_any w4 _ g'' _ d c4 cd ps ms o4.rd (hd1.up n4) b4 hm p4 tm (by omega) (by omega) h0).mono ?_
      rintro e w5 ⟨⟨ss, a5, c5, g5, rfl, R5, v5⟩, n5⟩
      have L5 := mod_len R5.2.1 R5.2.2.1 hm m0 v5
      have V5 : Hid (lval ss = lval zs ^ (2 * (E / 2 ^ (j + 1))) % lval ms) := by show _ = _; rw [v5, V4.out, S.out]
      have N5 := nxt (nxt hN n4) n5
      have hb2 := hb1.up (nxt n4 n5)
      have hd2 := hd1.up (nxt n4 n5)
      have R1c := R1b.up (nxt n4 n5)
      clear v5 V4 o4 b4 p4 RA n4 n5 S hb1 hd1 R1b hN al LA P4 l4 m4
      obtain ⟨off, rfl, hc⟩ := hb2 (by omega)
      have ce := hc (j / 32) (by omega)
      obtain ⟨p, hp⟩ : ∃ p : Nat, j / 32 = p := ⟨_, rfl⟩
      obtain ⟨r, hr⟩ : ∃ r : Nat, j % 32 = r := ⟨_, rfl⟩
      rw [hp] at ce eb B
      rw [hr] at B
      have p1 : (j : Int) / 32 = (p : Int) := by omega
      have p2 : (p : Int) < (es.length : Int) := by omega
      have p3 : (j : Int) % 32 = (r : Int) := by omega
      have pr := p2pos r
      have r31 : r ≤ 31 := by omega
      generalize es.getD p 0 = x at *
      have v0 : 0 ≤ x / 2 ^ r := Int.ediv_nonneg eb.1 (by omega)
      have v1 : x / 2 ^ r < 4294967296 := Int.lt_of_le_of_lt (Int.ediv_le_self _ eb.1) eb.2
      have e1 := and1u32 _ v0 v1
      clear hc hp hr
      by_cases hbit : x / 2 ^ r % 2 = 1
      · have tb : (x / 2 ^ r % 2 == 1) = true := by simp [hbit]
        have S := hide (show lval ss * lval bs % lval ms = lval zs ^ (E / 2 ^ j) % lval ms by
          rw [V5.out, V1.out, show lval zs % lval ms = lval zs ^ 1 % lval ms by rw [Int.pow_succ, Int.pow_zero, Int.one_mul], pow_on, show 2 * (E / 2 ^ (j + 1)) + 1 = E / 2 ^ j by omega])
        clear hbit B H2 V5
        go_wp2_with fail
        refine (mul_any w5 g5 g1 a5 a1 c5 c1 ss bs R5.1.rd R1c.1.rd R5.2.1 R1c.2.1 (by omega) (by omega)).mono ?_
        rintro e w6 ⟨⟨ps', c6, l6, m6, rfl, o6, b6, p6, v6⟩, n6⟩
        have P6 := mul_len R5.2.1 R1c.2.1 b6 p6 v6
        have V6 := hide v6
        clear v6
        go_wp2_with fail
        refine (modulo_any w6 _ g'' _ d c6 cd ps' ms o6.rd (hd2.up n6) b6 hm p6 tm (by omega) (by omega) h0).mono ?_
        rintro e w7 ⟨⟨ss', a7, c7, g7, rfl, R7, v7⟩, n7⟩
        have L7 := mod_len R7.2.1 R7.2.2.1 hm m0 v7
        have V7 : Hid (lval ss' = lval zs ^ (E / 2 ^ j) % lval ms) := by show _ = _; rw [v7, V6.out, S.out]
        have N7 := nxt (nxt N5 n6) n7
        clear v7 V6 o6 b6 p6 n6 n7 R5 S N5 L5 P6 hb2 hd2
        go_wp2
        go_roundw
        case rel => exact ⟨j, ss', a7, c7, g7, by omega, rfl, rfl, R7, L7, V7, N7⟩
        case measure => simp [intOf]
      · have tb : (x / 2 ^ r % 2 == 1) = false := beq_eq_false_iff_ne.2 hbit
        have V7 : Hid (lval ss = lval zs ^ (E / 2 ^ j) % lval ms) := by
          show _ = _
          rw [V5.out, show 2 * (E / 2 ^ (j + 1)) = E / 2 ^ j by omega]
        clear hbit B H2 V5
        go_wp2
        go_roundw
        case rel => exact ⟨j, ss, a5, c5, g5, by omega, rfl, rfl, R5, L5, V7, N5⟩
        case measure => simp [intOf]
    · obtain rfl : k = 0 := by omega
      have V7 : Hid (lval ws = lval zs ^ E % lval ms) := by
        have := VA.out
        rwa [Nat.pow_zero, Nat.div_one] at this
      have NN := nxt N3 hN
      clear VA
      go_wp2
      go_ret
      exact ⟨⟨ws, aa, c, gg, rfl, RA, V7.out⟩, NN⟩
end Go.Proofs.Ythdjopkmlcdoeaa
