/-
  The model's inverse: Euclid's algorithm.
-/
import Derived.Test.YtgecfmagpliepaaDoorSpF
import Derived.Test.YtgecfmagpliepaaDoorS2
import Derived.Test.YtgecfmagpliepaaDoorS3
import Derived.Test.YtgecfmagpliepaaDoorFOps
import Derived.Deep.WholeRow
namespace Go.Proofs.YtgecfmagpliepaaDoor
set_option maxRecDepth 100000
open Go.RowKit

/-- What a slice of bytes reads as. -/
def rdl (w : World) : Value → List Int
  | .slice (some ad) n _ => (List.range n).map fun i => match w.cell? ⟨ad.block, ad.off + i, none⟩ with | some (.int _ z) => z | _ => 0
  | _ => []
theorem rdl_of {w : World} {g : Nat} {a : Option Addr} {c : Nat} {ys : List Int} (h : Rd w g a .u8 ys) : rdl w (.slice a ys.length c) = ys := by
  by_cases h0 : 0 < ys.length
  · obtain ⟨off, rfl, hc⟩ := h h0
    refine eq_of_getD (by simp [rdl]) (fun i hi => ?_)
    have hi' : i < ys.length := by simpa [rdl] using hi
    have e : (rdl w (.slice (some ⟨g, off, none⟩) ys.length c)).getD i 0 = match w.cell? ⟨g, off + i, none⟩ with | some (.int _ z) => z | _ => 0 := by simp [rdl, hi']
    rw [e, hc i hi']
  · obtain rfl : ys = [] := List.eq_nil_of_length_eq_zero (by omega)
    cases a <;> rfl

/-- Where Euclid's algorithm stands. -/
structure EuTo (x r0 r1 t0 t1 : Int) : Prop where
  r0p : 0 < r0
  r0P : r0 ≤ PP
  r1p : 0 ≤ r1
  r1l : r1 < r0
  t0p : 0 ≤ t0 ∧ t0 < PP
  t1p : 0 ≤ t1 ∧ t1 < PP
  e0 : t0 * x % PP = r0 % PP
  e1 : t1 * x % PP = r1 % PP
  dv : ∀ d : Int, d ∣ r0 → d ∣ r1 → d ∣ PP ∧ d ∣ x
theorem EuTo.zero {x : Int} (h0 : 0 ≤ x) (h1 : x < PP) : EuTo x PP x 0 1 :=
  ⟨by decide, Int.le_refl _, h0, h1, by decide, by decide, by simp, by simp, fun d a b => ⟨a, b⟩⟩
theorem EuTo.step {x r0 r1 t0 t1 : Int} (h : EuTo x r0 r1 t0 t1) (hr : 0 < r1) : EuTo x r1 (r0 % r1) t1 ((t0 + PP - (r0 / r1 * t1) % PP) % PP) := by
  have hm0 := Int.emod_nonneg r0 (show r1 ≠ 0 by omega)
  have hm1 := Int.emod_lt_of_pos r0 hr
  have hr0 := h.r0P
  have hl := h.r1l
  refine ⟨hr, by omega, hm0, hm1, h.t1p, ⟨Int.emod_nonneg _ (by decide), Int.emod_lt_of_pos _ (by decide)⟩, h.e1, ?_, ?_⟩
  · have hd : r0 % r1 = r0 - r0 / r1 * r1 := by
      have := Int.emod_add_mul_ediv r0 r1
      rw [Int.mul_comm] at this
      omega
    have k : (t0 + PP - (r0 / r1 * t1) % PP) % PP = (t0 - r0 / r1 * t1) % PP := by
      rw [Int.sub_emod, Int.add_emod_right, Int.emod_emod, ← Int.sub_emod]
    rw [k, hd, Int.mul_emod, Int.emod_emod, ← Int.mul_emod, Int.sub_mul, Int.sub_emod, h.e0, Int.mul_assoc, Int.mul_emod (r0 / r1), h.e1, ← Int.mul_emod, ← Int.sub_emod]
  · intro d d1 d2
    refine h.dv d ?_ d1
    have := Int.emod_add_mul_ediv r0 r1
    rw [← this]
    exact Int.dvd_add d2 (Int.dvd_trans d1 (Int.dvd_mul_right _ _))
theorem EuTo.done {x r0 t0 t1 : Int} (h : EuTo x r0 0 t0 t1) (hx : 0 < x) (hx1 : x < PP) : r0 = 1 := by
  obtain ⟨d1, d2⟩ := h.dv r0 (Int.dvd_refl _) (Int.dvd_zero _)
  have hp := h.r0p
  obtain ⟨n, rfl⟩ := Int.eq_ofNat_of_zero_le (show 0 ≤ r0 by omega)
  have d1' : n ∣ P25519 := Int.natCast_dvd_natCast.1 d1
  rcases prm_P.2 n d1' with e | e
  · rw [e]; rfl
  · exfalso
    have hx' := Int.le_of_dvd hx d2
    rw [e] at hx'
    have : ((P25519 : Nat) : Int) = PP := rfl
    omega

theorem canon_one : Canon [1] 1 := by
  refine ⟨fun i => ?_, rfl, fun _ => by decide⟩
  match i with
  | 0 => decide
  | i + 1 => simp
theorem canon_nil : Canon [] 0 := ⟨byt_nil, rfl, fun h => absurd h (by simp)⟩
theorem pbytes_canon : Canon pbytes PP := ⟨pbytes_byt, pbytes_val, fun _ => by decide⟩
theorem canon_pos {ys : List Int} {v : Int} (h : Canon ys v) : 0 < ys.length ↔ 0 < v := by
  constructor
  · intro h0
    have := h.ge h0
    have hp := p256_pos (ys.length - 1)
    omega
  · intro hv
    by_cases e : ys.length = 0
    · have : ys = [] := List.eq_nil_of_length_eq_zero e
      subst this
      have := h.2.1
      rw [bval_nil] at this
      omega
    · omega
theorem canon_len32 {ys : List Int} {v : Int} (h : Canon ys v) (hv : v ≤ PP) : ys.length ≤ 32 := h.len (Int.lt_of_le_of_lt hv (by decide))
/-- A row of a number, read. -/
def RN (w : World) (B : Nat) (s : Value) (v : Int) : Prop := ∃ (g : Nat) (a : Option Addr) (c : Nat) (ys : List Int), s = .slice a ys.length c ∧ BRow w B g a c ys v
theorem RN.up {w w' : World} {B : Nat} {s : Value} {v : Int} (h : RN w B s v) (n : Below w.heap.size w w') : RN w' B s v := by
  obtain ⟨g, a, c, ys, e, b⟩ := h
  exact ⟨g, a, c, ys, e, b.up n⟩

set_option maxHeartbeats 8000000 in
theorem l2Euclid_any (w : World) (g : Nat) (a : Option Addr) (c : Nat) (xs : List Int) (ha : Rd w g a .u8 xs) (hb : Byt xs) (hl : xs.length ≤ 64) :
    Calls Tryd.prog 46 #[.slice a xs.length c] w fun e w' => ∃ t, NewB w.heap.size w' e t ∧ (bval xs % PP = 0 → t = 0) ∧ (0 < bval xs % PP → (0 ≤ t ∧ t < PP) ∧ t * (bval xs % PP) % PP = 1) ∧ Below w.heap.size w w' := by
  have x0 := Int.emod_nonneg (bval xs) (show PP ≠ 0 by decide)
  have x1 := Int.emod_lt_of_pos (bval xs) (show (0 : Int) < PP by decide)
  go_enter Tryd.func46, Tryd.ntmps46
  go_wp2_with fail
  refine (l2Prime_any w).mono ?_
  rintro e w1 ⟨rfl, B1, n1⟩
  go_wp2_with fail
  refine (l1Mod_any w1 g _ a _ c 32 xs pbytes (ha.up n1) B1.own0.rd hb pbytes_byt (by simp) (by decide) (by omega) (by decide) (by rw [pbytes_val]; decide)).mono ?_
  rintro e w2 ⟨⟨y2, a2, c2, g2, rfl, b2⟩, n2⟩
  rw [pbytes_val] at b2
  obtain ⟨x, hx⟩ : ∃ x, x = bval xs % PP := ⟨_, rfl⟩
  have HX := hide hx
  rw [← hx] at b2 x0 x1
  clear hx
  have N2 := nxt n1 n2
  have B2 := B1.up n2
  have hs2 : w.heap.size < w2.heap.size := B2.lt
  clear B1 ha
  have n3 : Below w2.heap.size w2 (w2.alloc (.cells #[] 5)) := (Below.refl _ _).alloc (Nat.le_refl _) _
  have s3 : (w2.alloc (.cells #[] 5)).heap.size = w2.heap.size + 1 := by simp
  go_wp2
  generalize w2.alloc (.cells #[] 5) = w3 at *
  have n4 : Below w3.heap.size w3 (w3.alloc (.cells #[.int .u8 1] 5)) := (Below.refl _ _).alloc (Nat.le_refl _) _
  have B4 : Blk (w3.alloc (.cells #[.int .u8 1] 5)) w3.heap.size .u8 [1] := ⟨5, by rw [heap_alloc_last]; rfl⟩
  rw [s3] at B4
  generalize w3.alloc (.cells #[.int .u8 1] 5) = w4 at *
  have N3 := nxt N2 n3
  have N4 := nxt N3 n4
  have z2 := N2.size
  have P4 := (B2.up n3).up n4
  have K0 : RN w4 w.heap.size (.slice (some ⟨w.heap.size, 0, none⟩) pbytes.length 32) PP := ⟨_, _, _, _, rfl, P4.own0, by simp, by decide, Nat.le_refl _, pbytes_canon⟩
  have K1 : RN w4 w.heap.size (.slice a2 y2.length c2) x := RN.up (RN.up ⟨_, _, _, _, rfl, b2.low _ n1.size⟩ n3) n4
  have K2 : RN w4 w.heap.size (.slice (some ⟨w2.heap.size, 0, none⟩) 0 0) 0 := ⟨w2.heap.size, _, _, [], rfl, Own.nil _ _ _ _, by simp, by simp, z2, canon_nil⟩
  have K3 : RN w4 w.heap.size (.slice (some ⟨w2.heap.size + 1, 0, none⟩) 1 1) 1 := ⟨_, _, _, [1], rfl, B4.own0, by simp, by simp, by omega, canon_one⟩
  clear B2 B4 b2 n1 n2 n3 n4 N2 N3 s3 hs2
  go_loopw [4, 5, 6, 7] (fun s4 s5 s6 s7 wr => ∃ r0 r1 t0 t1, EuTo x r0 r1 t0 t1 ∧ RN wr w.heap.size s4 r0 ∧ RN wr w.heap.size s5 r1 ∧ RN wr w.heap.size s6 t0 ∧ RN wr w.heap.size s7 t1 ∧ Blk wr w.heap.size .u8 pbytes ∧ Below w.heap.size w wr) (fun _ s5 _ _ wr => (bval (rdl wr s5)).toNat)
  case atStart => exact ⟨PP, x, 0, 1, EuTo.zero x0 x1, K0, K1, K2, K3, P4, N4⟩
  case round =>
    clear K0 K1 K2 K3 P4 N4
    obtain ⟨r0, r1, t0, t1, hE, ⟨g4, a4, c4, y4, rfl, b4⟩, ⟨g5, a5, c5, y5, rfl, b5⟩, ⟨g6, a6, c6, y6, rfl, b6⟩, ⟨g7, a7, c7, y7, rfl, b7⟩, hP, hN⟩ := hrel
    have M0 : Hid (bval (rdl wr (.slice a5 y5.length c5)) = r1) := by show _ = _; rw [rdl_of b5.1.rd]; exact b5.2.2.2.2.2.1
    have l4 := canon_len32 b4.2.2.2.2 hE.r0P
    have l5 := canon_len32 b5.2.2.2.2 (by have := hE.r1l; have := hE.r0P; omega)
    have l6 := canon_len32 b6.2.2.2.2 (by have := hE.t0p; omega)
    have l7 := canon_len32 b7.2.2.2.2 (by have := hE.t1p; omega)
    by_cases hr : 0 < r1
    · have h5 : 0 < y5.length := (canon_pos b5.2.2.2.2).2 hr
      have t5 : decide ((0 : Int) < (y5.length : Int)) = true := by simp; omega
      have E' := hE.step hr
      go_wp2_with fail
      refine (l1Div_any wr g4 g5 a4 a5 c4 c5 y4 y5 b4.1.rd b5.1.rd b4.2.2.2.2.1 b5.2.2.2.2.1 b5.2.1 b5.2.2.1 (by omega) (by omega) (by rw [b5.2.2.2.2.2.1]; exact hr)).mono ?_
      rintro e v1 ⟨⟨qs, rs, aq, cq, gq, ar, cr', gr, rfl, Cq, Cr, ⟨oq, q1, q2, q3⟩, ⟨or', o1, o2, o3⟩, _⟩, m1⟩
      rw [b4.2.2.2.2.2.1, b5.2.2.2.2.2.1] at Cq Cr
      have M1 := nxt hN m1
      have z1 := hN.size
      have lq := canon_len32 Cq (Int.le_trans (Int.ediv_le_self _ (by have := hE.r0p; omega)) hE.r0P)
      have b5a := b5.up m1
      have b6a := b6.up m1
      have b7a := b7.up m1
      have hPa := hP.up m1
      have br : BRow v1 w.heap.size gr ar cr' rs (r0 % r1) := ⟨or', o1, o2, by omega, Cr⟩
      clear b4 b5 b6 b7 hP hN m1 q3 o3
      go_wp2_with fail
      refine (l1Mul_any v1 gq g7 aq a7 cq c7 qs y7 oq.rd b7a.1.rd Cq.1 b7a.2.2.2.2.1 (by omega) (by omega)).mono ?_
      rintro e v2 ⟨ps, Cp, ⟨ap, cp, gp, rfl, op, p1, p2, p3⟩, m2⟩
      rw [Cq.2.1, b7a.2.2.2.2.2.1] at Cp
      have M2 := nxt M1 m2
      have z2' := M1.size
      have lp : ps.length ≤ 4096 := by
        have := Cp.len (n := 64) (by
          have h1 : r0 / r1 < 115792089237316195423570985008687907853269984665640564039457584007913129639936 := by
            have := Int.ediv_le_self r1 (show 0 ≤ r0 by have := hE.r0p; omega); have := hE.r0P
            have : PP < 115792089237316195423570985008687907853269984665640564039457584007913129639936 := by decide
            omega
          have h2 : t1 < 115792089237316195423570985008687907853269984665640564039457584007913129639936 := Int.lt_trans hE.t1p.2 (by decide)
          exact mul_lt64 h1 h2 (Int.ediv_nonneg (by have := hE.r0p; omega) (by omega)) hE.t1p.1)
        omega
      have b5b := b5a.up m2
      have b6b := b6a.up m2
      have b7b := b7a.up m2
      have brb := br.up m2
      have hPb := hPa.up m2
      clear b5a b6a b7a br hPa oq q1 q2 Cq m2 M1
      go_wp2_with fail
      refine (l1Mod_any v2 gp _ ap _ cp 32 ps pbytes op.rd hPb.own0.rd Cp.1 pbytes_byt (by simp) (by decide) lp (by decide) (by rw [pbytes_val]; decide)).mono ?_
      rintro e v3 ⟨⟨ms, am, cm, gm, rfl, bm⟩, m3⟩
      rw [pbytes_val, Cp.2.1] at bm
      have M3 := nxt M2 m3
      have b5c := b5b.up m3
      have b6c := b6b.up m3
      have b7c := b7b.up m3
      have brc := brb.up m3
      have hPc := hPb.up m3
      clear b5b b6b b7b brb hPb op p1 p2 p3 Cp m3 M2
      go_wp2_with fail
      refine (l1Add_any v3 g6 _ a6 _ c6 32 y6 pbytes b6c.1.rd hPc.own0.rd b6c.2.2.2.2.1 pbytes_byt (by omega) (by decide)).mono ?_
      rintro e v4 ⟨us, Cu, ⟨au, cu, gu, rfl, ou, u1, u2, u3⟩, m4⟩
      rw [pbytes_val, b6c.2.2.2.2.2.1] at Cu
      have M4 := nxt M3 m4
      have lu : us.length ≤ 64 := Cu.len (Int.lt_trans (show t0 + PP < 2 * 115792089237316195423570985008687907853269984665640564039457584007913129639936 by
        have := hE.t0p.2
        have : PP < 115792089237316195423570985008687907853269984665640564039457584007913129639936 := by decide
        omega) (by decide))
      have b5d := b5c.up m4
      have b7d := b7c.up m4
      have brd := brc.up m4
      have bmd := bm.up m4
      have hPd := hPc.up m4
      have hmq : (r0 / r1 * t1) % PP < PP := Int.emod_lt_of_pos _ (by decide)
      have hle : bval ms ≤ bval us := by rw [bmd.2.2.2.2.2.1, Cu.2.1]; have := hE.t0p.1; omega
      have lms : ms.length ≤ us.length := bmd.2.2.2.2.len (by rw [← bmd.2.2.2.2.2.1]; exact Int.lt_of_le_of_lt hle (bval_lt Cu.1))
      clear b5c b6c b7c brc bm hPc m4 M3
      go_wp2_with fail
      refine (l1Sub_any v4 gu gm au am cu cm us ms ou.rd bmd.1.rd Cu.1 bmd.2.2.2.2.1 (by omega) lms hle).mono ?_
      rintro e v5 ⟨ds, Cd, ⟨ad, cd', gd, rfl, od, d1, d2, d3⟩, m5⟩
      rw [Cu.2.1, bmd.2.2.2.2.2.1] at Cd
      have M5 := nxt M4 m5
      have ld : ds.length ≤ 4096 := by
        have := Cd.len (n := 64) (Int.lt_of_le_of_lt (show t0 + PP - r0 / r1 * t1 % PP ≤ 2 * 115792089237316195423570985008687907853269984665640564039457584007913129639936 by
          have := hE.t0p.2
          have := Int.emod_nonneg (r0 / r1 * t1) (show PP ≠ 0 by decide)
          have : PP < 115792089237316195423570985008687907853269984665640564039457584007913129639936 := by decide
          omega) (by decide))
        omega
      have b5e := b5d.up m5
      have b7e := b7d.up m5
      have bre := brd.up m5
      have hPe := hPd.up m5
      clear b5d b7d brd bmd hPd m5 M4 ou u1 u2 u3 Cu hle lms
      go_wp2_with fail
      refine (l1Mod_any v5 gd _ ad _ cd' 32 ds pbytes od.rd hPe.own0.rd Cd.1 pbytes_byt (by simp) (by decide) ld (by decide) (by rw [pbytes_val]; decide)).mono ?_
      rintro e v6 ⟨⟨ts, aT, cT, gT, rfl, bT⟩, m6⟩
      rw [pbytes_val, Cd.2.1] at bT
      have M6 := nxt M5 m6
      have b5f := b5e.up m6
      have b7f := b7e.up m6
      have brf := bre.up m6
      have hPf := hPe.up m6
      have zT : w.heap.size ≤ v5.heap.size := M5.size
      have MM : Hid (bval (rdl v6 (.slice ar rs.length cr')) = r0 % r1) := by show _ = _; rw [rdl_of brf.1.rd]; exact brf.2.2.2.2.2.1
      have HL := hide (Int.emod_lt_of_pos r0 hr)
      have HL0 := hide (Int.emod_nonneg r0 (show r1 ≠ 0 by omega))
      have E2 := hide E'
      clear b5e b7e bre hPe m6 M5 od d1 d2 d3 Cd hE E' Cr or' o1 o2 lq lp ld lu
      go_wp2
      go_roundw
      case rel => exact ⟨_, _, _, _, E2.out, ⟨_, _, _, _, rfl, b5f⟩, ⟨_, _, _, _, rfl, brf⟩, ⟨_, _, _, _, rfl, b7f⟩, ⟨_, _, _, _, rfl, bT.low _ zT⟩, hPf, M6⟩
      case measure =>
        have h1 := MM.out
        have h2 := M0.out
        have h3 := HL.out
        have h4 := HL0.out
        simp
        rw [h1, h2]
        omega
    · obtain rfl : r1 = 0 := by have := hE.r1p; omega
      have h5 : y5.length = 0 := by
        by_cases h : 0 < y5.length
        · have := (canon_pos b5.2.2.2.2).1 h; omega
        · omega
      obtain rfl : y5 = [] := List.eq_nil_of_length_eq_zero h5
      clear h5 hr
      by_cases hx : 0 < x
      · obtain rfl := hE.done hx x1
        obtain rfl : y4 = [1] := b4.2.2.2.2.uniq canon_one
        obtain ⟨off, rfl, hc⟩ := b4.1 (by simp)
        have c0 : wr.cell? ⟨g4, off, none⟩ = some (.int .u8 1) := (hc 0 (by simp)).1
        have HE := hide hE
        have Hx := hide hx
        clear hc b4 b5 b7 hP hE hx l4 l5 M0
        go_wp2
        go_ret
        refine ⟨t0, ⟨y6, a6, c6, g6, rfl, b6⟩, fun h => ?_, fun _ => ⟨HE.out.t0p, ?_⟩, hN⟩
        · have := Hx.out
          rw [HX.out] at this
          omega
        · rw [← HX.out, HE.out.e0]
          decide
      · obtain rfl : x = 0 := by omega
        have e : r0 = PP := by
          have h := hE.e0
          rw [Int.mul_zero, Int.zero_emod] at h
          have h1 := hE.r0p
          have h2 := hE.r0P
          by_cases k : r0 < PP
          · rw [Int.emod_eq_of_lt (by omega) k] at h; omega
          · omega
        subst e
        obtain rfl : y4 = pbytes := b4.2.2.2.2.uniq pbytes_canon
        have t4 : ((pbytes.length : Int) == 1) = false := by decide
        have n9 : Below wr.heap.size wr (wr.alloc (.cells #[] 5)) := (Below.refl _ _).alloc (Nat.le_refl _) _
        have N9 := nxt hN n9
        have z9 := hN.size
        clear b4 b5 b6 b7 hP hE hx l4 l5 M0
        go_wp2
        go_ret
        exact ⟨0, ⟨[], _, 0, wr.heap.size, rfl, Own.nil _ _ _ _, by simp, by simp, z9, canon_nil⟩, fun _ => rfl, fun h => by rw [← HX.out] at h; omega, N9⟩
end Go.Proofs.YtgecfmagpliepaaDoor
