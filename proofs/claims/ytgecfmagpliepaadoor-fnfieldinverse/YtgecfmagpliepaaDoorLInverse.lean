/-
  The law of the inverse.
-/
import Derived.Test.YtgecfmagpliepaaDoorDrF
import Derived.Test.YtgecfmagpliepaaDoorLaidI
import Derived.Test.YtgecfmagpliepaaDoorRed
import Derived.Test.YtgecfmagpliepaaDoorFMul
namespace Go.Proofs.YtgecfmagpliepaaDoor
set_option maxRecDepth 100000
open Go.RowKit

/-! ### numbers told as thirty-two bytes -/
theorem lsum_byt (v : Int) (h0 : 0 ≤ v) : ∀ n, lsum (byt v) n = v % 256 ^ n
  | 0 => by simp [lsum]
  | n + 1 => by
    have ih := lsum_byt v h0 n
    have hp := p256_pos n
    rw [lsum, ih, byt, Int.pow_succ]
    have e1 := Int.emod_add_mul_ediv v (256 ^ n)
    have e2 := Int.emod_add_mul_ediv v (256 ^ n * 256)
    rw [← Int.ediv_ediv_of_nonneg (Int.le_of_lt hp)] at e2
    have e3 := Int.emod_add_mul_ediv (v / 256 ^ n) 256
    generalize v / 256 ^ n = q at *
    generalize v % 256 ^ n = r at *
    generalize v % (256 ^ n * 256) = s at *
    generalize (256 : Int) ^ n = p at *
    generalize q / 256 = a at *
    generalize q % 256 = b at *
    subst e3
    have : (b + 256 * a) * p = b * p + 256 * a * p := Int.add_mul _ _ _
    have h1 : p * (b + 256 * a) = b * p + 256 * a * p := by rw [Int.mul_comm, this]
    have h2 : p * 256 * a = 256 * a * p := by rw [Int.mul_assoc, Int.mul_comm]
    omega
theorem num_fill {v : Int} (h0 : 0 ≤ v) (h1 : v < PP) : num (fill (byt v) 32) = v := by
  unfold num
  rw [fill_len, lsum_congr (b := byt v) 32 (fun j hj => fill_get _ _ _ hj), lsum_byt v h0, Int.emod_eq_of_lt h0 (Int.lt_trans h1 (by decide))]
theorem byt_bytes (v : Int) (n : Nat) : Byt (fill (byt v) n) := byt_fill (fun i => by unfold byt; omega) n
theorem fill_zero : fill (byt 0) 32 = List.replicate 32 0 := by decide +kernel
theorem fill_one : fill (byt 1) 32 = (List.replicate 32 0).set 0 1 := by decide +kernel
theorem fill_ne {v : Int} (h0 : 0 < v) (h1 : v < PP) : fill (byt v) 32 ≠ List.replicate 32 0 := by
  intro h
  rw [← fill_zero] at h
  have a := num_fill (v := v) (by omega) h1
  have b := num_fill (v := 0) (by decide) (by decide)
  rw [h, b] at a
  omega
theorem inv_mul {x : Int} (h0 : 0 < x) (h1 : x < PP) : x * (x ^ eInv % PP) % PP = 1 := by
  obtain ⟨n, rfl⟩ := Int.eq_ofNat_of_zero_le (show 0 ≤ x by omega)
  have hn : ¬ P25519 ∣ n := fun hd => by
    have h := Nat.le_of_dvd (by omega) hd
    have : ((P25519 : Nat) : Int) = PP := rfl
    omega
  have f := prm_P.fermat hn
  rw [← eInv_P, Nat.pow_succ, Nat.mul_comm] at f
  have hP : (PP : Int) = ((P25519 : Nat) : Int) := rfl
  rw [Int.mul_emod, Int.emod_emod, ← Int.mul_emod, hP, ← Int.natCast_pow, ← Int.natCast_mul, ← Int.natCast_emod, f]
  rfl

theorem lw32L_any (w : World) (g : Nat) (a : Option Addr) (c : Nat) (xs : List Int) (ha : Rd w g a .u8 xs) :
    Calls Tryd.prog 17 #[.slice a xs.length c] w fun e w' => e = .returned (.slice (some ⟨w.heap.size, 0, none⟩) (to32 xs).length 32) ∧ Blk w' w.heap.size .u8 (to32 xs) ∧ Below w.heap.size w w' := by
  rw [to32_len]
  exact lw32_any w g a c xs ha

set_option maxHeartbeats 4000000 in
theorem fieldInverse_law (w : World) (g : Nat) (a : Option Addr) (ca : Nat) (xs : List Int) (ha : Rd w g a .u8 xs) (hx : Byt xs) (hL : HasSt w 4 ∧ Has3 w 1 12 5 4) :
    Calls Tryd.prog 5 #[.slice a xs.length ca] w fun e w' => e = .returned (.bool true) ∧ Below w.heap.size w w' := by
  obtain ⟨i0, hi, hz0, hz1, hz2⟩ := info_parts Tryd.info5
  by_cases h1 : xs.length ≤ 1048576
  · have t1 : decide ((1048576 : Int) < (xs.length : Int)) = false := by simp; omega
    go_enter Tryd.func5, Tryd.ntmps5
    go_wp2_with fail
    refine (drawFieldInvert_any w g a ca xs ha hx h1).mono ?_
    rintro e w1 ⟨y0, yb, ⟨a1, c1, g1, rfl, o1, p1, q1, r1⟩, n1⟩
    go_wp2_with fail
    refine (lw32L_any w1 g1 a1 c1 y0 o1.rd).mono ?_
    rintro e w2 ⟨rfl, B2, n2⟩
    obtain ⟨ys, hys⟩ : ∃ ys, ys = to32 y0 := ⟨_, rfl⟩
    have yl : ys.length = 32 := by rw [hys]; exact to32_len y0
    have hy : Byt ys := by rw [hys]; exact to32_byt yb
    rw [← hys] at B2 ⊢
    have N2 := nxt n1 n2
    have z2 := n1.size
    clear hys o1 p1 q1 r1 n1 n2 yb
    have fl : (finv ys).length = 32 := by simp [finv, yl, fill_len]
    have x0 := Int.emod_nonneg (num ys) (show PP ≠ 0 by decide)
    have x1 := Int.emod_lt_of_pos (num ys) (show (0 : Int) < PP by decide)
    have v0 := Int.emod_nonneg ((num ys % PP) ^ eInv) (show PP ≠ 0 by decide)
    have v1 := Int.emod_lt_of_pos ((num ys % PP) ^ eInv) (show (0 : Int) < PP by decide)
    have fe : finv ys = fill (byt ((num ys % PP) ^ eInv % PP)) 32 := by simp [finv, yl]
    have fb : Byt (finv ys) := by rw [fe]; exact byt_bytes _ _
    have fn : num (finv ys) = (num ys % PP) ^ eInv % PP := by rw [fe]; exact num_fill v0 v1
    have ck : canN (finv ys) = true := by
      unfold canN
      rw [fn, decide_eq_true fl, decide_eq_true v1]
      rfl
    have re : fred ys = fill (byt (num ys % PP)) 32 := by simp [fred, yl]
    have me : fmul ys (finv ys) = fill (byt ((num ys % PP) * ((num ys % PP) ^ eInv % PP) % PP)) 32 := by
      unfold fmul
      rw [if_pos ⟨yl, fl⟩, fn, Int.mul_emod (num ys), Int.emod_emod]
    have yl' : ys.length ≤ 1048576 := by omega
    have HY := hide hy
    have CK := hide ck; have FB := hide fb; have RR := hide re; have ME := hide me
    have HX0 := hide x0; have HX1 := hide x1
    clear fe fn ck re me fl yl v0 v1 hy fb x0 x1
    go_wp2_with fail
    refine (lwCopy_any w2 _ _ 32 ys B2.own0.rd (by simp) yl').mono ?_
    rintro e w3 ⟨⟨a3, c3, g3, rfl, o3, p3, q3, r3⟩, n3⟩
    have N3 := nxt N2 n3
    go_wp2_with fail
    refine (implFieldInvert_any w3 g3 a3 c3 ys o3.rd HY.out (hL.1.up N3) (hL.2.up N3)).mono ?_
    rintro e w4 ⟨⟨a4, c4, g4, rfl, o4, p4, q4, r4⟩, n4⟩
    have N4 := nxt N3 n4
    have B4 := (B2.up n3).up n4
    have l4 := o4.rd.lt
    clear o3 p3 q3 r3 n3 n4 N3 B2
    obtain ⟨fs, hfs⟩ : ∃ fs, fs = finv ys := ⟨_, rfl⟩
    rw [← hfs] at o4 q4 l4 ⊢
    have HF := hide hfs
    clear hfs
    go_wp2_with (first | (at_make; refine wpList_make_full _ rfl _ _ 22 rfl w4.heap.size 5 i0 (.int .u8 0) 1 Tryd.underlying22 hi hz0 hz1 .i64 .i64 _ _ 32 rfl rfl rfl rfl (by rw [hz2]; omega) (by unfold maxLen; omega) (Nat.le_refl _) ?_; intro w5 hown hgrow) | fail)
    have B5 := Blk.of_made hown
    have n5 : Below w4.heap.size w4 w5 := (Below.refl _ _).grown hgrow (Nat.le_refl _) (by simp)
    have N5 := nxt N4 n5
    have o5 := o4.up n5
    have Y5 := B4.up n5
    clear hown hgrow
    refine (lwCopy_any w5 _ _ 32 ys Y5.own0.rd (by simp) yl').mono ?_
    rintro e w6 ⟨⟨a6, c6, g6, rfl, o6, p6, q6, r6⟩, n6⟩
    go_wp2_with fail
    refine (implFieldReduce_any w6 g6 a6 c6 ys o6.rd HY.out).mono ?_
    rintro e w7 ⟨⟨a7, c7, g7, rfl, o7, p7, q7, r7⟩, n7⟩
    have N7 := nxt (nxt N5 n6) n7
    have o7a := (o5.up n6).up n7
    have Y7 := (Y5.up n6).up n7
    have B7 := (B5.up n6).up n7
    have zz : w1.heap.size < w4.heap.size := B4.lt
    clear o4 o5 o6 p6 q6 r6 n5 n6 n7 B4 B5 Y5 N5 N4
    have z4 : w.heap.size ≤ w4.heap.size := by omega
    rw [RR.out] at o7 q7 ⊢
    by_cases hzr : num ys % PP = 0
    · rw [hzr, fill_zero] at o7 q7 ⊢
      have SM := lwSame_same w7 g7 w4.heap.size a7 (some ⟨w4.heap.size, 0, none⟩) c7 32 (List.replicate 32 0) o7.rd B7.own0.rd
      have HS := hide SM
      have HZ := hide hzr
      clear SM hzr
      go_wp2_with fail
      refine (unhide HS).mono ?_
      rintro e w7' ⟨rfl, rfl⟩
      go_wp2_with fail
      have CA := implFieldCanonical_any w7' g4 a4 c4 fs o7a.rd (by rw [HF.out]; exact FB.out)
      rw [show canN fs = true by rw [HF.out]; exact CK.out] at CA
      refine CA.mono ?_
      rintro e w8 ⟨rfl, n8⟩
      have N8 := nxt N7 n8
      have o8 := o7a.up n8
      have Y8 := Y7.up n8
      have B8 := B7.up n8
      clear CA o7a Y7 B7 n8 N7 o7 HS
      go_wp2_with fail
      refine (lwCopy_any w8 _ _ 32 ys Y8.own0.rd (by simp) yl').mono ?_
      rintro e w9 ⟨⟨a9, c9, g9, rfl, o9, p9, q9, r9⟩, n9⟩
      go_wp2_with fail
      refine (implFieldMul_any w9 g9 g4 a9 a4 c9 c4 ys fs o9.rd (o8.up n9).rd HY.out (by rw [HF.out]; exact FB.out)).mono ?_
      rintro e wA ⟨⟨aA, cA, gA, rfl, oA, pA, qA, rA⟩, nA⟩
      have NA := nxt (nxt N8 n9) nA
      have BA := (B8.up n9).up nA
      have eA : fmul ys fs = List.replicate 32 0 := by rw [HF.out, ME.out, HZ.out, Int.zero_mul, Int.zero_emod, fill_zero]
      rw [eA] at oA qA ⊢
      have SM := lwSame_same wA gA w4.heap.size aA (some ⟨w4.heap.size, 0, none⟩) cA 32 (List.replicate 32 0) oA.rd BA.own0.rd
      have HS := hide SM
      clear SM eA o8 Y8 B8 o9 n9 nA N8
      go_wp2_with fail
      refine (unhide HS).mono ?_
      rintro e wA' ⟨rfl, rfl⟩
      go_wp2
      go_ret
      exact ⟨rfl, NA⟩
    · have hx0 : 0 < num ys % PP := by have := HX0.out; omega
      have SD := lwSame_diff w7 g7 w4.heap.size a7 (some ⟨w4.heap.size, 0, none⟩) c7 32 _ (List.replicate 32 0) o7.rd B7.own0.rd (byt_bytes _ _) (byt_zeros 32) (fill_ne hx0 HX1.out)
      have HS := hide SD
      have HZ := hide hx0
      clear SD hx0 hzr
      go_wp2_with fail
      refine (unhide HS).mono ?_
      rintro e w7' ⟨rfl, rfl⟩
      have c0 : w7'.cell? ⟨w4.heap.size, 0, none⟩ = some (.int .u8 0) := B7.cell (i := 0) (by simp)
      have f0 := B7.free 0
      have B7s := B7.store 0 1
      rw [← fill_one] at B7s
      have hge := o7a.rd.lt
      have o7s := o7a.only (Only.setCell w7' w4.heap.size 0 (.int .u8 1)) (fun h => by have := l4 h; omega)
      have Y7s := Y7.keep (g' := w4.heap.size) (k := 0) (v := .int .u8 1) (by omega)
      have N7s : Below w.heap.size w (w7'.setCell ⟨w4.heap.size, 0, none⟩ (.int .u8 1)) := N7.setCell z4 _
      clear B7 o7a Y7 N7 o7 HS hge
      go_wp2_with fail
      generalize w7'.setCell ⟨w4.heap.size, 0, none⟩ (.int .u8 1) = w7 at *
      have CA := implFieldCanonical_any w7 g4 a4 c4 fs o7s.rd (by rw [HF.out]; exact FB.out)
      rw [show canN fs = true by rw [HF.out]; exact CK.out] at CA
      refine CA.mono ?_
      rintro e w8 ⟨rfl, n8⟩
      have N8 := nxt N7s n8
      have o8 := o7s.up n8
      have Y8 := Y7s.up n8
      have B8 := B7s.up n8
      clear CA o7s Y7s B7s n8 N7s c0 f0
      go_wp2_with fail
      refine (lwCopy_any w8 _ _ 32 ys Y8.own0.rd (by simp) yl').mono ?_
      rintro e w9 ⟨⟨a9, c9, g9, rfl, o9, p9, q9, r9⟩, n9⟩
      go_wp2_with fail
      refine (implFieldMul_any w9 g9 g4 a9 a4 c9 c4 ys fs o9.rd (o8.up n9).rd HY.out (by rw [HF.out]; exact FB.out)).mono ?_
      rintro e wA ⟨⟨aA, cA, gA, rfl, oA, pA, qA, rA⟩, nA⟩
      have NA := nxt (nxt N8 n9) nA
      have BA := (B8.up n9).up nA
      have eA : fmul ys fs = fill (byt 1) 32 := by rw [HF.out, ME.out, inv_mul HZ.out HX1.out]
      rw [eA] at oA qA ⊢
      have SM := lwSame_same wA gA w4.heap.size aA (some ⟨w4.heap.size, 0, none⟩) cA 32 (fill (byt 1) 32) oA.rd BA.own0.rd
      have HS := hide SM
      clear SM eA o8 Y8 B8 o9 n9 nA N8
      go_wp2_with fail
      refine (unhide HS).mono ?_
      rintro e wA' ⟨rfl, rfl⟩
      go_wp2
      go_ret
      exact ⟨rfl, NA⟩
  · have t1 : decide ((1048576 : Int) < (xs.length : Int)) = true := by simp; omega
    go_enter Tryd.func5, Tryd.ntmps5
    go_wp2
    go_ret
    exact ⟨rfl, Below.refl _ _⟩
end Go.Proofs.YtgecfmagpliepaaDoor
