/-
  FieldInvert, the program's and the model's.
-/
import Derived.Test.YtgecfmagpliepaaDoorChain
import Derived.Test.YtgecfmagpliepaaDoorEu
namespace Go.Proofs.YtgecfmagpliepaaDoor
set_option maxRecDepth 100000
open Go.RowKit

/-- Block g holds these three numbers. -/
def Has3 (w : World) (g : Nat) (a b c : Int) : Prop := w.cell? ⟨g, 0, none⟩ = some (.int .i64 a) ∧ w.cell? ⟨g, 1, none⟩ = some (.int .i64 b) ∧ w.cell? ⟨g, 2, none⟩ = some (.int .i64 c)
theorem Has3.lt {w : World} {g : Nat} {a b c : Int} (h : Has3 w g a b c) : g < w.heap.size := block_lt_of_cell h.1
theorem Has3.up {w w' : World} {g : Nat} {a b c : Int} (h : Has3 w g a b c) (n : Below w.heap.size w w') : Has3 w' g a b c :=
  ⟨(World.cell?_of_block (a := ⟨g, 0, none⟩) (n.block g h.lt)).trans h.1, (World.cell?_of_block (a := ⟨g, 1, none⟩) (n.block g h.lt)).trans h.2.1, (World.cell?_of_block (a := ⟨g, 2, none⟩) (n.block g h.lt)).trans h.2.2⟩

/-- The exponent of the inverse. -/
def eInv : Nat := 57896044618658097711785492504343953926634992332820282019728792003956564819947
theorem eInv_ok : exL.getD 12 0 * 2 ^ 5 + exL.getD 4 0 = eInv := by decide +kernel
theorem eInv_P : eInv + 1 = P25519 - 1 := by decide +kernel

set_option maxHeartbeats 4000000 in
theorem invert_any (w : World) (e : Nat → Int) (he : Elm e) (hS : HasSt w 4) (hI : Has3 w 1 12 5 4) :
    Calls Tryd.prog 47 #[ag5 e] w fun r w' => ∃ t, r = .returned (ag5 t) ∧ Lm t ∧ sv t 5 = sv e 5 ^ eInv % PP ∧ Below w.heap.size w w' := by
  have B0 := blk_box w .u64 38 (e 0) (e 1) (e 2) (e 3) (e 4)
  have n0 : Below w.heap.size w (w.alloc (.cells #[.int .u64 (e 0), .int .u64 (e 1), .int .u64 (e 2), .int .u64 (e 3), .int .u64 (e 4)] 38)) := (Below.refl _ _).alloc (Nat.le_refl _) _
  have s0 : (w.alloc (.cells #[.int .u64 (e 0), .int .u64 (e 1), .int .u64 (e 2), .int .u64 (e 3), .int .u64 (e 4)] 38)).heap.size = w.heap.size + 1 := by simp
  have M : ∀ w, HasSt w 4 → Calls Tryd.prog 67 #[.agg #[.int .u64 (e 0), .int .u64 (e 1), .int .u64 (e 2), .int .u64 (e 3), .int .u64 (e 4)], .agg #[.int .i64 12, .int .i64 5, .int .i64 4]] w fun r w' => ∃ t, r = .returned (.agg #[.int .u64 (t 0), .int .u64 (t 1), .int .u64 (t 2), .int .u64 (t 3), .int .u64 (t 4)]) ∧ Lm t ∧ sv t 5 = sv e 5 ^ (exL.getD 12 0 * 2 ^ 5 + exL.getD 4 0) % PP ∧ Below w.heap.size w w' := fun w h => chain_any w e he 12 5 4 (by omega) (by omega) (by omega) h
  simp only [ag5]
  go_enter Tryd.func47, Tryd.ntmps47
  go_upto_region 1 with fail
  generalize w.alloc (.cells #[.int .u64 (e 0), .int .u64 (e 1), .int .u64 (e 2), .int .u64 (e 3), .int .u64 (e 4)] 38) = wa at *
  have B1 := blk_box wa .u64 38 0 0 0 0 0
  have n1 : Below wa.heap.size wa (wa.alloc (.cells #[.int .u64 0, .int .u64 0, .int .u64 0, .int .u64 0, .int .u64 0] 38)) := (Below.refl _ _).alloc (Nat.le_refl _) _
  rw [s0] at B1
  generalize wa.alloc (.cells #[.int .u64 0, .int .u64 0, .int .u64 0, .int .u64 0, .int .u64 0] 38) = wb at *
  have N1 := nxt n0 n1
  obtain ⟨⟨q0, q1, q2, q3, q4⟩, _⟩ := (B0.up n1).f5
  obtain ⟨i0, i1, i2⟩ := hI.up N1
  go_wp2_with fail
  refine (M wb (hS.up N1)).mono ?_
  rintro r w1 ⟨t, rfl, L, V, n2⟩
  obtain ⟨⟨p0, p1, p2, p3, p4⟩, ⟨g0, g1, g2, g3, g4⟩⟩ := (B1.up n2).f5
  have N2 := nxt N1 n2
  rw [eInv_ok] at V
  have V' := hide V
  clear M B0 B1 n0 n1 n2 N1 V s0 hS hI i0 i1 i2 q0 q1 q2 q3 q4
  go_wp2
  exact bodyPost_ret (v := ag5 t) (by simp [ag5, results, Tryd.results47, go_sem, p0, p1, p2, p3, p4]) rfl ⟨t, rfl, L, V'.out, below_set5 N2 (by omega) _ _ _ _ _⟩

/-- What both answer. -/
def finv (xs : List Int) : List Int := if xs.length = 32 then fill (byt ((num xs % PP) ^ eInv % PP)) 32 else []
theorem finv_len (xs : List Int) : (finv xs).length ≤ 32 := by
  unfold finv
  split
  · rw [fill_len]; omega
  · simp

set_option maxHeartbeats 2000000 in
theorem implFieldInvert_any (w : World) (g : Nat) (a : Option Addr) (c : Nat) (xs : List Int) (hr : Rd w g a .u8 xs) (hb : Byt xs) (hS : HasSt w 4) (hI : Has3 w 1 12 5 4) :
    Calls Tryd.prog 16 #[.slice a xs.length c] w fun e w' => NewRow w.heap.size w' e .u8 (finv xs) ∧ Below w.heap.size w w' := by
  have T := isFieldSize_any w a c xs.length
  by_cases hl : xs.length = 32
  · have E1 := elt_ok hb hl
    have EE : Elm (elt xs) := Elm.of E1.1 E1.2
    have R1 := readElement_any w g a c xs hr hb hl
    have K : Hid (finv xs = fill (byt ((num xs % PP) ^ eInv % PP)) 32) := by show _ = _; simp [finv, hl]
    rw [decide_eq_true hl, hl] at T
    rw [hl]
    clear hl hr
    go_enter Tryd.func16, Tryd.ntmps16
    go_wp2_with fail
    refine T.mono ?_
    rintro e w0 ⟨rfl, rfl⟩
    clear T
    go_wp2_with fail
    refine R1.mono ?_
    rintro e w1 ⟨rfl, n1⟩
    clear R1
    go_wp2_with fail
    refine (invert_any w1 (elt xs) EE (hS.up n1) (hI.up n1)).mono ?_
    rintro e w2 ⟨t, rfl, L, V, n2⟩
    have N2 := nxt n1 n2
    rw [E1.2] at V
    have K' : Hid (finv xs = fill (byt (sv t 5)) 32) := by show _ = _; rw [K.out, V]
    clear E1 EE V
    go_wp2_with fail
    refine (bytes_any w2 t L).mono ?_
    rintro e w3 ⟨⟨a4, c4, g4, rfl, o4, p4, q4, r4⟩, n3⟩
    have N3 := nxt N2 n3
    have z := N2.size
    go_wp2
    go_ret
    refine ⟨?_, N3⟩
    rw [K'.out]
    exact ⟨a4, c4, g4, rfl, o4, p4, q4, by omega⟩
  · have K : Hid (finv xs = []) := by show _ = _; simp [finv, hl]
    rw [decide_eq_false hl] at T
    clear hl hr
    go_enter Tryd.func16, Tryd.ntmps16
    go_wp2_with fail
    refine T.mono ?_
    rintro e w0 ⟨rfl, rfl⟩
    go_wp2
    go_ret
    rw [K.out]
    exact ⟨newRow_nil _ _, Below.refl _ _⟩

/-- The one inverse below the prime. -/
theorem inv_nat {p x t E : Nat} (hp : Prm p) (hE : E + 1 = p - 1) (hx : ¬ p ∣ x) (ht : t < p) (h : t * x % p = 1) : t = x ^ E % p := by
  have h1 := hp.fermat hx
  rw [← hE] at h1
  have h2 : t % p = x ^ E % p := by
    have e : t * x ^ (E + 1) = t * x * x ^ E := by rw [Nat.pow_succ, Nat.mul_comm (x ^ E), Nat.mul_assoc]
    have h3 : t * x ^ (E + 1) % p = t % p := by rw [Nat.mul_mod, h1, Nat.mul_one, Nat.mod_mod]
    rw [← h3, e, Nat.mul_mod, h, Nat.one_mul, Nat.mod_mod]
  rw [← h2, Nat.mod_eq_of_lt ht]
theorem inv_int {x t : Int} (x0 : 0 < x) (x1 : x < PP) (t0 : 0 ≤ t) (t1 : t < PP) (h : t * x % PP = 1) : t = x ^ eInv % PP := by
  obtain ⟨n, rfl⟩ := Int.eq_ofNat_of_zero_le (show 0 ≤ x by omega)
  obtain ⟨m, rfl⟩ := Int.eq_ofNat_of_zero_le t0
  have hP : (PP : Int) = ((P25519 : Nat) : Int) := rfl
  rw [hP] at x1 t1 h ⊢
  have hn : ¬ P25519 ∣ n := fun hd => by
    have := Nat.le_of_dvd (by omega) hd
    omega
  have h' : m * n % P25519 = 1 := by
    have e : ((m * n % P25519 : Nat) : Int) = 1 := by rw [Int.natCast_emod, Int.natCast_mul]; exact h
    omega
  have := inv_nat prm_P eInv_P hn (by omega) h'
  rw [← Int.natCast_pow, ← Int.natCast_emod, ← this]

set_option maxHeartbeats 2000000 in
theorem specFieldInvert_any (w : World) (g : Nat) (a : Option Addr) (c : Nat) (xs : List Int) (hr : Rd w g a .u8 xs) (hb : Byt xs) :
    Calls Tryd.prog 15 #[.slice a xs.length c] w fun e w' => NewRow w.heap.size w' e .u8 (finv xs) ∧ Below w.heap.size w w' := by
  by_cases hl : xs.length = 32
  · have R1 := l2Num_any w g a c xs hr hb (by omega)
    have K : Hid (finv xs = fill (byt ((num xs % PP) ^ eInv % PP)) 32) := by show _ = _; simp [finv, hl]
    have t1 : ((xs.length : Int) != 32) = false := by simp [hl]
    have HL := hide hl
    clear hl hr
    go_enter Tryd.func15, Tryd.ntmps15
    go_wp2_with fail
    refine R1.mono ?_
    rintro e w1 ⟨y1, C1, l1, ⟨a1, c1, g1, rfl, o1, p1, q1, r1⟩, n1⟩
    clear R1
    go_wp2_with fail
    refine (l2Euclid_any w1 g1 a1 c1 y1 o1.rd C1.1 (by have := HL.out; omega)).mono ?_
    rintro e w2 ⟨t, ⟨y2, a2, c2, g2, rfl, b2⟩, T0, T1, n2⟩
    have N2 := nxt n1 n2
    rw [C1.2.1] at T0 T1
    have ht : t = (num xs % PP) ^ eInv % PP := by
      have x0 := Int.emod_nonneg (num xs) (show PP ≠ 0 by decide)
      have x1 := Int.emod_lt_of_pos (num xs) (show (0 : Int) < PP by decide)
      by_cases h : num xs % PP = 0
      · rw [T0 h, h]
        have : (0 : Int) ^ eInv = 0 := Int.zero_pow (by unfold eInv; omega)
        rw [this]; rfl
      · obtain ⟨⟨h1, h2⟩, h3⟩ := T1 (show 0 < num xs % PP by omega)
        exact inv_int (by omega) x1 h1 h2 h3
    have l2 : y2.length ≤ 32 := canon_len32 b2.2.2.2.2 (by rw [ht]; exact Int.le_of_lt (Int.emod_lt_of_pos _ (by decide)))
    have K' : Hid (finv xs = fill (dig y2) 32) := by
      show _ = _
      rw [K.out, ← ht]
      exact fill_congr (fun i _ => by rw [dig_of b2.2.2.2.2.1, b2.2.2.2.2.2.1])
    clear T0 T1 ht C1 K
    go_wp2_with fail
    refine (l1Little_any w2 g2 a2 c2 y2 32 b2.1.rd b2.2.2.2.2.1 (by omega) (by omega)).mono ?_
    rintro e w3 ⟨rfl, B3, n3⟩
    have N3 := nxt N2 n3
    have z := N2.size
    rw [← K'.out] at B3
    have hf : (finv xs).length = 32 := by rw [K'.out, fill_len]
    have HF := hide hf
    clear hf
    go_wp2
    go_ret
    exact ⟨⟨_, 32, w2.heap.size, by rw [HF.out]; rfl, B3.own0, by simp, by rw [HF.out]; omega, z⟩, N3⟩
  · have K : Hid (finv xs = []) := by show _ = _; simp [finv, hl]
    have t1 : ((xs.length : Int) != 32) = true := by simp; omega
    have hal : Below w.heap.size w (w.alloc (.cells #[] 5)) := (Below.refl _ _).alloc (Nat.le_refl _) _
    clear hl hr
    go_enter Tryd.func15, Tryd.ntmps15
    go_wp2
    go_ret
    rw [K.out]
    exact ⟨newRow_lit _ _, hal⟩
end Go.Proofs.YtgecfmagpliepaaDoor
