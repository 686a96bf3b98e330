import Derived.Test.YtblkjpmkikhpbaaDoorGL8
import Derived.Test.YtblkjpmkikhpbaaDoorGL26
import Derived.Test.YtblkjpmkikhpbaaDoorGL27
import Derived.Test.YtblkjpmkikhpbaaDoorGL28
import Derived.Deep.RegionWith
import Derived.Deep.WholeRow
import Derived.Deep.RegionHeld3
import Derived.Test.YtblkjpmkikhpbaaDoorGL7
import Derived.Test.YtblkjpmkikhpbaaDoorGL23
import Derived.Test.YtblkjpmkikhpbaaDoorGL21

/-
  The model's small functions of chapter 3: a shift by whole bytes, a number told in decimals, the order.
-/
namespace Go.Proofs.YtblkjpmkikhpbaaDoor
set_option maxRecDepth 100000
open Go.RowKit

set_option maxHeartbeats 400000 in
theorem l1Copy_own (w : World) (g : Nat) (ad : Addr) (cap : Nat) (xs : List Int) (hr : Rd w g (some ad) .u8 xs) (hn : xs.length ≤ 1048576) (h0 : 0 < xs.length) :
    Calls Tryd.prog 26 #[.slice (some ad) xs.length cap] w fun e w' => ∃ v, e = .returned v ∧ v ≠ .slice none 0 0 ∧ w'.ownsRow w.heap.size 5 1 v xs.length (xs.map (Value.int .u8)) ∧ Below w.heap.size w w' := by
  obtain ⟨i0, hi, hz0, hz1, hz2⟩ := info_parts Tryd.info5
  have hown : (w.alloc (.cells #[] 5)).ownsRow w.heap.size 5 1 (.slice (some ⟨w.heap.size, 0, none⟩) 0 0) 0 [] := World.ownsRow_lit w #[] 0 (Nat.le_refl _) (by unfold maxLen; omega) (by simp)
  have hal : Below w.heap.size w (w.alloc (.cells #[] 5)) := (Below.refl _ _).alloc (Nat.le_refl _) _
  have hcell : ∀ j u, (xs.map (Value.int .u8))[j]? = some u → (w.alloc (.cells #[] 5)).cell? (ad.add j) = some u := by
    intro j u hj
    have hjl : j < xs.length := by
      have := (List.getElem?_eq_some_iff.1 hj).1
      simpa using this
    obtain ⟨off, ha, hcc⟩ := (hr.up hal) (by omega)
    simp only [Option.some.injEq] at ha
    subst ha
    rw [Addr.add_mid, hcc j hjl]
    simpa [hjl] using hj
  have hone : ∀ u ∈ xs.map (Value.int .u8), u.oneCell' = true := oneCells _ _
  go_enter Tryd.func26, Tryd.ntmps26
  go_wp2_with (at_builtin; refine wpList_append_own _ rfl _ _ 22 rfl w.heap.size 5 i0 (.int .u8 0) 1 1 Tryd.underlying22 hi hz0 hz1 hz2 rfl (by decide) (.slice (some ⟨w.heap.size, 0, none⟩) 0 0) 0 [] rfl hown ad xs.length cap (xs.map (Value.int .u8)) rfl (by simp) hcell hone (by unfold maxLen; omega) (by omega) (by simp) ?_; intro v' w1 hown' hgrow hnil)
  simp only [Nat.zero_add, List.nil_append] at hown'
  have hB : Below w.heap.size w w1 := hal.grown hgrow (by simp) (by intro k hk; simp [Value.ownBlock] at hk; omega)
  have hv : v' ≠ .slice none 0 0 := fun h => by have := (hnil.1 h).1; simp at this
  clear hgrow hown hnil
  go_wp2
  go_ret
  exact ⟨_, rfl, hv, hown', hB⟩

theorem bval_zeros (xs : List Int) : ∀ m, bval (xs ++ List.replicate m 0) = bval xs * 256 ^ m
  | 0 => by simp
  | m + 1 => by
    rw [List.replicate_succ', ← List.append_assoc, bval_snoc, bval_zeros xs m, Int.pow_succ, Int.mul_assoc]
    omega
theorem byt_addz {xs : List Int} (h : Byt xs) (m : Nat) : Byt (xs ++ List.replicate m 0) := by
  intro i
  by_cases e : i < xs.length
  · have := h i
    simpa [List.getElem?_append, e] using this
  · rw [List.getD_eq_getElem?_getD, List.getElem?_append, if_neg e, List.getElem?_replicate]
    split <;> simp

set_option maxHeartbeats 1000000 in
theorem l1Shift252_any (w : World) (g : Nat) (ad : Addr) (c : Nat) (xs : List Int) (ha : Rd w g (some ad) .u8 xs) (hb : Byt xs) (hl : xs.length ≤ 64) (h0 : 0 < xs.length) :
    Calls Tryd.prog 84 #[.slice (some ad) xs.length c, .int .i64 252] w fun e w' => ∃ ys, Canon ys (bval xs * 7237005577332262213973186563042994240829374041602535252466099000494570602496) ∧ NewRow w.heap.size w' e .u8 ys ∧ Below w.heap.size w w' := by
  obtain ⟨i0, hi, hz0, hz1, hz2⟩ := info_parts Tryd.info5
  go_enter Tryd.func84, Tryd.ntmps84
  go_wp2_with fail
  refine (l1Copy_own w g ad c xs ha (by omega) h0).mono ?_
  rintro e w1 ⟨v, rfl, hv, o1, n1⟩
  obtain ⟨v', w2, hap, o2, hgr, hv'⟩ := append_zeros_own (P := Tryd.prog) w1 22 3 22 5 i0 .i64 .i64 Tryd.underlying22 Tryd.underlying3 hi hz0 hz1 hz2 w.heap.size v xs.length _ o1 hv 31 (by omega) (by omega) n1.size
  have n2 : Below w.heap.size w w2 := n1.grown hgr (n1.size) (fun i hi => (o1.lt i hi).1)
  have o2' : w2.ownsRow w.heap.size 5 1 v' (xs ++ List.replicate 31 0).length ((xs ++ List.replicate 31 0).map (Value.int .u8)) := by simpa using o2
  obtain ⟨a3, c3, g3, rfl, o3, p3, q3, r3⟩ := Own.of_ownsRow o2'
  have V := hide (bval_zeros xs 31)
  have Z := byt_addz hb 31
  have L : (xs ++ List.replicate 31 (0 : Int)).length ≤ 128 := by simp; omega
  generalize xs ++ List.replicate 31 (0 : Int) = zs at *
  clear o1 o2 o2' hgr hv hv'
  go_wp2_with (at_builtin; refine Lib.wpList_append_run _ rfl _ _ 22 3 rfl _ _ rfl rfl _ _ hap ?_)
  have n3 : Below w2.heap.size w2 (w2.alloc (.cells #[.int .u8 16] 5)) := (Below.refl _ _).alloc (Nat.le_refl _) _
  have B2 : Blk (w2.alloc (.cells #[.int .u8 16] 5)) w2.heap.size .u8 [16] := ⟨5, by rw [heap_alloc_last]; rfl⟩
  generalize w2.alloc (.cells #[.int .u8 16] 5) = w4 at *
  have hb2 : Byt [16] := fun i => by
    match i with
    | 0 => decide
    | i + 1 => simp
  refine (l1Mul_any w4 g3 _ _ _ c3 1 zs [16] (o3.up n3).rd B2.own0.rd Z hb2 (by omega) (by decide)).mono ?_
  rintro e w5 ⟨ys, C, ⟨a5, c5, g5, rfl, o5, p5, q5, r5⟩, n5⟩
  have N5 := nxt (nxt n2 n3) n5
  have z := (nxt n2 n3).size
  have C' : Canon ys (bval xs * 7237005577332262213973186563042994240829374041602535252466099000494570602496) := by
    rw [V.out] at C
    have e1 : bval [16] = 16 := by decide
    have e2 : (256 : Int) ^ 31 * 16 = 7237005577332262213973186563042994240829374041602535252466099000494570602496 := by decide
    rw [e1, Int.mul_assoc, e2] at C
    exact C
  clear hap C
  go_wp2
  go_ret
  exact ⟨ys, C', ⟨a5, c5, g5, rfl, o5, p5, q5, by omega⟩, N5⟩

/-- The digits that the model tells the order's lower part by. -/
def qdec : List Int := [2, 7, 7, 4, 2, 3, 1, 7, 7, 7, 7, 3, 7, 2, 3, 5, 3, 5, 3, 5, 8, 5, 1, 9, 3, 7, 7, 9, 0, 8, 8, 3, 6, 4, 8, 4, 9, 3]
def dec (ds : List Int) (k : Nat) : Int := (ds.take k).foldl (fun v d => v * 10 + d) 0
theorem byt_one {d : Int} (h0 : 0 ≤ d) (h1 : d < 256) : Byt [d] := fun i => by
  match i with
  | 0 => exact ⟨h0, h1⟩
  | i + 1 => simp
theorem upb {w w' : World} (n : Below w.heap.size w w') {g : Nat} {k : IntKind} {ys : List Int} (h : Blk w g k ys) : Blk w' g k ys := h.up n
theorem one_a (W : World) (d : Int) : Blk (W.alloc (.cells #[.int .u8 d] 5)) W.heap.size .u8 [d] := ⟨5, by rw [heap_alloc_last]; rfl⟩
theorem one_b (W : World) (d : Int) (o : Obj) : Blk ((W.alloc (.cells #[.int .u8 d] 5)).alloc o) W.heap.size .u8 [d] := (one_a W d).up ((Below.refl _ _).alloc (Nat.le_refl _) _)
theorem one_c (W : World) (d : Int) (o : Obj) : Blk ((W.alloc o).alloc (.cells #[.int .u8 d] 5)) (W.heap.size + 1) .u8 [d] := by
  have h := one_a (W.alloc o) d
  simpa using h
theorem dec_step (ds : List Int) (k : Nat) (h : k < ds.length) : dec ds (k + 1) = dec ds k * 10 + ds.getD k 0 := by
  unfold dec
  rw [List.take_succ_eq_append_getElem h, List.foldl_append]
  simp [h]
theorem qdec_dig : ∀ k, k < 38 → 0 ≤ qdec.getD k 0 ∧ qdec.getD k 0 ≤ 9 := by decide
theorem dec_bd : ∀ k, k ≤ 38 → 0 ≤ dec qdec k ∧ dec qdec k < 256 ^ 16 := by decide +kernel
theorem dec10_lt (k : Nat) (hk : k ≤ 38) : dec qdec k * 10 < 256 ^ 64 := by
  have h := dec_bd k hk
  have e : (256 : Int) ^ 16 * 10 < 256 ^ 64 := by decide
  omega
theorem qdec_all : dec qdec 38 = 27742317777372353535851937790883648493 := by decide +kernel
/-- A text of digits. -/
def Txt (t : ByteArray) (ds : List Int) : Prop := t.size = ds.length ∧ ∀ k, k < ds.length → ∃ b : UInt8, t[k]? = some b ∧ (b.toNat : Int) = ds.getD k 0 + 48

set_option maxHeartbeats 1000000 in
theorem l1Decimal_any (w : World) (t : ByteArray) (ht : Txt t qdec) :
    Calls Tryd.prog 95 #[.string t] w fun e w' => ∃ ys, Canon ys 27742317777372353535851937790883648493 ∧ NewRow w.heap.size w' e .u8 ys ∧ Below w.heap.size w w' := by
  have hs : t.size = 38 := ht.1
  have hal : Below w.heap.size w (w.alloc (.cells #[] 5)) := (Below.refl _ _).alloc (Nat.le_refl _) _
  go_enter Tryd.func95, Tryd.ntmps95
  go_wp2
  go_loopw [3, 4] (fun v i wr => ∃ (k : Nat) (a : Option Addr) (c g : Nat) (ys : List Int), k ≤ 38 ∧ i = .int .i64 k ∧ v = .slice a ys.length c ∧ Own wr g a .u8 ys ∧ Byt ys ∧ ys.length ≤ 64 ∧ bval ys = dec qdec k ∧ (a = none → c = 0) ∧ ys.length ≤ c ∧ Below w.heap.size w wr) (fun _ i _ => 38 - (intOf i).toNat)
  case atStart => exact ⟨0, _, _, w.heap.size, [], by omega, rfl, rfl, Own.nil _ _ _ _, byt_nil, by simp, rfl, by simp, by simp, hal⟩
  case round =>
    obtain ⟨k, a, c, g, ys, hk, rfl, rfl, o, yb, yl, yv, p, q, hN⟩ := hrel
    by_cases hlt : k < 38
    · have hd := qdec_dig k hlt
      obtain ⟨b, hx, hb⟩ := ht.2 k hlt
      have hst := dec_step qdec k hlt
      have k1 : (k : Int) < 38 := by omega
      have b10 := byt_one (d := 10) (by omega) (by omega)
      have bd := byt_one (d := qdec.getD k 0) (by omega) (by omega)
      have e10 : bval [10] = 10 := by decide
      have ed : bval [qdec.getD k 0] = qdec.getD k 0 := by simp [bval]
      generalize qdec.getD k 0 = d at *
      have MU : Hid (∀ W b, Below wr.heap.size wr W → Blk W b .u8 [10] → Calls Tryd.prog 82 #[.slice a ys.length c, .slice (some ⟨b, 0, none⟩) 1 1] W fun r w' => ∃ zs a' c' g', r = .returned (.slice a' zs.length c') ∧ Own w' g' a' .u8 zs ∧ Canon zs (dec qdec k * 10) ∧ W.heap.size ≤ g' ∧ Below W.heap.size W w') := by
        intro W b n B
        refine (l1Mul_any W g b a _ c 1 ys [10] (o.up n).rd B.own0.rd yb b10 (by omega) (by decide)).mono ?_
        rintro r w' ⟨zs, C, ⟨a', c', g', rfl, o', p', q', r'⟩, n'⟩
        rw [e10, yv] at C
        exact ⟨zs, a', c', g', rfl, o', C, r', n'⟩
      have AD : Hid (∀ W b zs a' c' g', Own W g' a' .u8 zs → Canon zs (dec qdec k * 10) → Blk W b .u8 [d] → Calls Tryd.prog 71 #[.slice a' zs.length c', .slice (some ⟨b, 0, none⟩) 1 1] W fun r w' => ∃ us a' c' g', r = .returned (.slice a' us.length c') ∧ Own w' g' a' .u8 us ∧ Canon us (dec qdec (k + 1)) ∧ (a' = none → c' = 0) ∧ us.length ≤ c' ∧ Below W.heap.size W w') := by
        intro W b zs a' c' g' o' C' B
        have l' : zs.length ≤ 64 := C'.len (dec10_lt k hk)
        refine (l1Add_any W g' b a' _ c' 1 zs [d] o'.rd B.own0.rd C'.1 bd (by omega) (by simp)).mono ?_
        rintro r w' ⟨us, C, ⟨a2, c2, g2, rfl, o2, p2, q2, r2⟩, n'⟩
        rw [ed, C'.2.1, ← hst] at C
        exact ⟨us, a2, c2, g2, rfl, o2, C, p2, q2, n'⟩
      have hx2 : t[k]'(by omega) = b := by
        have h := getElem?_pos t k (by omega)
        rw [hx] at h
        exact (Option.some.inj h).symm
      have hw : IntKind.u8.wrap (((t[k]'(by omega)).toNat : Int) - 48) = d := by rw [hx2, IntKind.wrap_u8]; omega
      have hwd : IntKind.u8.wrap d = d := by rw [IntKind.wrap_u8]; omega
      have nd : Below wr.heap.size wr wr.drew := (Below.refl _ _).drew
      have nm : ∀ W o, Below wr.heap.size wr W → Below wr.heap.size wr (W.alloc o) := fun W o n => n.alloc n.size _
      clear hst yv yb b10 bd e10 ed
      go_wp2
      go_region_with
        (first
          | (go_at_call 82; refine ((unhide MU) _ _ (by first | exact nm _ _ nd | exact nm _ _ (nm _ _ nd)) (by first | exact one_a _ _ | exact one_b _ _ _ | exact one_c _ _ _)).mono ?_; rintro r ws ⟨zs, a1, c1, g1, rfl, o1, C1, r1, n1⟩)
          | (go_at_call 71; refine ((unhide AD) _ _ zs a1 c1 g1 (by first | exact o1 | exact o1.up ((Below.refl _ _).alloc (Nat.le_refl _) _)) C1 (by first | exact one_a _ _ | exact upb n1 (one_a _ _) | exact upb n1 (one_b _ _ _) | exact upb n1 (one_c _ _ _))).mono ?_; rintro r wt ⟨us, a2, c2, g2, rfl, o2, C2, p2, q2, n2⟩))
      all_goals
        have N2 : Below w.heap.size w wt := by
          first
            | exact nxt (nxt hN (nxt (nm _ _ (nm _ _ nd)) n1)) n2
            | exact nxt (nxt (nxt hN (nxt (nm _ _ nd) n1)) ((Below.refl _ _).alloc (Nat.le_refl _) _)) n2
        have L2 : us.length ≤ 64 := C2.len (Int.lt_trans (dec_bd (k + 1) (by omega)).2 (by decide))
        clear MU AD n1 n2 hN o o1 C1 hx hx2 hw hwd nd nm
        go_wp2
        go_roundw
        case rel => exact ⟨k + 1, a2, c2, g2, us, by omega, by go_num, rfl, o2, C2.1, L2, C2.2.1, p2, q2, N2⟩
        case measure => simp [intOf]; omega
    · obtain rfl : k = 38 := by omega
      rw [qdec_all] at yv
      go_wp2_with fail
      refine (l1Trim_any wr g a c ys o.rd yb p q (by omega)).mono ?_
      rintro e w2 ⟨zs, C, l2, ⟨a2, c2, g2, rfl, o2, q1, q2, q3⟩, n2⟩
      rw [yv] at C
      have z := hN.size
      have N2 := nxt hN n2
      go_wp2
      go_ret
      exact ⟨zs, C, ⟨_, _, g2, rfl, o2, q1, q2, by omega⟩, N2⟩
end Go.Proofs.YtblkjpmkikhpbaaDoor

/-
  The even root modulo the prime, as the program and as the model seek it: numbers alone.
-/
namespace Go.Proofs.YtblkjpmkikhpbaaDoor
set_option maxRecDepth 100000

/-- (P + 3) / 8, and the power of 2 whose square is P - 1. -/
def eRt : Nat := 7237005577332262213973186563042994240829374041602535252466099000494570602494
abbrev iM : Int := 19681161376707505956807079304988542015446066515923890162744021073123829784752
theorem iM_sq : iM * iM % PP = PP - 1 := by decide +kernel
theorem turn_sq (r : Int) : (r * iM % PP) * (r * iM % PP) % PP = (0 - r * r) % PP := by
  rw [← Int.mul_emod]
  have e : r * iM * (r * iM) = r * r * (iM * iM) := by grind
  rw [e]
  generalize r * r = s
  have h : iM * iM = PP * (iM * iM / PP) + (PP - 1) := by rw [← iM_sq]; exact (Int.mul_ediv_add_emod _ _).symm
  rw [h]
  generalize iM * iM / PP = q
  have e2 : s * (PP * q + (PP - 1)) = (0 - s) + PP * (s * q + s) := by grind
  rw [e2, Int.add_mul_emod_self_left]
def rtR (A : Int) : Int := A ^ eRt % PP
def r1I (A : Int) : Int := if rtR A * rtR A % PP = (0 - A) % PP then rtR A * iM % PP else rtR A
def r1S (A : Int) : Int := if rtR A * rtR A % PP = A then rtR A else rtR A * iM % PP
theorem rtR_zero : rtR 0 = 0 := by
  unfold rtR
  rw [Int.zero_pow (by decide)]
  rfl
theorem neg_modP (x s : Int) (h : x % PP = s) : (0 - x) % PP = (0 - s) % PP := by
  rw [← h, Int.zero_sub, Int.zero_sub]
  have := Int.mul_ediv_add_emod x PP
  have e : -x = -(x % PP) + PP * (-(x / PP)) := by
    generalize x / PP = q at *
    generalize x % PP = t at *
    subst this
    grind
  rw [e, Int.add_mul_emod_self_left]
theorem not1 {A s : Int} (h0 : 0 ≤ A) (h1 : A < PP) (hA : ¬ A = 0) (c : s = A) : ¬ s = (0 - A) % PP := by
  subst c
  have e : (0 - s) % PP = PP - s := by
    rw [show 0 - s = (PP - s) + PP * (-1) by generalize PP = P; omega, Int.add_mul_emod_self_left]
    exact Int.emod_eq_of_lt (by generalize PP = P at *; omega) (by generalize PP = P at *; omega)
  rw [e]
  intro h
  have h2 : s + s = PP := by generalize PP = P at *; omega
  have h3 : (s + s) % 2 = 0 := by omega
  rw [h2] at h3
  exact absurd h3 (by decide)
theorem not2 {A s : Int} (h1 : A < PP) (s0 : 0 ≤ s) (s1 : s < PP) (c : ¬ s = (0 - A) % PP) : ¬ (0 - s) % PP = A := by
  have h2 : A < 57896044618658097711785492504343953926634992332820282019728792003956564819949 := h1
  have h3 : s < 57896044618658097711785492504343953926634992332820282019728792003956564819949 := s1
  have h4 : ¬ s = (0 - A) % 57896044618658097711785492504343953926634992332820282019728792003956564819949 := c
  show ¬ (0 - s) % 57896044618658097711785492504343953926634992332820282019728792003956564819949 = A
  omega
theorem same_root {A : Int} (h0 : 0 ≤ A) (h1 : A < PP) : (r1I A * r1I A % PP = A ↔ r1S A * r1S A % PP = A) ∧ (r1S A * r1S A % PP = A → r1I A = r1S A) := by
  unfold r1I r1S
  have ht := turn_sq (rtR A)
  have hz : A = 0 → rtR A = 0 := fun h => by rw [h]; exact rtR_zero
  generalize rtR A = r at *
  obtain ⟨s, hs⟩ : ∃ s, r * r % PP = s := ⟨_, rfl⟩
  have hs0 : 0 ≤ s ∧ s < PP := by rw [← hs]; exact ⟨Int.emod_nonneg _ (by decide), Int.emod_lt_of_pos _ (by decide)⟩
  rw [neg_modP _ _ hs] at ht
  rw [hs]
  by_cases hA : A = 0
  · have hr := hz hA
    subst hr
    have e1 : (0 : Int) * iM % PP = 0 := by rw [Int.zero_mul]; rfl
    have e2 : (0 : Int) * 0 % PP = 0 := rfl
    have es : s = 0 := by rw [← hs]; rfl
    have ea : (0 - A) % PP = 0 := by rw [hA]; rfl
    rw [es, ea, hA, if_pos rfl, if_pos rfl, e1]
    exact ⟨Iff.rfl, fun _ => rfl⟩
  · by_cases c1 : s = A
    · rw [if_pos c1, if_neg (not1 h0 h1 hA c1), hs]
      exact ⟨Iff.rfl, fun _ => rfl⟩
    · rw [if_neg c1, ht]
      by_cases c2 : s = (0 - A) % PP
      · rw [if_pos c2, ht]
        exact ⟨Iff.rfl, fun _ => rfl⟩
      · rw [if_neg c2, hs]
        have n2 : ¬ ((0 - s) % PP = A) := not2 h1 hs0.1 hs0.2 c2
        exact ⟨⟨fun h => absurd h c1, fun h => absurd h n2⟩, fun h => absurd h n2⟩
theorem rtR_bd (A : Int) : 0 ≤ rtR A ∧ rtR A < PP := by
  unfold rtR
  generalize A ^ eRt = x
  exact ⟨Int.emod_nonneg _ (by decide), Int.emod_lt_of_pos _ (by decide)⟩
theorem r1I_bd (A : Int) : 0 ≤ r1I A ∧ r1I A < PP := by
  unfold r1I
  split
  · generalize rtR A * iM = x
    exact ⟨Int.emod_nonneg _ (by decide), Int.emod_lt_of_pos _ (by decide)⟩
  · exact rtR_bd A
theorem r1S_bd (A : Int) : 0 ≤ r1S A ∧ r1S A < PP := by
  unfold r1S
  split
  · exact rtR_bd A
  · generalize rtR A * iM = x
    exact ⟨Int.emod_nonneg _ (by decide), Int.emod_lt_of_pos _ (by decide)⟩
/-- The even one of a root and its negative. -/
def fin2 (r : Int) : Int := if r % 2 = 0 then r else (0 - r) % PP
end Go.Proofs.YtblkjpmkikhpbaaDoor

/-
  Rows of sixteen limbs that are read and written whole; the model's shift by 253.
-/
namespace Go.Proofs.YtblkjpmkikhpbaaDoor
set_option maxRecDepth 100000
open Go.RowKit

set_option maxHeartbeats 1000000 in
theorem l1Shift253_any (w : World) (g : Nat) (ad : Addr) (c : Nat) (xs : List Int) (ha : Rd w g (some ad) .u8 xs) (hb : Byt xs) (hl : xs.length ≤ 64) (h0 : 0 < xs.length) :
    Calls Tryd.prog 84 #[.slice (some ad) xs.length c, .int .i64 253] w fun e w' => ∃ ys, Canon ys (bval xs * 14474011154664524427946373126085988481658748083205070504932198000989141204992) ∧ NewRow w.heap.size w' e .u8 ys ∧ Below w.heap.size w w' := by
  obtain ⟨i0, hi, hz0, hz1, hz2⟩ := info_parts Tryd.info5
  go_enter Tryd.func84, Tryd.ntmps84
  go_wp2_with fail
  refine (l1Copy_own w g ad c xs ha (by omega) h0).mono ?_
  rintro e w1 ⟨v, rfl, hv, o1, n1⟩
  obtain ⟨v', w2, hap, o2, hgr, hv'⟩ := append_zeros_own (P := Tryd.prog) w1 22 3 22 5 i0 .i64 .i64 Tryd.underlying22 Tryd.underlying3 hi hz0 hz1 hz2 w.heap.size v xs.length _ o1 hv 31 (by omega) (by omega) n1.size
  have n2 : Below w.heap.size w w2 := n1.grown hgr (n1.size) (fun i hi => (o1.lt i hi).1)
  have o2' : w2.ownsRow w.heap.size 5 1 v' (xs ++ List.replicate 31 0).length ((xs ++ List.replicate 31 0).map (Value.int .u8)) := by simpa using o2
  obtain ⟨a3, c3, g3, rfl, o3, p3, q3, r3⟩ := Own.of_ownsRow o2'
  have V := hide (bval_zeros xs 31)
  have Z := byt_addz hb 31
  have L : (xs ++ List.replicate 31 (0 : Int)).length ≤ 128 := by simp; omega
  generalize xs ++ List.replicate 31 (0 : Int) = zs at *
  clear o1 o2 o2' hgr hv hv'
  go_wp2_with (at_builtin; refine Lib.wpList_append_run _ rfl _ _ 22 3 rfl _ _ rfl rfl _ _ hap ?_)
  have n3 : Below w2.heap.size w2 (w2.alloc (.cells #[.int .u8 32] 5)) := (Below.refl _ _).alloc (Nat.le_refl _) _
  have B2 : Blk (w2.alloc (.cells #[.int .u8 32] 5)) w2.heap.size .u8 [32] := ⟨5, by rw [heap_alloc_last]; rfl⟩
  generalize w2.alloc (.cells #[.int .u8 32] 5) = w4 at *
  have hb2 : Byt [32] := fun i => by
    match i with
    | 0 => decide
    | i + 1 => simp
  refine (l1Mul_any w4 g3 _ _ _ c3 1 zs [32] (o3.up n3).rd B2.own0.rd Z hb2 (by omega) (by decide)).mono ?_
  rintro e w5 ⟨ys, C, ⟨a5, c5, g5, rfl, o5, p5, q5, r5⟩, n5⟩
  have N5 := nxt (nxt n2 n3) n5
  have z := (nxt n2 n3).size
  have C' : Canon ys (bval xs * 14474011154664524427946373126085988481658748083205070504932198000989141204992) := by
    rw [V.out] at C
    have e1 : bval [32] = 32 := by decide
    have e2 : (256 : Int) ^ 31 * 32 = 14474011154664524427946373126085988481658748083205070504932198000989141204992 := by decide
    rw [e1, Int.mul_assoc, e2] at C
    exact C
  clear hap C
  go_wp2
  go_ret
  exact ⟨ys, C', ⟨a5, c5, g5, rfl, o5, p5, q5, by omega⟩, N5⟩


/-- Sixteen limbs in a block, that may be written. -/
def R16 (W : World) (q : Nat) (t : Nat → Int) : Prop := W.rangeAt q 0 (a16 t).toList ∧ W.there q 0 16
theorem R16.lt {W : World} {q : Nat} {t : Nat → Int} (h : R16 W q t) : q < W.heap.size := by
  have h0 := (h.2 0 (by omega)).1
  rw [Option.isSome_iff_exists] at h0
  obtain ⟨v, hv⟩ := h0
  exact block_lt_of_cell hv
theorem R16.of_block {W W' : World} {q : Nat} {t : Nat → Int} (h : R16 W q t) (hb : W'.heap[q]? = W.heap[q]?) : R16 W' q t :=
  ⟨fun j v hv => (World.cell?_of_block (a := ⟨q, 0 + j, none⟩) hb).trans (h.1 j v hv), fun j hj => ⟨by rw [World.cell?_of_block (a := ⟨q, 0 + j, none⟩) hb]; exact (h.2 j hj).1, by rw [World.frozen?_of_block (a := ⟨q, 0 + j, none⟩) hb]; exact (h.2 j hj).2⟩⟩
theorem R16.up {W W' : World} {q : Nat} {t : Nat → Int} (h : R16 W q t) (n : Below W.heap.size W W') : R16 W' q t := h.of_block (n.block q h.lt)
theorem there16 {W : World} {q : Nat} {f : Nat → Int} (h : Blk W q .i64 (ls16 f)) : W.there q 0 16 := fun j hj =>
  ⟨by rw [Nat.zero_add, h.cell (by rw [ls16_len]; exact hj)]; rfl, h.free _⟩
theorem R16.ofBlk {W : World} {q : Nat} {f : Nat → Int} (h : Blk W q .i64 (ls16 f)) : R16 W q f := ⟨rng16 h, there16 h⟩
theorem below_setCells {B : Nat} {w : World} {b : Nat} (hb : B ≤ b) : ∀ (vs : List Value) (o : Nat) (w' : World), Below B w w' → Below B w (w'.setCells b o vs)
  | [], _, _, h => h
  | v :: vs, o, w', h => by
    rw [World.setCells]
    exact below_setCells hb vs (o + 1) _ (h.setCell hb v)
theorem setCells_other {b g : Nat} (hne : g ≠ b) : ∀ (vs : List Value) (o : Nat) (w : World), (w.setCells b o vs).heap[g]? = w.heap[g]?
  | [], _, _ => rfl
  | v :: vs, o, w => by
    rw [World.setCells, setCells_other hne vs (o + 1)]
    exact heap_setCell_other w ⟨b, o, none⟩ g v hne
theorem R16.set {W : World} {q : Nat} (t : Nat → Int) (h : W.there q 0 16) : R16 (W.setCells q 0 (a16 t).toList) q t :=
  ⟨World.rangeAt_setCells_same W q 0 _ (by have : (a16 t).toList.length = 16 := by simp [ls16]
                                           rw [this]; exact h), World.there_setCells h _ _ _⟩
theorem R16.keep {W : World} {q g : Nat} {t : Nat → Int} (h : R16 W g t) (vs : List Value) (hne : g ≠ q) : R16 (W.setCells q 0 vs) g t := h.of_block (setCells_other hne vs 0 W)
/-- (P - 1) / 4. -/
def eI : Nat := 14474011154664524427946373126085988481658748083205070504932198000989141204987
theorem pow_cast (e n i : Nat) (h : 2 ^ e % n = i) : (2 : Int) ^ e % (n : Int) = (i : Int) := by
  rw [← h, Int.natCast_emod, Int.natCast_pow]
  rfl
theorem eI_pm : pm 57896044618658097711785492504343953926634992332820282019728792003956564819949 256 2 eI = 19681161376707505956807079304988542015446066515923890162744021073123829784752 := by decide +kernel
theorem eI_lt : eI < 2 ^ 256 := by decide +kernel
theorem two_pow_i : (2 : Int) ^ eI % PP = iM :=
  pow_cast eI 57896044618658097711785492504343953926634992332820282019728792003956564819949 _ ((pm_eq _ 256 2 eI eI_lt).symm.trans eI_pm)
end Go.Proofs.YtblkjpmkikhpbaaDoor
