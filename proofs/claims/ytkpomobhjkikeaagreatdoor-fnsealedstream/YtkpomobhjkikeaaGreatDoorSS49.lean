import Derived.Test.YtkpomobhjkikeaaGreatDoorSS47
import Derived.Test.YtkpomobhjkikeaaGreatDoorSS41
import Derived.Deep.RegionWith
import Derived.Deep.WholeRow
import Derived.Deep.RegionHeld3
import Derived.Test.YtkpomobhjkikeaaGreatDoorSS48
import Derived.Test.YtkpomobhjkikeaaGreatDoorSS30
import Derived.Deep.MidRow
namespace Go.Proofs.YtkpomobhjkikeaaGreatDoor
set_option maxRecDepth 100000
abbrev QQ : Int := 7237005577332262213973186563042994240857116359379907606001950938285454250989
def W8 (D : Nat → Int) : Prop := ∀ j, j < 8 → 0 ≤ D j ∧ D j < 18446744073709551616
def ac (n : Int) (s d : Nat → Int) : Nat → Int
  | 0 => 0
  | k + 1 => (ac n s d k + n * s k + d k) / 18446744073709551616
def at8 (p : Nat) (n : Int) (s D : Nat → Int) (k j : Nat) : Int :=
  if p ≤ j ∧ j < p + k then (ac n s (fun i => D (p + i)) (j - p) + n * s (j - p) + D j) % 18446744073709551616 else D j
def adT (p : Nat) (n : Int) (s D : Nat → Int) (j : Nat) : Int :=
  if j = p + 4 then D j + ac n s (fun i => D (p + i)) 4 else at8 p n s D 4 j
theorem W46.bd {u : Nat → Int} (h : W46 u) : 0 ≤ wval u ∧ wval u < 115792089237316195423570985008687907853269984665640564039457584007913129639936 := by
  have h0 := h 0 (by omega); have h1 := h 1 (by omega); have h2 := h 2 (by omega); have h3 := h 3 (by omega)
  unfold wval
  omega
def ma (s t u : Nat → Int) : Nat → Nat → Int
  | 0, j => if j < 4 then u j else 0
  | i + 1, j => adT i (s i) t (ma s t u i) j
end Go.Proofs.YtkpomobhjkikeaaGreatDoor
namespace Go.Proofs.YtkpomobhjkikeaaGreatDoor
set_option maxRecDepth 100000
open Go.RowKit
set_option maxHeartbeats 400000 in
theorem l1Copy_own6 (w : World) (g : Nat) (ad : Addr) (cap : Nat) (xs : List Int) (hr : Rd w g (some ad) .u8 xs) (hn : xs.length ≤ 1048576) (h0 : 0 < xs.length) :
    Calls Tryz.prog 69 #[.slice (some ad) xs.length cap] w fun e w' => ∃ v, e = .returned v ∧ v ≠ .slice none 0 0 ∧ w'.ownsRow w.heap.size 5 1 v xs.length (xs.map (Value.int .u8)) ∧ Below w.heap.size w w' := by
  obtain ⟨i0, hi, hz0, hz1, hz2⟩ := info_parts Tryz.info5
  have hown : (w.alloc (.cells #[] 5)).ownsRow w.heap.size 5 1 (.slice (some ⟨w.heap.size, 0, none⟩) 0 0) 0 [] := World.ownsRow_lit w #[] 0 (Nat.le_refl _) (by unfold maxLen; omega) (by simp)
  have hal : Below w.heap.size w (w.alloc (.cells #[] 5)) := (Below.refl _ _).alloc (Nat.le_refl _) _
  have hcell : ∀ j u, (xs.map (Value.int .u8))[j]? = some u → (w.alloc (.cells #[] 5)).cell? (ad.add j) = some u := by
    intro j u hj
    have hjl : j < xs.length := by
      have := (List.getElem?_eq_some_iff.1 hj).1
      simpa using this
    obtain ⟨off, ha, hcc⟩ := (hr.up hal) (by omega)
    simp only [Option.some.injEq] at ha
    subst ha
    rw [Addr.add_mid, hcc j hjl]
    simpa [hjl] using hj
  have hone : ∀ u ∈ xs.map (Value.int .u8), u.oneCell' = true := oneCells _ _
  go_enter Tryz.func69, Tryz.ntmps69
  go_wp2_with (at_builtin; refine wpList_append_own _ rfl _ _ 22 rfl w.heap.size 5 i0 (.int .u8 0) 1 1 Tryz.underlying22 hi hz0 hz1 hz2 rfl (by decide) (.slice (some ⟨w.heap.size, 0, none⟩) 0 0) 0 [] rfl hown ad xs.length cap (xs.map (Value.int .u8)) rfl (by simp) hcell hone (by unfold maxLen; omega) (by omega) (by simp) ?_; intro v' w1 hown' hgrow hnil)
  simp only [Nat.zero_add, List.nil_append] at hown'
  have hB : Below w.heap.size w w1 := hal.grown hgrow (by simp) (by intro k hk; simp [Value.ownBlock] at hk; omega)
  have hv : v' ≠ .slice none 0 0 := fun h => by have := (hnil.1 h).1; simp at this
  clear hgrow hown hnil
  go_wp2
  go_ret
  exact ⟨_, rfl, hv, hown', hB⟩
set_option maxHeartbeats 1000000 in
theorem l1Shift252_any (w : World) (g : Nat) (ad : Addr) (c : Nat) (xs : List Int) (ha : Rd w g (some ad) .u8 xs) (hb : Byt xs) (hl : xs.length ≤ 64) (h0 : 0 < xs.length) :
    Calls Tryz.prog 53 #[.slice (some ad) xs.length c, .int .i64 252] w fun e w' => ∃ ys, Canon ys (bval xs * 7237005577332262213973186563042994240829374041602535252466099000494570602496) ∧ NewRow w.heap.size w' e .u8 ys ∧ Below w.heap.size w w' := by
  obtain ⟨i0, hi, hz0, hz1, hz2⟩ := info_parts Tryz.info5
  go_enter Tryz.func53, Tryz.ntmps53
  go_wp2_with fail
  refine (l1Copy_own6 w g ad c xs ha (by omega) h0).mono ?_
  rintro e w1 ⟨v, rfl, hv, o1, n1⟩
  obtain ⟨v', w2, hap, o2, hgr, hv'⟩ := append_zeros_own (P := Tryz.prog) w1 22 3 22 5 i0 .i64 .i64 Tryz.underlying22 Tryz.underlying3 hi hz0 hz1 hz2 w.heap.size v xs.length _ o1 hv 31 (by omega) (by omega) n1.size
  have n2 : Below w.heap.size w w2 := n1.grown hgr (n1.size) (fun i hi => (o1.lt i hi).1)
  have o2' : w2.ownsRow w.heap.size 5 1 v' (xs ++ List.replicate 31 0).length ((xs ++ List.replicate 31 0).map (Value.int .u8)) := by simpa using o2
  obtain ⟨a3, c3, g3, rfl, o3, p3, q3, r3⟩ := Own.of_ownsRow o2'
  have V := hide (bval_zeros xs 31)
  have Z := byt_addz hb 31
  have L : (xs ++ List.replicate 31 (0 : Int)).length ≤ 128 := by simp; omega
  generalize xs ++ List.replicate 31 (0 : Int) = zs at *
  clear o1 o2 o2' hgr hv hv'
  go_wp2_with (at_builtin; refine Lib.wpList_append_run _ rfl _ _ 22 3 rfl _ _ rfl rfl _ _ hap ?_)
  have n3 : Below w2.heap.size w2 (w2.alloc (.cells #[.int .u8 16] 5)) := (Below.refl _ _).alloc (Nat.le_refl _) _
  have B2 : Blk (w2.alloc (.cells #[.int .u8 16] 5)) w2.heap.size .u8 [16] := ⟨5, by rw [heap_alloc_last]; rfl⟩
  generalize w2.alloc (.cells #[.int .u8 16] 5) = w4 at *
  have hb2 : Byt [16] := fun i => by
    match i with
    | 0 => decide
    | i + 1 => simp
  refine (l1Mul_any w4 g3 _ _ _ c3 1 zs [16] (o3.up n3).rd B2.own0.rd Z hb2 (by omega) (by decide)).mono ?_
  rintro e w5 ⟨ys, C, ⟨a5, c5, g5, rfl, o5, p5, q5, r5⟩, n5⟩
  have N5 := nxt (nxt n2 n3) n5
  have z := (nxt n2 n3).size
  have C' : Canon ys (bval xs * 7237005577332262213973186563042994240829374041602535252466099000494570602496) := by
    rw [V.out] at C
    have e1 : bval [16] = 16 := by decide
    have e2 : (256 : Int) ^ 31 * 16 = 7237005577332262213973186563042994240829374041602535252466099000494570602496 := by decide
    rw [e1, Int.mul_assoc, e2] at C
    exact C
  clear hap C
  go_wp2
  go_ret
  exact ⟨ys, C', ⟨a5, c5, g5, rfl, o5, p5, q5, by omega⟩, N5⟩
def qdec : List Int := [2, 7, 7, 4, 2, 3, 1, 7, 7, 7, 7, 3, 7, 2, 3, 5, 3, 5, 3, 5, 8, 5, 1, 9, 3, 7, 7, 9, 0, 8, 8, 3, 6, 4, 8, 4, 9, 3]
def dec (ds : List Int) (k : Nat) : Int := (ds.take k).foldl (fun v d => v * 10 + d) 0
theorem upb {w w' : World} (n : Below w.heap.size w w') {g : Nat} {k : IntKind} {ys : List Int} (h : Blk w g k ys) : Blk w' g k ys := h.up n
theorem one_a (W : World) (d : Int) : Blk (W.alloc (.cells #[.int .u8 d] 5)) W.heap.size .u8 [d] := ⟨5, by rw [heap_alloc_last]; rfl⟩
theorem one_b (W : World) (d : Int) (o : Obj) : Blk ((W.alloc (.cells #[.int .u8 d] 5)).alloc o) W.heap.size .u8 [d] := (one_a W d).up ((Below.refl _ _).alloc (Nat.le_refl _) _)
theorem one_c (W : World) (d : Int) (o : Obj) : Blk ((W.alloc o).alloc (.cells #[.int .u8 d] 5)) (W.heap.size + 1) .u8 [d] := by
  have h := one_a (W.alloc o) d
  simpa using h
theorem dec_step (ds : List Int) (k : Nat) (h : k < ds.length) : dec ds (k + 1) = dec ds k * 10 + ds.getD k 0 := by
  unfold dec
  rw [List.take_succ_eq_append_getElem h, List.foldl_append]
  simp [h]
theorem qdec_dig : ∀ k, k < 38 → 0 ≤ qdec.getD k 0 ∧ qdec.getD k 0 ≤ 9 := by decide
theorem dec_bd : ∀ k, k ≤ 38 → 0 ≤ dec qdec k ∧ dec qdec k < 256 ^ 16 := by decide +kernel
theorem dec10_lt (k : Nat) (hk : k ≤ 38) : dec qdec k * 10 < 256 ^ 64 := by
  have h := dec_bd k hk
  have e : (256 : Int) ^ 16 * 10 < 256 ^ 64 := by decide
  omega
theorem qdec_all : dec qdec 38 = 27742317777372353535851937790883648493 := by decide +kernel
def Txt (t : ByteArray) (ds : List Int) : Prop := t.size = ds.length ∧ ∀ k, k < ds.length → ∃ b : UInt8, t[k]? = some b ∧ (b.toNat : Int) = ds.getD k 0 + 48
set_option maxHeartbeats 1000000 in
theorem l1Decimal_any (w : World) (t : ByteArray) (ht : Txt t qdec) :
    Calls Tryz.prog 95 #[.string t] w fun e w' => ∃ ys, Canon ys 27742317777372353535851937790883648493 ∧ NewRow w.heap.size w' e .u8 ys ∧ Below w.heap.size w w' := by
  have hs : t.size = 38 := ht.1
  have hal : Below w.heap.size w (w.alloc (.cells #[] 5)) := (Below.refl _ _).alloc (Nat.le_refl _) _
  go_enter Tryz.func95, Tryz.ntmps95
  go_wp2
  go_loopw [3, 4] (fun v i wr => ∃ (k : Nat) (a : Option Addr) (c g : Nat) (ys : List Int), k ≤ 38 ∧ i = .int .i64 k ∧ v = .slice a ys.length c ∧ Own wr g a .u8 ys ∧ Byt ys ∧ ys.length ≤ 64 ∧ bval ys = dec qdec k ∧ (a = none → c = 0) ∧ ys.length ≤ c ∧ Below w.heap.size w wr) (fun _ i _ => 38 - (intOf i).toNat)
  case atStart => exact ⟨0, _, _, w.heap.size, [], by omega, rfl, rfl, Own.nil _ _ _ _, byt_nil, by simp, rfl, by simp, by simp, hal⟩
  case round =>
    obtain ⟨k, a, c, g, ys, hk, rfl, rfl, o, yb, yl, yv, p, q, hN⟩ := hrel
    by_cases hlt : k < 38
    · have hd := qdec_dig k hlt
      obtain ⟨b, hx, hb⟩ := ht.2 k hlt
      have hst := dec_step qdec k hlt
      have k1 : (k : Int) < 38 := by omega
      have b10 := byt_one (d := 10) (by omega) (by omega)
      have bd := byt_one (d := qdec.getD k 0) (by omega) (by omega)
      have e10 : bval [10] = 10 := by decide
      have ed : bval [qdec.getD k 0] = qdec.getD k 0 := by simp [bval]
      generalize qdec.getD k 0 = d at *
      have MU : Hid (∀ W b, Below wr.heap.size wr W → Blk W b .u8 [10] → Calls Tryz.prog 70 #[.slice a ys.length c, .slice (some ⟨b, 0, none⟩) 1 1] W fun r w' => ∃ zs a' c' g', r = .returned (.slice a' zs.length c') ∧ Own w' g' a' .u8 zs ∧ Canon zs (dec qdec k * 10) ∧ W.heap.size ≤ g' ∧ Below W.heap.size W w') := by
        intro W b n B
        refine (l1Mul_any W g b a _ c 1 ys [10] (o.up n).rd B.own0.rd yb b10 (by omega) (by decide)).mono ?_
        rintro r w' ⟨zs, C, ⟨a', c', g', rfl, o', p', q', r'⟩, n'⟩
        rw [e10, yv] at C
        exact ⟨zs, a', c', g', rfl, o', C, r', n'⟩
      have AD : Hid (∀ W b zs a' c' g', Own W g' a' .u8 zs → Canon zs (dec qdec k * 10) → Blk W b .u8 [d] → Calls Tryz.prog 51 #[.slice a' zs.length c', .slice (some ⟨b, 0, none⟩) 1 1] W fun r w' => ∃ us a' c' g', r = .returned (.slice a' us.length c') ∧ Own w' g' a' .u8 us ∧ Canon us (dec qdec (k + 1)) ∧ (a' = none → c' = 0) ∧ us.length ≤ c' ∧ Below W.heap.size W w') := by
        intro W b zs a' c' g' o' C' B
        have l' : zs.length ≤ 64 := C'.len (dec10_lt k hk)
        refine (l1Add_any W g' b a' _ c' 1 zs [d] o'.rd B.own0.rd C'.1 bd (by omega) (by simp)).mono ?_
        rintro r w' ⟨us, C, ⟨a2, c2, g2, rfl, o2, p2, q2, r2⟩, n'⟩
        rw [ed, C'.2.1, ← hst] at C
        exact ⟨us, a2, c2, g2, rfl, o2, C, p2, q2, n'⟩
      have hx2 : t[k]'(by omega) = b := by
        have h := getElem?_pos t k (by omega)
        rw [hx] at h
        exact (Option.some.inj h).symm
      have hw : IntKind.u8.wrap (((t[k]'(by omega)).toNat : Int) - 48) = d := by rw [hx2, IntKind.wrap_u8]; omega
      have hwd : IntKind.u8.wrap d = d := by rw [IntKind.wrap_u8]; omega
      have nd : Below wr.heap.size wr wr.drew := (Below.refl _ _).drew
      have nm : ∀ W o, Below wr.heap.size wr W → Below wr.heap.size wr (W.alloc o) := fun W o n => n.alloc n.size _
      clear hst yv yb b10 bd e10 ed
      go_wp2
      go_region_with
        (first
          | (go_at_call 70; refine ((unhide MU) _ _ (by first | exact nm _ _ nd | exact nm _ _ (nm _ _ nd)) (by first | exact one_a _ _ | exact one_b _ _ _ | exact one_c _ _ _)).mono ?_; rintro r ws ⟨zs, a1, c1, g1, rfl, o1, C1, r1, n1⟩)
          | (go_at_call 51; refine ((unhide AD) _ _ zs a1 c1 g1 (by first | exact o1 | exact o1.up ((Below.refl _ _).alloc (Nat.le_refl _) _)) C1 (by first | exact one_a _ _ | exact upb n1 (one_a _ _) | exact upb n1 (one_b _ _ _) | exact upb n1 (one_c _ _ _))).mono ?_; rintro r wt ⟨us, a2, c2, g2, rfl, o2, C2, p2, q2, n2⟩))
      all_goals
        have N2 : Below w.heap.size w wt := by
          first
            | exact nxt (nxt hN (nxt (nm _ _ (nm _ _ nd)) n1)) n2
            | exact nxt (nxt (nxt hN (nxt (nm _ _ nd) n1)) ((Below.refl _ _).alloc (Nat.le_refl _) _)) n2
        have L2 : us.length ≤ 64 := C2.len (Int.lt_trans (dec_bd (k + 1) (by omega)).2 (by decide))
        clear MU AD n1 n2 hN o o1 C1 hx hx2 hw hwd nd nm
        go_wp2
        go_roundw
        case rel => exact ⟨k + 1, a2, c2, g2, us, by omega, by go_num, rfl, o2, C2.1, L2, C2.2.1, p2, q2, N2⟩
        case measure => simp [intOf]; omega
    · obtain rfl : k = 38 := by omega
      rw [qdec_all] at yv
      go_wp2_with fail
      refine (l1Trim_any wr g a c ys o.rd yb p q (by omega)).mono ?_
      rintro e w2 ⟨zs, C, l2, ⟨a2, c2, g2, rfl, o2, q1, q2, q3⟩, n2⟩
      rw [yv] at C
      have z := hN.size
      have N2 := nxt hN n2
      go_wp2
      go_ret
      exact ⟨zs, C, ⟨_, _, g2, rfl, o2, q1, q2, by omega⟩, N2⟩
end Go.Proofs.YtkpomobhjkikeaaGreatDoor
namespace Go.Proofs.YtkpomobhjkikeaaGreatDoor
set_option maxRecDepth 100000
def eRt : Nat := 7237005577332262213973186563042994240829374041602535252466099000494570602494
abbrev iM : Int := 19681161376707505956807079304988542015446066515923890162744021073123829784752
def rtR (A : Int) : Int := A ^ eRt % PP
def r1S (A : Int) : Int := if rtR A * rtR A % PP = A then rtR A else rtR A * iM % PP
theorem rtR_bd (A : Int) : 0 ≤ rtR A ∧ rtR A < PP := by
  unfold rtR
  generalize A ^ eRt = x
  exact ⟨Int.emod_nonneg _ (by decide), Int.emod_lt_of_pos _ (by decide)⟩
theorem r1S_bd (A : Int) : 0 ≤ r1S A ∧ r1S A < PP := by
  unfold r1S
  split
  · exact rtR_bd A
  · generalize rtR A * iM = x
    exact ⟨Int.emod_nonneg _ (by decide), Int.emod_lt_of_pos _ (by decide)⟩
def fin2 (r : Int) : Int := if r % 2 = 0 then r else (0 - r) % PP
end Go.Proofs.YtkpomobhjkikeaaGreatDoor
namespace Go.Proofs.YtkpomobhjkikeaaGreatDoor
set_option maxRecDepth 100000
open Go.RowKit
set_option maxHeartbeats 1000000 in
theorem l1Shift253_any (w : World) (g : Nat) (ad : Addr) (c : Nat) (xs : List Int) (ha : Rd w g (some ad) .u8 xs) (hb : Byt xs) (hl : xs.length ≤ 64) (h0 : 0 < xs.length) :
    Calls Tryz.prog 53 #[.slice (some ad) xs.length c, .int .i64 253] w fun e w' => ∃ ys, Canon ys (bval xs * 14474011154664524427946373126085988481658748083205070504932198000989141204992) ∧ NewRow w.heap.size w' e .u8 ys ∧ Below w.heap.size w w' := by
  obtain ⟨i0, hi, hz0, hz1, hz2⟩ := info_parts Tryz.info5
  go_enter Tryz.func53, Tryz.ntmps53
  go_wp2_with fail
  refine (l1Copy_own6 w g ad c xs ha (by omega) h0).mono ?_
  rintro e w1 ⟨v, rfl, hv, o1, n1⟩
  obtain ⟨v', w2, hap, o2, hgr, hv'⟩ := append_zeros_own (P := Tryz.prog) w1 22 3 22 5 i0 .i64 .i64 Tryz.underlying22 Tryz.underlying3 hi hz0 hz1 hz2 w.heap.size v xs.length _ o1 hv 31 (by omega) (by omega) n1.size
  have n2 : Below w.heap.size w w2 := n1.grown hgr (n1.size) (fun i hi => (o1.lt i hi).1)
  have o2' : w2.ownsRow w.heap.size 5 1 v' (xs ++ List.replicate 31 0).length ((xs ++ List.replicate 31 0).map (Value.int .u8)) := by simpa using o2
  obtain ⟨a3, c3, g3, rfl, o3, p3, q3, r3⟩ := Own.of_ownsRow o2'
  have V := hide (bval_zeros xs 31)
  have Z := byt_addz hb 31
  have L : (xs ++ List.replicate 31 (0 : Int)).length ≤ 128 := by simp; omega
  generalize xs ++ List.replicate 31 (0 : Int) = zs at *
  clear o1 o2 o2' hgr hv hv'
  go_wp2_with (at_builtin; refine Lib.wpList_append_run _ rfl _ _ 22 3 rfl _ _ rfl rfl _ _ hap ?_)
  have n3 : Below w2.heap.size w2 (w2.alloc (.cells #[.int .u8 32] 5)) := (Below.refl _ _).alloc (Nat.le_refl _) _
  have B2 : Blk (w2.alloc (.cells #[.int .u8 32] 5)) w2.heap.size .u8 [32] := ⟨5, by rw [heap_alloc_last]; rfl⟩
  generalize w2.alloc (.cells #[.int .u8 32] 5) = w4 at *
  have hb2 : Byt [32] := fun i => by
    match i with
    | 0 => decide
    | i + 1 => simp
  refine (l1Mul_any w4 g3 _ _ _ c3 1 zs [32] (o3.up n3).rd B2.own0.rd Z hb2 (by omega) (by decide)).mono ?_
  rintro e w5 ⟨ys, C, ⟨a5, c5, g5, rfl, o5, p5, q5, r5⟩, n5⟩
  have N5 := nxt (nxt n2 n3) n5
  have z := (nxt n2 n3).size
  have C' : Canon ys (bval xs * 14474011154664524427946373126085988481658748083205070504932198000989141204992) := by
    rw [V.out] at C
    have e1 : bval [32] = 32 := by decide
    have e2 : (256 : Int) ^ 31 * 32 = 14474011154664524427946373126085988481658748083205070504932198000989141204992 := by decide
    rw [e1, Int.mul_assoc, e2] at C
    exact C
  clear hap C
  go_wp2
  go_ret
  exact ⟨ys, C', ⟨a5, c5, g5, rfl, o5, p5, q5, by omega⟩, N5⟩
def R16 (W : World) (q : Nat) (t : Nat → Int) : Prop := W.rangeAt q 0 (a16 t).toList ∧ W.there q 0 16
theorem R16.lt {W : World} {q : Nat} {t : Nat → Int} (h : R16 W q t) : q < W.heap.size := by
  have h0 := (h.2 0 (by omega)).1
  rw [Option.isSome_iff_exists] at h0
  obtain ⟨v, hv⟩ := h0
  exact block_lt_of_cell hv
theorem R16.of_block {W W' : World} {q : Nat} {t : Nat → Int} (h : R16 W q t) (hb : W'.heap[q]? = W.heap[q]?) : R16 W' q t :=
  ⟨fun j v hv => (World.cell?_of_block (a := ⟨q, 0 + j, none⟩) hb).trans (h.1 j v hv), fun j hj => ⟨by rw [World.cell?_of_block (a := ⟨q, 0 + j, none⟩) hb]; exact (h.2 j hj).1, by rw [World.frozen?_of_block (a := ⟨q, 0 + j, none⟩) hb]; exact (h.2 j hj).2⟩⟩
theorem R16.up {W W' : World} {q : Nat} {t : Nat → Int} (h : R16 W q t) (n : Below W.heap.size W W') : R16 W' q t := h.of_block (n.block q h.lt)
theorem there16 {W : World} {q : Nat} {f : Nat → Int} (h : Blk W q .i64 (ls16 f)) : W.there q 0 16 := fun j hj =>
  ⟨by rw [Nat.zero_add, h.cell (by rw [ls16_len]; exact hj)]; rfl, h.free _⟩
theorem R16.ofBlk {W : World} {q : Nat} {f : Nat → Int} (h : Blk W q .i64 (ls16 f)) : R16 W q f := ⟨rng16 h, there16 h⟩
theorem below_setCells {B : Nat} {w : World} {b : Nat} (hb : B ≤ b) : ∀ (vs : List Value) (o : Nat) (w' : World), Below B w w' → Below B w (w'.setCells b o vs)
  | [], _, _, h => h
  | v :: vs, o, w', h => by
    rw [World.setCells]
    exact below_setCells hb vs (o + 1) _ (h.setCell hb v)
theorem setCells_other {b g : Nat} (hne : g ≠ b) : ∀ (vs : List Value) (o : Nat) (w : World), (w.setCells b o vs).heap[g]? = w.heap[g]?
  | [], _, _ => rfl
  | v :: vs, o, w => by
    rw [World.setCells, setCells_other hne vs (o + 1)]
    exact heap_setCell_other w ⟨b, o, none⟩ g v hne
theorem R16.set {W : World} {q : Nat} (t : Nat → Int) (h : W.there q 0 16) : R16 (W.setCells q 0 (a16 t).toList) q t :=
  ⟨World.rangeAt_setCells_same W q 0 _ (by have : (a16 t).toList.length = 16 := by simp [ls16]
                                           rw [this]; exact h), World.there_setCells h _ _ _⟩
theorem R16.keep6 {W : World} {q g : Nat} {t : Nat → Int} (h : R16 W g t) (vs : List Value) (hne : g ≠ q) : R16 (W.setCells q 0 vs) g t := h.of_block (setCells_other hne vs 0 W)
def eI : Nat := 14474011154664524427946373126085988481658748083205070504932198000989141204987
theorem pow_cast (e n i : Nat) (h : 2 ^ e % n = i) : (2 : Int) ^ e % (n : Int) = (i : Int) := by
  rw [← h, Int.natCast_emod, Int.natCast_pow]
  rfl
theorem eI_pm : pm 57896044618658097711785492504343953926634992332820282019728792003956564819949 256 2 eI = 19681161376707505956807079304988542015446066515923890162744021073123829784752 := by decide +kernel
theorem eI_lt : eI < 2 ^ 256 := by decide +kernel
theorem two_pow_i : (2 : Int) ^ eI % PP = iM :=
  pow_cast eI 57896044618658097711785492504343953926634992332820282019728792003956564819949 _ ((pm_eq _ 256 2 eI eI_lt).symm.trans eI_pm)
end Go.Proofs.YtkpomobhjkikeaaGreatDoor
namespace Go.Proofs.YtkpomobhjkikeaaGreatDoor
set_option maxRecDepth 100000
open Go Go.RowKit
section
variable {P : Program} {ops : Array Oper} {Q : Exit → Act → World → Prop} {md : Region.Mode} {F : Nat → Fact} {a0 : Act} {w0 : World}
def RW (p : List Int → Prop) : Fact := ⟨fun v w => ∃ (xs : List Int) (a : Option Addr) (c g : Nat), v = .slice a xs.length c ∧ Own w g a .u8 xs ∧ p xs, fun n h => by
  obtain ⟨xs, a, c, g, e, o, q⟩ := h
  exact ⟨xs, a, c, g, e, o.up n, q⟩⟩
def EL (A : Int) : Fact := ⟨fun v _ => ∃ t, v = ag16 t ∧ L16 t ∧ s16 t 16 % PP = A % PP, fun _ h => h⟩
def Elt (W : World) (q o : Nat) (A : Int) : Prop := ∃ t, W.rangeAt q o (a16 t).toList ∧ q < W.heap.size ∧ L16 t ∧ s16 t 16 % PP = A % PP
theorem Elt.up {W W' : World} {q o : Nat} {A : Int} (h : Elt W q o A) (n : Below W.heap.size W W') : Elt W' q o A := by
  obtain ⟨t, r, l, h⟩ := h
  exact ⟨t, fun j v hv => (World.cell?_of_block (a := ⟨q, o + j, none⟩) (n.block q l)).trans (r j v hv), Nat.lt_of_lt_of_le l n.size, h⟩
theorem Elt.ofR {W : World} {q : Nat} {t : Nat → Int} {A : Int} (h : R16 W q t) (L : L16 t) (V : s16 t 16 % PP = A % PP) : Elt W q 0 A := ⟨t, h.1, h.lt, L, V⟩
theorem step_call {i : Nat} {o : Oper} (hi : ops[i]? = some o) (n : FuncId) (args : Array Operand) (ts : Array TypeId) (hop : o.op = .call { callee := .value (.func n), args := args, argTypes := ts }) (he : enters P n = true)
    (G : ∀ a w, Based ops a0 a → Below w0.heap.size w0 w → Facts md ops F i a w → Calls P n (args.toList.map a.eval).toArray w fun e w' => ∃ v, e = .returned v ∧ Below w.heap.size w w' ∧ (F i).p v w') : StepOk P md ops Q F a0 w0 i := by
  intro o' ho' a w hb hw hf K hK
  obtain rfl := Option.some.inj (hi.symm.trans ho')
  have hr : (execOp a.eval o).run P w = .ok (.enter n (args.map a.eval)) w := by
    have h0 : (Deferred.ofValue (Value.func (Fn.func n) #[] #[]) (args.map a.eval)).run P w = .ok { target := .fn (.func n) #[], args := args.map a.eval } w := by simp [Deferred.ofValue]
    simp [execOp, hop, resolve, invoke, Act.eval, h0, run_enter he]
  have e : args.map a.eval = (args.toList.map a.eval).toArray := by cases args; simp
  unfold Oper.wp
  rw [hr, e, Oper.upon_enter]
  refine (G a w hb hw hf).mono ?_
  rintro e w' ⟨v, rfl, hn, hv⟩
  exact hK v w' hn hv
theorem step_el {i : Nat} {o : Oper} (hi : ops[i]? = some o) (ty : TypeId) (p : Nat) (hop : o.op = .load ty (.tmp p)) (hu : P.underlying ty = some (.array 16 2)) (hs : (P.info? ty).map (·.size) = some 16)
    (hp : apart ops p = true) (q off : Nat) (h0 : a0.tmps.getD p undef = .pointer (some ⟨q, off, none⟩)) (A : Int) (hE : Elt w0 q off A) (hF : F i = EL A) : StepOk P md ops Q F a0 w0 i := by
  refine step_load hi ty _ hop _ 16 hu rfl hs fun a w hb hw _ => ?_
  obtain ⟨t, r, _, L, V⟩ := hE.up hw
  exact ⟨q, off, _, (based_at hb p hp).trans h0, r, by simp [ls16], by rw [hF]; exact ⟨t, rfl, L, V⟩⟩
theorem step_elf {i : Nat} {o : Oper} (hi : ops[i]? = some o) (ty : TypeId) (p j : Nat) (hop : o.op = .load ty (.tmp p)) (hu : P.underlying ty = some (.array 16 2)) (hs : (P.info? ty).map (·.size) = some 16)
    (hj : waits md ops i j p = true) (q off : Nat) (hFj : F j = Fact.eq (.pointer (some ⟨q, off, none⟩))) (A : Int) (hE : Elt w0 q off A) (hF : F i = EL A) : StepOk P md ops Q F a0 w0 i := by
  refine step_load hi ty _ hop _ 16 hu rfl hs fun a w _ hw hf => ?_
  obtain ⟨t, r, _, L, V⟩ := hE.up hw
  have e := hf j p hj
  rw [hFj] at e
  exact ⟨q, off, _, e, r, by simp [ls16], by rw [hF]; exact ⟨t, rfl, L, V⟩⟩
theorem step_fld {i : Nat} {o : Oper} (hi : ops[i]? = some o) (ty : TypeId) (p f : Nat) (hop : o.op = .fieldAddr ty (.tmp p) f) (hp : apart ops p = true) (q off : Nat) (h0 : a0.tmps.getD p undef = .pointer (some ⟨q, 0, none⟩))
    (hr : ∀ w, (Instr.fieldAt ty (.pointer (some ⟨q, 0, none⟩)) f).run P w = .ok (.pointer (some ⟨q, off, none⟩)) w) (hF : F i = Fact.eq (.pointer (some ⟨q, off, none⟩))) : StepOk P md ops Q F a0 w0 i := by
  refine step_pure hi fun a w hb _ _ => ⟨_, ?_, by rw [hF]; exact rfl⟩
  have e := (based_at hb p hp).trans h0
  simp [execOp, hop, e, hr]
theorem step_two {i : Nat} {o : Oper} (hi : ops[i]? = some o) (n : FuncId) (p q : Nat) (ts : Array TypeId) (hop : o.op = .call { callee := .value (.func n), args := #[.tmp p, .tmp q], argTypes := ts }) (he : enters P n = true)
    (f : Int → Int → Int) (law : ∀ (w : World) (a b : Nat → Int), L16 a → L16 b → Calls P n #[ag16 a, ag16 b] w fun r w' => ∃ t, r = .returned (ag16 t) ∧ L16 t ∧ s16 t 16 % PP = f (s16 a 16) (s16 b 16) % PP ∧ Below w.heap.size w w')
    (hf : ∀ a b A B : Int, a % PP = A % PP → b % PP = B % PP → f a b % PP = f A B % PP)
    (j k : Nat) (A B : Int) (hj : waits md ops i j p = true) (hk : waits md ops i k q = true) (hFj : F j = EL A) (hFk : F k = EL B) (hFi : F i = EL (f A B)) : StepOk P md ops Q F a0 w0 i := by
  refine step_call hi n _ ts hop he fun a w _ _ hF => ?_
  have ea := hF j p hj
  have eb := hF k q hk
  rw [hFj] at ea
  rw [hFk] at eb
  obtain ⟨t, e1, L1, V1⟩ := ea
  obtain ⟨u, e2, L2, V2⟩ := eb
  show Calls P n #[a.tmps.getD p undef, a.tmps.getD q undef] w _
  rw [e1, e2]
  refine (law w t u L1 L2).mono ?_
  rintro r w' ⟨s, rfl, L, V, hn⟩
  exact ⟨_, rfl, hn, by rw [hFi]; exact ⟨s, rfl, L, by rw [V]; exact hf _ _ _ _ V1 V2⟩⟩
theorem step_one {i : Nat} {o : Oper} (hi : ops[i]? = some o) (n : FuncId) (p : Nat) (ts : Array TypeId) (hop : o.op = .call { callee := .value (.func n), args := #[.tmp p], argTypes := ts }) (he : enters P n = true)
    (f : Int → Int) (law : ∀ (w : World) (a : Nat → Int), L16 a → Calls P n #[ag16 a] w fun r w' => ∃ t, r = .returned (ag16 t) ∧ L16 t ∧ s16 t 16 % PP = f (s16 a 16) % PP ∧ Below w.heap.size w w')
    (hf : ∀ a A : Int, a % PP = A % PP → f a % PP = f A % PP)
    (j : Nat) (A : Int) (hj : waits md ops i j p = true) (hFj : F j = EL A) (hFi : F i = EL (f A)) : StepOk P md ops Q F a0 w0 i := by
  refine step_call hi n _ ts hop he fun a w _ _ hF => ?_
  have ea := hF j p hj
  rw [hFj] at ea
  obtain ⟨t, e1, L1, V1⟩ := ea
  show Calls P n #[a.tmps.getD p undef] w _
  rw [e1]
  refine (law w t L1).mono ?_
  rintro r w' ⟨s, rfl, L, V, hn⟩
  exact ⟨_, rfl, hn, by rw [hFi]; exact ⟨s, rfl, L, by rw [V]; exact hf _ _ V1⟩⟩
end
abbrev zObj : Obj := .cells #[.int .i64 0, .int .i64 0, .int .i64 0, .int .i64 0, .int .i64 0, .int .i64 0, .int .i64 0, .int .i64 0, .int .i64 0, .int .i64 0, .int .i64 0, .int .i64 0, .int .i64 0, .int .i64 0, .int .i64 0, .int .i64 0] 128
theorem blk_zObj (W : World) : Blk (W.alloc zObj) W.heap.size .i64 (ls16 (fun _ => 0)) := by
  have h := blk16 W 128 (fun _ => 0)
  exact h
theorem mod_mul {a b A B : Int} (h : a % PP = A % PP) (k : b % PP = B % PP) : a * b % PP = A * B % PP := by rw [Int.mul_emod, h, k, ← Int.mul_emod]
theorem mod_add {a b A B : Int} (h : a % PP = A % PP) (k : b % PP = B % PP) : (a + b) % PP = (A + B) % PP := by rw [Int.add_emod, h, k, ← Int.add_emod]
theorem mod_sub {a b A B : Int} (h : a % PP = A % PP) (k : b % PP = B % PP) : (a - b) % PP = (A - B) % PP := by rw [Int.sub_emod, h, k, ← Int.sub_emod]
theorem en_mul : enters Tryz.prog 75 = true := by kernel_rfl
theorem en_add : enters Tryz.prog 76 = true := by kernel_rfl
theorem en_sub : enters Tryz.prog 79 = true := by kernel_rfl
theorem en_small : enters Tryz.prog 77 = true := by kernel_rfl
section
variable {ops : Array Oper} {Q : Exit → Act → World → Prop} {md : Region.Mode} {F : Nat → Fact} {a0 : Act} {w0 : World} {i : Nat} {o : Oper} {ts : Array TypeId}
theorem step_mul (hi : ops[i]? = some o) (p q j k : Nat) (A B : Int) (hop : o.op = .call { callee := .value (.func 75), args := #[.tmp p, .tmp q], argTypes := ts })
    (hj : waits md ops i j p = true) (hk : waits md ops i k q = true) (hFj : F j = EL A) (hFk : F k = EL B) (hFi : F i = EL (A * B)) : StepOk Tryz.prog md ops Q F a0 w0 i :=
  step_two hi _ p q ts hop en_mul (fun a b => a * b) (fun w a b ha hb => l2Mul_any w a b ha hb) (fun _ _ _ _ h k => mod_mul h k) j k A B hj hk hFj hFk hFi
theorem step_add (hi : ops[i]? = some o) (p q j k : Nat) (A B : Int) (hop : o.op = .call { callee := .value (.func 76), args := #[.tmp p, .tmp q], argTypes := ts })
    (hj : waits md ops i j p = true) (hk : waits md ops i k q = true) (hFj : F j = EL A) (hFk : F k = EL B) (hFi : F i = EL (A + B)) : StepOk Tryz.prog md ops Q F a0 w0 i :=
  step_two hi _ p q ts hop en_add (fun a b => a + b) (fun w a b ha hb => l2Add_any w a b ha hb) (fun _ _ _ _ h k => mod_add h k) j k A B hj hk hFj hFk hFi
theorem step_sub (hi : ops[i]? = some o) (p q j k : Nat) (A B : Int) (hop : o.op = .call { callee := .value (.func 79), args := #[.tmp p, .tmp q], argTypes := ts })
    (hj : waits md ops i j p = true) (hk : waits md ops i k q = true) (hFj : F j = EL A) (hFk : F k = EL B) (hFi : F i = EL (A - B)) : StepOk Tryz.prog md ops Q F a0 w0 i :=
  step_two hi _ p q ts hop en_sub (fun a b => a - b) (fun w a b ha hb => l2Sub_any w a b ha hb) (fun _ _ _ _ h k => mod_sub h k) j k A B hj hk hFj hFk hFi
theorem step_small (hi : ops[i]? = some o) (n : Int) (hn : 0 ≤ n ∧ n < 1048576) (hop : o.op = .call { callee := .value (.func 77), args := #[.const (.int .i64 n)], argTypes := ts })
    (hFi : F i = EL n) : StepOk Tryz.prog md ops Q F a0 w0 i := by
  refine step_call hi _ _ ts hop en_small fun a w _ _ _ => ?_
  refine (l2SmallB_any w n hn).mono ?_
  rintro r w' ⟨s, rfl, L, V, hb⟩
  exact ⟨_, rfl, hb, by rw [hFi]; exact ⟨s, rfl, L, V⟩⟩
end
end Go.Proofs.YtkpomobhjkikeaaGreatDoor
namespace Go.Proofs.YtkpomobhjkikeaaGreatDoor
set_option maxRecDepth 100000
open Go Go.RowKit
def eIv : Nat := 57896044618658097711785492504343953926634992332820282019728792003956564819947
theorem en_prime : enters Tryz.prog 52 = true := by kernel_rfl
theorem en_l1Sub : enters Tryz.prog 50 = true := by kernel_rfl
theorem en_power : enters Tryz.prog 100 = true := by kernel_rfl
theorem pbytes_cn : Canon pbytes 57896044618658097711785492504343953926634992332820282019728792003956564819949 := ⟨pbytes_byt, pbytes_val, fun _ => by decide⟩
theorem canon_ge1 {xs : List Int} {v : Int} (h : Canon xs v) (hv : 0 < v) : 1 ≤ xs.length := by
  rcases Nat.eq_zero_or_pos xs.length with e | e
  · rw [List.length_eq_zero_iff] at e
    subst e
    have := h.2.1
    simp [bval] at this
    omega
  · omega
theorem canon_nat {ys : List Int} {n : Nat} (h : Canon ys (n : Int)) : (bval ys).toNat = n := by rw [h.2.1]; rfl
theorem pow_mod {x y : Int} (h : x % PP = y % PP) : ∀ e : Nat, x ^ e % PP = y ^ e % PP
  | 0 => by simp
  | e + 1 => by rw [Int.pow_succ, Int.pow_succ]; exact mod_mul (pow_mod h e) h
theorem results_cell_mid {P : Program} {fn : Func} {p : Tmp} {ty : TypeId} (h : fn.results = #[.cell p ty]) (tmps : Array Value) (w : World) (g : Nat) (cs : List Value) (d : TypeDesc)
    (hp : tmps.getD p undef = .pointer (some ⟨g, 0, none⟩)) (hc : w.rangeAt g 0 cs) (hu : P.underlying ty = some d) (hd : d.isRow = true) (hi : (P.info? ty).map (·.size) = some cs.length) :
    (results fn tmps).run P w = .ok (.agg cs.toArray) w := by
  have hp' : tmps[p]?.getD undef = .pointer (some ⟨g, 0, none⟩) := by simpa using hp
  simp [results, h, hp', asAddr, run_loadVar_mid w g 0 ty cs d hc hu hd hi]
def fIv (A : Int) : Nat → Fact := fun i => [EL A, RW (fun xs => Canon xs 57896044618658097711785492504343953926634992332820282019728792003956564819949), RW (fun xs => xs = [2]), RW (fun xs => Canon xs (eIv : Int)), EL (A ^ eIv)].getD i Fact.no
set_option maxHeartbeats 1000000 in
theorem l2Inv_any (w : World) (f : Nat → Int) (hf : L16 f) :
    Calls Tryz.prog 78 #[ag16 f] w fun r w' => ∃ t, r = .returned (ag16 t) ∧ L16 t ∧ s16 t 16 % PP = s16 f 16 ^ eIv % PP ∧ Below w.heap.size w w' := by
  show Calls Tryz.prog 78 #[.agg (a16 f)] w fun r w' => ∃ t, r = .returned (.agg (a16 t)) ∧ L16 t ∧ s16 t 16 % PP = s16 f 16 ^ eIv % PP ∧ Below w.heap.size w w'
  have B0 : Blk (w.alloc (.cells (a16 f) 128)) w.heap.size .i64 (ls16 f) := blk16 w 128 f
  have n0 : Below w.heap.size w (w.alloc (.cells (a16 f) 128)) := (Below.refl _ _).alloc (Nat.le_refl _) _
  have s0 : (w.alloc (.cells (a16 f) 128)).heap.size = w.heap.size + 1 := by simp
  obtain ⟨A, hA⟩ : ∃ A, A = a16 f := ⟨_, rfl⟩
  rw [← hA] at B0 n0 s0 ⊢
  clear hA
  go_enter Tryz.func78, Tryz.ntmps78
  go_upto_region 1 with fail
  generalize w.alloc (.cells A 128) = wa at *
  have B1 := blk_zObj wa
  have n1 : Below wa.heap.size wa (wa.alloc zObj) := (Below.refl _ _).alloc (Nat.le_refl _) _
  rw [s0] at B1
  generalize wa.alloc zObj = wr at *
  have RA : R16 wr w.heap.size f := R16.ofBlk (B0.up n1)
  have RB := R16.ofBlk B1
  have N := nxt n0 n1
  clear B0 B1 n0 n1 s0
  refine region_store 5 _ (fIv (s16 f 16)) (by kernel_rfl) (by kernel_rfl) rfl rfl ?_ ?_
  · intro i hi
    obtain rfl | rfl | rfl | rfl | rfl : i = 0 ∨ i = 1 ∨ i = 2 ∨ i = 3 ∨ i = 4 := by omega
    · exact step_el rfl 128 1 rfl Go.Proofs.YtkpomobhjkikeaaGreatDoor.u50 i50 (by kernel_rfl) w.heap.size 0 rfl (s16 f 16) (Elt.ofR RA hf rfl) rfl
    · refine step_call rfl _ _ _ rfl en_prime fun a W _ _ _ => (l2Prime_any W).mono ?_
      rintro r W' ⟨rfl, B, n⟩
      exact ⟨_, rfl, n, pbytes, _, _, _, rfl, B.own0, pbytes_cn⟩
    · refine step_grow rfl fun a W _ _ _ => ⟨.slice (some ⟨W.heap.size, 0, none⟩) 1 1, W.alloc (.cells #[.int .u8 2] 5), ?_, (Below.refl _ _).alloc (Nat.le_refl _) _, [2], _, _, W.heap.size, rfl, Blk.own0 ⟨5, by rw [heap_alloc_last]; rfl⟩, rfl⟩
      go_simp
    · refine step_call rfl _ _ _ rfl en_l1Sub fun a W _ _ hF => ?_
      obtain ⟨xs, b, c, g, e1, o1, C⟩ := hF 1 4 (by kernel_rfl)
      obtain ⟨ys, b', c', g', e2, o2, rfl⟩ := hF 2 5 (by kernel_rfl)
      show Calls Tryz.prog 50 #[a.tmps.getD 4 undef, a.tmps.getD 5 undef] W _
      rw [e1, e2]
      have L : xs.length ≤ 64 := C.len (by decide)
      have P1 : 1 ≤ xs.length := canon_ge1 C (by decide)
      have E2 : bval [2] = 2 := by decide
      refine (l1Sub_any W g g' b b' c c' xs [2] o1.rd o2.rd C.1 (byt_one (by omega) (by omega)) (by omega) (by simpa using P1) (by rw [C.2.1, E2]; decide)).mono ?_
      rintro r W' ⟨zs, D, ⟨a', c', g', rfl, o', _, _, _⟩, n'⟩
      rw [C.2.1, E2] at D
      exact ⟨_, rfl, n', zs, _, _, _, rfl, o', D⟩
    · refine step_call rfl _ _ _ rfl en_power fun a W _ _ hF => ?_
      obtain ⟨t, e1, L1, V1⟩ := hF 0 3 (by kernel_rfl)
      obtain ⟨ys, b', c', g', e2, o2, C⟩ := hF 3 6 (by kernel_rfl)
      show Calls Tryz.prog 100 #[a.tmps.getD 3 undef, a.tmps.getD 6 undef] W _
      rw [e1, e2]
      have L : ys.length ≤ 4096 := by
        have := C.len (n := 64) (by decide)
        omega
      refine (l2Power_any W t g' b' c' ys L1 o2.rd C.1 L).mono ?_
      rintro r W' ⟨u, rfl, LT, VT, n'⟩
      refine ⟨_, rfl, n', u, rfl, LT, ?_⟩
      rw [VT, canon_nat C]
      exact pow_mod V1 _
  · intro a W hb hw hF
    obtain ⟨t, e1, L1, V1⟩ := hF 4 7 (by kernel_rfl)
    have RB' := RB.up hw
    refine wp_store_mid 128 (.tmp 2) (.tmp 7) rfl (w.heap.size + 1) 0 (a16 t) (based_at hb 2 (by kernel_rfl)) e1 (by rw [a16_size]; exact RB'.2) (by rw [a16_size]; exact i50) (a16_one t) ?_
    obtain ⟨vs, hvs⟩ : ∃ vs : Nat → Value, ∀ d, a.tmps.getD d undef = vs d := ⟨_, fun _ => rfl⟩
    have RS := R16.set t RB'.2
    have NS : Below w.heap.size w (W.setCells (w.heap.size + 1) 0 (a16 t).toList) := below_setCells (by omega) _ _ _ (nxt N hw)
    generalize W.setCells (w.heap.size + 1) 0 (a16 t).toList = W' at *
    rw [puts_of (md := .any) (k := 5) (by kernel_rfl) rfl hb vs hvs]
    clear hb hF hvs e1 RB' hw
    simp only [puts]
    go_wp2
    exact bodyPost_ret (v := .agg (a16 t)) (results_cell_mid Tryz.results78 _ _ (w.heap.size + 1) (a16 t).toList (.array 16 2) rfl RS.1 Go.Proofs.YtkpomobhjkikeaaGreatDoor.u50 rfl (by rw [show (a16 t).toList.length = 16 by simp [ls16]]; exact i50)) rfl ⟨t, rfl, L1, V1, NS⟩
end Go.Proofs.YtkpomobhjkikeaaGreatDoor
namespace Go.Proofs.YtkpomobhjkikeaaGreatDoor
set_option maxRecDepth 100000
open Go Go.RowKit
def c48 (a b c : Nat → Int) : List Value := (a16 a).toList ++ ((a16 b).toList ++ (a16 c).toList)
def ag48 (a b c : Nat → Int) : Value := .agg (c48 a b c).toArray
theorem a16_len (t : Nat → Int) : (a16 t).toList.length = 16 := by simp [ls16]
theorem c48_len (a b c : Nat → Int) : (c48 a b c).length = 48 := by
  unfold c48
  rw [List.length_append, List.length_append, a16_len, a16_len, a16_len]
theorem c48_one (a b c : Nat → Int) : (c48 a b c).toArray.all (·.oneCell') = true := by
  refine all_oneCell_toArray fun v hv => ?_
  have h : ∀ t, ∀ v ∈ (a16 t).toList, v.oneCell' = true := fun t v hv => Array.all_eq_true_iff_forall_mem.1 (a16_one t) v (by simpa using hv)
  rcases List.mem_append.1 hv with h1 | h1
  · exact h a v h1
  · rcases List.mem_append.1 h1 with h2 | h2
    · exact h b v h2
    · exact h c v h2
theorem bu48 (a b c : Nat → Int) (w : World) : (Instr.build 140 #[(0, ag16 a), (1, ag16 b), (2, ag16 c)]).run Tryz.prog w = .ok (ag48 a b c) w := by kernel_rfl
theorem u144 : ∃ fs, Tryz.prog.underlying 140 = some (.struct fs) := ⟨_, Tryz.underlying140⟩
theorem i144 : (Tryz.prog.info? 140).map (·.size) = some 48 := by kernel_rfl
theorem fx48 (q : Nat) (w : World) : (Instr.fieldAt 140 (.pointer (some ⟨q, 0, none⟩)) 0).run Tryz.prog w = .ok (.pointer (some ⟨q, 0, none⟩)) w := by kernel_rfl
theorem fy48 (q : Nat) (w : World) : (Instr.fieldAt 140 (.pointer (some ⟨q, 0, none⟩)) 1).run Tryz.prog w = .ok (.pointer (some ⟨q, 16, none⟩)) w := by kernel_rfl
theorem fz48 (q : Nat) (w : World) : (Instr.fieldAt 140 (.pointer (some ⟨q, 0, none⟩)) 2).run Tryz.prog w = .ok (.pointer (some ⟨q, 32, none⟩)) w := by kernel_rfl
def E3 (A B C : Int) : Fact := ⟨fun v _ => ∃ a b c, v = ag48 a b c ∧ (L16 a ∧ s16 a 16 % PP = A % PP) ∧ (L16 b ∧ s16 b 16 % PP = B % PP) ∧ L16 c ∧ s16 c 16 % PP = C % PP, fun _ h => h⟩
def Elt3 (W : World) (q : Nat) (A B C : Int) : Prop := ∃ a b c, W.rangeAt q 0 (c48 a b c) ∧ q < W.heap.size ∧ (L16 a ∧ s16 a 16 % PP = A % PP) ∧ (L16 b ∧ s16 b 16 % PP = B % PP) ∧ L16 c ∧ s16 c 16 % PP = C % PP
theorem Elt3.x {W : World} {q : Nat} {A B C : Int} (h : Elt3 W q A B C) : Elt W q 0 A := by
  obtain ⟨a, b, c, r, l, ha, _, _⟩ := h
  refine ⟨a, fun j v hv => r j v ?_, l, ha⟩
  have hj : j < 16 := by have := (List.getElem?_eq_some_iff.1 hv).1; rw [a16_len] at this; exact this
  unfold c48
  rw [List.getElem?_append_left (by rw [a16_len]; exact hj)]
  exact hv
theorem Elt3.y {W : World} {q : Nat} {A B C : Int} (h : Elt3 W q A B C) : Elt W q 16 B := by
  obtain ⟨a, b, c, r, l, _, hb, _⟩ := h
  refine ⟨b, fun j v hv => ?_, l, hb⟩
  have hj : j < 16 := by have := (List.getElem?_eq_some_iff.1 hv).1; rw [a16_len] at this; exact this
  have q := r (16 + j) v (by
    unfold c48
    rw [List.getElem?_append_right (by rw [a16_len]; omega), a16_len, List.getElem?_append_left (by rw [a16_len]; omega), show 16 + j - 16 = j by omega]
    exact hv)
  simpa using q
theorem Elt3.z {W : World} {q : Nat} {A B C : Int} (h : Elt3 W q A B C) : Elt W q 32 C := by
  obtain ⟨a, b, c, r, l, _, _, hc⟩ := h
  refine ⟨c, fun j v hv => ?_, l, hc⟩
  have hj : j < 16 := by have := (List.getElem?_eq_some_iff.1 hv).1; rw [a16_len] at this; exact this
  have q := r (32 + j) v (by
    unfold c48
    rw [List.getElem?_append_right (by rw [a16_len]; omega), a16_len, List.getElem?_append_right (by rw [a16_len]; omega), a16_len, show 32 + j - 16 - 16 = j by omega]
    exact hv)
  simpa using q
theorem Elt3.up {W W' : World} {q : Nat} {A B C : Int} (h : Elt3 W q A B C) (n : Below W.heap.size W W') : Elt3 W' q A B C := by
  obtain ⟨a, b, c, r, l, h⟩ := h
  exact ⟨a, b, c, fun j v hv => (World.cell?_of_block (a := ⟨q, 0 + j, none⟩) (n.block q l)).trans (r j v hv), Nat.lt_of_lt_of_le l n.size, h⟩
theorem there_up {W W' : World} {q n : Nat} (hn : 0 < n) (h : W.there q 0 n) (k : Below W.heap.size W W') : W'.there q 0 n := by
  have h0 := (h 0 hn).1
  rw [Option.isSome_iff_exists] at h0
  obtain ⟨v, hv⟩ := h0
  have hb := k.block q (block_lt_of_cell hv)
  exact fun j hj => ⟨by rw [World.cell?_of_block (a := ⟨q, 0 + j, none⟩) hb]; exact (h j hj).1, by rw [World.frozen?_of_block (a := ⟨q, 0 + j, none⟩) hb]; exact (h j hj).2⟩
theorem there_lt {W : World} {q n : Nat} (hn : 0 < n) (h : W.there q 0 n) : q < W.heap.size := by
  have h0 := (h 0 hn).1
  rw [Option.isSome_iff_exists] at h0
  obtain ⟨v, hv⟩ := h0
  exact block_lt_of_cell hv
theorem there_new (W : World) (cs : List Value) (t : TypeId) : (W.alloc (.cells cs.toArray t)).there W.heap.size 0 cs.length := fun j hj => by
  have e : (W.alloc (.cells cs.toArray t)).heap[W.heap.size]? = some (.cells cs.toArray t) := heap_alloc_last _ _
  constructor
  · unfold World.cell?
    simp only
    rw [e]
    simp [hj]
  · unfold World.frozen?
    simp only
    rw [e]
    simp
def NB (w0 : World) (n : Nat) : Fact := ⟨fun v w => 0 < n ∧ ∃ q, v = .pointer (some ⟨q, 0, none⟩) ∧ w.there q 0 n ∧ w0.heap.size ≤ q, fun k h => by
  obtain ⟨hn, q, e, t, l⟩ := h
  exact ⟨hn, q, e, there_up hn t k, l⟩⟩
theorem heap_size_setCells (b : Nat) : ∀ (vs : List Value) (o : Nat) (w : World), (w.setCells b o vs).heap.size = w.heap.size
  | [], _, _ => rfl
  | v :: vs, o, w => by
    rw [World.setCells, heap_size_setCells b vs (o + 1)]
    simp [World.setCell]
theorem set_elt {W : World} {q : Nat} {t : Nat → Int} {A : Int} (th : W.there q 0 16) (L : L16 t) (V : s16 t 16 % PP = A % PP) : Elt (W.setCells q 0 (a16 t).toList) q 0 A :=
  ⟨t, World.rangeAt_setCells_same W q 0 _ (by rw [a16_len]; exact th), by rw [heap_size_setCells]; exact there_lt (by omega) th, L, V⟩
theorem set_elt3 {W : World} {q : Nat} {a b c : Nat → Int} {A B C : Int} (th : W.there q 0 48) (ha : L16 a ∧ s16 a 16 % PP = A % PP) (hb : L16 b ∧ s16 b 16 % PP = B % PP) (hc : L16 c ∧ s16 c 16 % PP = C % PP) : Elt3 (W.setCells q 0 (c48 a b c)) q A B C :=
  ⟨a, b, c, World.rangeAt_setCells_same W q 0 _ (by rw [c48_len]; exact th), by rw [heap_size_setCells]; exact there_lt (by omega) th, ha, hb, hc⟩
def ButQ (q : Nat) (W W' : World) : Prop := (∀ g, g ≠ q → g < W.heap.size → W'.heap[g]? = W.heap[g]?) ∧ W.heap.size ≤ W'.heap.size
theorem Elt.but {W W' : World} {g o q : Nat} {A : Int} (h : Elt W g o A) (k : ButQ q W W') (hne : g ≠ q) : Elt W' g o A := by
  obtain ⟨t, r, l, h⟩ := h
  exact ⟨t, fun j v hv => (World.cell?_of_block (a := ⟨g, o + j, none⟩) (k.1 g hne l)).trans (r j v hv), Nat.lt_of_lt_of_le l k.2, h⟩
theorem Elt3.but {W W' : World} {g q : Nat} {A B C : Int} (h : Elt3 W g A B C) (k : ButQ q W W') (hne : g ≠ q) : Elt3 W' g A B C := by
  obtain ⟨a, b, c, r, l, h⟩ := h
  exact ⟨a, b, c, fun j v hv => (World.cell?_of_block (a := ⟨g, 0 + j, none⟩) (k.1 g hne l)).trans (r j v hv), Nat.lt_of_lt_of_le l k.2, h⟩
theorem there_but {W W' : World} {g q n : Nat} (hn : 0 < n) (h : W.there g 0 n) (k : ButQ q W W') (hne : g ≠ q) : W'.there g 0 n := by
  have hb := k.1 g hne (there_lt hn h)
  exact fun j hj => ⟨by rw [World.cell?_of_block (a := ⟨g, 0 + j, none⟩) hb]; exact (h j hj).1, by rw [World.frozen?_of_block (a := ⟨g, 0 + j, none⟩) hb]; exact (h j hj).2⟩
theorem but_set {W W' : World} {q : Nat} (n : Below W.heap.size W W') (vs : List Value)   : ButQ q W (W'.setCells q 0 vs) :=
  ⟨fun g hg hl => (setCells_other hg vs 0 W').trans (n.block g hl), by rw [heap_size_setCells]; exact n.size⟩
section
variable {ops : Array Oper} {Q : Exit → Act → World → Prop} {a0 : Act} {w : World} {id : Nat} {draw : Bool}
theorem region_new16 (k jA jV pA pV : Nat) (o : Oper) (F : Nat → Fact) (A : Int) (hT : textOk .any ops a0.tmps.size k = true) (hk : ops[k]? = some o) (hd : o.dst = none) (hop : o.op = .store 128 (.tmp pA) (.tmp pV))
    (wA : writes ops jA pA = true) (wV : writes ops jV pV = true) (FA : F jA = NB w 16) (FV : F jV = EL A) (steps : ∀ i, i < k → StepOk Tryz.prog .any ops Q F a0 w i)
    (fin : ∀ (vs : Nat → Value) (q : Nat) (W : World), vs pA = .pointer (some ⟨q, 0, none⟩) → w.heap.size ≤ q → Below w.heap.size w W → Elt W q 0 A → W.there q 0 16 → Q .normal (puts vs a0 ops.toList) W) :
    (Code.region id ops draw).wp Tryz.prog Q a0 w := by
  refine region_store k o F (by kernel_rfl) hT hk hd steps fun a W hb hw hF => ?_
  have h1 := hF jA pA wA
  have h2 := hF jV pV wV
  rw [FA] at h1
  rw [FV] at h2
  obtain ⟨_, q, eq, th, hq⟩ := h1
  obtain ⟨t, ev, L, V⟩ := h2
  refine wp_store_mid 128 (.tmp pA) (.tmp pV) hop q 0 (a16 t) eq ev (by rw [a16_size]; exact th) (by rw [a16_size]; exact i50) (a16_one t) ?_
  obtain ⟨vs, hvs⟩ : ∃ vs : Nat → Value, ∀ d, a.tmps.getD d undef = vs d := ⟨_, fun _ => rfl⟩
  rw [hd]
  show Q .normal a _
  rw [puts_of hT rfl hb vs hvs]
  exact fin vs q _ ((hvs pA).symm.trans eq) hq (below_setCells hq _ _ _ hw) (set_elt th L V) (World.there_setCells th _ _ _)
theorem region_new48 (k jA jV pA pV : Nat) (o : Oper) (F : Nat → Fact) (A B C : Int) (hT : textOk .any ops a0.tmps.size k = true) (hk : ops[k]? = some o) (hd : o.dst = none) (hop : o.op = .store 140 (.tmp pA) (.tmp pV))
    (wA : writes ops jA pA = true) (wV : writes ops jV pV = true) (FA : F jA = NB w 48) (FV : F jV = E3 A B C) (steps : ∀ i, i < k → StepOk Tryz.prog .any ops Q F a0 w i)
    (fin : ∀ (vs : Nat → Value) (q : Nat) (W : World), vs pA = .pointer (some ⟨q, 0, none⟩) → w.heap.size ≤ q → Below w.heap.size w W → Elt3 W q A B C → W.there q 0 48 → Q .normal (puts vs a0 ops.toList) W) :
    (Code.region id ops draw).wp Tryz.prog Q a0 w := by
  refine region_store k o F (by kernel_rfl) hT hk hd steps fun a W hb hw hF => ?_
  have h1 := hF jA pA wA
  have h2 := hF jV pV wV
  rw [FA] at h1
  rw [FV] at h2
  obtain ⟨_, q, eq, th, hq⟩ := h1
  obtain ⟨x, y, z, ev, hx, hy, hz⟩ := h2
  refine wp_store_mid 140 (.tmp pA) (.tmp pV) hop q 0 (c48 x y z).toArray eq ev (by rw [List.size_toArray, c48_len]; exact th) (by rw [List.size_toArray, c48_len]; exact i144) (c48_one x y z) ?_
  obtain ⟨vs, hvs⟩ : ∃ vs : Nat → Value, ∀ d, a.tmps.getD d undef = vs d := ⟨_, fun _ => rfl⟩
  rw [hd]
  show Q .normal a _
  rw [puts_of hT rfl hb vs hvs]
  exact fin vs q _ ((hvs pA).symm.trans eq) hq (below_setCells hq _ _ _ hw) (set_elt3 th hx hy hz) (World.there_setCells th _ _ _)
theorem region_put16 (k jV pD pV : Nat) (o : Oper) (F : Nat → Fact) (A : Int) (q : Nat) (hT : textOk .any ops a0.tmps.size k = true) (hk : ops[k]? = some o) (hd : o.dst = none) (hop : o.op = .store 128 (.tmp pD) (.tmp pV))
    (hp : apart ops pD = true) (h0 : a0.tmps.getD pD undef = .pointer (some ⟨q, 0, none⟩)) (ht : w.there q 0 16) (wV : writes ops jV pV = true) (FV : F jV = EL A) (steps : ∀ i, i < k → StepOk Tryz.prog .any ops Q F a0 w i)
    (fin : ∀ (vs : Nat → Value) (W W' : World), Below w.heap.size w W → ButQ q w W' → Elt W' q 0 A → W'.there q 0 16 → (∀ (w1 : World) (B : Nat), Below B w1 W → B ≤ q → Below B w1 W') → Q .normal (puts vs a0 ops.toList) W') :
    (Code.region id ops draw).wp Tryz.prog Q a0 w := by
  refine region_store k o F (by kernel_rfl) hT hk hd steps fun a W hb hw hF => ?_
  have h2 := hF jV pV wV
  rw [FV] at h2
  obtain ⟨t, ev, L, V⟩ := h2
  have th := there_up (by omega) ht hw
  refine wp_store_mid 128 (.tmp pD) (.tmp pV) hop q 0 (a16 t) ((based_at hb pD hp).trans h0) ev (by rw [a16_size]; exact th) (by rw [a16_size]; exact i50) (a16_one t) ?_
  obtain ⟨vs, hvs⟩ : ∃ vs : Nat → Value, ∀ d, a.tmps.getD d undef = vs d := ⟨_, fun _ => rfl⟩
  rw [hd]
  show Q .normal a _
  rw [puts_of hT rfl hb vs hvs]
  exact fin vs W _ hw (but_set hw _) (set_elt th L V) (World.there_setCells th _ _ _) (fun w1 B n hB => below_setCells hB _ _ _ n)
theorem region_put48 (k jV pD pV : Nat) (o : Oper) (F : Nat → Fact) (A B C : Int) (q : Nat) (hT : textOk .any ops a0.tmps.size k = true) (hk : ops[k]? = some o) (hd : o.dst = none) (hop : o.op = .store 140 (.tmp pD) (.tmp pV))
    (hp : apart ops pD = true) (h0 : a0.tmps.getD pD undef = .pointer (some ⟨q, 0, none⟩)) (ht : w.there q 0 48) (wV : writes ops jV pV = true) (FV : F jV = E3 A B C) (steps : ∀ i, i < k → StepOk Tryz.prog .any ops Q F a0 w i)
    (fin : ∀ (vs : Nat → Value) (W W' : World), Below w.heap.size w W → ButQ q w W' → Elt3 W' q A B C → W'.there q 0 48 → (∀ (w1 : World) (B : Nat), Below B w1 W → B ≤ q → Below B w1 W') → Q .normal (puts vs a0 ops.toList) W') :
    (Code.region id ops draw).wp Tryz.prog Q a0 w := by
  refine region_store k o F (by kernel_rfl) hT hk hd steps fun a W hb hw hF => ?_
  have h2 := hF jV pV wV
  rw [FV] at h2
  obtain ⟨x, y, z, ev, hx, hy, hz⟩ := h2
  have th := there_up (by omega) ht hw
  refine wp_store_mid 140 (.tmp pD) (.tmp pV) hop q 0 (c48 x y z).toArray ((based_at hb pD hp).trans h0) ev (by rw [List.size_toArray, c48_len]; exact th) (by rw [List.size_toArray, c48_len]; exact i144) (c48_one x y z) ?_
  obtain ⟨vs, hvs⟩ : ∃ vs : Nat → Value, ∀ d, a.tmps.getD d undef = vs d := ⟨_, fun _ => rfl⟩
  rw [hd]
  show Q .normal a _
  rw [puts_of hT rfl hb vs hvs]
  exact fin vs W _ hw (but_set hw _) (set_elt3 th hx hy hz) (World.there_setCells th _ _ _) (fun w1 B n hB => below_setCells hB _ _ _ n)
end
section
variable {ops : Array Oper} {Q : Exit → Act → World → Prop} {md : Region.Mode} {F : Nat → Fact} {a0 : Act} {w0 : World} {i : Nat} {o : Oper} {ts : Array TypeId}
theorem step_new16 (hi : ops[i]? = some o) (hop : o.op = .alloc 128) (hF : F i = NB w0 16) : StepOk Tryz.prog md ops Q F a0 w0 i := by
  refine step_grow hi fun a w _ hw _ => ⟨.pointer (some ⟨w.heap.size, 0, none⟩), w.alloc zObj, ?_, (Below.refl _ _).alloc (Nat.le_refl _) _, ?_⟩
  · simp only [execOp, hop]
    kernel_rfl
  · rw [hF]
    exact ⟨by omega, _, rfl, there_new w _ _, hw.size⟩
abbrev zObj48 : Obj := .cells (List.replicate 48 (Value.int .i64 0)).toArray 140
theorem step_new48 (hi : ops[i]? = some o) (hop : o.op = .alloc 140) (hF : F i = NB w0 48) : StepOk Tryz.prog md ops Q F a0 w0 i := by
  refine step_grow hi fun a w _ hw _ => ⟨.pointer (some ⟨w.heap.size, 0, none⟩), w.alloc zObj48, ?_, (Below.refl _ _).alloc (Nat.le_refl _) _, ?_⟩
  · simp only [execOp, hop]
    kernel_rfl
  · rw [hF]
    exact ⟨by omega, _, rfl, there_new w _ _, hw.size⟩
theorem step_b48 (hi : ops[i]? = some o) (p q r j k l : Nat) (A B C : Int) (hop : o.op = .build 140 #[(0, .tmp p), (1, .tmp q), (2, .tmp r)])
    (hj : waits md ops i j p = true) (hk : waits md ops i k q = true) (hl : waits md ops i l r = true) (hFj : F j = EL A) (hFk : F k = EL B) (hFl : F l = EL C) (hFi : F i = E3 A B C) : StepOk Tryz.prog md ops Q F a0 w0 i := by
  refine step_pure hi fun a w _ _ hf => ?_
  have h1 := hf j p hj
  have h2 := hf k q hk
  have h3 := hf l r hl
  rw [hFj] at h1
  rw [hFk] at h2
  rw [hFl] at h3
  obtain ⟨x, e1, X⟩ := h1
  obtain ⟨y, e2, Y⟩ := h2
  obtain ⟨z, e3, Z⟩ := h3
  refine ⟨ag48 x y z, ?_, by rw [hFi]; exact ⟨x, y, z, rfl, X, Y, Z⟩⟩
  have g1 : a.eval (.tmp p) = ag16 x := e1
  have g2 : a.eval (.tmp q) = ag16 y := e2
  have g3 : a.eval (.tmp r) = ag16 z := e3
  have g : (#[(0, Operand.tmp p), (1, Operand.tmp q), (2, Operand.tmp r)].map fun (n, x) => (n, a.eval x)) = #[(0, ag16 x), (1, ag16 y), (2, ag16 z)] := by simp [g1, g2, g3]
  simp only [execOp, hop, g]
  rw [Sem.run_bind, bu48]
  rfl
def iv (A : Int) : Int := A ^ eIv
theorem en_inv : enters Tryz.prog 78 = true := by kernel_rfl
theorem step_inv (hi : ops[i]? = some o) (p j : Nat) (A : Int) (hop : o.op = .call { callee := .value (.func 78), args := #[.tmp p], argTypes := ts })
    (hj : waits md ops i j p = true) (hFj : F j = EL A) (hFi : F i = EL (iv A)) : StepOk Tryz.prog md ops Q F a0 w0 i :=
  step_one hi _ p ts hop en_inv iv (fun w a ha => l2Inv_any w a ha) (fun _ _ h => pow_mod h _) j A hj hFj hFi
end
end Go.Proofs.YtkpomobhjkikeaaGreatDoor
namespace Go.Proofs.YtkpomobhjkikeaaGreatDoor
set_option maxRecDepth 100000
open Go Go.RowKit
def wA (pZ qZ : Int) : Int := pZ * qZ
def wF (pX pY qX qY d : Int) : Int := d * ((pX * qX) * (pY * qY))
def wL (pX pY pZ qX qY qZ d : Int) : Int := wA pZ qZ * wA pZ qZ - wF pX pY qX qY d
def wM (pX pY pZ qX qY qZ d : Int) : Int := wA pZ qZ * wA pZ qZ + wF pX pY qX qY d
def wX (pX pY pZ qX qY qZ d : Int) : Int := wA pZ qZ * wL pX pY pZ qX qY qZ d * ((pX + pY) * (qX + qY) - pX * qX - pY * qY)
def wY (pX pY pZ qX qY qZ d : Int) : Int := wA pZ qZ * wM pX pY pZ qX qY qZ d * (pY * qY + pX * qX)
def wZ (pX pY pZ qX qY qZ d : Int) : Int := wL pX pY pZ qX qY qZ d * wM pX pY pZ qX qY qZ d
theorem elt3_new (W : World) (t : TypeId) {a b c : Nat → Int} {A B C : Int} (ha : L16 a ∧ s16 a 16 % PP = A % PP) (hb : L16 b ∧ s16 b 16 % PP = B % PP) (hc : L16 c ∧ s16 c 16 % PP = C % PP) :
    Elt3 (W.alloc (.cells (c48 a b c).toArray t)) W.heap.size A B C := by
  have e : (W.alloc (.cells (c48 a b c).toArray t)).heap[W.heap.size]? = some (.cells (c48 a b c).toArray t) := heap_alloc_last _ _
  refine ⟨a, b, c, fun j v hv => ?_, by simp, ha, hb, hc⟩
  unfold World.cell?
  simp only
  rw [e]
  simpa using hv
theorem elt_new (W : World) (t : TypeId) {a : Nat → Int} {A : Int} (ha : L16 a ∧ s16 a 16 % PP = A % PP) : Elt (W.alloc (.cells (a16 a) t)) W.heap.size 0 A :=
  Elt.ofR (R16.ofBlk (blk16 W t a)) ha.1 ha.2
set_option maxHeartbeats 4000000 in
theorem l5Sum_any (w : World) (a b c a' b' c' e : Nat → Int) (pX pY pZ qX qY qZ d : Int) (ha : L16 a ∧ s16 a 16 % PP = pX % PP) (hb : L16 b ∧ s16 b 16 % PP = pY % PP) (hc : L16 c ∧ s16 c 16 % PP = pZ % PP)
    (ha' : L16 a' ∧ s16 a' 16 % PP = qX % PP) (hb' : L16 b' ∧ s16 b' 16 % PP = qY % PP) (hc' : L16 c' ∧ s16 c' 16 % PP = qZ % PP) (he : L16 e ∧ s16 e 16 % PP = d % PP) :
    Calls Tryz.prog 102 #[ag48 a b c, ag48 a' b' c', ag16 e] w fun r w' => ∃ x y z, r = .returned (ag48 x y z) ∧ (L16 x ∧ s16 x 16 % PP = wX pX pY pZ qX qY qZ d % PP) ∧ (L16 y ∧ s16 y 16 % PP = wY pX pY pZ qX qY qZ d % PP) ∧ (L16 z ∧ s16 z 16 % PP = wZ pX pY pZ qX qY qZ d % PP) ∧ Below w.heap.size w w' := by
  show Calls Tryz.prog 102 #[.agg (c48 a b c).toArray, .agg (c48 a' b' c').toArray, .agg (a16 e)] w _
  have H1 := elt3_new w 140 ha hb hc
  have m1 : Below w.heap.size w (w.alloc (.cells (c48 a b c).toArray 140)) := (Below.refl _ _).alloc (Nat.le_refl _) _
  have s1 : (w.alloc (.cells (c48 a b c).toArray 140)).heap.size = w.heap.size + 1 := by simp
  have H2 := fun W => elt3_new W 140 ha' hb' hc'
  have H3 := fun W => elt_new W 128 he
  obtain ⟨V1, hV1⟩ : ∃ V, V = (c48 a b c).toArray := ⟨_, rfl⟩
  obtain ⟨V2, hV2⟩ : ∃ V, V = (c48 a' b' c').toArray := ⟨_, rfl⟩
  obtain ⟨V3, hV3⟩ : ∃ V, V = a16 e := ⟨_, rfl⟩
  rw [← hV1] at H1 m1 s1 ⊢
  simp only [← hV2] at H2 ⊢
  simp only [← hV3] at H3 ⊢
  clear hV1 hV2 hV3 ha hb hc ha' hb' hc' he
  go_enter Tryz.func102, Tryz.ntmps102
  go_upto_region 1 with fail
  generalize w.alloc (.cells V1 140) = wa at *
  have H2' := H2 wa
  have m2 : Below wa.heap.size wa (wa.alloc (.cells V2 140)) := (Below.refl _ _).alloc (Nat.le_refl _) _
  have s2 : (wa.alloc (.cells V2 140)).heap.size = wa.heap.size + 1 := by simp
  rw [s1] at H2' s2
  generalize wa.alloc (.cells V2 140) = wb at *
  have H3' := H3 wb
  have m3 : Below wb.heap.size wb (wb.alloc (.cells V3 128)) := (Below.refl _ _).alloc (Nat.le_refl _) _
  have s3 : (wb.alloc (.cells V3 128)).heap.size = wb.heap.size + 1 := by simp
  rw [s2] at H3' s3
  generalize wb.alloc (.cells V3 128) = wc at *
  have TR : (wc.alloc zObj48).there wc.heap.size 0 48 := there_new wc _ _
  have m4 : Below wc.heap.size wc (wc.alloc zObj48) := (Below.refl _ _).alloc (Nat.le_refl _) _
  rw [s3] at TR
  have HP := ((H1.up m2).up m3).up m4
  have HQ := (H2'.up m3).up m4
  have HD := H3'.up m4
  have N := nxt (nxt (nxt m1 m2) m3) m4
  clear H1 H2 H3 H2' H3' m1 m2 m3 s1 s2 s3 m4
  obtain ⟨wr, hwr⟩ : ∃ W, W = wc.alloc zObj48 := ⟨_, rfl⟩
  rw [← hwr] at TR HP HQ HD N
  change Code.wp _ _ _ _ (wc.alloc zObj48)
  rw [← hwr]
  clear hwr
  refine region_new16 6 5 4 7 19 _ (fun i => [Fact.eq (.pointer (some ⟨w.heap.size, 32, none⟩)), EL (pZ), Fact.eq (.pointer (some ⟨w.heap.size + 1, 32, none⟩)), EL (qZ), EL ((pZ) * (qZ)), NB wr 16].getD i Fact.no) ((pZ) * (qZ)) (by kernel_rfl) rfl rfl rfl (by kernel_rfl) (by kernel_rfl) rfl rfl ?_ ?_
  · intro i hi
    obtain rfl | rfl | rfl | rfl | rfl | rfl : i = 0 ∨ i = 1 ∨ i = 2 ∨ i = 3 ∨ i = 4 ∨ i = 5 := by omega
    · exact step_fld rfl 140 3 2 rfl (by kernel_rfl) _ _ rfl (fz48 _) rfl
    · exact step_elf rfl 128 15 0 rfl Go.Proofs.YtkpomobhjkikeaaGreatDoor.u50 i50 (by kernel_rfl) _ _ rfl _ HP.z rfl
    · exact step_fld rfl 140 4 2 rfl (by kernel_rfl) _ _ rfl (fz48 _) rfl
    · exact step_elf rfl 128 17 2 rfl Go.Proofs.YtkpomobhjkikeaaGreatDoor.u50 i50 (by kernel_rfl) _ _ rfl _ HQ.z rfl
    · exact step_mul rfl 16 18 1 3 _ _ rfl (by kernel_rfl) (by kernel_rfl) rfl rfl rfl
    · exact step_new16 rfl rfl rfl
  intro vs1 q7 W1 v7 h1 n1 E7 T1
  clear T1
  replace HP := HP.up n1
  replace HQ := HQ.up n1
  replace HD := HD.up n1
  replace N := nxt N n1
  replace TR := there_up (by omega) TR n1
  clear n1
  obtain ⟨x7, g7⟩ : ∃ e, e = (pZ) * (qZ) := ⟨_, rfl⟩
  rw [← g7] at E7
  simp only [puts, v7, Act.put, List.setIfInBounds_toArray, List.set_cons_succ, List.set_cons_zero]
  clear v7
  go_upto_region 2 with fail
  refine region_new16 4 3 2 8 22 _ (fun i => [EL (x7), EL (x7), EL ((x7) * (x7)), NB W1 16].getD i Fact.no) ((x7) * (x7)) (by kernel_rfl) rfl rfl rfl (by kernel_rfl) (by kernel_rfl) rfl rfl ?_ ?_
  · intro i hi
    obtain rfl | rfl | rfl | rfl : i = 0 ∨ i = 1 ∨ i = 2 ∨ i = 3 := by omega
    · exact step_el rfl 128 7 rfl Go.Proofs.YtkpomobhjkikeaaGreatDoor.u50 i50 (by kernel_rfl) _ _ rfl _ E7 rfl
    · exact step_el rfl 128 7 rfl Go.Proofs.YtkpomobhjkikeaaGreatDoor.u50 i50 (by kernel_rfl) _ _ rfl _ E7 rfl
    · exact step_mul rfl 20 21 0 1 _ _ rfl (by kernel_rfl) (by kernel_rfl) rfl rfl rfl
    · exact step_new16 rfl rfl rfl
  intro vs2 q8 W2 v8 h2 n2 E8 T2
  clear T2
  replace HP := HP.up n2
  replace HQ := HQ.up n2
  replace HD := HD.up n2
  replace E7 := E7.up n2
  replace N := nxt N n2
  replace TR := there_up (by omega) TR n2
  clear n2
  obtain ⟨x8, g8⟩ : ∃ e, e = (x7) * (x7) := ⟨_, rfl⟩
  rw [← g8] at E8
  simp only [puts, v8, Act.put, List.setIfInBounds_toArray, List.set_cons_succ, List.set_cons_zero]
  clear v8
  go_upto_region 3 with fail
  refine region_new16 6 5 4 9 27 _ (fun i => [Fact.eq (.pointer (some ⟨w.heap.size, 0, none⟩)), EL (pX), Fact.eq (.pointer (some ⟨w.heap.size + 1, 0, none⟩)), EL (qX), EL ((pX) * (qX)), NB W2 16].getD i Fact.no) ((pX) * (qX)) (by kernel_rfl) rfl rfl rfl (by kernel_rfl) (by kernel_rfl) rfl rfl ?_ ?_
  · intro i hi
    obtain rfl | rfl | rfl | rfl | rfl | rfl : i = 0 ∨ i = 1 ∨ i = 2 ∨ i = 3 ∨ i = 4 ∨ i = 5 := by omega
    · exact step_fld rfl 140 3 0 rfl (by kernel_rfl) _ _ rfl (fx48 _) rfl
    · exact step_elf rfl 128 23 0 rfl Go.Proofs.YtkpomobhjkikeaaGreatDoor.u50 i50 (by kernel_rfl) _ _ rfl _ HP.x rfl
    · exact step_fld rfl 140 4 0 rfl (by kernel_rfl) _ _ rfl (fx48 _) rfl
    · exact step_elf rfl 128 25 2 rfl Go.Proofs.YtkpomobhjkikeaaGreatDoor.u50 i50 (by kernel_rfl) _ _ rfl _ HQ.x rfl
    · exact step_mul rfl 24 26 1 3 _ _ rfl (by kernel_rfl) (by kernel_rfl) rfl rfl rfl
    · exact step_new16 rfl rfl rfl
  intro vs3 q9 W3 v9 h3 n3 E9 T3
  clear T3
  replace HP := HP.up n3
  replace HQ := HQ.up n3
  replace HD := HD.up n3
  replace E7 := E7.up n3
  replace E8 := E8.up n3
  replace N := nxt N n3
  replace TR := there_up (by omega) TR n3
  clear n3
  obtain ⟨x9, g9⟩ : ∃ e, e = (pX) * (qX) := ⟨_, rfl⟩
  rw [← g9] at E9
  simp only [puts, v9, Act.put, List.setIfInBounds_toArray, List.set_cons_succ, List.set_cons_zero]
  clear v9
  go_upto_region 4 with fail
  refine region_new16 6 5 4 10 32 _ (fun i => [Fact.eq (.pointer (some ⟨w.heap.size, 16, none⟩)), EL (pY), Fact.eq (.pointer (some ⟨w.heap.size + 1, 16, none⟩)), EL (qY), EL ((pY) * (qY)), NB W3 16].getD i Fact.no) ((pY) * (qY)) (by kernel_rfl) rfl rfl rfl (by kernel_rfl) (by kernel_rfl) rfl rfl ?_ ?_
  · intro i hi
    obtain rfl | rfl | rfl | rfl | rfl | rfl : i = 0 ∨ i = 1 ∨ i = 2 ∨ i = 3 ∨ i = 4 ∨ i = 5 := by omega
    · exact step_fld rfl 140 3 1 rfl (by kernel_rfl) _ _ rfl (fy48 _) rfl
    · exact step_elf rfl 128 28 0 rfl Go.Proofs.YtkpomobhjkikeaaGreatDoor.u50 i50 (by kernel_rfl) _ _ rfl _ HP.y rfl
    · exact step_fld rfl 140 4 1 rfl (by kernel_rfl) _ _ rfl (fy48 _) rfl
    · exact step_elf rfl 128 30 2 rfl Go.Proofs.YtkpomobhjkikeaaGreatDoor.u50 i50 (by kernel_rfl) _ _ rfl _ HQ.y rfl
    · exact step_mul rfl 29 31 1 3 _ _ rfl (by kernel_rfl) (by kernel_rfl) rfl rfl rfl
    · exact step_new16 rfl rfl rfl
  intro vs4 q10 W46 v10 h4 n4 E10 T4
  clear T4
  replace HP := HP.up n4
  replace HQ := HQ.up n4
  replace HD := HD.up n4
  replace E7 := E7.up n4
  replace E8 := E8.up n4
  replace E9 := E9.up n4
  replace N := nxt N n4
  replace TR := there_up (by omega) TR n4
  clear n4
  obtain ⟨x10, g10⟩ : ∃ e, e = (pY) * (qY) := ⟨_, rfl⟩
  rw [← g10] at E10
  simp only [puts, v10, Act.put, List.setIfInBounds_toArray, List.set_cons_succ, List.set_cons_zero]
  clear v10
  go_upto_region 5 with fail
  refine region_new16 6 5 4 11 37 _ (fun i => [EL (d), EL (x9), EL (x10), EL ((x9) * (x10)), EL ((d) * ((x9) * (x10))), NB W46 16].getD i Fact.no) ((d) * ((x9) * (x10))) (by kernel_rfl) rfl rfl rfl (by kernel_rfl) (by kernel_rfl) rfl rfl ?_ ?_
  · intro i hi
    obtain rfl | rfl | rfl | rfl | rfl | rfl : i = 0 ∨ i = 1 ∨ i = 2 ∨ i = 3 ∨ i = 4 ∨ i = 5 := by omega
    · exact step_el rfl 128 5 rfl Go.Proofs.YtkpomobhjkikeaaGreatDoor.u50 i50 (by kernel_rfl) _ _ rfl _ HD rfl
    · exact step_el rfl 128 9 rfl Go.Proofs.YtkpomobhjkikeaaGreatDoor.u50 i50 (by kernel_rfl) _ _ rfl _ E9 rfl
    · exact step_el rfl 128 10 rfl Go.Proofs.YtkpomobhjkikeaaGreatDoor.u50 i50 (by kernel_rfl) _ _ rfl _ E10 rfl
    · exact step_mul rfl 34 35 1 2 _ _ rfl (by kernel_rfl) (by kernel_rfl) rfl rfl rfl
    · exact step_mul rfl 33 36 0 3 _ _ rfl (by kernel_rfl) (by kernel_rfl) rfl rfl rfl
    · exact step_new16 rfl rfl rfl
  intro vs5 q11 W5 v11 h5 n5 E11 T5
  clear T5
  replace HP := HP.up n5
  replace HQ := HQ.up n5
  replace HD := HD.up n5
  replace E7 := E7.up n5
  replace E8 := E8.up n5
  replace E9 := E9.up n5
  replace E10 := E10.up n5
  replace N := nxt N n5
  replace TR := there_up (by omega) TR n5
  clear n5
  obtain ⟨x11, g11⟩ : ∃ e, e = (d) * ((x9) * (x10)) := ⟨_, rfl⟩
  rw [← g11] at E11
  simp only [puts, v11, Act.put, List.setIfInBounds_toArray, List.set_cons_succ, List.set_cons_zero]
  clear v11
  go_upto_region 6 with fail
  refine region_new16 4 3 2 12 40 _ (fun i => [EL (x8), EL (x11), EL ((x8) - (x11)), NB W5 16].getD i Fact.no) ((x8) - (x11)) (by kernel_rfl) rfl rfl rfl (by kernel_rfl) (by kernel_rfl) rfl rfl ?_ ?_
  · intro i hi
    obtain rfl | rfl | rfl | rfl : i = 0 ∨ i = 1 ∨ i = 2 ∨ i = 3 := by omega
    · exact step_el rfl 128 8 rfl Go.Proofs.YtkpomobhjkikeaaGreatDoor.u50 i50 (by kernel_rfl) _ _ rfl _ E8 rfl
    · exact step_el rfl 128 11 rfl Go.Proofs.YtkpomobhjkikeaaGreatDoor.u50 i50 (by kernel_rfl) _ _ rfl _ E11 rfl
    · exact step_sub rfl 38 39 0 1 _ _ rfl (by kernel_rfl) (by kernel_rfl) rfl rfl rfl
    · exact step_new16 rfl rfl rfl
  intro vs6 q12 W6 v12 h6 n6 E12 T6
  clear T6
  replace HP := HP.up n6
  replace HQ := HQ.up n6
  replace HD := HD.up n6
  replace E7 := E7.up n6
  replace E8 := E8.up n6
  replace E9 := E9.up n6
  replace E10 := E10.up n6
  replace E11 := E11.up n6
  replace N := nxt N n6
  replace TR := there_up (by omega) TR n6
  clear n6
  obtain ⟨x12, g12⟩ : ∃ e, e = (x8) - (x11) := ⟨_, rfl⟩
  rw [← g12] at E12
  simp only [puts, v12, Act.put, List.setIfInBounds_toArray, List.set_cons_succ, List.set_cons_zero]
  clear v12
  go_upto_region 7 with fail
  refine region_new16 4 3 2 13 43 _ (fun i => [EL (x8), EL (x11), EL ((x8) + (x11)), NB W6 16].getD i Fact.no) ((x8) + (x11)) (by kernel_rfl) rfl rfl rfl (by kernel_rfl) (by kernel_rfl) rfl rfl ?_ ?_
  · intro i hi
    obtain rfl | rfl | rfl | rfl : i = 0 ∨ i = 1 ∨ i = 2 ∨ i = 3 := by omega
    · exact step_el rfl 128 8 rfl Go.Proofs.YtkpomobhjkikeaaGreatDoor.u50 i50 (by kernel_rfl) _ _ rfl _ E8 rfl
    · exact step_el rfl 128 11 rfl Go.Proofs.YtkpomobhjkikeaaGreatDoor.u50 i50 (by kernel_rfl) _ _ rfl _ E11 rfl
    · exact step_add rfl 41 42 0 1 _ _ rfl (by kernel_rfl) (by kernel_rfl) rfl rfl rfl
    · exact step_new16 rfl rfl rfl
  intro vs7 q13 W7 v13 h7 n7 E13 T7
  clear T7
  replace HP := HP.up n7
  replace HQ := HQ.up n7
  replace HD := HD.up n7
  replace E7 := E7.up n7
  replace E8 := E8.up n7
  replace E9 := E9.up n7
  replace E10 := E10.up n7
  replace E11 := E11.up n7
  replace E12 := E12.up n7
  replace N := nxt N n7
  replace TR := there_up (by omega) TR n7
  clear n7
  obtain ⟨x13, g13⟩ : ∃ e, e = (x8) + (x11) := ⟨_, rfl⟩
  rw [← g13] at E13
  simp only [puts, v13, Act.put, List.setIfInBounds_toArray, List.set_cons_succ, List.set_cons_zero]
  clear v13
  go_upto_region 8 with fail
  refine region_new16 16 15 14 14 58 _ (fun i => [Fact.eq (.pointer (some ⟨w.heap.size, 0, none⟩)), EL (pX), Fact.eq (.pointer (some ⟨w.heap.size, 16, none⟩)), EL (pY), EL ((pX) + (pY)), Fact.eq (.pointer (some ⟨w.heap.size + 1, 0, none⟩)), EL (qX), Fact.eq (.pointer (some ⟨w.heap.size + 1, 16, none⟩)), EL (qY), EL ((qX) + (qY)), EL (((pX) + (pY)) * ((qX) + (qY))), EL (x9), EL ((((pX) + (pY)) * ((qX) + (qY))) - (x9)), EL (x10), EL (((((pX) + (pY)) * ((qX) + (qY))) - (x9)) - (x10)), NB W7 16].getD i Fact.no) (((((pX) + (pY)) * ((qX) + (qY))) - (x9)) - (x10)) (by kernel_rfl) rfl rfl rfl (by kernel_rfl) (by kernel_rfl) rfl rfl ?_ ?_
  · intro i hi
    obtain rfl | rfl | rfl | rfl | rfl | rfl | rfl | rfl | rfl | rfl | rfl | rfl | rfl | rfl | rfl | rfl : i = 0 ∨ i = 1 ∨ i = 2 ∨ i = 3 ∨ i = 4 ∨ i = 5 ∨ i = 6 ∨ i = 7 ∨ i = 8 ∨ i = 9 ∨ i = 10 ∨ i = 11 ∨ i = 12 ∨ i = 13 ∨ i = 14 ∨ i = 15 := by omega
    · exact step_fld rfl 140 3 0 rfl (by kernel_rfl) _ _ rfl (fx48 _) rfl
    · exact step_elf rfl 128 44 0 rfl Go.Proofs.YtkpomobhjkikeaaGreatDoor.u50 i50 (by kernel_rfl) _ _ rfl _ HP.x rfl
    · exact step_fld rfl 140 3 1 rfl (by kernel_rfl) _ _ rfl (fy48 _) rfl
    · exact step_elf rfl 128 46 2 rfl Go.Proofs.YtkpomobhjkikeaaGreatDoor.u50 i50 (by kernel_rfl) _ _ rfl _ HP.y rfl
    · exact step_add rfl 45 47 1 3 _ _ rfl (by kernel_rfl) (by kernel_rfl) rfl rfl rfl
    · exact step_fld rfl 140 4 0 rfl (by kernel_rfl) _ _ rfl (fx48 _) rfl
    · exact step_elf rfl 128 49 5 rfl Go.Proofs.YtkpomobhjkikeaaGreatDoor.u50 i50 (by kernel_rfl) _ _ rfl _ HQ.x rfl
    · exact step_fld rfl 140 4 1 rfl (by kernel_rfl) _ _ rfl (fy48 _) rfl
    · exact step_elf rfl 128 51 7 rfl Go.Proofs.YtkpomobhjkikeaaGreatDoor.u50 i50 (by kernel_rfl) _ _ rfl _ HQ.y rfl
    · exact step_add rfl 50 52 6 8 _ _ rfl (by kernel_rfl) (by kernel_rfl) rfl rfl rfl
    · exact step_mul rfl 48 53 4 9 _ _ rfl (by kernel_rfl) (by kernel_rfl) rfl rfl rfl
    · exact step_el rfl 128 9 rfl Go.Proofs.YtkpomobhjkikeaaGreatDoor.u50 i50 (by kernel_rfl) _ _ rfl _ E9 rfl
    · exact step_sub rfl 54 55 10 11 _ _ rfl (by kernel_rfl) (by kernel_rfl) rfl rfl rfl
    · exact step_el rfl 128 10 rfl Go.Proofs.YtkpomobhjkikeaaGreatDoor.u50 i50 (by kernel_rfl) _ _ rfl _ E10 rfl
    · exact step_sub rfl 56 57 12 13 _ _ rfl (by kernel_rfl) (by kernel_rfl) rfl rfl rfl
    · exact step_new16 rfl rfl rfl
  intro vs8 q14 W8 v14 h8 n8 E14 T8
  clear T8
  replace HP := HP.up n8
  replace HQ := HQ.up n8
  replace HD := HD.up n8
  replace E7 := E7.up n8
  replace E8 := E8.up n8
  replace E9 := E9.up n8
  replace E10 := E10.up n8
  replace E11 := E11.up n8
  replace E12 := E12.up n8
  replace E13 := E13.up n8
  replace N := nxt N n8
  replace TR := there_up (by omega) TR n8
  clear n8
  obtain ⟨x14, g14⟩ : ∃ e, e = ((((pX) + (pY)) * ((qX) + (qY))) - (x9)) - (x10) := ⟨_, rfl⟩
  rw [← g14] at E14
  simp only [puts, v14, Act.put, List.setIfInBounds_toArray, List.set_cons_succ, List.set_cons_zero]
  clear v14
  go_upto_region 9 with fail
  refine region_put48 16 15 6 74 _ (fun i => [EL (x7), EL (x12), EL ((x7) * (x12)), EL (x14), EL (((x7) * (x12)) * (x14)), EL (x7), EL (x13), EL ((x7) * (x13)), EL (x10), EL (x9), EL ((x10) + (x9)), EL (((x7) * (x13)) * ((x10) + (x9))), EL (x12), EL (x13), EL ((x12) * (x13)), E3 (((x7) * (x12)) * (x14)) (((x7) * (x13)) * ((x10) + (x9))) ((x12) * (x13))].getD i Fact.no) (((x7) * (x12)) * (x14)) (((x7) * (x13)) * ((x10) + (x9))) ((x12) * (x13)) _ (by kernel_rfl) rfl rfl rfl (by kernel_rfl) rfl TR (by kernel_rfl) rfl ?_ ?_
  · intro i hi
    obtain rfl | rfl | rfl | rfl | rfl | rfl | rfl | rfl | rfl | rfl | rfl | rfl | rfl | rfl | rfl | rfl : i = 0 ∨ i = 1 ∨ i = 2 ∨ i = 3 ∨ i = 4 ∨ i = 5 ∨ i = 6 ∨ i = 7 ∨ i = 8 ∨ i = 9 ∨ i = 10 ∨ i = 11 ∨ i = 12 ∨ i = 13 ∨ i = 14 ∨ i = 15 := by omega
    · exact step_el rfl 128 7 rfl Go.Proofs.YtkpomobhjkikeaaGreatDoor.u50 i50 (by kernel_rfl) _ _ rfl _ E7 rfl
    · exact step_el rfl 128 12 rfl Go.Proofs.YtkpomobhjkikeaaGreatDoor.u50 i50 (by kernel_rfl) _ _ rfl _ E12 rfl
    · exact step_mul rfl 59 60 0 1 _ _ rfl (by kernel_rfl) (by kernel_rfl) rfl rfl rfl
    · exact step_el rfl 128 14 rfl Go.Proofs.YtkpomobhjkikeaaGreatDoor.u50 i50 (by kernel_rfl) _ _ rfl _ E14 rfl
    · exact step_mul rfl 61 62 2 3 _ _ rfl (by kernel_rfl) (by kernel_rfl) rfl rfl rfl
    · exact step_el rfl 128 7 rfl Go.Proofs.YtkpomobhjkikeaaGreatDoor.u50 i50 (by kernel_rfl) _ _ rfl _ E7 rfl
    · exact step_el rfl 128 13 rfl Go.Proofs.YtkpomobhjkikeaaGreatDoor.u50 i50 (by kernel_rfl) _ _ rfl _ E13 rfl
    · exact step_mul rfl 64 65 5 6 _ _ rfl (by kernel_rfl) (by kernel_rfl) rfl rfl rfl
    · exact step_el rfl 128 10 rfl Go.Proofs.YtkpomobhjkikeaaGreatDoor.u50 i50 (by kernel_rfl) _ _ rfl _ E10 rfl
    · exact step_el rfl 128 9 rfl Go.Proofs.YtkpomobhjkikeaaGreatDoor.u50 i50 (by kernel_rfl) _ _ rfl _ E9 rfl
    · exact step_add rfl 67 68 8 9 _ _ rfl (by kernel_rfl) (by kernel_rfl) rfl rfl rfl
    · exact step_mul rfl 66 69 7 10 _ _ rfl (by kernel_rfl) (by kernel_rfl) rfl rfl rfl
    · exact step_el rfl 128 12 rfl Go.Proofs.YtkpomobhjkikeaaGreatDoor.u50 i50 (by kernel_rfl) _ _ rfl _ E12 rfl
    · exact step_el rfl 128 13 rfl Go.Proofs.YtkpomobhjkikeaaGreatDoor.u50 i50 (by kernel_rfl) _ _ rfl _ E13 rfl
    · exact step_mul rfl 71 72 12 13 _ _ rfl (by kernel_rfl) (by kernel_rfl) rfl rfl rfl
    · exact step_b48 rfl 63 70 73 4 11 14 _ _ _ rfl (by kernel_rfl) (by kernel_rfl) (by kernel_rfl) rfl rfl rfl rfl
  intro vs9 Wa Wb na bq E9' T9 nb
  have NS := nb w w.heap.size (nxt N na) (by omega)
  simp only [puts, Act.put, List.setIfInBounds_toArray, List.set_cons_succ, List.set_cons_zero]
  clear HP HQ HD E7 E8 E9 E10 E11 E12 E13 E14 TR T9 bq nb na N
  go_wp2
  obtain ⟨x, y, z, rg, _, hx, hy, hz⟩ := E9'
  have lz : (c48 x y z).length = 48 := c48_len x y z
  subst g7 g8 g9 g10 g11 g12 g13 g14
  obtain ⟨fs, hfs⟩ := u144
  exact bodyPost_ret (v := ag48 x y z) (results_cell_mid Tryz.results102 _ _ (w.heap.size + 1 + 1 + 1) (c48 x y z) _ rfl rg hfs rfl (by rw [lz]; exact i144)) rfl ⟨x, y, z, rfl, hx, hy, hz, NS⟩
end Go.Proofs.YtkpomobhjkikeaaGreatDoor
namespace Go.Proofs.YtkpomobhjkikeaaGreatDoor
set_option maxRecDepth 100000
open Go Go.RowKit
def dE : Int := (0 - 121665) * iv 121666
theorem there_z (W : World) : (W.alloc zObj).there W.heap.size 0 16 := there_new W _ _
def RN (w0 : World) (p : List Int → Prop) : Fact := ⟨fun v w => ∃ (xs : List Int) (a : Option Addr) (c g : Nat), v = .slice a xs.length c ∧ Own w g a .u8 xs ∧ w0.heap.size ≤ g ∧ p xs ∧ (a = none → c = 0) ∧ xs.length ≤ c, fun n h => by
  obtain ⟨xs, a, c, g, e, o, q⟩ := h
  exact ⟨xs, a, c, g, e, o.up n, q⟩⟩
def PT (w0 : World) (p : List Int → List Int → Prop) : Fact := ⟨fun v w => ∃ (xs ys : List Int) (a a' : Option Addr) (c c' g g' : Nat), v = .agg #[.slice a xs.length c, .slice a' ys.length c'] ∧ Own w g a .u8 xs ∧ Own w g' a' .u8 ys ∧ w0.heap.size ≤ g ∧ w0.heap.size ≤ g' ∧ p xs ys, fun n h => by
  obtain ⟨xs, ys, a, a', c, c', g, g', e, o, o', q⟩ := h
  exact ⟨xs, ys, a, a', c, c', g, g', e, o.up n, o'.up n, q⟩⟩
theorem buP (w : World) (a a' : Option Addr) (m m' c c' : Nat) : (Instr.build 96 #[(0, .slice a m c), (1, .slice a' m' c')]).run Tryz.prog w = .ok (.agg #[.slice a m c, .slice a' m' c']) w := by kernel_rfl
theorem iP : (Tryz.prog.info? 96).map (·.size) = some 2 := by kernel_rfl
theorem uP : ∃ fs, Tryz.prog.underlying 96 = some (.struct fs) := ⟨_, Tryz.underlying96⟩
theorem en_bytes : enters Tryz.prog 74 = true := by kernel_rfl
theorem en_d : enters Tryz.prog 80 = true := by kernel_rfl
theorem en_of : enters Tryz.prog 73 = true := by kernel_rfl
section
variable {ops : Array Oper} {Q : Exit → Act → World → Prop} {md : Region.Mode} {F : Nat → Fact} {a0 : Act} {w0 : World} {i : Nat} {o : Oper} {ts : Array TypeId}
theorem step_bytes (hi : ops[i]? = some o) (p j : Nat) (A : Int) (hop : o.op = .call { callee := .value (.func 74), args := #[.tmp p], argTypes := ts })
    (hj : waits md ops i j p = true) (hFj : F j = EL A) (hFi : F i = RN w0 (fun xs => xs = fill (byt (A % PP)) 32)) : StepOk Tryz.prog md ops Q F a0 w0 i := by
  refine step_call hi _ _ ts hop en_bytes fun a w _ hw hF => ?_
  have ea := hF j p hj
  rw [hFj] at ea
  obtain ⟨t, e1, L1, V1⟩ := ea
  show Calls Tryz.prog 74 #[a.tmps.getD p undef] w _
  rw [e1]
  refine (l2Bytes_any w t L1).mono ?_
  rintro r w' ⟨⟨b, c, g, rfl, ow, k1, k2, hg⟩, hn⟩
  rw [hFi]
  exact ⟨_, rfl, hn, _, b, c, g, rfl, ow, Nat.le_trans hw.size hg, by rw [V1], k1, k2⟩
theorem step_bp (hi : ops[i]? = some o) (p q j k : Nat) (f g : List Int → Prop) (hop : o.op = .build 96 #[(0, .tmp p), (1, .tmp q)])
    (hj : waits md ops i j p = true) (hk : waits md ops i k q = true) (hFj : F j = RN w0 f) (hFk : F k = RN w0 g) (hFi : F i = PT w0 (fun xs ys => f xs ∧ g ys)) : StepOk Tryz.prog md ops Q F a0 w0 i := by
  refine step_pure hi fun a w _ _ hf => ?_
  have h1 := hf j p hj
  have h2 := hf k q hk
  rw [hFj] at h1
  rw [hFk] at h2
  obtain ⟨xs, b, c, h, e1, o1, l1, p1, _, _⟩ := h1
  obtain ⟨ys, b', c', h', e2, o2, l2, p2, _, _⟩ := h2
  refine ⟨.agg #[.slice b xs.length c, .slice b' ys.length c'], ?_, by rw [hFi]; exact ⟨xs, ys, b, b', c, c', h, h', rfl, o1, o2, l1, l2, p1, p2⟩⟩
  have g1 : a.eval (.tmp p) = .slice b xs.length c := e1
  have g2 : a.eval (.tmp q) = .slice b' ys.length c' := e2
  have gg : (#[(0, Operand.tmp p), (1, Operand.tmp q)].map fun (n, x) => (n, a.eval x)) = #[(0, Value.slice b xs.length c), (1, .slice b' ys.length c')] := by simp [g1, g2]
  simp only [execOp, hop, gg]
  rw [Sem.run_bind, buP]
  rfl
end
section
variable {ops : Array Oper} {Q : Exit → Act → World → Prop} {a0 : Act} {w : World} {id : Nat} {draw : Bool}
theorem region_putP (k jV pD pV : Nat) (o : Oper) (F : Nat → Fact) (p : List Int → List Int → Prop) (q : Nat) (hT : textOk .any ops a0.tmps.size k = true) (hk : ops[k]? = some o) (hd : o.dst = none) (hop : o.op = .store 96 (.tmp pD) (.tmp pV))
    (hp : apart ops pD = true) (h0 : a0.tmps.getD pD undef = .pointer (some ⟨q, 0, none⟩)) (ht : w.there q 0 2)
    (wV : writes ops jV pV = true) (FV : F jV = PT w p) (steps : ∀ i, i < k → StepOk Tryz.prog .any ops Q F a0 w i)
    (fin : ∀ (vs : Nat → Value) (W W' : World) (xs ys : List Int) (a a' : Option Addr) (c c' g g' : Nat), Below w.heap.size w W → ButQ q w W' → W'.rangeAt q 0 [.slice a xs.length c, .slice a' ys.length c'] → Own W' g a .u8 xs → Own W' g' a' .u8 ys → w.heap.size ≤ g → w.heap.size ≤ g' → p xs ys → (∀ (w1 : World) (B : Nat), Below B w1 W → B ≤ q → Below B w1 W') → Q .normal (puts vs a0 ops.toList) W') :
    (Code.region id ops draw).wp Tryz.prog Q a0 w := by
  refine region_store k o F (by kernel_rfl) hT hk hd steps fun a W hb hw hF => ?_
  have h2 := hF jV pV wV
  rw [FV] at h2
  obtain ⟨xs, ys, b, b', c, c', g, g', ev, o1, o2, l1, l2, hpp⟩ := h2
  have th := there_up (by omega) ht hw
  refine wp_store_mid 96 (.tmp pD) (.tmp pV) hop q 0 #[.slice b xs.length c, .slice b' ys.length c'] ((based_at hb pD hp).trans h0) ev th iP (by simp [Value.oneCell']) ?_
  obtain ⟨vs, hvs⟩ : ∃ vs : Nat → Value, ∀ d, a.tmps.getD d undef = vs d := ⟨_, fun _ => rfl⟩
  rw [hd]
  show Q .normal a _
  rw [puts_of hT rfl hb vs hvs]
  have lq := there_lt (by omega) ht
  refine fin vs W _ xs ys b b' c c' g g' hw (but_set hw _) (World.rangeAt_setCells_same W q 0 _ th) ?_ ?_ l1 l2 hpp (fun w1 B n hB => below_setCells hB _ _ _ n)
  · exact fun h0 => o1.of_block (setCells_other (by omega) _ 0 W) h0
  · exact fun h0 => o2.of_block (setCells_other (by omega) _ 0 W) h0
end
set_option maxHeartbeats 1000000 in
theorem l5D_any (w : World) : Calls Tryz.prog 80 #[] w fun r w' => ∃ t, r = .returned (ag16 t) ∧ L16 t ∧ s16 t 16 % PP = dE % PP ∧ Below w.heap.size w w' := by
  go_enter Tryz.func80, Tryz.ntmps80
  go_upto_region 1 with fail
  change Code.wp _ _ _ _ (w.alloc zObj)
  have TR := there_z w
  have N : Below w.heap.size w (w.alloc zObj) := (Below.refl _ _).alloc (Nat.le_refl _) _
  generalize w.alloc zObj = wr at *
  refine region_put16 6 5 0 6 _ (fun i => [EL 0, EL 121665, EL ((0) - (121665)), EL 121666, EL (iv (121666)), EL (((0) - (121665)) * (iv (121666)))].getD i Fact.no) (((0) - (121665)) * (iv (121666))) _ (by kernel_rfl) rfl rfl rfl (by kernel_rfl) rfl TR (by kernel_rfl) rfl ?_ ?_
  · intro i hi
    obtain rfl | rfl | rfl | rfl | rfl | rfl : i = 0 ∨ i = 1 ∨ i = 2 ∨ i = 3 ∨ i = 4 ∨ i = 5 := by omega
    · exact step_small rfl 0 (by omega) rfl rfl
    · exact step_small rfl 121665 (by omega) rfl rfl
    · exact step_sub rfl 1 2 0 1 _ _ rfl (by kernel_rfl) (by kernel_rfl) rfl rfl rfl
    · exact step_small rfl 121666 (by omega) rfl rfl
    · exact step_inv rfl 4 3 _ rfl (by kernel_rfl) rfl rfl
    · exact step_mul rfl 3 5 2 4 _ _ rfl (by kernel_rfl) (by kernel_rfl) rfl rfl rfl
  intro vs W W' n bq E T nb
  have NS := nb w w.heap.size (nxt N n) (Nat.le_refl _)
  simp only [puts, Act.put, List.setIfInBounds_toArray, List.set_cons_succ, List.set_cons_zero]
  obtain ⟨t, rg, _, L, V⟩ := E
  clear N n bq nb T TR
  go_wp2
  exact bodyPost_ret (v := .agg (a16 t)) (results_cell_mid Tryz.results80 _ _ w.heap.size (a16 t).toList (.array 16 2) rfl rg Go.Proofs.YtkpomobhjkikeaaGreatDoor.u50 rfl (by rw [a16_len]; exact i50)) rfl ⟨t, rfl, L, V, NS⟩
theorem step_d {ops : Array Oper} {Q : Exit → Act → World → Prop} {md : Region.Mode} {F : Nat → Fact} {a0 : Act} {w0 : World} {i : Nat} {o : Oper} {ts : Array TypeId} (hi : ops[i]? = some o) (hop : o.op = .call { callee := .value (.func 80), args := #[], argTypes := ts })
    (hFi : F i = EL dE) : StepOk Tryz.prog md ops Q F a0 w0 i := by
  refine step_call hi _ _ ts hop en_d fun a w _ _ _ => ?_
  refine (l5D_any w).mono ?_
  rintro r w' ⟨s, rfl, L, V, hb⟩
  exact ⟨_, rfl, hb, by rw [hFi]; exact ⟨s, rfl, L, V⟩⟩
end Go.Proofs.YtkpomobhjkikeaaGreatDoor
