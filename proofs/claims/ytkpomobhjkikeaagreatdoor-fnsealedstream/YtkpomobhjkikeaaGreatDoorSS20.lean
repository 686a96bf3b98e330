import Derived.Test.YtkpomobhjkikeaaGreatDoorSS19
namespace Go.Proofs.YtkpomobhjkikeaaGreatDoor
set_option maxRecDepth 100000
open Go Go.RowKit
theorem blk_box9 (w : World) (k : IntKind) (t : TypeId) (a b c d e f g h i : Int) : Blk (w.alloc (.cells #[.int k a, .int k b, .int k c, .int k d, .int k e, .int k f, .int k g, .int k h, .int k i] t)) w.heap.size k [a, b, c, d, e, f, g, h, i] :=
  ⟨t, by rw [heap_alloc_last]; rfl⟩
set_option maxRecDepth 100000 in
set_option maxHeartbeats 4000000 in
theorem kadd_any (w : World) (e f : Nat → Int) (he : Kw e) (hf : Kw f) :
    Calls Tryz.prog 106 #[ag5 e, ag5 f] w fun r w' => r = .returned (ag5 (kad e f)) ∧ Below w.heap.size w w' := by
  have B0 := blk_box w .u64 165 (e 0) (e 1) (e 2) (e 3) (e 4)
  have n0 : Below w.heap.size w (w.alloc (.cells #[.int .u64 (e 0), .int .u64 (e 1), .int .u64 (e 2), .int .u64 (e 3), .int .u64 (e 4)] 165)) := (Below.refl _ _).alloc (Nat.le_refl _) _
  have s0 : (w.alloc (.cells #[.int .u64 (e 0), .int .u64 (e 1), .int .u64 (e 2), .int .u64 (e 3), .int .u64 (e 4)] 165)).heap.size = w.heap.size + 1 := by simp
  simp only [ag5]
  go_enter Tryz.func106, Tryz.ntmps106
  go_wp2
  generalize w.alloc (.cells #[.int .u64 (e 0), .int .u64 (e 1), .int .u64 (e 2), .int .u64 (e 3), .int .u64 (e 4)] 165) = wa at *
  have B1 := blk_box wa .u64 165 (f 0) (f 1) (f 2) (f 3) (f 4)
  have n1 : Below wa.heap.size wa (wa.alloc (.cells #[.int .u64 (f 0), .int .u64 (f 1), .int .u64 (f 2), .int .u64 (f 3), .int .u64 (f 4)] 165)) := (Below.refl _ _).alloc (Nat.le_refl _) _
  have s1 : (wa.alloc (.cells #[.int .u64 (f 0), .int .u64 (f 1), .int .u64 (f 2), .int .u64 (f 3), .int .u64 (f 4)] 165)).heap.size = w.heap.size + 1 + 1 := by simp [s0]
  generalize wa.alloc (.cells #[.int .u64 (f 0), .int .u64 (f 1), .int .u64 (f 2), .int .u64 (f 3), .int .u64 (f 4)] 165) = wb at *
  have B2 := blk_box wb .u64 165 0 0 0 0 0
  have n2 : Below wb.heap.size wb (wb.alloc (.cells #[.int .u64 0, .int .u64 0, .int .u64 0, .int .u64 0, .int .u64 0] 165)) := (Below.refl _ _).alloc (Nat.le_refl _) _
  rw [s0] at B1
  rw [s1] at B2
  generalize wb.alloc (.cells #[.int .u64 0, .int .u64 0, .int .u64 0, .int .u64 0, .int .u64 0] 165) = wc at *
  have B0 := (B0.up n1).up n2
  have B1 := B1.up n2
  have N0 := nxt (nxt n0 n1) n2
  clear n0 n1 n2 s0 s1
  go_loopw [6] (fun i wr => ∃ (k : Nat) (ys : List Int), k ≤ 5 ∧ i = .int .i64 k ∧ Upd (kad e f) e ys k ∧ Blk wr w.heap.size .u64 ys ∧ Blk wr (w.heap.size + 1) .u64 [f 0, f 1, f 2, f 3, f 4] ∧ Blk wr (w.heap.size + 1 + 1) .u64 [0, 0, 0, 0, 0] ∧ Below w.heap.size w wr) (fun i _ => 5 - (intOf i).toNat)
  case atStart => exact ⟨0, _, by omega, rfl, Upd.zero _ e, B0, B1, B2, N0⟩
  case round =>
    clear B0 B1 B2 N0
    obtain ⟨k, ys, hk, rfl, hU, hB, hB1, hB2, hN⟩ := hrel
    by_cases hlt : k < 5
    · have R := hide (hU.step hlt)
      have hcy := hB.cell (i := k) (by rw [hU.1]; exact hlt)
      rw [hU.2.2 k (Nat.le_refl _) hlt] at hcy
      have hfy := hB.free k
      have hcf := hB1.at5 hlt
      have eb := he k hlt
      have fb := hf k hlt
      have S := hB.store k (kad e f k)
      have S1 := hB1.keep (h := w.heap.size) (i := k) (v := .int .u64 (kad e f k)) (by omega)
      have S2 := hB2.keep (h := w.heap.size) (i := k) (v := .int .u64 (kad e f k)) (by omega)
      have Sn : Below w.heap.size w (wr.setCell ⟨w.heap.size, k, none⟩ (.int .u64 (kad e f k))) := hN.setCell (Nat.le_refl _) _
      have E : Hid (kad e f k = e k + f k) := rfl
      rw [E.out] at R S S1 S2 Sn
      clear hU hB hB1 hB2 hN he hf E
      have k2 : (k : Int) < 5 := by omega
      generalize e k = x at *
      generalize f k = y at *
      go_wp2
      go_region
      all_goals
        go_wp2
        go_roundw
        case rel => exact ⟨k + 1, _, by omega, by go_num, R.out, S.drew, S1.drew, S2.drew, Sn.drew⟩
        case measure => simp [intOf]; omega
    · obtain rfl : k = 5 := by omega
      have hy := hU.all
      subst hy
      obtain ⟨t, ht⟩ : ∃ t, t = kad e f := ⟨_, rfl⟩
      have hT : Hid (kad e f = t) := ht.symm
      rw [← ht] at hB
      obtain ⟨⟨q0, q1, q2, q3, q4⟩, _⟩ := hB.f5
      obtain ⟨⟨p0, p1, p2, p3, p4⟩, ⟨g0, g1, g2, g3, g4⟩⟩ := hB2.f5
      clear hU hB hB1 hB2 ht he hf
      go_wp2
      exact bodyPost_ret (v := ag5 t) (by simp [ag5, results, Tryz.results106, go_sem, p0, p1, p2, p3, p4]) rfl ⟨by rw [hT.out]; rfl, below_set5 hN (by omega) _ _ _ _ _⟩
structure KmS (w : World) (N : Nat) (e f : Nat → Int) (wr : World) : Prop where
  E : Blk wr N .u64 [e 0, e 1, e 2, e 3, e 4]
  R : Blk wr (N + 1 + 1) .u64 [0, 0, 0, 0, 0]
  F : Blk wr (N + 1 + 1 + 1) .u64 (fill (rn5 f) 9)
  B : Below N w wr
theorem KmS.set {w wr : World} {N g i : Nat} {e f : Nat → Int} (h : KmS w N e f wr) (hg : N + 1 + 1 + 1 < g) (v : Value) : KmS w N e f (wr.setCell ⟨g, i, none⟩ v) :=
  ⟨h.E.keep (by omega), h.R.keep (by omega), h.F.keep (by omega), h.B.setCell (by show N ≤ g; omega) v⟩
theorem KmS.drewN {w wr : World} {N : Nat} {e f : Nat → Int} (h : KmS w N e f wr) (m : Nat) : KmS w N e f (wr.drewN m) := ⟨h.E, h.R, h.F, below_drewN h.B m⟩
set_option maxHeartbeats 8000000 in
set_option maxRecDepth 100000 in
theorem kmul_any (w : World) (e f : Nat → Int) (he : Kw e) (hf : Km f) :
    Calls Tryz.prog 108 #[ag5 e, ag5 f] w fun r w' => r = .returned (ag5 (kmu e f)) ∧ Below w.heap.size w w' := by
  have f0 := hf 0 (by omega); have f1 := hf 1 (by omega); have f2 := hf 2 (by omega); have f3 := hf 3 (by omega); have f4 := hf 4 (by omega)
  have B0 := blk_box w .u64 165 (e 0) (e 1) (e 2) (e 3) (e 4)
  have n0 : Below w.heap.size w (w.alloc (.cells #[.int .u64 (e 0), .int .u64 (e 1), .int .u64 (e 2), .int .u64 (e 3), .int .u64 (e 4)] 165)) := (Below.refl _ _).alloc (Nat.le_refl _) _
  have s0 : (w.alloc (.cells #[.int .u64 (e 0), .int .u64 (e 1), .int .u64 (e 2), .int .u64 (e 3), .int .u64 (e 4)] 165)).heap.size = w.heap.size + 1 := by simp
  simp only [ag5]
  go_enter Tryz.func108, Tryz.ntmps108
  go_wp2
  generalize w.alloc (.cells #[.int .u64 (e 0), .int .u64 (e 1), .int .u64 (e 2), .int .u64 (e 3), .int .u64 (e 4)] 165) = wa at *
  have B1 := blk_box wa .u64 165 (f 0) (f 1) (f 2) (f 3) (f 4)
  have n1 : Below wa.heap.size wa (wa.alloc (.cells #[.int .u64 (f 0), .int .u64 (f 1), .int .u64 (f 2), .int .u64 (f 3), .int .u64 (f 4)] 165)) := (Below.refl _ _).alloc (Nat.le_refl _) _
  have s1 : (wa.alloc (.cells #[.int .u64 (f 0), .int .u64 (f 1), .int .u64 (f 2), .int .u64 (f 3), .int .u64 (f 4)] 165)).heap.size = w.heap.size + 1 + 1 := by simp [s0]
  generalize wa.alloc (.cells #[.int .u64 (f 0), .int .u64 (f 1), .int .u64 (f 2), .int .u64 (f 3), .int .u64 (f 4)] 165) = wb at *
  have B2 := blk_box wb .u64 165 0 0 0 0 0
  have n2 : Below wb.heap.size wb (wb.alloc (.cells #[.int .u64 0, .int .u64 0, .int .u64 0, .int .u64 0, .int .u64 0] 165)) := (Below.refl _ _).alloc (Nat.le_refl _) _
  have s2 : (wb.alloc (.cells #[.int .u64 0, .int .u64 0, .int .u64 0, .int .u64 0, .int .u64 0] 165)).heap.size = w.heap.size + 1 + 1 + 1 := by simp [s1]
  generalize wb.alloc (.cells #[.int .u64 0, .int .u64 0, .int .u64 0, .int .u64 0, .int .u64 0] 165) = wc at *
  have B3 := blk_box9 wc .u64 181 (5 * f 1) (5 * f 2) (5 * f 3) (5 * f 4) (f 0) (f 1) (f 2) (f 3) (f 4)
  have n3 : Below wc.heap.size wc (wc.alloc (.cells #[.int .u64 (5 * f 1), .int .u64 (5 * f 2), .int .u64 (5 * f 3), .int .u64 (5 * f 4), .int .u64 (f 0), .int .u64 (f 1), .int .u64 (f 2), .int .u64 (f 3), .int .u64 (f 4)] 181)) := (Below.refl _ _).alloc (Nat.le_refl _) _
  have s3 : (wc.alloc (.cells #[.int .u64 (5 * f 1), .int .u64 (5 * f 2), .int .u64 (5 * f 3), .int .u64 (5 * f 4), .int .u64 (f 0), .int .u64 (f 1), .int .u64 (f 2), .int .u64 (f 3), .int .u64 (f 4)] 181)).heap.size = w.heap.size + 1 + 1 + 1 + 1 := by simp [s2]
  generalize wc.alloc (.cells #[.int .u64 (5 * f 1), .int .u64 (5 * f 2), .int .u64 (5 * f 3), .int .u64 (5 * f 4), .int .u64 (f 0), .int .u64 (f 1), .int .u64 (f 2), .int .u64 (f 3), .int .u64 (f 4)] 181) = wd at *
  have B4 := blk_box wd .u64 165 0 0 0 0 0
  have n4 : Below wd.heap.size wd (wd.alloc (.cells #[.int .u64 0, .int .u64 0, .int .u64 0, .int .u64 0, .int .u64 0] 165)) := (Below.refl _ _).alloc (Nat.le_refl _) _
  generalize wd.alloc (.cells #[.int .u64 0, .int .u64 0, .int .u64 0, .int .u64 0, .int .u64 0] 165) = wx at *
  rw [s1] at B2
  rw [s2] at B3
  rw [s3] at B4
  have M0 : KmS w w.heap.size e f wx := ⟨(((B0.up n1).up n2).up n3).up n4, (B2.up n3).up n4, B3.up n4, nxt (nxt (nxt (nxt n0 n1) n2) n3) n4⟩
  clear B0 B1 B2 B3 n0 n1 n2 n3 n4 s0 s1 s2 s3 f0 f1 f2 f3 f4
  have cb := fun k => kols_kr he hf k
  go_loopw [7, 34] (fun q i wr => ∃ (k : Nat) (ys : List Int), k ≤ 5 ∧ i = .int .i64 k ∧ q = .int .u64 (kr 0 (kols e f) k) ∧ Upd (kf 0 (kols e f)) (fun _ => 0) ys k ∧ KmS w w.heap.size e f wr ∧ Blk wr (w.heap.size + 1 + 1 + 1 + 1) .u64 ys) (fun _ i _ => 5 - (intOf i).toNat)
  case atStart => exact ⟨0, _, by omega, rfl, rfl, Upd.zero _ (fun _ => 0), M0, B4⟩
  case round =>
    clear M0 B4
    obtain ⟨k, ys, hk, rfl, rfl, hU, hM, hB⟩ := hrel
    by_cases hlt : k < 5
    · have ck := cb k
      have k2 : decide ((k : Int) < 5) = true := by simp; omega
      have U5 := hide hU
      have colb := fun j hj => kol_bd he hf k hlt j hj
      have HB := hide hB
      have HM := hide hM
      clear hU hB hM
      go_wp2
      obtain ⟨C, hC⟩ : ∃ C, C = kr 0 (kols e f) k := ⟨_, rfl⟩
      have hC' := hide hC
      rw [← hC] at ck ⊢
      clear hC
      go_loopw [9, 38] (fun q i wq => ∃ (j m : Nat), j ≤ 5 ∧ i = .int .i64 j ∧ q = .int .u64 (C + kol e f k j) ∧ wq = wr.drewN m) (fun _ i _ => 5 - (intOf i).toNat)
      case atStart => exact ⟨0, 0, by omega, rfl, by simp [kol], rfl⟩
      case round =>
        obtain ⟨j, m, hj, rfl, rfl, rfl⟩ := hrel
        by_cases hjt : j < 5
        · have hM := HM.out
          have ce := hM.E.at5 hjt
          have eb := he j hjt
          have rb := rn5_bd hf (4 + k - j) (by omega)
          have cf : wr.cell? ⟨w.heap.size + 1 + 1 + 1, 4 + k - j, none⟩ = some (.int .u64 (rn5 f (4 + k - j))) := by rw [hM.F.cell (by rw [fill_len]; omega), fill_get _ _ _ (by omega)]
          have cj := colb j (by omega)
          have cj' := colb (j + 1) (by omega)
          have pb := mulk_bd (A := 268435456) eb rb
          have cs : Hid (kol e f k (j + 1) = kol e f k j + e j * rn5 f (4 + k - j)) := rfl
          rw [cs.out] at cj'
          obtain ⟨p, hp⟩ : ∃ p : Nat, 4 + k - j = p := ⟨_, rfl⟩
          rw [hp] at cf rb cs cj' pb
          have i1 : (4 : Int) + (k : Int) - (j : Int) = (p : Int) := by omega
          have i2 : IntKind.i64.wrap ((4 : Int) + (k : Int)) = 4 + (k : Int) := by rw [IntKind.wrap_i64]; omega
          have i3 : IntKind.i64.wrap (p : Int) = (p : Int) := by rw [IntKind.wrap_i64]; omega
          have i4 : (p : Int) < 9 := by omega
          have i5 : (j : Int) < 5 := by omega
          have cs' : Hid (C + kol e f k (j + 1) = C + kol e f k j + e j * rn5 f p) := by show _ = _; rw [cs.out]; omega
          have t1 : 0 ≤ C + kol e f k j ∧ C + kol e f k j + e j * rn5 f p < 18446744073709551616 := ⟨by omega, by omega⟩
          generalize C + kol e f k j = s at *
          generalize rn5 f p = y at *
          generalize e j = x at *
          obtain ⟨xy, hxy⟩ : ∃ v, v = x * y := ⟨_, rfl⟩
          rw [← hxy] at pb t1 cs'
          have HXY := hide hxy
          have w1 : IntKind.u64.wrap (x * y) = xy := by rw [← hxy, IntKind.wrap_u64]; omega
          have w2 : IntKind.u64.wrap (s + xy) = s + xy := by rw [IntKind.wrap_u64]; omega
          clear cj cj' cs colb hM hp eb rb cb hxy
          obtain ⟨t10, t11⟩ := t1
          obtain ⟨pb0, pb1⟩ := pb
          have ce : (wr.drewN m).cell? ⟨w.heap.size, j, none⟩ = some (.int .u64 x) := ce
          have cf : (wr.drewN m).cell? ⟨w.heap.size + 1 + 1 + 1, p, none⟩ = some (.int .u64 y) := cf
          have DN : ∀ n, Hid ((wr.drewN m).drewN n = wr.drewN (m + n)) := fun n => by show _ = _; simp [World.drewN, Nat.add_assoc]
          generalize wr.drewN m = wm at *
          go_wp2
          go_quiet (fail)
          go_wp2
          go_roundw
          case rel => exact ⟨j + 1, _, by omega, by go_num, by rw [cs'.out], (DN _).out⟩
          case measure => simp [intOf]; omega
        · obtain rfl : j = 5 := by omega
          have c5 := colb 5 (by omega)
          have hU := U5.out
          have R := hide (hU.step hlt)
          have E1 : Hid (kf 0 (kols e f) k = (C + kol e f k 5) % 67108864) := by
            show _ = _
            unfold kf
            rw [hC'.out, show kols e f k = kol e f k 5 by simp [kols, hlt]]
          have E2 : Hid (kr 0 (kols e f) (k + 1) = (C + kol e f k 5) / 67108864) := by
            show _ = _
            rw [kr, hC'.out, show kols e f k = kol e f k 5 by simp [kols, hlt]]
          have hB : Blk (wr.drewN m) (w.heap.size + 1 + 1 + 1 + 1) .u64 ys := HB.out
          have hM := HM.out.drewN m
          have hcy := hB.cell (i := k) (by rw [hU.1]; exact hlt)
          have hfy := hB.free k
          have S := hB.store k (kf 0 (kols e f) k)
          have SM := hM.set (g := w.heap.size + 1 + 1 + 1 + 1) (i := k) (by omega) (.int .u64 (kf 0 (kols e f) k))
          have m1 := mask26 (C + kol e f k 5) (by omega) (by omega)
          rw [E1.out] at R S SM
          have b1 : 0 ≤ C + kol e f k 5 ∧ C + kol e f k 5 < 18446744073709551616 := ⟨by omega, by omega⟩
          generalize C + kol e f k 5 = v at *
          clear hU hB hM U5 E1 colb c5 ck cb hC' HB HM
          generalize wr.drewN m = wm at *
          obtain ⟨b10, b11⟩ := b1
          go_wp2
          go_roundw
          case rel => exact ⟨k + 1, _, by omega, by go_num, by rw [E2.out], R.out, SM, S⟩
          case measure => simp [intOf]; omega
    · obtain rfl : k = 5 := by omega
      have hy := hU.all
      subst hy
      have l0 := kf_bd 0 (kols e f) 0
      have l1 := kf_bd 0 (kols e f) 1
      have c5 := cb 5
      have kc := kcm_bd he hf
      have KC : Hid (kcm e f = kf 0 (kols e f) 0 + 5 * kr 0 (kols e f) 5) := rfl
      have KT : Hid (Value.agg #[.int .u64 (kmu e f 0), .int .u64 (kmu e f 1), .int .u64 (kmu e f 2), .int .u64 (kmu e f 3), .int .u64 (kmu e f 4)] = .agg #[.int .u64 (kcm e f % 67108864), .int .u64 (kf 0 (kols e f) 1 + kcm e f / 67108864), .int .u64 (kf 0 (kols e f) 2), .int .u64 (kf 0 (kols e f) 3), .int .u64 (kf 0 (kols e f) 4)]) := rfl
      rw [KC.out] at kc KT
      have m1 := mask26 (kf 0 (kols e f) 0 + 5 * kr 0 (kols e f) 5) (by omega) (by omega)
      obtain ⟨⟨q0, q1, q2, q3, q4⟩, ⟨z0, z1, z2, z3, z4⟩⟩ := hB.f5
      obtain ⟨⟨p0, p1, p2, p3, p4⟩, ⟨g0, g1, g2, g3, g4⟩⟩ := hM.R.f5
      have N := hM.B
      clear hU hB hM cb KC he hf
      generalize kf 0 (kols e f) 0 = a0 at *
      generalize kf 0 (kols e f) 1 = a1 at *
      generalize kf 0 (kols e f) 2 = a2 at *
      generalize kf 0 (kols e f) 3 = a3 at *
      generalize kf 0 (kols e f) 4 = a4 at *
      generalize kr 0 (kols e f) 5 = cc at *
      go_wp2
      exact bodyPost_ret (v := .agg #[.int .u64 ((a0 + 5 * cc) % 67108864), .int .u64 (a1 + (a0 + 5 * cc) / 67108864), .int .u64 a2, .int .u64 a3, .int .u64 a4]) (by simp [results, Tryz.results108, go_sem, p0, p1, p2, p3, p4]) rfl ⟨by rw [KT.out], below_set5 ((N.setCell (p := ⟨w.heap.size + 1 + 1 + 1 + 1, 0, none⟩) (by show w.heap.size ≤ w.heap.size + 1 + 1 + 1 + 1; omega) _).setCell (p := ⟨w.heap.size + 1 + 1 + 1 + 1, 1, none⟩) (by show w.heap.size ≤ w.heap.size + 1 + 1 + 1 + 1; omega) _) (by omega) _ _ _ _ _⟩
end Go.Proofs.YtkpomobhjkikeaaGreatDoor
