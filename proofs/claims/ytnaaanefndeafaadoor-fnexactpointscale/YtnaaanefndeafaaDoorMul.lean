
/-
  The program's product of two elements.
-/
import Derived.Test.YtnaaanefndeafaaDoorWide
import Derived.Test.YtnaaanefndeafaaDoorAdd
import Derived.Deep.RegionWith
import Derived.Deep.RegionHeld3
namespace Go.Proofs.YtnaaanefndeafaaDoor
set_option maxRecDepth 100000
open Go.RowKit

theorem or64c (z x : Int) (i m : Nat) (hm : m = 2 ^ i) (z0 : 0 ≤ z) (z1 : z < (m : Int)) (x0 : 0 ≤ x) (x1 : x * (m : Int) < 18446744073709551616) (m1 : m ≤ 18446744073709551616) :
    bits BinOp.or IntKind.u64 (x * (m : Int)) z = z + x * (m : Int) := by
  rw [← or64 z x i m hm z0 z1 x0 x1 m1]
  obtain ⟨a, rfl⟩ := Int.eq_ofNat_of_zero_le z0
  obtain ⟨b, rfl⟩ := Int.eq_ofNat_of_zero_le x0
  have e : (b : Int) * (m : Int) = ((b * m : Nat) : Int) := by simp
  rw [e] at x1 ⊢
  rw [bits_or_u64_nat a (b * m) (by omega) (by omega), bits_or_u64_nat (b * m) a (by omega) (by omega), Nat.or_comm]
theorem blk_box2 (w : World) (k : IntKind) (t : TypeId) (a b : Int) : Blk (w.alloc (.cells #[.int k a, .int k b] t)) w.heap.size k [a, b] :=
  ⟨t, by rw [heap_alloc_last]; rfl⟩
theorem blk_box9 (w : World) (k : IntKind) (t : TypeId) (a b c d e f g h i : Int) : Blk (w.alloc (.cells #[.int k a, .int k b, .int k c, .int k d, .int k e, .int k f, .int k g, .int k h, .int k i] t)) w.heap.size k [a, b, c, d, e, f, g, h, i] :=
  ⟨t, by rw [heap_alloc_last]; rfl⟩
/-- What stands through the product's loops. -/
structure MulS (w : World) (N : Nat) (e f : Nat → Int) (wr : World) : Prop where
  E : Blk wr N .u64 [e 0, e 1, e 2, e 3, e 4]
  R : Blk wr (N + 1 + 1) .u64 [0, 0, 0, 0, 0]
  F : Blk wr (N + 1 + 1 + 1) .u64 (fill (rnd f) 9)
  B : Below N w wr
theorem MulS.up {w wr wq : World} {N : Nat} {e f : Nat → Int} (h : MulS w N e f wr) (n : Below wr.heap.size wr wq) (hN : N ≤ wr.heap.size) : MulS w N e f wq :=
  ⟨h.E.up n, h.R.up n, h.F.up n, h.B.trans (n.mono hN)⟩
theorem MulS.set {w wr : World} {N g i : Nat} {e f : Nat → Int} (h : MulS w N e f wr) (hg : N + 1 + 1 + 1 < g) (v : Value) : MulS w N e f (wr.setCell ⟨g, i, none⟩ v) :=
  ⟨h.E.keep (by omega), h.R.keep (by omega), h.F.keep (by omega), h.B.setCell (by show N ≤ g; omega) v⟩
theorem MulS.drew {w wr : World} {N : Nat} {e f : Nat → Int} (h : MulS w N e f wr) : MulS w N e f wr.drew := ⟨h.E.drew, h.R.drew, h.F.drew, h.B.drew⟩

set_option maxHeartbeats 8000000 in
set_option maxRecDepth 100000 in
theorem mul_any (w : World) (e f : Nat → Int) (he : Lm e) (hf : Lm f) :
    Calls Tryd.prog 100 #[ag5 e, ag5 f] w fun r w' => r = .returned (ag5 (stl (st1 (cols e f)))) ∧ Below w.heap.size w w' := by
  have f0 := hf 0 (by omega); have f1 := hf 1 (by omega); have f2 := hf 2 (by omega); have f3 := hf 3 (by omega); have f4 := hf 4 (by omega)
  have B0 := blk_box w .u64 49 (e 0) (e 1) (e 2) (e 3) (e 4)
  have n0 : Below w.heap.size w (w.alloc (.cells #[.int .u64 (e 0), .int .u64 (e 1), .int .u64 (e 2), .int .u64 (e 3), .int .u64 (e 4)] 49)) := (Below.refl _ _).alloc (Nat.le_refl _) _
  have s0 : (w.alloc (.cells #[.int .u64 (e 0), .int .u64 (e 1), .int .u64 (e 2), .int .u64 (e 3), .int .u64 (e 4)] 49)).heap.size = w.heap.size + 1 := by simp
  simp only [ag5]
  go_enter Tryd.func100, Tryd.ntmps100
  go_wp2
  generalize w.alloc (.cells #[.int .u64 (e 0), .int .u64 (e 1), .int .u64 (e 2), .int .u64 (e 3), .int .u64 (e 4)] 49) = wa at *
  have B1 := blk_box wa .u64 49 (f 0) (f 1) (f 2) (f 3) (f 4)
  have n1 : Below wa.heap.size wa (wa.alloc (.cells #[.int .u64 (f 0), .int .u64 (f 1), .int .u64 (f 2), .int .u64 (f 3), .int .u64 (f 4)] 49)) := (Below.refl _ _).alloc (Nat.le_refl _) _
  have s1 : (wa.alloc (.cells #[.int .u64 (f 0), .int .u64 (f 1), .int .u64 (f 2), .int .u64 (f 3), .int .u64 (f 4)] 49)).heap.size = w.heap.size + 1 + 1 := by simp [s0]
  generalize wa.alloc (.cells #[.int .u64 (f 0), .int .u64 (f 1), .int .u64 (f 2), .int .u64 (f 3), .int .u64 (f 4)] 49) = wb at *
  have B2 := blk_box wb .u64 49 0 0 0 0 0
  have n2 : Below wb.heap.size wb (wb.alloc (.cells #[.int .u64 0, .int .u64 0, .int .u64 0, .int .u64 0, .int .u64 0] 49)) := (Below.refl _ _).alloc (Nat.le_refl _) _
  have s2 : (wb.alloc (.cells #[.int .u64 0, .int .u64 0, .int .u64 0, .int .u64 0, .int .u64 0] 49)).heap.size = w.heap.size + 1 + 1 + 1 := by simp [s1]
  generalize wb.alloc (.cells #[.int .u64 0, .int .u64 0, .int .u64 0, .int .u64 0, .int .u64 0] 49) = wc at *
  have B3 := blk_box9 wc .u64 129 (19 * f 1) (19 * f 2) (19 * f 3) (19 * f 4) (f 0) (f 1) (f 2) (f 3) (f 4)
  have n3 : Below wc.heap.size wc (wc.alloc (.cells #[.int .u64 (19 * f 1), .int .u64 (19 * f 2), .int .u64 (19 * f 3), .int .u64 (19 * f 4), .int .u64 (f 0), .int .u64 (f 1), .int .u64 (f 2), .int .u64 (f 3), .int .u64 (f 4)] 129)) := (Below.refl _ _).alloc (Nat.le_refl _) _
  have s3 : (wc.alloc (.cells #[.int .u64 (19 * f 1), .int .u64 (19 * f 2), .int .u64 (19 * f 3), .int .u64 (19 * f 4), .int .u64 (f 0), .int .u64 (f 1), .int .u64 (f 2), .int .u64 (f 3), .int .u64 (f 4)] 129)).heap.size = w.heap.size + 1 + 1 + 1 + 1 := by simp [s2]
  generalize wc.alloc (.cells #[.int .u64 (19 * f 1), .int .u64 (19 * f 2), .int .u64 (19 * f 3), .int .u64 (19 * f 4), .int .u64 (f 0), .int .u64 (f 1), .int .u64 (f 2), .int .u64 (f 3), .int .u64 (f 4)] 129) = wd at *
  have B4 := blk_box wd .u64 118 0 0 0 0 0
  have n4 : Below wd.heap.size wd (wd.alloc (.cells #[.int .u64 0, .int .u64 0, .int .u64 0, .int .u64 0, .int .u64 0] 118)) := (Below.refl _ _).alloc (Nat.le_refl _) _
  have s4 : (wd.alloc (.cells #[.int .u64 0, .int .u64 0, .int .u64 0, .int .u64 0, .int .u64 0] 118)).heap.size = w.heap.size + 1 + 1 + 1 + 1 + 1 := by simp [s3]
  generalize wd.alloc (.cells #[.int .u64 0, .int .u64 0, .int .u64 0, .int .u64 0, .int .u64 0] 118) = wx at *
  rw [s1] at B2
  rw [s2] at B3
  rw [s3] at B4
  have M0 : MulS w w.heap.size e f wx := ⟨(((B0.up n1).up n2).up n3).up n4, (B2.up n3).up n4, B3.up n4, nxt (nxt (nxt (nxt n0 n1) n2) n3) n4⟩
  clear B0 B1 B2 B3 n0 n1 n2 n3 n4 s0 s1 s2 s3
  have cb := fun k => cols_cr he hf k
  go_loopw [7, 34] (fun q i wr => ∃ (k : Nat) (ys : List Int), k ≤ 5 ∧ i = .int .i64 k ∧ q = .int .u64 (cr 0 (cols e f) k) ∧ Upd (lf 0 (cols e f)) (fun _ => 0) ys k ∧ MulS w w.heap.size e f wr ∧ Blk wr (w.heap.size + 1 + 1 + 1 + 1) .u64 ys ∧ w.heap.size + 1 + 1 + 1 + 1 < wr.heap.size) (fun _ i _ => 5 - (intOf i).toNat)
  case atStart => exact ⟨0, _, by omega, rfl, rfl, Upd.zero _ (fun _ => 0), M0, B4, by omega⟩
  case round =>
    clear M0 B4 s4
    obtain ⟨k, ys, hk, rfl, rfl, hU, hM, hB, hz⟩ := hrel
    by_cases hlt : k < 5
    · have ck := cb k
      have k2 : decide ((k : Int) < 5) = true := by simp; omega
      have U5 := hide hU
      have colb := fun j hj => col_bd he hf k hlt j hj
      have T0 := blk_box2 wr .u64 131 0 (cr 0 (cols e f) k)
      have nw : Below wr.heap.size wr (wr.alloc (.cells #[.int .u64 0, .int .u64 (cr 0 (cols e f) k)] 131)) := (Below.refl _ _).alloc (Nat.le_refl _) _
      have hw : wr.heap.size < (wr.alloc (.cells #[.int .u64 0, .int .u64 (cr 0 (cols e f) k)] 131)).heap.size := by simp
      have hM1 := hM.up nw (by omega)
      have hB1 := hB.up nw
      clear hU hM hB
      go_wp2
      generalize wr.alloc (.cells #[.int .u64 0, .int .u64 (cr 0 (cols e f) k)] 131) = wn at *
      obtain ⟨G, hG⟩ : ∃ G, G = wr.heap.size := ⟨_, rfl⟩
      have hGz : w.heap.size + 1 + 1 + 1 + 1 < G := by omega
      rw [← hG] at T0 hw ⊢
      clear hG nw hz
      obtain ⟨C, hC⟩ : ∃ C, C = cr 0 (cols e f) k := ⟨_, rfl⟩
      have hC' := hide hC
      rw [← hC] at T0 ck ⊢
      clear hC
      go_loopw [39] (fun i wq => ∃ (j : Nat), j ≤ 5 ∧ i = .int .i64 j ∧ MulS w w.heap.size e f wq ∧ Blk wq (w.heap.size + 1 + 1 + 1 + 1) .u64 ys ∧ Blk wq G .u64 [(C + col e f k j) / 18446744073709551616, (C + col e f k j) % 18446744073709551616] ∧ G < wq.heap.size) (fun i _ => 5 - (intOf i).toNat)
      case atStart =>
        refine ⟨0, by omega, rfl, hM1, hB1, ?_, hw⟩
        have e0 : (C + col e f k 0) / 18446744073709551616 = 0 := by simp only [col]; omega
        have e1 : (C + col e f k 0) % 18446744073709551616 = C := by simp only [col]; omega
        rw [e0, e1]
        exact T0
      case round =>
        clear hM1 hB1 T0 hw wn
        obtain ⟨j, hj, rfl, hM, hB, hT, hz⟩ := hrel
        by_cases hjt : j < 5
        · have ce := hM.E.at5 hjt
          have eb := he j hjt
          have rb := rnd_bd hf (4 + k - j) (by omega)
          have cf : wr.cell? ⟨w.heap.size + 1 + 1 + 1, 4 + k - j, none⟩ = some (.int .u64 (rnd f (4 + k - j))) := by rw [hM.F.cell (by rw [fill_len]; omega), fill_get _ _ _ (by omega)]
          have cj := colb j (by omega)
          have cj' := colb (j + 1) (by omega)
          have cs : col e f k (j + 1) = col e f k j + e j * rnd f (4 + k - j) := rfl
          obtain ⟨⟨t0, t1⟩, g0, g1⟩ : (wr.cell? ⟨G, 0, none⟩ = some (.int .u64 ((C + col e f k j) / 18446744073709551616)) ∧ wr.cell? ⟨G, 1, none⟩ = some (.int .u64 ((C + col e f k j) % 18446744073709551616))) ∧ wr.frozen? ⟨G, 0, none⟩ = false ∧ wr.frozen? ⟨G, 1, none⟩ = false :=
            ⟨⟨hT.cell (i := 0) (by simp), hT.cell (i := 1) (by simp)⟩, hT.free 0, hT.free 1⟩
          have AP : ∀ W, (∃ n, W = wr.drewN n) → Calls Tryd.prog 108 #[.agg #[.int .u64 ((C + col e f k j) / 18446744073709551616), .int .u64 ((C + col e f k j) % 18446744073709551616)], .int .u64 (e j), .int .u64 (rnd f (4 + k - j))] W fun r w' =>
              r = .returned (.agg #[.int .u64 ((C + col e f k (j + 1)) / 18446744073709551616), .int .u64 ((C + col e f k (j + 1)) % 18446744073709551616)]) ∧ Below wr.heap.size wr w' := by
            rintro W ⟨n, rfl⟩
            have e1 : (C + col e f k j) / 18446744073709551616 * 18446744073709551616 + (C + col e f k j) % 18446744073709551616 + e j * rnd f (4 + k - j) = C + col e f k (j + 1) := by rw [cs]; omega
            have h := addProduct_any (wr.drewN n) ((C + col e f k j) / 18446744073709551616) ((C + col e f k j) % 18446744073709551616) (e j) (rnd f (4 + k - j)) ⟨by omega, by omega⟩ ⟨by omega, by omega⟩ ⟨by omega, by omega⟩ ⟨by omega, by omega⟩ (by rw [e1]; omega)
            rw [e1] at h
            refine h.mono ?_
            rintro r w' ⟨rfl, n'⟩
            exact ⟨rfl, (below_drewN (Below.refl wr.heap.size wr) n).trans n'⟩
          have FIN : ∀ w', Below wr.heap.size wr w' → MulS w w.heap.size e f ((w'.setCell ⟨G, 0, none⟩ (.int .u64 ((C + col e f k (j + 1)) / 18446744073709551616))).setCell ⟨G, 1, none⟩ (.int .u64 ((C + col e f k (j + 1)) % 18446744073709551616))) ∧ Blk ((w'.setCell ⟨G, 0, none⟩ (.int .u64 ((C + col e f k (j + 1)) / 18446744073709551616))).setCell ⟨G, 1, none⟩ (.int .u64 ((C + col e f k (j + 1)) % 18446744073709551616))) (w.heap.size + 1 + 1 + 1 + 1) .u64 ys ∧
              Blk ((w'.setCell ⟨G, 0, none⟩ (.int .u64 ((C + col e f k (j + 1)) / 18446744073709551616))).setCell ⟨G, 1, none⟩ (.int .u64 ((C + col e f k (j + 1)) % 18446744073709551616))) G .u64 [(C + col e f k (j + 1)) / 18446744073709551616, (C + col e f k (j + 1)) % 18446744073709551616] ∧ G < ((w'.setCell ⟨G, 0, none⟩ (.int .u64 ((C + col e f k (j + 1)) / 18446744073709551616))).setCell ⟨G, 1, none⟩ (.int .u64 ((C + col e f k (j + 1)) % 18446744073709551616))).heap.size := by
            intro w' n'
            have hq := hM.B.size
            refine ⟨((hM.up n' (by omega)).set (by omega) _).set (by omega) _, ((hB.up n').keep (by omega)).keep (by omega), ((hT.up n').store 0 _).store 1 _, ?_⟩
            have := n'.size
            simp [World.setCell]
            omega
          have KC : ∀ w', Below wr.heap.size wr w' → (w'.cell? ⟨G, 0, none⟩ = some (.int .u64 ((C + col e f k j) / 18446744073709551616)) ∧ w'.cell? ⟨G, 1, none⟩ = some (.int .u64 ((C + col e f k j) % 18446744073709551616))) ∧ w'.frozen? ⟨G, 0, none⟩ = false ∧ w'.frozen? ⟨G, 1, none⟩ = false := fun w' n' =>
            ⟨⟨(hT.up n').cell (i := 0) (by simp), (hT.up n').cell (i := 1) (by simp)⟩, (hT.up n').free 0, (hT.up n').free 1⟩
          have AP' := hide AP
          have FIN' := hide FIN
          have KC' := hide KC
          obtain ⟨p, hp⟩ : ∃ p : Nat, 4 + k - j = p := ⟨_, rfl⟩
          rw [hp] at cf AP'
          have i1 : (4 : Int) + (k : Int) - (j : Int) = (p : Int) := by omega
          have i2 : IntKind.i64.wrap ((4 : Int) + (k : Int)) = 4 + (k : Int) := by rw [IntKind.wrap_i64]; omega
          have i3 : IntKind.i64.wrap (p : Int) = (p : Int) := by rw [IntKind.wrap_i64]; omega
          have i4 : (p : Int) < 9 := by omega
          have i5 : (j : Int) < 5 := by omega
          generalize rnd f p = y at *
          generalize e j = x at *
          generalize (C + col e f k j) / 18446744073709551616 = th at *
          generalize (C + col e f k j) % 18446744073709551616 = tl at *
          obtain ⟨uh, hu1⟩ : ∃ u, (C + col e f k (j + 1)) / 18446744073709551616 = u := ⟨_, rfl⟩
          obtain ⟨ul, hu2⟩ : ∃ u, (C + col e f k (j + 1)) % 18446744073709551616 = u := ⟨_, rfl⟩
          have hU1 := hide hu1
          have hU2 := hide hu2
          rw [hu1, hu2] at AP' FIN'
          clear hu1 hu2
          clear hT hB hM AP FIN KC colb cj cj' cs rb hp f0 f1 f2 f3 f4 cb ck U5
          go_wp2
          go_region_with (go_at_call 108; refine ((unhide AP') _ ?_).mono ?_; exact ⟨1, rfl⟩; rintro r w' ⟨rfl, n'⟩; obtain ⟨⟨t0', t1'⟩, g0', g1'⟩ := (unhide KC') w' n')
          all_goals
            have F := hide ((unhide FIN') w' n')
            generalize (w'.setCell ⟨G, 0, none⟩ (.int .u64 uh)).setCell ⟨G, 1, none⟩ (.int .u64 ul) = wz at *
            clear i1 i2 i3 t0 t1 t0' t1' g0 g1 g0' g1'
            go_wp2
            go_roundw
            case rel =>
              obtain ⟨F1, F2, F3, F4⟩ := F.out
              exact ⟨j + 1, by omega, by go_num, F1, F2, by rw [hU1.out, hU2.out]; exact F3, F4⟩
            case measure => simp [intOf]; omega
        · obtain rfl : j = 5 := by omega
          have c5 := colb 5 (by omega)
          have hU := U5.out
          have R := hU.step hlt
          have E1 : lf 0 (cols e f) k = (C + col e f k 5) % 2251799813685248 := by
            unfold lf
            rw [hC'.out, show cols e f k = col e f k 5 by simp [cols, hlt]]
          have E2 : cr 0 (cols e f) (k + 1) = (C + col e f k 5) / 2251799813685248 := by
            rw [cr, hC'.out, show cols e f k = col e f k 5 by simp [cols, hlt]]
          have hcy := hB.cell (i := k) (by rw [hU.1]; exact hlt)
          have hfy := hB.free k
          have t0 : wr.cell? ⟨G, 0, none⟩ = some (.int .u64 ((C + col e f k 5) / 18446744073709551616)) := hT.cell (i := 0) (by simp)
          have t1 : wr.cell? ⟨G, 1, none⟩ = some (.int .u64 ((C + col e f k 5) % 18446744073709551616)) := hT.cell (i := 1) (by simp)
          have v1 : (C + col e f k 5) % 18446744073709551616 % 2251799813685248 = (C + col e f k 5) % 2251799813685248 := by omega
          have v2 : (C + col e f k 5) % 18446744073709551616 / 2251799813685248 + (C + col e f k 5) / 18446744073709551616 * 8192 = (C + col e f k 5) / 2251799813685248 := by omega
          have b1 : 0 ≤ (C + col e f k 5) / 18446744073709551616 ∧ (C + col e f k 5) / 18446744073709551616 < 2251799813685248 := ⟨by omega, by omega⟩
          have b2 : 0 ≤ (C + col e f k 5) % 18446744073709551616 ∧ (C + col e f k 5) % 18446744073709551616 < 18446744073709551616 := ⟨by omega, by omega⟩
          rw [E1, ← v1] at R
          rw [← v2] at E2
          have E2' := hide E2
          generalize (C + col e f k 5) / 18446744073709551616 = th at *
          generalize (C + col e f k 5) % 18446744073709551616 = tl at *
          have m1 := mask51 tl b2.1 b2.2
          have o1 : bits BinOp.or IntKind.u64 (th * 8192) (tl / 2251799813685248) = tl / 2251799813685248 + th * 8192 := or64c (tl / 2251799813685248) th 13 8192 (by decide) (by omega) (by omega) (by omega) (by omega) (by decide)
          have S := hB.store k (tl % 2251799813685248)
          have SM := hM.set (g := w.heap.size + 1 + 1 + 1 + 1) (i := k) (by omega) (.int .u64 (tl % 2251799813685248))
          have SG : w.heap.size + 1 + 1 + 1 + 1 < (wr.setCell ⟨w.heap.size + 1 + 1 + 1 + 1, k, none⟩ (.int .u64 (tl % 2251799813685248))).heap.size := by simp [World.setCell]; omega
          have GN : G ≠ w.heap.size + 1 + 1 + 1 + 1 := by omega
          have R' := hide R
          clear hU hB hM hT U5 E1 E2 v1 v2 colb c5 ck cb hC' R f0 f1 f2 f3 f4
          go_wp2
          go_roundw
          case rel => exact ⟨k + 1, _, by omega, by go_num, by rw [E2'.out], R'.out, SM, S, SG⟩
          case measure => simp [intOf]; omega
    · obtain rfl : k = 5 := by omega
      have hy := hU.all
      subst hy
      have A := mul_ok he hf
      have l0 := lf_bd 0 (cols e f) 0
      have c5 := cb 5
      obtain ⟨⟨q0, q1, q2, q3, q4⟩, z0, _⟩ := hB.f5
      have SM := hM.set (g := w.heap.size + 1 + 1 + 1 + 1) (i := 0) (by omega) (.int .u64 (lf 0 (cols e f) 0 + 19 * cr 0 (cols e f) 5))
      clear hU hB hM cb f0 f1 f2 f3 f4
      go_wp2_with fail
      generalize wr.setCell ⟨w.heap.size + 1 + 1 + 1 + 1, 0, none⟩ (.int .u64 (lf 0 (cols e f) 0 + 19 * cr 0 (cols e f) 5)) = wy at *
      refine (settle_any wy (st1 (cols e f)) A.1).mono ?_
      rintro r w1 ⟨rfl, n1⟩
      obtain ⟨⟨p0, p1, p2, p3, p4⟩, ⟨g0, g1, g2, g3, g4⟩⟩ := (SM.R.up n1).f5
      have N1 := nxt SM.B n1
      obtain ⟨t, ht⟩ : ∃ t, t = stl (st1 (cols e f)) := ⟨_, rfl⟩
      have hT : Hid (t = stl (st1 (cols e f))) := ht
      rw [← ht]
      clear SM A n1 q0 q1 q2 q3 q4 ht
      simp only [ag5]
      go_wp2
      exact bodyPost_ret (v := ag5 t) (by simp [ag5, results, Tryd.results100, go_sem, p0, p1, p2, p3, p4]) rfl ⟨by rw [hT.out]; rfl, below_set5 N1 (by omega) _ _ _ _ _⟩
end Go.Proofs.YtnaaanefndeafaaDoor
