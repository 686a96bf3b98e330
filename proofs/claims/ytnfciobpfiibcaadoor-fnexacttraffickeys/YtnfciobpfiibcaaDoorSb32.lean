
/-
  The model's block, 32 bits (written by gens/sc.py).
-/
import Derived.Test.YtnfciobpfiibcaaDoorSk32
import Derived.Test.YtnfciobpfiibcaaDoorRgV
import Derived.Deep.QuietTactic
import Derived.BigQuiet
namespace Go.Proofs.YtnfciobpfiibcaaDoor
set_option maxRecDepth 100000
open Go Go.RowKit

/-- The first i words are there. -/
def WTo32 (b : Nat → Int) (ys : List Int) (i : Nat) : Prop := ys.length = 64 ∧ ∀ j, j < i → ys.getD j 0 = wS32 b j
theorem WTo32.step {b : Nat → Int} {ys : List Int} {i : Nat} (h : WTo32 b ys i) (hi : i < 64) : WTo32 b (ys.set i (wS32 b i)) (i + 1) := by
  refine ⟨by rw [List.length_set]; exact h.1, fun j hj => ?_⟩
  by_cases e : i = j
  · subst e
    rw [getD_set_self _ _ _ (by rw [h.1]; exact hi)]
  · rw [getD_set_ne _ _ _ _ e]
    exact h.2 j (by omega)
theorem word4 (xs : List Int) (i : Nat) : wd 4 xs i = xs.getD (4 * i) 0 * 16777216 + xs.getD (4 * i + 1) 0 * 65536 + xs.getD (4 * i + 2) 0 * 256 + xs.getD (4 * i + 3) 0 := by
  show (((0 * 256 + xs.getD (4 * i + 0) 0) * 256 + xs.getD (4 * i + 1) 0) * 256 + xs.getD (4 * i + 2) 0) * 256 + xs.getD (4 * i + 3) 0 = _
  rw [Nat.add_zero]
  omega

theorem u8_32 : Tryd.prog.underlying 48 = some (.array 8 47) := by kernel_rfl
theorem i8_32 : (Tryd.prog.info? 48).map (·.size) = some 8 := by kernel_rfl
theorem blk_set8 {w : World} {q : Nat} {k : IntKind} {r : S8} (h : Blk w q k r.l) (t : S8) :
    Blk ((((((((w.setCell ⟨q, 0, none⟩ (.int k t.a)).setCell ⟨q, 1, none⟩ (.int k t.b)).setCell ⟨q, 2, none⟩ (.int k t.c)).setCell ⟨q, 3, none⟩ (.int k t.d)).setCell ⟨q, 4, none⟩ (.int k t.e)).setCell ⟨q, 5, none⟩ (.int k t.f)).setCell ⟨q, 6, none⟩ (.int k t.g)).setCell ⟨q, 7, none⟩ (.int k t.h)) q k t.l :=
  (((((((h.store 0 t.a).store 1 t.b).store 2 t.c).store 3 t.d).store 4 t.e).store 5 t.f).store 6 t.g).store 7 t.h
theorem only_set8 (w : World) (q : Nat) (k : IntKind) (t : S8) :
    Only q w ((((((((w.setCell ⟨q, 0, none⟩ (.int k t.a)).setCell ⟨q, 1, none⟩ (.int k t.b)).setCell ⟨q, 2, none⟩ (.int k t.c)).setCell ⟨q, 3, none⟩ (.int k t.d)).setCell ⟨q, 4, none⟩ (.int k t.e)).setCell ⟨q, 5, none⟩ (.int k t.f)).setCell ⟨q, 6, none⟩ (.int k t.g)).setCell ⟨q, 7, none⟩ (.int k t.h)) :=
  (((((((Only.setCell _ q 0 _).trans (Only.setCell _ q 1 _)).trans (Only.setCell _ q 2 _)).trans (Only.setCell _ q 3 _)).trans (Only.setCell _ q 4 _)).trans (Only.setCell _ q 5 _)).trans (Only.setCell _ q 6 _)).trans (Only.setCell _ q 7 _)
theorem region_putA {P : Program} {ops : Array Oper} {Q : Exit → Act → World → Prop} {a0 : Act} {id : Nat} {draw : Bool} {w : World} (k jV pD pV : Nat) (o : Oper) (F : Nat → Fact) (q off : Nat) (ty : TypeId) (cells : List Value) (hm : P.follows .mixedOrders = true) (hT : textOk .any ops a0.tmps.size k = true) (hk : ops[k]? = some o) (hd : o.dst = none)
    (hop : o.op = .store ty (.tmp pD) (.tmp pV)) (hp : apart ops pD = true) (h0 : a0.tmps.getD pD undef = .pointer (some ⟨q, off, none⟩)) (wV : writes ops jV pV = true) (FV : F jV = Fact.eq (.agg cells.toArray))
    (hth : ∀ W, Below w.heap.size w W → W.there q off cells.length) (hi : (P.info? ty).map (·.size) = some cells.length) (h1 : cells.toArray.all (·.oneCell') = true) (steps : ∀ i, i < k → StepOk P .any ops Q F a0 w i)
    (fin : ∀ (vs : Nat → Value) (W : World), Below w.heap.size w W → Q .normal (puts vs a0 ops.toList) (W.setCells q off cells)) : (Code.region id ops draw).wp P Q a0 w := by
  refine region_store k o F hm hT hk hd steps fun a W hb hw hF => ?_
  have e2 := hF jV pV wV
  rw [FV] at e2
  refine wp_store_mid ty (.tmp pD) (.tmp pV) hop q off cells.toArray ((based_at hb pD hp).trans h0) e2 (by rw [List.size_toArray]; exact hth W hw) (by rw [List.size_toArray]; exact hi) h1 ?_
  obtain ⟨vs, hvs⟩ : ∃ vs : Nat → Value, ∀ d, a.tmps.getD d undef = vs d := ⟨_, fun _ => rfl⟩
  rw [hd]
  show Q .normal a _
  rw [puts_of hT rfl hb vs hvs]
  exact fin vs W hw
set_option maxRecDepth 20000 in
set_option maxHeartbeats 16000000 in
theorem l6Block_32 (w : World) (s : S8) (hs : Ok32 s) (g : Nat) (a : Option Addr) (c : Nat) (xs : List Int) (hr : Rd w g a .u8 xs) (hb : Byt xs) (hl : xs.length = 64) :
    Calls Tryd.prog 80 #[ag8 .u32 s, .slice a 64 c] w fun e w' => e = .returned (ag8 .u32 (blk32 s (wd 4 xs))) ∧ Below w.heap.size w w' := by
  have n0 : Below w.heap.size w (w.alloc (.cells #[.int .u32 s.a, .int .u32 s.b, .int .u32 s.c, .int .u32 s.d, .int .u32 s.e, .int .u32 s.f, .int .u32 s.g, .int .u32 s.h] 48)) := (Below.refl _ _).alloc (Nat.le_refl _) _
  have B0 := blk_ag8 w .u32 48 s
  have z0 : (w.alloc (.cells #[.int .u32 s.a, .int .u32 s.b, .int .u32 s.c, .int .u32 s.d, .int .u32 s.e, .int .u32 s.f, .int .u32 s.g, .int .u32 s.h] 48)).heap.size = w.heap.size + 1 := by simp
  have HL := hide hl
  obtain ⟨o2, rfl, hc⟩ := id hr (by omega)
  have gl := hr.lt (by omega)
  clear hl
  simp only [ag8]
  go_enter Tryd.func80, Tryd.ntmps80
  go_upto_region 1 with fail
  generalize w.alloc (.cells #[.int .u32 s.a, .int .u32 s.b, .int .u32 s.c, .int .u32 s.d, .int .u32 s.e, .int .u32 s.f, .int .u32 s.g, .int .u32 s.h] 48) = wa at *
  have n1 : Below wa.heap.size wa (wa.alloc (.cells #[.int .u32 0, .int .u32 0, .int .u32 0, .int .u32 0, .int .u32 0, .int .u32 0, .int .u32 0, .int .u32 0] 48)) := (Below.refl _ _).alloc (Nat.le_refl _) _
  have B1 := blk_ag8 wa .u32 48 ⟨0, 0, 0, 0, 0, 0, 0, 0⟩
  have z1 : (wa.alloc (.cells #[.int .u32 0, .int .u32 0, .int .u32 0, .int .u32 0, .int .u32 0, .int .u32 0, .int .u32 0, .int .u32 0] 48)).heap.size = wa.heap.size + 1 := by simp
  simp only [] at B1
  generalize wa.alloc (.cells #[.int .u32 0, .int .u32 0, .int .u32 0, .int .u32 0, .int .u32 0, .int .u32 0, .int .u32 0, .int .u32 0] 48) = wb at *
  have B0 := B0.up n1
  have N1 := nxt n0 n1
  rw [z0] at B1 z1
  clear n0 n1 z0
  go_wp2_with fail
  refine (l6Steps_32 wb).mono ?_
  rintro r w2 ⟨rfl, n2⟩
  have B0 := B0.up n2
  have B1 := B1.up n2
  have N2 := nxt N1 n2
  have z2 := n2.size
  have B2 := blk_zN32 w2
  have na : Below w2.heap.size w2 (w2.alloc zN32) := (Below.refl _ _).alloc (Nat.le_refl _) _
  have z3 : (w2.alloc zN32).heap.size = w2.heap.size + 1 := by simp
  have B0 := B0.up na
  have B1 := B1.up na
  have N3 := nxt N2 na
  have S2 := B2.setRow32 (zs := kA32)
  have O2 := only_setRow32 (w2.alloc zN32) w2.heap.size (kA32.map (Value.int .u32)).toArray
  have L0 : Hid ((kA32.map (Value.int .u32)).length = 64) := by show _ = _; rw [List.length_map]; rfl
  have P0 := one_ints .u32 kA32
  obtain ⟨t0, H0⟩ := B2
  clear n2 na N1 N2
  go_wp2_with (refine wpList_store_row rfl 81 (.tmp 5) (.tmp 19) rfl w2.heap.size (kA32.map (Value.int .u32)).toArray rfl rfl t0 ((List.replicate 64 (0 : Int)).map (Value.int .u32)).toArray ?hh ?hi ?hs ?ho ?_)
  case hh => exact H0
  case hi => show _ = some (kA32.map (Value.int .u32)).length; rw [L0.out]; exact infoN_32
  case hs => show ((List.replicate 64 (0 : Int)).map (Value.int .u32)).length = (kA32.map (Value.int .u32)).length; rw [L0.out]; rfl
  case ho => exact P0
  change Code.wp _ _ _ _ (((w2.alloc zN32).setRow w2.heap.size (kA32.map (Value.int .u32)).toArray).alloc zN32)
  have B0 := B0.of_block (O2.block w.heap.size (by omega))
  have B1 := B1.of_block (O2.block (w.heap.size + 1) (by omega))
  have N4 : Below w.heap.size w ((w2.alloc zN32).setRow w2.heap.size (kA32.map (Value.int .u32)).toArray) := N3.trans (O2.below (by omega))
  have zs : ((w2.alloc zN32).setRow w2.heap.size (kA32.map (Value.int .u32)).toArray).heap.size = w2.heap.size + 1 := by rw [O2.size, z3]
  generalize (w2.alloc zN32).setRow w2.heap.size (kA32.map (Value.int .u32)).toArray = w4 at *
  have B3 := blk_zN32 w4
  have n5 : Below w4.heap.size w4 (w4.alloc zN32) := (Below.refl _ _).alloc (Nat.le_refl _) _
  have z5 : (w4.alloc zN32).heap.size = w4.heap.size + 1 := by simp
  generalize w4.alloc zN32 = w5 at *
  have B0 := B0.up n5
  have B1 := B1.up n5
  have S2 := S2.up n5
  have N5 := nxt N4 n5
  obtain ⟨q2, hq2⟩ : ∃ q, q = w2.heap.size := ⟨_, rfl⟩
  rw [zs] at B3 z5
  rw [← hq2] at S2 B3 z5 ⊢
  have hq : w.heap.size + 2 ≤ q2 := by omega
  have gq : g ≠ q2 + 1 ∧ g ≠ q2 := by omega
  have r5 := hr.up N5
  clear n5 N3 N4 z2 z3 zs O2 H0 P0 L0 hq2 hc hr
  go_loopw [7] (fun i wr => ∃ (n : Nat) (ys : List Int), n ≤ 64 ∧ i = .int .i64 n ∧ WTo32 (wd 4 xs) ys n ∧ Blk wr (q2 + 1) .u32 ys ∧ Blk wr q2 .u32 kA32 ∧ Blk wr w.heap.size .u32 s.l ∧ Blk wr (w.heap.size + 1) .u32 (S8.l ⟨0, 0, 0, 0, 0, 0, 0, 0⟩) ∧ Rd wr g (some ⟨g, o2, none⟩) .u8 xs ∧ Below w.heap.size w wr) (fun i _ => 64 - (intOf i).toNat)
  case atStart => exact ⟨0, _, Nat.zero_le _, rfl, ⟨by simp, fun j h => absurd h (by omega)⟩, B3, S2, B0, B1, r5, N5⟩
  case round =>
    obtain ⟨n, ys, hn, rfl, hW, hY, hK, hB0, hB1, hX, hN⟩ := hrel
    clear B0 B1 S2 B3 r5 N5 z5
    by_cases hlt : n < 64
    · have R := hW.step hlt
      have cy := hY.cell (i := n) (by rw [hW.1]; exact hlt)
      have fy := hY.free n
      have Y' := hY.store n (wS32 (wd 4 xs) n)
      have K' := hK.of_block (w' := wr.setCell ⟨q2 + 1, n, none⟩ (.int .u32 (wS32 (wd 4 xs) n))) (heap_setCell_other _ ⟨q2 + 1, n, none⟩ _ _ (by show q2 ≠ q2 + 1; omega))
      have B0' := hB0.of_block (w' := wr.setCell ⟨q2 + 1, n, none⟩ (.int .u32 (wS32 (wd 4 xs) n))) (heap_setCell_other _ ⟨q2 + 1, n, none⟩ _ _ (by show w.heap.size ≠ q2 + 1; omega))
      have B1' := hB1.of_block (w' := wr.setCell ⟨q2 + 1, n, none⟩ (.int .u32 (wS32 (wd 4 xs) n))) (heap_setCell_other _ ⟨q2 + 1, n, none⟩ _ _ (by show w.heap.size + 1 ≠ q2 + 1; omega))
      have X' := hX.of_block (w' := wr.setCell ⟨q2 + 1, n, none⟩ (.int .u32 (wS32 (wd 4 xs) n))) (heap_setCell_other _ ⟨q2 + 1, n, none⟩ _ _ (by show g ≠ q2 + 1; exact gq.1))
      have N' : Below w.heap.size w (wr.setCell ⟨q2 + 1, n, none⟩ (.int .u32 (wS32 (wd 4 xs) n))) := hN.setCell (by show w.heap.size ≤ q2 + 1; omega) _
      have n64 : (n : Int) < 64 := by omega
      generalize ys.getD n 0 = y0 at cy
      by_cases h16 : n < 16
      · obtain ⟨o3, e3, hcx⟩ := hX (by rw [HL.out]; decide)
        simp only [Option.some.injEq, Addr.mk.injEq, true_and, and_true] at e3
        subst e3
        have x0 := hcx (4 * n) (by rw [HL.out]; omega)
        have x1 := hcx (4 * n + 1) (by rw [HL.out]; omega)
        have x2 := hcx (4 * n + 2) (by rw [HL.out]; omega)
        have x3 := hcx (4 * n + 3) (by rw [HL.out]; omega)
        have hv := (wS_low32 (wd 4 xs) h16).trans (word4 xs n)
        have b0 := hb (4 * n)
        have b1 := hb (4 * n + 1)
        have b2 := hb (4 * n + 2)
        have b3 := hb (4 * n + 3)
        generalize xs.getD (4 * n) 0 = v0 at *
        generalize xs.getD (4 * n + 1) 0 = v1 at *
        generalize xs.getD (4 * n + 2) 0 = v2 at *
        generalize xs.getD (4 * n + 3) 0 = v3 at *
        have n16 : (n : Int) < 16 := by omega
        rw [hv] at Y' K' B0' B1' X' N' R
        clear hY hK hB0 hB1 hX hN hW hcx hv
        go_wp2_with fail
        go_region
        go_wp2
        go_roundw
        case rel => exact ⟨n + 1, _, by omega, by go_num, R, Y'.drew, K'.drew, B0'.drew, B1'.drew, X', N'.drew⟩
        case measure => simp [intOf]; omega
      · have h16' : decide ((n : Int) < 16) = false := by simp; omega
        have c15 := hY.cell (i := n - 15) (by rw [hW.1]; omega)
        have c2 := hY.cell (i := n - 2) (by rw [hW.1]; omega)
        have c7 := hY.cell (i := n - 7) (by rw [hW.1]; omega)
        have c16 := hY.cell (i := n - 16) (by rw [hW.1]; omega)
        rw [hW.2 (n - 15) (by omega)] at c15
        rw [hW.2 (n - 2) (by omega)] at c2
        rw [hW.2 (n - 7) (by omega)] at c7
        rw [hW.2 (n - 16) (by omega)] at c16
        have hv := wS_go32 (wd 4 xs) (show 16 ≤ n by omega)
        have w15 := wS_wd32 (b := wd 4 xs) (fun i _ => wd_32 hb i) (n - 15)
        have w2 := wS_wd32 (b := wd 4 xs) (fun i _ => wd_32 hb i) (n - 2)
        have p15 : (n : Int) - 15 = ((n - 15 : Nat) : Int) := by omega
        have p2 : (n : Int) - 2 = ((n - 2 : Nat) : Int) := by omega
        have p7 : (n : Int) - 7 = ((n - 7 : Nat) : Int) := by omega
        have p16 : (n : Int) - 16 = ((n - 16 : Nat) : Int) := by omega
        have l15 : ((n - 15 : Nat) : Int) < 64 := by omega
        have l2 : ((n - 2 : Nat) : Int) < 64 := by omega
        have l7 : ((n - 7 : Nat) : Int) < 64 := by omega
        have l16 : ((n - 16 : Nat) : Int) < 64 := by omega
        generalize wS32 (wd 4 xs) n = wn at *
        generalize wS32 (wd 4 xs) (n - 15) = y15 at *
        generalize wS32 (wd 4 xs) (n - 2) = y2 at *
        generalize wS32 (wd 4 xs) (n - 7) = y7 at *
        generalize wS32 (wd 4 xs) (n - 16) = y16 at *
        generalize n - 15 = i15 at *
        generalize n - 2 = i2 at *
        generalize n - 7 = i7 at *
        generalize n - 16 = i16 at *
        have A1 := fun w => hide (right_32 w y15 w15 7 (by decide) (by decide))
        have A2 := fun w => hide (right_32 w y15 w15 18 (by decide) (by decide))
        have A3 := fun w => hide (right_32 w y2 w2 17 (by decide) (by decide))
        have A4 := fun w => hide (right_32 w y2 w2 19 (by decide) (by decide))
        have e0 : bits BinOp.xor IntKind.u32 (bits BinOp.xor IntKind.u32 (rr32 y15 7) (rr32 y15 18)) (y15 / 8) = sg032 y15 := rfl
        have e1 : bits BinOp.xor IntKind.u32 (bits BinOp.xor IntKind.u32 (rr32 y2 17) (rr32 y2 19)) (y2 / 1024) = sg132 y2 := rfl
        generalize sg032 y15 = lo at *
        generalize sg132 y2 = hi at *
        have HV := hide hv
        clear hY hK hB0 hB1 hX hN hW hv h16
        obtain ⟨a15, b15⟩ := w15
        obtain ⟨a2, b2⟩ := w2
        go_wp2_with fail
        refine (A1 _).out.mono ?_
        rintro x wx ⟨rfl, rfl⟩
        go_wp2_with fail
        refine (A2 _).out.mono ?_
        rintro x wx ⟨rfl, rfl⟩
        go_wp2_with fail
        refine (A3 _).out.mono ?_
        rintro x wx ⟨rfl, rfl⟩
        go_wp2_with fail
        refine (A4 _).out.mono ?_
        rintro x wx ⟨rfl, rfl⟩
        have hv : ((hi + y7 + lo) % 4294967296 + y16) % 4294967296 = wn := by rw [HV.out]; omega
        go_wp2_with fail
        go_region
        go_wp2
        go_roundw
        case rel => exact ⟨n + 1, _, by omega, by go_num, R, Y'.drew, K'.drew, B0'.drew, B1'.drew, X', N'.drew⟩
        case measure => simp [intOf]; omega
    · obtain rfl : n = 64 := by omega
      clear hX gq
      obtain ⟨q4, hq4⟩ : ∃ q, q = wr.heap.size := ⟨_, rfl⟩
      have na : Below wr.heap.size wr (wr.alloc (.cells #[.int .u32 0, .int .u32 0, .int .u32 0, .int .u32 0, .int .u32 0, .int .u32 0, .int .u32 0, .int .u32 0] 48)) := (Below.refl _ _).alloc (Nat.le_refl _) _
      have BZ := blk_ag8 wr .u32 48 ⟨0, 0, 0, 0, 0, 0, 0, 0⟩
      simp only [] at BZ
      have lY := hY.lt
      have lK := hK.lt
      have l0 := hB0.lt
      have l1 := hB1.lt
      have OS := only_setRow32 (wr.alloc (.cells #[.int .u32 0, .int .u32 0, .int .u32 0, .int .u32 0, .int .u32 0, .int .u32 0, .int .u32 0, .int .u32 0] 48)) wr.heap.size (s.l.map (Value.int .u32)).toArray
      have SB := BZ.setRow32 (zs := s.l)
      have Y2 := (hY.up na).of_block (OS.block _ (by omega))
      have K2 := (hK.up na).of_block (OS.block _ (by omega))
      have B02 := (hB0.up na).of_block (OS.block _ (by omega))
      have B12 := (hB1.up na).of_block (OS.block _ (by omega))
      have N2 : Below w.heap.size w ((wr.alloc (.cells #[.int .u32 0, .int .u32 0, .int .u32 0, .int .u32 0, .int .u32 0, .int .u32 0, .int .u32 0, .int .u32 0] 48)).setRow wr.heap.size (s.l.map (Value.int .u32)).toArray) := (nxt hN na).trans (OS.below (by omega))
      obtain ⟨t0, H0⟩ := id hB0
      obtain ⟨t4, H4⟩ := id BZ
      have P8 := one_ints .u32 s.l
      have V8 : Hid ((s.l.map (Value.int .u32)).length = 8) := by show _ = _; rw [List.length_map]; rfl
      go_wp2_with (first
        | (refine wpList_load_row rfl 48 (.tmp 2) rfl w.heap.size rfl t0 (s.l.map (Value.int .u32)).toArray (0, 0) (.array 8 47) H0 u8_32 rfl i8_32 ?_)
        | (refine wpList_store_row rfl 48 (.tmp 12) (.tmp 100) rfl wr.heap.size (s.l.map (Value.int .u32)).toArray rfl rfl t4 ((S8.l ⟨0, 0, 0, 0, 0, 0, 0, 0⟩).map (Value.int .u32)).toArray H4 i8_32 rfl P8 ?_))
      generalize (wr.alloc (.cells #[.int .u32 0, .int .u32 0, .int .u32 0, .int .u32 0, .int .u32 0, .int .u32 0, .int .u32 0, .int .u32 0] 48)).setRow wr.heap.size (s.l.map (Value.int .u32)).toArray = w6 at *
      rw [← hq4] at SB lY lK l0 l1 ⊢
      clear hY hK hB0 hB1 hN na OS BZ H0 H4 hq4 P8 V8
      have b32 : ∀ i, i < 16 → Wd32 (wd 4 xs i) := fun i _ => wd_32 hb i
      go_loopw [13] (fun i wr => ∃ (n : Nat) (r : S8), n ≤ 64 ∧ i = .int .i64 n ∧ Hid (r = rnds32 K32 (wS32 (wd 4 xs)) n s) ∧ Blk wr q4 .u32 r.l ∧ Blk wr (q2 + 1) .u32 ys ∧ Blk wr q2 .u32 kA32 ∧ Blk wr w.heap.size .u32 s.l ∧ Blk wr (w.heap.size + 1) .u32 (S8.l ⟨0, 0, 0, 0, 0, 0, 0, 0⟩) ∧ Below w.heap.size w wr) (fun i _ => 64 - (intOf i).toNat)
      case atStart => exact ⟨0, s, Nat.zero_le _, rfl, rfl, SB, Y2, K2, B02, B12, N2⟩
      case round =>
        obtain ⟨n, r, hn, rfl, hr, hR, hY, hK, hB0, hB1, hN⟩ := hrel
        clear SB Y2 K2 B02 B12 N2
        by_cases hlt : n < 64
        · have ok : Ok32 r := by rw [hr.out]; exact rnds_ok32 hs n
          obtain ⟨oa, ob, oc, od, oe, of, og, oh⟩ := ok
          have hr' : Hid (stp32 (K32 n) (wS32 (wd 4 xs) n) r = rnds32 K32 (wS32 (wd 4 xs)) (n + 1) s) := by show _ = _; rw [hr.out]; rfl
          have A1 : ∀ w, Hid (Calls Tryd.prog 95 #[.int .u32 r.e, .int .u64 6] w fun e w' => e = .returned (.int .u32 (rr32 r.e 6)) ∧ w' = w) := fun w => right_32 w r.e oe 6 (by decide) (by decide)
          have A2 : ∀ w, Hid (Calls Tryd.prog 95 #[.int .u32 r.e, .int .u64 11] w fun e w' => e = .returned (.int .u32 (rr32 r.e 11)) ∧ w' = w) := fun w => right_32 w r.e oe 11 (by decide) (by decide)
          have A3 : ∀ w, Hid (Calls Tryd.prog 95 #[.int .u32 r.e, .int .u64 25] w fun e w' => e = .returned (.int .u32 (rr32 r.e 25)) ∧ w' = w) := fun w => right_32 w r.e oe 25 (by decide) (by decide)
          have A4 : ∀ w, Hid (Calls Tryd.prog 95 #[.int .u32 r.a, .int .u64 2] w fun e w' => e = .returned (.int .u32 (rr32 r.a 2)) ∧ w' = w) := fun w => right_32 w r.a oa 2 (by decide) (by decide)
          have A5 : ∀ w, Hid (Calls Tryd.prog 95 #[.int .u32 r.a, .int .u64 13] w fun e w' => e = .returned (.int .u32 (rr32 r.a 13)) ∧ w' = w) := fun w => right_32 w r.a oa 13 (by decide) (by decide)
          have A6 : ∀ w, Hid (Calls Tryd.prog 95 #[.int .u32 r.a, .int .u64 22] w fun e w' => e = .returned (.int .u32 (rr32 r.a 22)) ∧ w' = w) := fun w => right_32 w r.a oa 22 (by decide) (by decide)
          have e1 : bits BinOp.xor IntKind.u32 (bits BinOp.xor IntKind.u32 (rr32 r.e 6) (rr32 r.e 11)) (rr32 r.e 25) = gg132 r.e := rfl
          have e0 : bits BinOp.xor IntKind.u32 (bits BinOp.xor IntKind.u32 (rr32 r.a 2) (rr32 r.a 13)) (rr32 r.a 22) = gg032 r.a := rfl
          have ec : bits BinOp.or IntKind.u32 (bits BinOp.and IntKind.u32 r.e r.f) (bits BinOp.and IntKind.u32 (bits BinOp.xor IntKind.u32 IntKind.u32.max r.e) r.g) = ch32 r.e r.f r.g := ch_same32 oe of og
          have em : bits BinOp.or IntKind.u32 (bits BinOp.or IntKind.u32 (bits BinOp.and IntKind.u32 r.a r.b) (bits BinOp.and IntKind.u32 r.a r.c)) (bits BinOp.and IntKind.u32 r.b r.c) = mj32 r.a r.b r.c := mj_same32 oa ob oc
          obtain ⟨t, ht⟩ : ∃ t, t = tS32 (K32 n) (wS32 (wd 4 xs) n) r := ⟨_, rfl⟩
          obtain ⟨u, hu⟩ : ∃ u, u = uS32 r := ⟨_, rfl⟩
          have et : ((r.h + gg132 r.e + ch32 r.e r.f r.g + K32 n) % 4294967296 + wS32 (wd 4 xs) n) % 4294967296 = t := by rw [ht]; unfold tS32; omega
          have eu : (gg032 r.a + mj32 r.a r.b r.c) % 4294967296 = u := by rw [hu]; rfl
          have ST : Hid (stp32 (K32 n) (wS32 (wd 4 xs) n) r = ⟨(t + u) % 4294967296, r.a, r.b, r.c, (r.d + t) % 4294967296, r.e, r.f, r.g⟩) := by show _ = _; rw [ht, hu]; rfl
          have ck := hK.cell (i := n) (by rw [kA_len32]; exact hlt)
          have ki := kA_is32 ⟨n, hlt⟩
          have ki' : kA32.getD n 0 = K32 n := ki
          rw [ki'] at ck
          have cw := hY.cell (i := n) (by rw [hW.1]; exact hlt)
          rw [hW.2 n hlt] at cw
          have n64 : (n : Int) < 64 := by omega
          obtain ⟨⟨c0, c1, c2, c3, c4, c5, c6, c7⟩, ⟨f0, f1, f2, f3, f4, f5, f6, f7⟩⟩ := hR.f8
          obtain ⟨ea, eb⟩ := oe
          obtain ⟨aa, ab⟩ := oa
          obtain ⟨ba, bb⟩ := ob
          obtain ⟨ca, cb⟩ := oc
          obtain ⟨fa, fb⟩ := of
          obtain ⟨ga, gb⟩ := og
          generalize K32 n = kn at *
          generalize wS32 (wd 4 xs) n = wn at *
          generalize gg132 r.e = G1 at *
          generalize gg032 r.a = G0 at *
          generalize ch32 r.e r.f r.g = CH at *
          generalize mj32 r.a r.b r.c = MJ at *
          clear hr ht hu ki ki'
          go_wp2_with fail
          go_quiet ((first | (go_at_call 95; with_reducible exact Calls.quiet_of_same (A1 _).out) | (go_at_call 95; with_reducible exact Calls.quiet_of_same (A2 _).out) | (go_at_call 95; with_reducible exact Calls.quiet_of_same (A3 _).out)))
          have hR : Blk (wr.drewN nq) q4 .u32 r.l := hR
          have hY : Blk (wr.drewN nq) (q2 + 1) .u32 ys := hY
          have hK : Blk (wr.drewN nq) q2 .u32 kA32 := hK
          have hB0 : Blk (wr.drewN nq) w.heap.size .u32 s.l := hB0
          have hB1 : Blk (wr.drewN nq) (w.heap.size + 1) .u32 (S8.l ⟨0, 0, 0, 0, 0, 0, 0, 0⟩) := hB1
          have hN : Below w.heap.size w (wr.drewN nq) := below_drewN hN _
          generalize wr.drewN nq = wq at *
          obtain ⟨⟨c0, c1, c2, c3, c4, c5, c6, c7⟩, ⟨f0, f1, f2, f3, f4, f5, f6, f7⟩⟩ := hR.f8
          go_wp2_with fail
          go_quiet ((first | (go_at_call 95; with_reducible exact Calls.quiet_of_same (A4 _).out) | (go_at_call 95; with_reducible exact Calls.quiet_of_same (A5 _).out) | (go_at_call 95; with_reducible exact Calls.quiet_of_same (A6 _).out)))
          have hR : Blk (wq.drewN nq) q4 .u32 r.l := hR
          have hY : Blk (wq.drewN nq) (q2 + 1) .u32 ys := hY
          have hK : Blk (wq.drewN nq) q2 .u32 kA32 := hK
          have hB0 : Blk (wq.drewN nq) w.heap.size .u32 s.l := hB0
          have hB1 : Blk (wq.drewN nq) (w.heap.size + 1) .u32 (S8.l ⟨0, 0, 0, 0, 0, 0, 0, 0⟩) := hB1
          have hN : Below w.heap.size w (wq.drewN nq) := below_drewN hN _
          generalize wq.drewN nq = wp at *
          obtain ⟨⟨c0, c1, c2, c3, c4, c5, c6, c7⟩, ⟨f0, f1, f2, f3, f4, f5, f6, f7⟩⟩ := hR.f8
          clear A1 A2 A3 A4 A5 A6 e1 e0 ec em et
          go_upto_region 21 with fail
          rw [eu]
          clear eu
          refine region_putA 20 19 12 182 _ (fun i => [Fact.eq (.int .u32 (t)), Fact.eq (.int .u32 (u)), Fact.eq (.int .u32 ((t + u) % 4294967296)), Fact.eq (.pointer (some ⟨q4, 0, none⟩)), Fact.eq (.int .u32 (r.a)), Fact.eq (.pointer (some ⟨q4, 1, none⟩)), Fact.eq (.int .u32 (r.b)), Fact.eq (.pointer (some ⟨q4, 2, none⟩)), Fact.eq (.int .u32 (r.c)), Fact.eq (.pointer (some ⟨q4, 3, none⟩)), Fact.eq (.int .u32 (r.d)), Fact.eq (.int .u32 (t)), Fact.eq (.int .u32 ((r.d + t) % 4294967296)), Fact.eq (.pointer (some ⟨q4, 4, none⟩)), Fact.eq (.int .u32 (r.e)), Fact.eq (.pointer (some ⟨q4, 5, none⟩)), Fact.eq (.int .u32 (r.f)), Fact.eq (.pointer (some ⟨q4, 6, none⟩)), Fact.eq (.int .u32 (r.g)), Fact.eq (ag8 .u32 ⟨(t + u) % 4294967296, r.a, r.b, r.c, (r.d + t) % 4294967296, r.e, r.f, r.g⟩)].getD i Fact.no) q4 0 48 ((S8.l ⟨(t + u) % 4294967296, r.a, r.b, r.c, (r.d + t) % 4294967296, r.e, r.f, r.g⟩).map (Value.int .u32)) (by kernel_rfl) (by kernel_rfl) rfl rfl rfl (by kernel_rfl) rfl (by kernel_rfl) rfl ?_ i8_32 (one_ints _ _) ?_ ?_
          · intro W n j hj
            rw [List.length_map] at hj
            have h := (hR.up n).cell (i := j) hj
            rw [Nat.zero_add]
            exact ⟨by rw [h]; rfl, (hR.up n).free j⟩
          · skip
            intro i hi
            obtain rfl | rfl | rfl | rfl | rfl | rfl | rfl | rfl | rfl | rfl | rfl | rfl | rfl | rfl | rfl | rfl | rfl | rfl | rfl | rfl : i = 0 ∨ i = 1 ∨ i = 2 ∨ i = 3 ∨ i = 4 ∨ i = 5 ∨ i = 6 ∨ i = 7 ∨ i = 8 ∨ i = 9 ∨ i = 10 ∨ i = 11 ∨ i = 12 ∨ i = 13 ∨ i = 14 ∨ i = 15 ∨ i = 16 ∨ i = 17 ∨ i = 18 ∨ i = 19 := by omega
            · refine step_pure rfl fun a w hb hw hf => ?_
              have e16 : a.tmps[16]?.getD undef = .int .u32 (t) := gdv (hb.2.2 16 (by kernel_rfl))
              exact ⟨.int .u32 (t), by simp [go_sem, e16], rfl⟩
            · refine step_pure rfl fun a w hb hw hf => ?_
              have e17 : a.tmps[17]?.getD undef = .int .u32 (u) := gdv (hb.2.2 17 (by kernel_rfl))
              exact ⟨.int .u32 (u), by simp [go_sem, e17], rfl⟩
            · refine step_pure rfl fun a w hb hw hf => ?_
              have e163 : a.tmps[163]?.getD undef = .int .u32 (t) := gdv (hf 0 163 (by kernel_rfl))
              have e164 : a.tmps[164]?.getD undef = .int .u32 (u) := gdv (hf 1 164 (by kernel_rfl))
              exact ⟨.int .u32 ((t + u) % 4294967296), by simp [go_sem, e163, e164, IntKind.wrap_u32'], rfl⟩
            · refine step_pure rfl fun a w hb hw hf => ?_
              have e12 : a.tmps[12]?.getD undef = .pointer (some ⟨q4, 0, none⟩) := gdv (hb.2.2 12 (by kernel_rfl))
              exact ⟨.pointer (some ⟨q4, 0, none⟩), by simp [go_sem, e12], rfl⟩
            · refine step_pure rfl fun a w hb hw hf => ?_
              have e166 : a.tmps[166]?.getD undef = .pointer (some ⟨q4, 0, none⟩) := gdv (hf 3 166 (by kernel_rfl))
              have hc := (hR.up hw).f8.1.1
              exact ⟨.int .u32 (r.a), by simp [go_sem, e166, hc], rfl⟩
            · refine step_pure rfl fun a w hb hw hf => ?_
              have e12 : a.tmps[12]?.getD undef = .pointer (some ⟨q4, 0, none⟩) := gdv (hb.2.2 12 (by kernel_rfl))
              exact ⟨.pointer (some ⟨q4, 1, none⟩), by simp [go_sem, e12], rfl⟩
            · refine step_pure rfl fun a w hb hw hf => ?_
              have e168 : a.tmps[168]?.getD undef = .pointer (some ⟨q4, 1, none⟩) := gdv (hf 5 168 (by kernel_rfl))
              have hc := (hR.up hw).f8.1.2.1
              exact ⟨.int .u32 (r.b), by simp [go_sem, e168, hc], rfl⟩
            · refine step_pure rfl fun a w hb hw hf => ?_
              have e12 : a.tmps[12]?.getD undef = .pointer (some ⟨q4, 0, none⟩) := gdv (hb.2.2 12 (by kernel_rfl))
              exact ⟨.pointer (some ⟨q4, 2, none⟩), by simp [go_sem, e12], rfl⟩
            · refine step_pure rfl fun a w hb hw hf => ?_
              have e170 : a.tmps[170]?.getD undef = .pointer (some ⟨q4, 2, none⟩) := gdv (hf 7 170 (by kernel_rfl))
              have hc := (hR.up hw).f8.1.2.2.1
              exact ⟨.int .u32 (r.c), by simp [go_sem, e170, hc], rfl⟩
            · refine step_pure rfl fun a w hb hw hf => ?_
              have e12 : a.tmps[12]?.getD undef = .pointer (some ⟨q4, 0, none⟩) := gdv (hb.2.2 12 (by kernel_rfl))
              exact ⟨.pointer (some ⟨q4, 3, none⟩), by simp [go_sem, e12], rfl⟩
            · refine step_pure rfl fun a w hb hw hf => ?_
              have e172 : a.tmps[172]?.getD undef = .pointer (some ⟨q4, 3, none⟩) := gdv (hf 9 172 (by kernel_rfl))
              have hc := (hR.up hw).f8.1.2.2.2.1
              exact ⟨.int .u32 (r.d), by simp [go_sem, e172, hc], rfl⟩
            · refine step_pure rfl fun a w hb hw hf => ?_
              have e16 : a.tmps[16]?.getD undef = .int .u32 (t) := gdv (hb.2.2 16 (by kernel_rfl))
              exact ⟨.int .u32 (t), by simp [go_sem, e16], rfl⟩
            · refine step_pure rfl fun a w hb hw hf => ?_
              have e173 : a.tmps[173]?.getD undef = .int .u32 (r.d) := gdv (hf 10 173 (by kernel_rfl))
              have e174 : a.tmps[174]?.getD undef = .int .u32 (t) := gdv (hf 11 174 (by kernel_rfl))
              exact ⟨.int .u32 ((r.d + t) % 4294967296), by simp [go_sem, e173, e174, IntKind.wrap_u32'], rfl⟩
            · refine step_pure rfl fun a w hb hw hf => ?_
              have e12 : a.tmps[12]?.getD undef = .pointer (some ⟨q4, 0, none⟩) := gdv (hb.2.2 12 (by kernel_rfl))
              exact ⟨.pointer (some ⟨q4, 4, none⟩), by simp [go_sem, e12], rfl⟩
            · refine step_pure rfl fun a w hb hw hf => ?_
              have e176 : a.tmps[176]?.getD undef = .pointer (some ⟨q4, 4, none⟩) := gdv (hf 13 176 (by kernel_rfl))
              have hc := (hR.up hw).f8.1.2.2.2.2.1
              exact ⟨.int .u32 (r.e), by simp [go_sem, e176, hc], rfl⟩
            · refine step_pure rfl fun a w hb hw hf => ?_
              have e12 : a.tmps[12]?.getD undef = .pointer (some ⟨q4, 0, none⟩) := gdv (hb.2.2 12 (by kernel_rfl))
              exact ⟨.pointer (some ⟨q4, 5, none⟩), by simp [go_sem, e12], rfl⟩
            · refine step_pure rfl fun a w hb hw hf => ?_
              have e178 : a.tmps[178]?.getD undef = .pointer (some ⟨q4, 5, none⟩) := gdv (hf 15 178 (by kernel_rfl))
              have hc := (hR.up hw).f8.1.2.2.2.2.2.1
              exact ⟨.int .u32 (r.f), by simp [go_sem, e178, hc], rfl⟩
            · refine step_pure rfl fun a w hb hw hf => ?_
              have e12 : a.tmps[12]?.getD undef = .pointer (some ⟨q4, 0, none⟩) := gdv (hb.2.2 12 (by kernel_rfl))
              exact ⟨.pointer (some ⟨q4, 6, none⟩), by simp [go_sem, e12], rfl⟩
            · refine step_pure rfl fun a w hb hw hf => ?_
              have e180 : a.tmps[180]?.getD undef = .pointer (some ⟨q4, 6, none⟩) := gdv (hf 17 180 (by kernel_rfl))
              have hc := (hR.up hw).f8.1.2.2.2.2.2.2.1
              exact ⟨.int .u32 (r.g), by simp [go_sem, e180, hc], rfl⟩
            · refine step_pure rfl fun a w hb hw hf => ?_
              have e165 : a.tmps[165]?.getD undef = .int .u32 ((t + u) % 4294967296) := gdv (hf 2 165 (by kernel_rfl))
              have e167 : a.tmps[167]?.getD undef = .int .u32 (r.a) := gdv (hf 4 167 (by kernel_rfl))
              have e169 : a.tmps[169]?.getD undef = .int .u32 (r.b) := gdv (hf 6 169 (by kernel_rfl))
              have e171 : a.tmps[171]?.getD undef = .int .u32 (r.c) := gdv (hf 8 171 (by kernel_rfl))
              have e175 : a.tmps[175]?.getD undef = .int .u32 ((r.d + t) % 4294967296) := gdv (hf 12 175 (by kernel_rfl))
              have e177 : a.tmps[177]?.getD undef = .int .u32 (r.e) := gdv (hf 14 177 (by kernel_rfl))
              have e179 : a.tmps[179]?.getD undef = .int .u32 (r.f) := gdv (hf 16 179 (by kernel_rfl))
              have e181 : a.tmps[181]?.getD undef = .int .u32 (r.g) := gdv (hf 18 181 (by kernel_rfl))
              exact ⟨ag8 .u32 ⟨(t + u) % 4294967296, r.a, r.b, r.c, (r.d + t) % 4294967296, r.e, r.f, r.g⟩, by simp [go_sem, e165, e167, e169, e171, e175, e177, e179, e181, ag8], rfl⟩
          intro vs6 W n6
          have SB : Blk (W.setCells q4 0 ((S8.l ⟨(t + u) % 4294967296, r.a, r.b, r.c, (r.d + t) % 4294967296, r.e, r.f, r.g⟩).map (Value.int .u32))) q4 .u32 (S8.l ⟨(t + u) % 4294967296, r.a, r.b, r.c, (r.d + t) % 4294967296, r.e, r.f, r.g⟩) := blk_set8 (hR.up n6) ⟨(t + u) % 4294967296, r.a, r.b, r.c, (r.d + t) % 4294967296, r.e, r.f, r.g⟩
          have OB : Only q4 W (W.setCells q4 0 ((S8.l ⟨(t + u) % 4294967296, r.a, r.b, r.c, (r.d + t) % 4294967296, r.e, r.f, r.g⟩).map (Value.int .u32))) := only_set8 W q4 .u32 ⟨(t + u) % 4294967296, r.a, r.b, r.c, (r.d + t) % 4294967296, r.e, r.f, r.g⟩
          have Y2 := (hY.up n6).of_block (OB.block _ (by omega))
          have K2 := (hK.up n6).of_block (OB.block _ (by omega))
          have B02 := (hB0.up n6).of_block (OB.block _ (by omega))
          have B12 := (hB1.up n6).of_block (OB.block _ (by omega))
          have N2 := (nxt hN n6).trans (OB.below (B := w.heap.size) (by omega))
          generalize W.setCells q4 0 ((S8.l ⟨(t + u) % 4294967296, r.a, r.b, r.c, (r.d + t) % 4294967296, r.e, r.f, r.g⟩).map (Value.int .u32)) = w7 at *
          clear hR hY hK hB0 hB1 hN OB n6 c0 c1 c2 c3 c4 c5 c6 c7 f0 f1 f2 f3 f4 f5 f6 f7
          simp only [puts, Act.put, List.setIfInBounds_toArray, List.set_cons_succ, List.set_cons_zero]
          go_wp2
          go_roundw
          case rel => exact ⟨n + 1, ⟨(t + u) % 4294967296, r.a, r.b, r.c, (r.d + t) % 4294967296, r.e, r.f, r.g⟩, by omega, by go_num, by show _ = _; rw [← hr'.out, ST.out], SB, Y2, K2, B02, B12, N2⟩
          case measure => simp [intOf]; omega
        · obtain rfl : n = 64 := by omega
          have KB : Hid (blk32 s (wd 4 xs) = add32 s r) := by show _ = _; rw [hr.out]; rfl
          clear hr hY hK hW
          go_wp2_with fail
          go_loopw [18] (fun i wr => ∃ (n : Nat) (zs : List Int), n ≤ 8 ∧ i = .int .i64 n ∧ zs.length = 8 ∧ (∀ j, j < 8 → zs.getD j 0 = if j < n then (s.l.getD j 0 + r.l.getD j 0) % 4294967296 else r.l.getD j 0) ∧ Blk wr q4 .u32 zs ∧ Blk wr w.heap.size .u32 s.l ∧ Blk wr (w.heap.size + 1) .u32 (S8.l ⟨0, 0, 0, 0, 0, 0, 0, 0⟩) ∧ Below w.heap.size w wr) (fun i _ => 8 - (intOf i).toNat)
          case atStart => exact ⟨0, r.l, Nat.zero_le _, rfl, rfl, fun j _ => by rw [if_neg (by omega)], hR, hB0, hB1, hN⟩
          case round =>
            obtain ⟨n, zs, hn, rfl, hl, hv, hZ, hB0', hB1', hN'⟩ := hrel
            clear hR hB0 hB1 hN
            by_cases hlt : n < 8
            · have cz := hZ.cell (i := n) (by omega)
              have cs := hB0'.cell (i := n) (by rw [S8.l_len]; exact hlt)
              have hvn := hv n hlt
              rw [if_neg (by omega)] at hvn
              rw [hvn] at cz
              have fz := hZ.free n
              have Z' := hZ.store n ((r.l.getD n 0 + s.l.getD n 0) % 4294967296)
              have O' := Only.setCell wr q4 n (.int .u32 ((r.l.getD n 0 + s.l.getD n 0) % 4294967296))
              have B0' := hB0'.of_block (O'.block _ (by omega))
              have B1' := hB1'.of_block (O'.block _ (by omega))
              have N' := hN'.trans (O'.below (B := w.heap.size) (by omega))
              have V' : Hid (∀ j, j < 8 → (zs.set n ((r.l.getD n 0 + s.l.getD n 0) % 4294967296)).getD j 0 = if j < n + 1 then (s.l.getD j 0 + r.l.getD j 0) % 4294967296 else r.l.getD j 0) := by
                intro j hj
                by_cases e : n = j
                · subst e
                  rw [getD_set_self _ _ _ (by omega), if_pos (by omega), Int.add_comm]
                · rw [getD_set_ne _ _ _ _ e, hv j hj]
                  by_cases c : j < n
                  · rw [if_pos c, if_pos (by omega)]
                  · rw [if_neg c, if_neg (by omega)]
              have L' : Hid ((zs.set n ((r.l.getD n 0 + s.l.getD n 0) % 4294967296)).length = 8) := by show _ = _; rw [List.length_set]; exact hl
              have n8 : (n : Int) < 8 := by omega
              clear hZ hB0' hB1' hN' O' hv hl hvn
              generalize r.l.getD n 0 = rn at *
              generalize s.l.getD n 0 = sn at *
              go_wp2_with fail
              go_region
              go_wp2
              go_roundw
              case rel => exact ⟨n + 1, _, by omega, by go_num, L'.out, V'.out, Z'.drew, B0'.drew, B1'.drew, N'.drew⟩
              case measure => simp [intOf]; omega
            · obtain rfl : n = 8 := by omega
              obtain rfl : zs = (add32 s r).l := eq_of_getD (by rw [hl]; rfl) (fun i hi => by
                rw [hl] at hi
                rw [hv i hi, if_pos hi]
                obtain rfl | rfl | rfl | rfl | rfl | rfl | rfl | rfl : i = 0 ∨ i = 1 ∨ i = 2 ∨ i = 3 ∨ i = 4 ∨ i = 5 ∨ i = 6 ∨ i = 7 := by omega
                all_goals rfl)
              clear hv hl
              generalize hrr : add32 s r = rr at *
              obtain ⟨t4, H4⟩ := hZ
              obtain ⟨t1, H1⟩ := id hB1'
              have SR := setRow_heap wr (w.heap.size + 1) _ (rr.l.map (Value.int .u32)).toArray _ _ H1
              have SN := hN'.trans ((only_setRow32 wr (w.heap.size + 1) (rr.l.map (Value.int .u32)).toArray).below (B := w.heap.size) (by omega))
              have P8 := one_ints .u32 rr.l
              go_wp2_with (first
                | (refine wpList_load_row rfl 48 (.tmp 12) rfl q4 rfl t4 (rr.l.map (Value.int .u32)).toArray (0, 0) (.array 8 47) H4 u8_32 rfl i8_32 ?_)
                | (refine wpList_store_row rfl 48 (.tmp 4) (.tmp 196) rfl (w.heap.size + 1) (rr.l.map (Value.int .u32)).toArray rfl rfl t1 ((S8.l ⟨0, 0, 0, 0, 0, 0, 0, 0⟩).map (Value.int .u32)).toArray H1 i8_32 rfl P8 ?_))
              exact bodyPost_ret (v := .agg (rr.l.map (Value.int .u32)).toArray) (results_cell_row Tryd.results80 _ _ (w.heap.size + 1) t1 _ (0, 0) (.array 8 47) rfl SR u8_32 rfl i8_32) rfl ⟨by rw [KB.out]; rfl, SN⟩
end Go.Proofs.YtnfciobpfiibcaaDoor
