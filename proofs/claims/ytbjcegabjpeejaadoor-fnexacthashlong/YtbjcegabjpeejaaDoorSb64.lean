
/-
  The model's block, 64 bits (written by gens/sc.py).
-/
import Derived.Test.YtbjcegabjpeejaaDoorSk64
import Derived.Test.YtbjcegabjpeejaaDoorRgV
import Derived.Deep.QuietTactic
import Derived.BigQuiet
namespace Go.Proofs.YtbjcegabjpeejaaDoor
set_option maxRecDepth 100000
open Go Go.RowKit

/-- The first i words are there, and zeros behind them. -/
def WTo64 (b : Nat → Int) (ys : List Int) (i : Nat) : Prop := ys.length = 80 ∧ (∀ j, j < i → ys.getD j 0 = wS64 b j) ∧ ∀ j, i ≤ j → ys.getD j 0 = 0
theorem WTo64.step {b : Nat → Int} {ys : List Int} {i : Nat} (h : WTo64 b ys i) (hi : i < 80) : WTo64 b (ys.set i (wS64 b i)) (i + 1) := by
  refine ⟨by rw [List.length_set]; exact h.1, fun j hj => ?_, fun j hj => ?_⟩
  · by_cases e : i = j
    · subst e
      rw [getD_set_self _ _ _ (by rw [h.1]; exact hi)]
    · rw [getD_set_ne _ _ _ _ e]
      exact h.2.1 j (by omega)
  · rw [getD_set_ne _ _ _ _ (by omega)]
    exact h.2.2 j (by omega)
theorem set_self {ys : List Int} {n : Nat} (h : ys.getD n 0 = 0) (hn : n < ys.length) : ys.set n 0 = ys := eq_of_getD (by rw [List.length_set]) (fun i hi => by
  by_cases e : n = i
  · subst e
    rw [getD_set_self _ _ _ hn, h]
  · rw [getD_set_ne _ _ _ _ e])
theorem u8_64 : Tryd.prog.underlying 52 = some (.array 8 51) := by kernel_rfl
theorem i8_64 : (Tryd.prog.info? 52).map (·.size) = some 8 := by kernel_rfl
theorem blk_set8 {w : World} {q : Nat} {k : IntKind} {r : S8} (h : Blk w q k r.l) (t : S8) :
    Blk ((((((((w.setCell ⟨q, 0, none⟩ (.int k t.a)).setCell ⟨q, 1, none⟩ (.int k t.b)).setCell ⟨q, 2, none⟩ (.int k t.c)).setCell ⟨q, 3, none⟩ (.int k t.d)).setCell ⟨q, 4, none⟩ (.int k t.e)).setCell ⟨q, 5, none⟩ (.int k t.f)).setCell ⟨q, 6, none⟩ (.int k t.g)).setCell ⟨q, 7, none⟩ (.int k t.h)) q k t.l :=
  (((((((h.store 0 t.a).store 1 t.b).store 2 t.c).store 3 t.d).store 4 t.e).store 5 t.f).store 6 t.g).store 7 t.h
theorem only_set8 (w : World) (q : Nat) (k : IntKind) (t : S8) :
    Only q w ((((((((w.setCell ⟨q, 0, none⟩ (.int k t.a)).setCell ⟨q, 1, none⟩ (.int k t.b)).setCell ⟨q, 2, none⟩ (.int k t.c)).setCell ⟨q, 3, none⟩ (.int k t.d)).setCell ⟨q, 4, none⟩ (.int k t.e)).setCell ⟨q, 5, none⟩ (.int k t.f)).setCell ⟨q, 6, none⟩ (.int k t.g)).setCell ⟨q, 7, none⟩ (.int k t.h)) :=
  (((((((Only.setCell _ q 0 _).trans (Only.setCell _ q 1 _)).trans (Only.setCell _ q 2 _)).trans (Only.setCell _ q 3 _)).trans (Only.setCell _ q 4 _)).trans (Only.setCell _ q 5 _)).trans (Only.setCell _ q 6 _)).trans (Only.setCell _ q 7 _)
theorem region_putA {P : Program} {ops : Array Oper} {Q : Exit → Act → World → Prop} {a0 : Act} {id : Nat} {draw : Bool} {w : World} (k jV pD pV : Nat) (o : Oper) (F : Nat → Fact) (q off : Nat) (ty : TypeId) (cells : List Value) (hm : P.follows .mixedOrders = true) (hT : textOk .any ops a0.tmps.size k = true) (hk : ops[k]? = some o) (hd : o.dst = none)
    (hop : o.op = .store ty (.tmp pD) (.tmp pV)) (hp : apart ops pD = true) (h0 : a0.tmps.getD pD undef = .pointer (some ⟨q, off, none⟩)) (wV : writes ops jV pV = true) (FV : F jV = Fact.eq (.agg cells.toArray))
    (hth : ∀ W, Below w.heap.size w W → W.there q off cells.length) (hi : (P.info? ty).map (·.size) = some cells.length) (h1 : cells.toArray.all (·.oneCell') = true) (steps : ∀ i, i < k → StepOk P .any ops Q F a0 w i)
    (fin : ∀ (vs : Nat → Value) (W : World), Below w.heap.size w W → Q .normal (puts vs a0 ops.toList) (W.setCells q off cells)) : (Code.region id ops draw).wp P Q a0 w := by
  refine region_store k o F hm hT hk hd steps fun a W hb hw hF => ?_
  have e2 := hF jV pV wV
  rw [FV] at e2
  refine wp_store_mid ty (.tmp pD) (.tmp pV) hop q off cells.toArray ((based_at hb pD hp).trans h0) e2 (by rw [List.size_toArray]; exact hth W hw) (by rw [List.size_toArray]; exact hi) h1 ?_
  obtain ⟨vs, hvs⟩ : ∃ vs : Nat → Value, ∀ d, a.tmps.getD d undef = vs d := ⟨_, fun _ => rfl⟩
  rw [hd]
  show Q .normal a _
  rw [puts_of hT rfl hb vs hvs]
  exact fin vs W hw
set_option maxRecDepth 20000 in
set_option maxHeartbeats 16000000 in
theorem l6Block_64 (w : World) (s : S8) (hs : Ok64 s) (g : Nat) (a : Option Addr) (c : Nat) (xs : List Int) (hr : Rd w g a .u8 xs) (hb : Byt xs) (hl : xs.length = 128) :
    Calls Tryd.prog 42 #[ag8 .u64 s, .slice a 128 c] w fun e w' => e = .returned (ag8 .u64 (blk64 s (wd 8 xs))) ∧ Below w.heap.size w w' := by
  have n0 : Below w.heap.size w (w.alloc (.cells #[.int .u64 s.a, .int .u64 s.b, .int .u64 s.c, .int .u64 s.d, .int .u64 s.e, .int .u64 s.f, .int .u64 s.g, .int .u64 s.h] 52)) := (Below.refl _ _).alloc (Nat.le_refl _) _
  have B0 := blk_ag8 w .u64 52 s
  have z0 : (w.alloc (.cells #[.int .u64 s.a, .int .u64 s.b, .int .u64 s.c, .int .u64 s.d, .int .u64 s.e, .int .u64 s.f, .int .u64 s.g, .int .u64 s.h] 52)).heap.size = w.heap.size + 1 := by simp
  have HL := hide hl
  obtain ⟨o2, rfl, hc⟩ := id hr (by omega)
  have gl := hr.lt (by omega)
  clear hl
  simp only [ag8]
  go_enter Tryd.func42, Tryd.ntmps42
  go_upto_region 1 with fail
  generalize w.alloc (.cells #[.int .u64 s.a, .int .u64 s.b, .int .u64 s.c, .int .u64 s.d, .int .u64 s.e, .int .u64 s.f, .int .u64 s.g, .int .u64 s.h] 52) = wa at *
  have n1 : Below wa.heap.size wa (wa.alloc (.cells #[.int .u64 0, .int .u64 0, .int .u64 0, .int .u64 0, .int .u64 0, .int .u64 0, .int .u64 0, .int .u64 0] 52)) := (Below.refl _ _).alloc (Nat.le_refl _) _
  have B1 := blk_ag8 wa .u64 52 ⟨0, 0, 0, 0, 0, 0, 0, 0⟩
  have z1 : (wa.alloc (.cells #[.int .u64 0, .int .u64 0, .int .u64 0, .int .u64 0, .int .u64 0, .int .u64 0, .int .u64 0, .int .u64 0] 52)).heap.size = wa.heap.size + 1 := by simp
  simp only [] at B1
  generalize wa.alloc (.cells #[.int .u64 0, .int .u64 0, .int .u64 0, .int .u64 0, .int .u64 0, .int .u64 0, .int .u64 0, .int .u64 0] 52) = wb at *
  have B0 := B0.up n1
  have N1 := nxt n0 n1
  rw [z0] at B1 z1
  clear n0 n1 z0
  go_wp2_with fail
  refine (l6Steps_64 wb).mono ?_
  rintro r w2 ⟨rfl, n2⟩
  have B0 := B0.up n2
  have B1 := B1.up n2
  have N2 := nxt N1 n2
  have z2 := n2.size
  have B2 := blk_zN64 w2
  have na : Below w2.heap.size w2 (w2.alloc zN64) := (Below.refl _ _).alloc (Nat.le_refl _) _
  have z3 : (w2.alloc zN64).heap.size = w2.heap.size + 1 := by simp
  have B0 := B0.up na
  have B1 := B1.up na
  have N3 := nxt N2 na
  have S2 := B2.setRow64 (zs := kA64)
  have O2 := only_setRow64 (w2.alloc zN64) w2.heap.size (kA64.map (Value.int .u64)).toArray
  have L0 : Hid ((kA64.map (Value.int .u64)).length = 80) := by show _ = _; rw [List.length_map]; rfl
  have P0 := one_ints .u64 kA64
  obtain ⟨t0, H0⟩ := B2
  clear n2 na N1 N2
  go_wp2_with (refine wpList_store_row rfl 76 (.tmp 5) (.tmp 20) rfl w2.heap.size (kA64.map (Value.int .u64)).toArray rfl rfl t0 ((List.replicate 80 (0 : Int)).map (Value.int .u64)).toArray ?hh ?hi ?hs ?ho ?_)
  case hh => exact H0
  case hi => show _ = some (kA64.map (Value.int .u64)).length; rw [L0.out]; exact infoN_64
  case hs => show ((List.replicate 80 (0 : Int)).map (Value.int .u64)).length = (kA64.map (Value.int .u64)).length; rw [L0.out]; rfl
  case ho => exact P0
  change Code.wp _ _ _ _ (((w2.alloc zN64).setRow w2.heap.size (kA64.map (Value.int .u64)).toArray).alloc zN64)
  have B0 := B0.of_block (O2.block w.heap.size (by omega))
  have B1 := B1.of_block (O2.block (w.heap.size + 1) (by omega))
  have N4 : Below w.heap.size w ((w2.alloc zN64).setRow w2.heap.size (kA64.map (Value.int .u64)).toArray) := N3.trans (O2.below (by omega))
  have zs : ((w2.alloc zN64).setRow w2.heap.size (kA64.map (Value.int .u64)).toArray).heap.size = w2.heap.size + 1 := by rw [O2.size, z3]
  generalize (w2.alloc zN64).setRow w2.heap.size (kA64.map (Value.int .u64)).toArray = w4 at *
  have B3 := blk_zN64 w4
  have n5 : Below w4.heap.size w4 (w4.alloc zN64) := (Below.refl _ _).alloc (Nat.le_refl _) _
  have z5 : (w4.alloc zN64).heap.size = w4.heap.size + 1 := by simp
  generalize w4.alloc zN64 = w5 at *
  have B0 := B0.up n5
  have B1 := B1.up n5
  have S2 := S2.up n5
  have N5 := nxt N4 n5
  obtain ⟨q2, hq2⟩ : ∃ q, q = w2.heap.size := ⟨_, rfl⟩
  rw [zs] at B3 z5
  rw [← hq2] at S2 B3 z5 ⊢
  have hq : w.heap.size + 2 ≤ q2 := by omega
  have gq : g ≠ q2 + 1 ∧ g ≠ q2 := by omega
  have r5 := hr.up N5
  clear n5 N3 N4 z2 z3 zs O2 H0 P0 L0 hq2 hc hr
  go_loopw [7] (fun i wr => ∃ (n : Nat) (ys : List Int), n ≤ 80 ∧ i = .int .i64 n ∧ WTo64 (wd 8 xs) ys n ∧ Blk wr (q2 + 1) .u64 ys ∧ Blk wr q2 .u64 kA64 ∧ Blk wr w.heap.size .u64 s.l ∧ Blk wr (w.heap.size + 1) .u64 (S8.l ⟨0, 0, 0, 0, 0, 0, 0, 0⟩) ∧ Rd wr g (some ⟨g, o2, none⟩) .u8 xs ∧ Below w.heap.size w wr) (fun i _ => 80 - (intOf i).toNat)
  case atStart => exact ⟨0, _, Nat.zero_le _, rfl, ⟨by simp, fun j h => absurd h (by omega), fun j _ => (by rw [List.getD_eq_getElem?_getD, List.getElem?_replicate]; split <;> rfl)⟩, B3, S2, B0, B1, r5, N5⟩
  case round =>
    obtain ⟨n, ys, hn, rfl, hW, hY, hK, hB0, hB1, hX, hN⟩ := hrel
    clear B0 B1 S2 B3 r5 N5 z5
    by_cases hlt : n < 80
    · have R := hW.step hlt
      have cy := hY.cell (i := n) (by rw [hW.1]; exact hlt)
      have fy := hY.free n
      have Y' := hY.store n (wS64 (wd 8 xs) n)
      have K' := hK.of_block (w' := wr.setCell ⟨q2 + 1, n, none⟩ (.int .u64 (wS64 (wd 8 xs) n))) (heap_setCell_other _ ⟨q2 + 1, n, none⟩ _ _ (by show q2 ≠ q2 + 1; omega))
      have B0' := hB0.of_block (w' := wr.setCell ⟨q2 + 1, n, none⟩ (.int .u64 (wS64 (wd 8 xs) n))) (heap_setCell_other _ ⟨q2 + 1, n, none⟩ _ _ (by show w.heap.size ≠ q2 + 1; omega))
      have B1' := hB1.of_block (w' := wr.setCell ⟨q2 + 1, n, none⟩ (.int .u64 (wS64 (wd 8 xs) n))) (heap_setCell_other _ ⟨q2 + 1, n, none⟩ _ _ (by show w.heap.size + 1 ≠ q2 + 1; omega))
      have X' := hX.of_block (w' := wr.setCell ⟨q2 + 1, n, none⟩ (.int .u64 (wS64 (wd 8 xs) n))) (heap_setCell_other _ ⟨q2 + 1, n, none⟩ _ _ (by show g ≠ q2 + 1; exact gq.1))
      have N' : Below w.heap.size w (wr.setCell ⟨q2 + 1, n, none⟩ (.int .u64 (wS64 (wd 8 xs) n))) := hN.setCell (by show w.heap.size ≤ q2 + 1; omega) _
      have n80 : (n : Int) < 80 := by omega
      generalize ys.getD n 0 = y0 at cy
      by_cases h16 : n < 16
      · have z0 := hW.2.2 n (Nat.le_refl _)
        have yl := hW.1
        have hv : wS64 (wd 8 xs) n = bw 8 xs n 8 := wS_low64 (wd 8 xs) h16
        have E0 := set_self z0 (by omega)
        rw [hv] at R
        have n16 : (n : Int) < 16 := by omega
        have YL := hide yl
        clear Y' K' B0' B1' X' N' cy fy hv
        go_wp2_with fail
        go_loopw [8] (fun i wr2 => ∃ (m : Nat), m ≤ 8 ∧ i = .int .i64 m ∧ Blk wr2 (q2 + 1) .u64 (ys.set n (bw 8 xs n m)) ∧ Blk wr2 q2 .u64 kA64 ∧ Blk wr2 w.heap.size .u64 s.l ∧ Blk wr2 (w.heap.size + 1) .u64 (S8.l ⟨0, 0, 0, 0, 0, 0, 0, 0⟩) ∧ Rd wr2 g (some ⟨g, o2, none⟩) .u8 xs ∧ Below w.heap.size w wr2) (fun i _ => 8 - (intOf i).toNat)
        case atStart => exact ⟨0, Nat.zero_le _, rfl, by show Blk _ _ _ (ys.set n 0); rw [E0]; exact hY, hK, hB0, hB1, hX, hN⟩
        case round =>
          obtain ⟨m, hm, rfl, hY2, hK2, hB02, hB12, hX2, hN2⟩ := hrel
          clear hY hK hB0 hB1 hX hN
          by_cases hl8 : m < 8
          · obtain ⟨o3, e3, hcx⟩ := hX2 (by rw [HL.out]; decide)
            simp only [Option.some.injEq, Addr.mk.injEq, true_and, and_true] at e3
            subst e3
            have cx := hcx (8 * n + m) (by rw [HL.out]; omega)
            have cy := hY2.cell (i := n) (by rw [List.length_set, YL.out]; omega)
            rw [getD_set_self _ _ _ (by rw [YL.out]; omega)] at cy
            have fy := hY2.free n
            have b0 := hb (8 * n + m)
            have bl := bw_lt (z := 8) hb n m
            have bl2 : bw 8 xs n m < 72057594037927936 := by
              have : (256 : Int) ^ m ≤ 256 ^ 7 := p256_le (by omega)
              have e : (256 : Int) ^ 7 = 72057594037927936 := by decide
              omega
            have st : bw 8 xs n (m + 1) = bw 8 xs n m * 256 + xs.getD (8 * n + m) 0 := rfl
            have Y' := hY2.store n (bw 8 xs n (m + 1))
            rw [List.set_set] at Y'
            have K' := hK2.of_block (w' := wr.setCell ⟨q2 + 1, n, none⟩ (.int .u64 (bw 8 xs n (m + 1)))) (heap_setCell_other _ ⟨q2 + 1, n, none⟩ _ _ (by show q2 ≠ q2 + 1; omega))
            have B0' := hB02.of_block (w' := wr.setCell ⟨q2 + 1, n, none⟩ (.int .u64 (bw 8 xs n (m + 1)))) (heap_setCell_other _ ⟨q2 + 1, n, none⟩ _ _ (by show w.heap.size ≠ q2 + 1; omega))
            have B1' := hB12.of_block (w' := wr.setCell ⟨q2 + 1, n, none⟩ (.int .u64 (bw 8 xs n (m + 1)))) (heap_setCell_other _ ⟨q2 + 1, n, none⟩ _ _ (by show w.heap.size + 1 ≠ q2 + 1; omega))
            have X' := hX2.of_block (w' := wr.setCell ⟨q2 + 1, n, none⟩ (.int .u64 (bw 8 xs n (m + 1)))) (heap_setCell_other _ ⟨q2 + 1, n, none⟩ _ _ (by show g ≠ q2 + 1; exact gq.1))
            have N' : Below w.heap.size w (wr.setCell ⟨q2 + 1, n, none⟩ (.int .u64 (bw 8 xs n (m + 1)))) := hN2.setCell (by show w.heap.size ≤ q2 + 1; omega) _
            obtain ⟨bn, hbn⟩ : ∃ b, b = bw 8 xs n (m + 1) := ⟨_, rfl⟩
            rw [← hbn] at Y' K' B0' B1' X' N' st
            have HBN := hide hbn
            clear hbn
            generalize bw 8 xs n m = bv at *
            generalize xs.getD (8 * n + m) 0 = x at *
            have ov : IntKind.u64.wrap (IntKind.u64.wrap (bv * 256) + x) = bn := by simp only [wrap_u64e]; rw [st]; omega
            have m8 : (m : Int) < 8 := by omega
            obtain ⟨x0, x1⟩ := b0
            have ST := hide st
            clear hY2 hK2 hB02 hB12 hX2 hN2 hcx bl st R
            go_wp2_with fail
            go_region
            go_wp2
            go_roundw
            case rel => exact ⟨m + 1, by omega, by go_num, by rw [← HBN.out]; exact Y'.drew, K'.drew, B0'.drew, B1'.drew, X', N'.drew⟩
            case measure => simp [intOf]; omega
          · obtain rfl : m = 8 := by omega
            go_wp2
            go_roundw
            case rel => exact ⟨n + 1, _, by omega, by go_num, R, hY2, hK2, hB02, hB12, hX2, hN2⟩
            case measure => simp [intOf]; omega
      · have h16' : decide ((n : Int) < 16) = false := by simp; omega
        have c15 := hY.cell (i := n - 15) (by rw [hW.1]; omega)
        have c2 := hY.cell (i := n - 2) (by rw [hW.1]; omega)
        have c7 := hY.cell (i := n - 7) (by rw [hW.1]; omega)
        have c16 := hY.cell (i := n - 16) (by rw [hW.1]; omega)
        rw [hW.2.1 (n - 15) (by omega)] at c15
        rw [hW.2.1 (n - 2) (by omega)] at c2
        rw [hW.2.1 (n - 7) (by omega)] at c7
        rw [hW.2.1 (n - 16) (by omega)] at c16
        have hv := wS_go64 (wd 8 xs) (show 16 ≤ n by omega)
        have w15 := wS_wd64 (b := wd 8 xs) (fun i _ => wd_64 hb i) (n - 15)
        have w2 := wS_wd64 (b := wd 8 xs) (fun i _ => wd_64 hb i) (n - 2)
        have p15 : (n : Int) - 15 = ((n - 15 : Nat) : Int) := by omega
        have p2 : (n : Int) - 2 = ((n - 2 : Nat) : Int) := by omega
        have p7 : (n : Int) - 7 = ((n - 7 : Nat) : Int) := by omega
        have p16 : (n : Int) - 16 = ((n - 16 : Nat) : Int) := by omega
        have l15 : ((n - 15 : Nat) : Int) < 80 := by omega
        have l2 : ((n - 2 : Nat) : Int) < 80 := by omega
        have l7 : ((n - 7 : Nat) : Int) < 80 := by omega
        have l16 : ((n - 16 : Nat) : Int) < 80 := by omega
        generalize wS64 (wd 8 xs) n = wn at *
        generalize wS64 (wd 8 xs) (n - 15) = y15 at *
        generalize wS64 (wd 8 xs) (n - 2) = y2 at *
        generalize wS64 (wd 8 xs) (n - 7) = y7 at *
        generalize wS64 (wd 8 xs) (n - 16) = y16 at *
        generalize n - 15 = i15 at *
        generalize n - 2 = i2 at *
        generalize n - 7 = i7 at *
        generalize n - 16 = i16 at *
        have A1 := fun w => hide (right_64 w y15 w15 1 (by decide) (by decide))
        have A2 := fun w => hide (right_64 w y15 w15 8 (by decide) (by decide))
        have A3 := fun w => hide (right_64 w y2 w2 19 (by decide) (by decide))
        have A4 := fun w => hide (right_64 w y2 w2 61 (by decide) (by decide))
        have e0 : bits BinOp.xor IntKind.u64 (bits BinOp.xor IntKind.u64 (rr64 y15 1) (rr64 y15 8)) (y15 / 128) = sg064 y15 := rfl
        have e1 : bits BinOp.xor IntKind.u64 (bits BinOp.xor IntKind.u64 (rr64 y2 19) (rr64 y2 61)) (y2 / 64) = sg164 y2 := rfl
        generalize sg064 y15 = lo at *
        generalize sg164 y2 = hi at *
        have HV := hide hv
        clear hY hK hB0 hB1 hX hN hW hv h16
        obtain ⟨a15, b15⟩ := w15
        obtain ⟨a2, b2⟩ := w2
        go_wp2_with fail
        refine (A1 _).out.mono ?_
        rintro x wx ⟨rfl, rfl⟩
        go_wp2_with fail
        refine (A2 _).out.mono ?_
        rintro x wx ⟨rfl, rfl⟩
        go_wp2_with fail
        refine (A3 _).out.mono ?_
        rintro x wx ⟨rfl, rfl⟩
        go_wp2_with fail
        refine (A4 _).out.mono ?_
        rintro x wx ⟨rfl, rfl⟩
        have hv : IntKind.u64.wrap (IntKind.u64.wrap (IntKind.u64.wrap (hi + y7) + lo) + y16) = wn := by simp only [wrap_u64e]; rw [HV.out]; omega
        go_wp2_with fail
        go_region
        go_wp2
        go_roundw
        case rel => exact ⟨n + 1, _, by omega, by go_num, R, Y'.drew, K'.drew, B0'.drew, B1'.drew, X', N'.drew⟩
        case measure => simp [intOf]; omega
    · obtain rfl : n = 80 := by omega
      clear hX gq
      obtain ⟨q4, hq4⟩ : ∃ q, q = wr.heap.size := ⟨_, rfl⟩
      have na : Below wr.heap.size wr (wr.alloc (.cells #[.int .u64 0, .int .u64 0, .int .u64 0, .int .u64 0, .int .u64 0, .int .u64 0, .int .u64 0, .int .u64 0] 52)) := (Below.refl _ _).alloc (Nat.le_refl _) _
      have BZ := blk_ag8 wr .u64 52 ⟨0, 0, 0, 0, 0, 0, 0, 0⟩
      simp only [] at BZ
      have lY := hY.lt
      have lK := hK.lt
      have l0 := hB0.lt
      have l1 := hB1.lt
      have OS := only_setRow64 (wr.alloc (.cells #[.int .u64 0, .int .u64 0, .int .u64 0, .int .u64 0, .int .u64 0, .int .u64 0, .int .u64 0, .int .u64 0] 52)) wr.heap.size (s.l.map (Value.int .u64)).toArray
      have SB := BZ.setRow64 (zs := s.l)
      have Y2 := (hY.up na).of_block (OS.block _ (by omega))
      have K2 := (hK.up na).of_block (OS.block _ (by omega))
      have B02 := (hB0.up na).of_block (OS.block _ (by omega))
      have B12 := (hB1.up na).of_block (OS.block _ (by omega))
      have N2 : Below w.heap.size w ((wr.alloc (.cells #[.int .u64 0, .int .u64 0, .int .u64 0, .int .u64 0, .int .u64 0, .int .u64 0, .int .u64 0, .int .u64 0] 52)).setRow wr.heap.size (s.l.map (Value.int .u64)).toArray) := (nxt hN na).trans (OS.below (by omega))
      obtain ⟨t0, H0⟩ := id hB0
      obtain ⟨t4, H4⟩ := id BZ
      have P8 := one_ints .u64 s.l
      have V8 : Hid ((s.l.map (Value.int .u64)).length = 8) := by show _ = _; rw [List.length_map]; rfl
      go_wp2_with (first
        | (refine wpList_load_row rfl 52 (.tmp 2) rfl w.heap.size rfl t0 (s.l.map (Value.int .u64)).toArray (0, 0) (.array 8 51) H0 u8_64 rfl i8_64 ?_)
        | (refine wpList_store_row rfl 52 (.tmp 13) (.tmp 85) rfl wr.heap.size (s.l.map (Value.int .u64)).toArray rfl rfl t4 ((S8.l ⟨0, 0, 0, 0, 0, 0, 0, 0⟩).map (Value.int .u64)).toArray H4 i8_64 rfl P8 ?_))
      generalize (wr.alloc (.cells #[.int .u64 0, .int .u64 0, .int .u64 0, .int .u64 0, .int .u64 0, .int .u64 0, .int .u64 0, .int .u64 0] 52)).setRow wr.heap.size (s.l.map (Value.int .u64)).toArray = w6 at *
      rw [← hq4] at SB lY lK l0 l1 ⊢
      clear hY hK hB0 hB1 hN na OS BZ H0 H4 hq4 P8 V8
      have b64 : ∀ i, i < 16 → Wd64 (wd 8 xs i) := fun i _ => wd_64 hb i
      go_loopw [14] (fun i wr => ∃ (n : Nat) (r : S8), n ≤ 80 ∧ i = .int .i64 n ∧ Hid (r = rnds64 K64 (wS64 (wd 8 xs)) n s) ∧ Blk wr q4 .u64 r.l ∧ Blk wr (q2 + 1) .u64 ys ∧ Blk wr q2 .u64 kA64 ∧ Blk wr w.heap.size .u64 s.l ∧ Blk wr (w.heap.size + 1) .u64 (S8.l ⟨0, 0, 0, 0, 0, 0, 0, 0⟩) ∧ Below w.heap.size w wr) (fun i _ => 80 - (intOf i).toNat)
      case atStart => exact ⟨0, s, Nat.zero_le _, rfl, rfl, SB, Y2, K2, B02, B12, N2⟩
      case round =>
        obtain ⟨n, r, hn, rfl, hr, hR, hY, hK, hB0, hB1, hN⟩ := hrel
        clear SB Y2 K2 B02 B12 N2
        by_cases hlt : n < 80
        · have ok : Ok64 r := by rw [hr.out]; exact rnds_ok64 hs n
          obtain ⟨oa, ob, oc, od, oe, of, og, oh⟩ := ok
          have hr' : Hid (stp64 (K64 n) (wS64 (wd 8 xs) n) r = rnds64 K64 (wS64 (wd 8 xs)) (n + 1) s) := by show _ = _; rw [hr.out]; rfl
          have A1 : ∀ w, Hid (Calls Tryd.prog 67 #[.int .u64 r.e, .int .u64 14] w fun e w' => e = .returned (.int .u64 (rr64 r.e 14)) ∧ w' = w) := fun w => right_64 w r.e oe 14 (by decide) (by decide)
          have A2 : ∀ w, Hid (Calls Tryd.prog 67 #[.int .u64 r.e, .int .u64 18] w fun e w' => e = .returned (.int .u64 (rr64 r.e 18)) ∧ w' = w) := fun w => right_64 w r.e oe 18 (by decide) (by decide)
          have A3 : ∀ w, Hid (Calls Tryd.prog 67 #[.int .u64 r.e, .int .u64 41] w fun e w' => e = .returned (.int .u64 (rr64 r.e 41)) ∧ w' = w) := fun w => right_64 w r.e oe 41 (by decide) (by decide)
          have A4 : ∀ w, Hid (Calls Tryd.prog 67 #[.int .u64 r.a, .int .u64 28] w fun e w' => e = .returned (.int .u64 (rr64 r.a 28)) ∧ w' = w) := fun w => right_64 w r.a oa 28 (by decide) (by decide)
          have A5 : ∀ w, Hid (Calls Tryd.prog 67 #[.int .u64 r.a, .int .u64 34] w fun e w' => e = .returned (.int .u64 (rr64 r.a 34)) ∧ w' = w) := fun w => right_64 w r.a oa 34 (by decide) (by decide)
          have A6 : ∀ w, Hid (Calls Tryd.prog 67 #[.int .u64 r.a, .int .u64 39] w fun e w' => e = .returned (.int .u64 (rr64 r.a 39)) ∧ w' = w) := fun w => right_64 w r.a oa 39 (by decide) (by decide)
          have e1 : bits BinOp.xor IntKind.u64 (bits BinOp.xor IntKind.u64 (rr64 r.e 14) (rr64 r.e 18)) (rr64 r.e 41) = gg164 r.e := rfl
          have e0 : bits BinOp.xor IntKind.u64 (bits BinOp.xor IntKind.u64 (rr64 r.a 28) (rr64 r.a 34)) (rr64 r.a 39) = gg064 r.a := rfl
          have ec : bits BinOp.or IntKind.u64 (bits BinOp.and IntKind.u64 r.e r.f) (bits BinOp.and IntKind.u64 (bits BinOp.xor IntKind.u64 IntKind.u64.max r.e) r.g) = ch64 r.e r.f r.g := ch_same64 oe of og
          have em : bits BinOp.or IntKind.u64 (bits BinOp.or IntKind.u64 (bits BinOp.and IntKind.u64 r.a r.b) (bits BinOp.and IntKind.u64 r.a r.c)) (bits BinOp.and IntKind.u64 r.b r.c) = mj64 r.a r.b r.c := mj_same64 oa ob oc
          obtain ⟨t, ht⟩ : ∃ t, t = tS64 (K64 n) (wS64 (wd 8 xs) n) r := ⟨_, rfl⟩
          obtain ⟨u, hu⟩ : ∃ u, u = uS64 r := ⟨_, rfl⟩
          have et : IntKind.u64.wrap (IntKind.u64.wrap (IntKind.u64.wrap (IntKind.u64.wrap (r.h + gg164 r.e) + ch64 r.e r.f r.g) + K64 n) + wS64 (wd 8 xs) n) = t := by simp only [wrap_u64e]; rw [ht]; unfold tS64; omega
          have eu : IntKind.u64.wrap (gg064 r.a + mj64 r.a r.b r.c) = u := by rw [wrap_u64e, hu]; rfl
          have ST : Hid (stp64 (K64 n) (wS64 (wd 8 xs) n) r = ⟨(t + u) % 18446744073709551616, r.a, r.b, r.c, (r.d + t) % 18446744073709551616, r.e, r.f, r.g⟩) := by show _ = _; rw [ht, hu]; rfl
          have ck := hK.cell (i := n) (by rw [kA_len64]; exact hlt)
          have ki := kA_is64 ⟨n, hlt⟩
          have ki' : kA64.getD n 0 = K64 n := ki
          rw [ki'] at ck
          have cw := hY.cell (i := n) (by rw [hW.1]; exact hlt)
          rw [hW.2.1 n hlt] at cw
          have n80 : (n : Int) < 80 := by omega
          obtain ⟨⟨c0, c1, c2, c3, c4, c5, c6, c7⟩, ⟨f0, f1, f2, f3, f4, f5, f6, f7⟩⟩ := hR.f8
          obtain ⟨ea, eb⟩ := oe
          obtain ⟨aa, ab⟩ := oa
          obtain ⟨ba, bb⟩ := ob
          obtain ⟨ca, cb⟩ := oc
          obtain ⟨fa, fb⟩ := of
          obtain ⟨ga, gb⟩ := og
          generalize K64 n = kn at *
          generalize wS64 (wd 8 xs) n = wn at *
          generalize gg164 r.e = G1 at *
          generalize gg064 r.a = G0 at *
          generalize ch64 r.e r.f r.g = CH at *
          generalize mj64 r.a r.b r.c = MJ at *
          clear hr ht hu ki ki'
          go_wp2_with fail
          go_quiet ((first | (go_at_call 67; with_reducible exact Calls.quiet_of_same (A1 _).out) | (go_at_call 67; with_reducible exact Calls.quiet_of_same (A2 _).out) | (go_at_call 67; with_reducible exact Calls.quiet_of_same (A3 _).out)))
          have hR : Blk (wr.drewN nq) q4 .u64 r.l := hR
          have hY : Blk (wr.drewN nq) (q2 + 1) .u64 ys := hY
          have hK : Blk (wr.drewN nq) q2 .u64 kA64 := hK
          have hB0 : Blk (wr.drewN nq) w.heap.size .u64 s.l := hB0
          have hB1 : Blk (wr.drewN nq) (w.heap.size + 1) .u64 (S8.l ⟨0, 0, 0, 0, 0, 0, 0, 0⟩) := hB1
          have hN : Below w.heap.size w (wr.drewN nq) := below_drewN hN _
          generalize wr.drewN nq = wq at *
          obtain ⟨⟨c0, c1, c2, c3, c4, c5, c6, c7⟩, ⟨f0, f1, f2, f3, f4, f5, f6, f7⟩⟩ := hR.f8
          go_wp2_with fail
          go_quiet ((first | (go_at_call 67; with_reducible exact Calls.quiet_of_same (A4 _).out) | (go_at_call 67; with_reducible exact Calls.quiet_of_same (A5 _).out) | (go_at_call 67; with_reducible exact Calls.quiet_of_same (A6 _).out)))
          have hR : Blk (wq.drewN nq) q4 .u64 r.l := hR
          have hY : Blk (wq.drewN nq) (q2 + 1) .u64 ys := hY
          have hK : Blk (wq.drewN nq) q2 .u64 kA64 := hK
          have hB0 : Blk (wq.drewN nq) w.heap.size .u64 s.l := hB0
          have hB1 : Blk (wq.drewN nq) (w.heap.size + 1) .u64 (S8.l ⟨0, 0, 0, 0, 0, 0, 0, 0⟩) := hB1
          have hN : Below w.heap.size w (wq.drewN nq) := below_drewN hN _
          generalize wq.drewN nq = wp at *
          obtain ⟨⟨c0, c1, c2, c3, c4, c5, c6, c7⟩, ⟨f0, f1, f2, f3, f4, f5, f6, f7⟩⟩ := hR.f8
          clear A1 A2 A3 A4 A5 A6 e1 e0 ec em et
          go_upto_region 24 with fail
          clear eu
          refine region_putA 20 19 13 167 _ (fun i => [Fact.eq (.int .u64 (t)), Fact.eq (.int .u64 (u)), Fact.eq (.int .u64 ((t + u) % 18446744073709551616)), Fact.eq (.pointer (some ⟨q4, 0, none⟩)), Fact.eq (.int .u64 (r.a)), Fact.eq (.pointer (some ⟨q4, 1, none⟩)), Fact.eq (.int .u64 (r.b)), Fact.eq (.pointer (some ⟨q4, 2, none⟩)), Fact.eq (.int .u64 (r.c)), Fact.eq (.pointer (some ⟨q4, 3, none⟩)), Fact.eq (.int .u64 (r.d)), Fact.eq (.int .u64 (t)), Fact.eq (.int .u64 ((r.d + t) % 18446744073709551616)), Fact.eq (.pointer (some ⟨q4, 4, none⟩)), Fact.eq (.int .u64 (r.e)), Fact.eq (.pointer (some ⟨q4, 5, none⟩)), Fact.eq (.int .u64 (r.f)), Fact.eq (.pointer (some ⟨q4, 6, none⟩)), Fact.eq (.int .u64 (r.g)), Fact.eq (ag8 .u64 ⟨(t + u) % 18446744073709551616, r.a, r.b, r.c, (r.d + t) % 18446744073709551616, r.e, r.f, r.g⟩)].getD i Fact.no) q4 0 52 ((S8.l ⟨(t + u) % 18446744073709551616, r.a, r.b, r.c, (r.d + t) % 18446744073709551616, r.e, r.f, r.g⟩).map (Value.int .u64)) (by kernel_rfl) (by kernel_rfl) rfl rfl rfl (by kernel_rfl) rfl (by kernel_rfl) rfl ?_ i8_64 (one_ints _ _) ?_ ?_
          · intro W n j hj
            rw [List.length_map] at hj
            have h := (hR.up n).cell (i := j) hj
            rw [Nat.zero_add]
            exact ⟨by rw [h]; rfl, (hR.up n).free j⟩
          · skip
            intro i hi
            obtain rfl | rfl | rfl | rfl | rfl | rfl | rfl | rfl | rfl | rfl | rfl | rfl | rfl | rfl | rfl | rfl | rfl | rfl | rfl | rfl : i = 0 ∨ i = 1 ∨ i = 2 ∨ i = 3 ∨ i = 4 ∨ i = 5 ∨ i = 6 ∨ i = 7 ∨ i = 8 ∨ i = 9 ∨ i = 10 ∨ i = 11 ∨ i = 12 ∨ i = 13 ∨ i = 14 ∨ i = 15 ∨ i = 16 ∨ i = 17 ∨ i = 18 ∨ i = 19 := by omega
            · refine step_pure rfl fun a w hb hw hf => ?_
              have e17 : a.tmps[17]?.getD undef = .int .u64 (t) := gdv (hb.2.2 17 (by kernel_rfl))
              exact ⟨.int .u64 (t), by simp [go_sem, e17], rfl⟩
            · refine step_pure rfl fun a w hb hw hf => ?_
              have e18 : a.tmps[18]?.getD undef = .int .u64 (u) := gdv (hb.2.2 18 (by kernel_rfl))
              exact ⟨.int .u64 (u), by simp [go_sem, e18], rfl⟩
            · refine step_pure rfl fun a w hb hw hf => ?_
              have e148 : a.tmps[148]?.getD undef = .int .u64 (t) := gdv (hf 0 148 (by kernel_rfl))
              have e149 : a.tmps[149]?.getD undef = .int .u64 (u) := gdv (hf 1 149 (by kernel_rfl))
              exact ⟨.int .u64 ((t + u) % 18446744073709551616), by simp [go_sem, e148, e149, wrap_u64e], rfl⟩
            · refine step_pure rfl fun a w hb hw hf => ?_
              have e13 : a.tmps[13]?.getD undef = .pointer (some ⟨q4, 0, none⟩) := gdv (hb.2.2 13 (by kernel_rfl))
              exact ⟨.pointer (some ⟨q4, 0, none⟩), by simp [go_sem, e13], rfl⟩
            · refine step_pure rfl fun a w hb hw hf => ?_
              have e151 : a.tmps[151]?.getD undef = .pointer (some ⟨q4, 0, none⟩) := gdv (hf 3 151 (by kernel_rfl))
              have hc := (hR.up hw).f8.1.1
              exact ⟨.int .u64 (r.a), by simp [go_sem, e151, hc], rfl⟩
            · refine step_pure rfl fun a w hb hw hf => ?_
              have e13 : a.tmps[13]?.getD undef = .pointer (some ⟨q4, 0, none⟩) := gdv (hb.2.2 13 (by kernel_rfl))
              exact ⟨.pointer (some ⟨q4, 1, none⟩), by simp [go_sem, e13], rfl⟩
            · refine step_pure rfl fun a w hb hw hf => ?_
              have e153 : a.tmps[153]?.getD undef = .pointer (some ⟨q4, 1, none⟩) := gdv (hf 5 153 (by kernel_rfl))
              have hc := (hR.up hw).f8.1.2.1
              exact ⟨.int .u64 (r.b), by simp [go_sem, e153, hc], rfl⟩
            · refine step_pure rfl fun a w hb hw hf => ?_
              have e13 : a.tmps[13]?.getD undef = .pointer (some ⟨q4, 0, none⟩) := gdv (hb.2.2 13 (by kernel_rfl))
              exact ⟨.pointer (some ⟨q4, 2, none⟩), by simp [go_sem, e13], rfl⟩
            · refine step_pure rfl fun a w hb hw hf => ?_
              have e155 : a.tmps[155]?.getD undef = .pointer (some ⟨q4, 2, none⟩) := gdv (hf 7 155 (by kernel_rfl))
              have hc := (hR.up hw).f8.1.2.2.1
              exact ⟨.int .u64 (r.c), by simp [go_sem, e155, hc], rfl⟩
            · refine step_pure rfl fun a w hb hw hf => ?_
              have e13 : a.tmps[13]?.getD undef = .pointer (some ⟨q4, 0, none⟩) := gdv (hb.2.2 13 (by kernel_rfl))
              exact ⟨.pointer (some ⟨q4, 3, none⟩), by simp [go_sem, e13], rfl⟩
            · refine step_pure rfl fun a w hb hw hf => ?_
              have e157 : a.tmps[157]?.getD undef = .pointer (some ⟨q4, 3, none⟩) := gdv (hf 9 157 (by kernel_rfl))
              have hc := (hR.up hw).f8.1.2.2.2.1
              exact ⟨.int .u64 (r.d), by simp [go_sem, e157, hc], rfl⟩
            · refine step_pure rfl fun a w hb hw hf => ?_
              have e17 : a.tmps[17]?.getD undef = .int .u64 (t) := gdv (hb.2.2 17 (by kernel_rfl))
              exact ⟨.int .u64 (t), by simp [go_sem, e17], rfl⟩
            · refine step_pure rfl fun a w hb hw hf => ?_
              have e158 : a.tmps[158]?.getD undef = .int .u64 (r.d) := gdv (hf 10 158 (by kernel_rfl))
              have e159 : a.tmps[159]?.getD undef = .int .u64 (t) := gdv (hf 11 159 (by kernel_rfl))
              exact ⟨.int .u64 ((r.d + t) % 18446744073709551616), by simp [go_sem, e158, e159, wrap_u64e], rfl⟩
            · refine step_pure rfl fun a w hb hw hf => ?_
              have e13 : a.tmps[13]?.getD undef = .pointer (some ⟨q4, 0, none⟩) := gdv (hb.2.2 13 (by kernel_rfl))
              exact ⟨.pointer (some ⟨q4, 4, none⟩), by simp [go_sem, e13], rfl⟩
            · refine step_pure rfl fun a w hb hw hf => ?_
              have e161 : a.tmps[161]?.getD undef = .pointer (some ⟨q4, 4, none⟩) := gdv (hf 13 161 (by kernel_rfl))
              have hc := (hR.up hw).f8.1.2.2.2.2.1
              exact ⟨.int .u64 (r.e), by simp [go_sem, e161, hc], rfl⟩
            · refine step_pure rfl fun a w hb hw hf => ?_
              have e13 : a.tmps[13]?.getD undef = .pointer (some ⟨q4, 0, none⟩) := gdv (hb.2.2 13 (by kernel_rfl))
              exact ⟨.pointer (some ⟨q4, 5, none⟩), by simp [go_sem, e13], rfl⟩
            · refine step_pure rfl fun a w hb hw hf => ?_
              have e163 : a.tmps[163]?.getD undef = .pointer (some ⟨q4, 5, none⟩) := gdv (hf 15 163 (by kernel_rfl))
              have hc := (hR.up hw).f8.1.2.2.2.2.2.1
              exact ⟨.int .u64 (r.f), by simp [go_sem, e163, hc], rfl⟩
            · refine step_pure rfl fun a w hb hw hf => ?_
              have e13 : a.tmps[13]?.getD undef = .pointer (some ⟨q4, 0, none⟩) := gdv (hb.2.2 13 (by kernel_rfl))
              exact ⟨.pointer (some ⟨q4, 6, none⟩), by simp [go_sem, e13], rfl⟩
            · refine step_pure rfl fun a w hb hw hf => ?_
              have e165 : a.tmps[165]?.getD undef = .pointer (some ⟨q4, 6, none⟩) := gdv (hf 17 165 (by kernel_rfl))
              have hc := (hR.up hw).f8.1.2.2.2.2.2.2.1
              exact ⟨.int .u64 (r.g), by simp [go_sem, e165, hc], rfl⟩
            · refine step_pure rfl fun a w hb hw hf => ?_
              have e150 : a.tmps[150]?.getD undef = .int .u64 ((t + u) % 18446744073709551616) := gdv (hf 2 150 (by kernel_rfl))
              have e152 : a.tmps[152]?.getD undef = .int .u64 (r.a) := gdv (hf 4 152 (by kernel_rfl))
              have e154 : a.tmps[154]?.getD undef = .int .u64 (r.b) := gdv (hf 6 154 (by kernel_rfl))
              have e156 : a.tmps[156]?.getD undef = .int .u64 (r.c) := gdv (hf 8 156 (by kernel_rfl))
              have e160 : a.tmps[160]?.getD undef = .int .u64 ((r.d + t) % 18446744073709551616) := gdv (hf 12 160 (by kernel_rfl))
              have e162 : a.tmps[162]?.getD undef = .int .u64 (r.e) := gdv (hf 14 162 (by kernel_rfl))
              have e164 : a.tmps[164]?.getD undef = .int .u64 (r.f) := gdv (hf 16 164 (by kernel_rfl))
              have e166 : a.tmps[166]?.getD undef = .int .u64 (r.g) := gdv (hf 18 166 (by kernel_rfl))
              exact ⟨ag8 .u64 ⟨(t + u) % 18446744073709551616, r.a, r.b, r.c, (r.d + t) % 18446744073709551616, r.e, r.f, r.g⟩, by simp [go_sem, e150, e152, e154, e156, e160, e162, e164, e166, ag8], rfl⟩
          intro vs6 W n6
          have SB : Blk (W.setCells q4 0 ((S8.l ⟨(t + u) % 18446744073709551616, r.a, r.b, r.c, (r.d + t) % 18446744073709551616, r.e, r.f, r.g⟩).map (Value.int .u64))) q4 .u64 (S8.l ⟨(t + u) % 18446744073709551616, r.a, r.b, r.c, (r.d + t) % 18446744073709551616, r.e, r.f, r.g⟩) := blk_set8 (hR.up n6) ⟨(t + u) % 18446744073709551616, r.a, r.b, r.c, (r.d + t) % 18446744073709551616, r.e, r.f, r.g⟩
          have OB : Only q4 W (W.setCells q4 0 ((S8.l ⟨(t + u) % 18446744073709551616, r.a, r.b, r.c, (r.d + t) % 18446744073709551616, r.e, r.f, r.g⟩).map (Value.int .u64))) := only_set8 W q4 .u64 ⟨(t + u) % 18446744073709551616, r.a, r.b, r.c, (r.d + t) % 18446744073709551616, r.e, r.f, r.g⟩
          have Y2 := (hY.up n6).of_block (OB.block _ (by omega))
          have K2 := (hK.up n6).of_block (OB.block _ (by omega))
          have B02 := (hB0.up n6).of_block (OB.block _ (by omega))
          have B12 := (hB1.up n6).of_block (OB.block _ (by omega))
          have N2 := (nxt hN n6).trans (OB.below (B := w.heap.size) (by omega))
          generalize W.setCells q4 0 ((S8.l ⟨(t + u) % 18446744073709551616, r.a, r.b, r.c, (r.d + t) % 18446744073709551616, r.e, r.f, r.g⟩).map (Value.int .u64)) = w7 at *
          clear hR hY hK hB0 hB1 hN OB n6 c0 c1 c2 c3 c4 c5 c6 c7 f0 f1 f2 f3 f4 f5 f6 f7
          simp only [puts, Act.put, List.setIfInBounds_toArray, List.set_cons_succ, List.set_cons_zero]
          go_wp2
          go_roundw
          case rel => exact ⟨n + 1, ⟨(t + u) % 18446744073709551616, r.a, r.b, r.c, (r.d + t) % 18446744073709551616, r.e, r.f, r.g⟩, by omega, by go_num, by show _ = _; rw [← hr'.out, ST.out], SB, Y2, K2, B02, B12, N2⟩
          case measure => simp [intOf]; omega
        · obtain rfl : n = 80 := by omega
          have KB : Hid (blk64 s (wd 8 xs) = add64 s r) := by show _ = _; rw [hr.out]; rfl
          clear hr hY hK hW
          go_wp2_with fail
          go_loopw [19] (fun i wr => ∃ (n : Nat) (zs : List Int), n ≤ 8 ∧ i = .int .i64 n ∧ zs.length = 8 ∧ (∀ j, j < 8 → zs.getD j 0 = if j < n then (s.l.getD j 0 + r.l.getD j 0) % 18446744073709551616 else r.l.getD j 0) ∧ Blk wr q4 .u64 zs ∧ Blk wr w.heap.size .u64 s.l ∧ Blk wr (w.heap.size + 1) .u64 (S8.l ⟨0, 0, 0, 0, 0, 0, 0, 0⟩) ∧ Below w.heap.size w wr) (fun i _ => 8 - (intOf i).toNat)
          case atStart => exact ⟨0, r.l, Nat.zero_le _, rfl, rfl, fun j _ => by rw [if_neg (by omega)], hR, hB0, hB1, hN⟩
          case round =>
            obtain ⟨n, zs, hn, rfl, hl, hv, hZ, hB0', hB1', hN'⟩ := hrel
            clear hR hB0 hB1 hN
            by_cases hlt : n < 8
            · have cz := hZ.cell (i := n) (by omega)
              have cs := hB0'.cell (i := n) (by rw [S8.l_len]; exact hlt)
              have hvn := hv n hlt
              rw [if_neg (by omega)] at hvn
              rw [hvn] at cz
              have fz := hZ.free n
              have Z' := hZ.store n (IntKind.u64.wrap (r.l.getD n 0 + s.l.getD n 0))
              have O' := Only.setCell wr q4 n (.int .u64 (IntKind.u64.wrap (r.l.getD n 0 + s.l.getD n 0)))
              have B0' := hB0'.of_block (O'.block _ (by omega))
              have B1' := hB1'.of_block (O'.block _ (by omega))
              have N' := hN'.trans (O'.below (B := w.heap.size) (by omega))
              have V' : Hid (∀ j, j < 8 → (zs.set n (IntKind.u64.wrap (r.l.getD n 0 + s.l.getD n 0))).getD j 0 = if j < n + 1 then (s.l.getD j 0 + r.l.getD j 0) % 18446744073709551616 else r.l.getD j 0) := by
                intro j hj
                by_cases e : n = j
                · subst e
                  rw [getD_set_self _ _ _ (by omega), if_pos (by omega), wrap_u64e, Int.add_comm]
                · rw [getD_set_ne _ _ _ _ e, hv j hj]
                  by_cases c : j < n
                  · rw [if_pos c, if_pos (by omega)]
                  · rw [if_neg c, if_neg (by omega)]
              have L' : Hid ((zs.set n (IntKind.u64.wrap (r.l.getD n 0 + s.l.getD n 0))).length = 8) := by show _ = _; rw [List.length_set]; exact hl
              have n8 : (n : Int) < 8 := by omega
              clear hZ hB0' hB1' hN' O' hv hl hvn
              generalize r.l.getD n 0 = rn at *
              generalize s.l.getD n 0 = sn at *
              go_wp2_with fail
              go_region
              go_wp2
              go_roundw
              case rel => exact ⟨n + 1, _, by omega, by go_num, L'.out, V'.out, Z'.drew, B0'.drew, B1'.drew, N'.drew⟩
              case measure => simp [intOf]; omega
            · obtain rfl : n = 8 := by omega
              obtain rfl : zs = (add64 s r).l := eq_of_getD (by rw [hl]; rfl) (fun i hi => by
                rw [hl] at hi
                rw [hv i hi, if_pos hi]
                obtain rfl | rfl | rfl | rfl | rfl | rfl | rfl | rfl : i = 0 ∨ i = 1 ∨ i = 2 ∨ i = 3 ∨ i = 4 ∨ i = 5 ∨ i = 6 ∨ i = 7 := by omega
                all_goals rfl)
              clear hv hl
              generalize hrr : add64 s r = rr at *
              obtain ⟨t4, H4⟩ := hZ
              obtain ⟨t1, H1⟩ := id hB1'
              have SR := setRow_heap wr (w.heap.size + 1) _ (rr.l.map (Value.int .u64)).toArray _ _ H1
              have SN := hN'.trans ((only_setRow64 wr (w.heap.size + 1) (rr.l.map (Value.int .u64)).toArray).below (B := w.heap.size) (by omega))
              have P8 := one_ints .u64 rr.l
              go_wp2_with (first
                | (refine wpList_load_row rfl 52 (.tmp 13) rfl q4 rfl t4 (rr.l.map (Value.int .u64)).toArray (0, 0) (.array 8 51) H4 u8_64 rfl i8_64 ?_)
                | (refine wpList_store_row rfl 52 (.tmp 4) (.tmp 181) rfl (w.heap.size + 1) (rr.l.map (Value.int .u64)).toArray rfl rfl t1 ((S8.l ⟨0, 0, 0, 0, 0, 0, 0, 0⟩).map (Value.int .u64)).toArray H1 i8_64 rfl P8 ?_))
              exact bodyPost_ret (v := .agg (rr.l.map (Value.int .u64)).toArray) (results_cell_row Tryd.results42 _ _ (w.heap.size + 1) t1 _ (0, 0) (.array 8 51) rfl SR u8_64 rfl i8_64) rfl ⟨by rw [KB.out]; rfl, SN⟩
end Go.Proofs.YtbjcegabjpeejaaDoor
