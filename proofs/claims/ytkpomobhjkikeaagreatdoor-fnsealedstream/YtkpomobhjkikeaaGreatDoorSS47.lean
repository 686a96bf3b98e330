import Derived.Test.YtkpomobhjkikeaaGreatDoorSS46
import Derived.Test.YtkpomobhjkikeaaGreatDoorSS45
import Derived.Test.YtkpomobhjkikeaaGreatDoorSS42
import Derived.Deep.DeepCutAuto
import Derived.Test.YtkpomobhjkikeaaGreatDoorSS5
import Derived.Test.YtkpomobhjkikeaaGreatDoorSS13
import Derived.Test.YtkpomobhjkikeaaGreatDoorSS14
import Derived.Test.YtkpomobhjkikeaaGreatDoorSS12
import Derived.Test.YtkpomobhjkikeaaGreatDoorSS16
import Derived.Test.YtkpomobhjkikeaaGreatDoorSS3
import Derived.WalkSpells
import Derived.Deep.QuietTactic
import Derived.BigQuiet
import Derived.Deep.WholeRow
import Derived.Laws.Bits64b
import Derived.Laws.BitsLemmas
import Derived.Laws.Rows
import Derived.Laws.Tables
import Derived.Deep.MidRow
namespace Go.Proofs.YtkpomobhjkikeaaGreatDoor
set_option maxRecDepth 100000
open Go Go.RowKit
def RdT (w : World) (g : Nat) (a : Option Addr) (ls : List (List UInt8)) : Prop :=
  0 < ls.length → ∃ off, a = some ⟨g, off, none⟩ ∧ ∀ i, i < ls.length → w.cell? ⟨g, off + i, none⟩ = some (tx (ls.getD i []))
theorem RdT.nil (w : World) (g : Nat) (a : Option Addr) : RdT w g a [] := fun h => absurd h (by simp)
theorem RdT.lt {w : World} {g : Nat} {a : Option Addr} {ls : List (List UInt8)} (h : RdT w g a ls) (h0 : 0 < ls.length) : g < w.heap.size := by
  obtain ⟨off, ha, hc⟩ := h h0
  exact block_lt_of_cell (hc 0 h0)
theorem RdT.of_block {w w' : World} {g : Nat} {a : Option Addr} {ls : List (List UInt8)} (h : RdT w g a ls) (hb : w'.heap[g]? = w.heap[g]?) : RdT w' g a ls := by
  intro h0
  obtain ⟨off, ha, hc⟩ := h h0
  exact ⟨off, ha, fun i hi => (World.cell?_of_block (a := ⟨g, off + i, none⟩) hb).trans (hc i hi)⟩
theorem RdT.up {w w' : World} {g : Nat} {a : Option Addr} {ls : List (List UInt8)} (h : RdT w g a ls) (hb : Below w.heap.size w w') : RdT w' g a ls := by
  by_cases h0 : 0 < ls.length
  · exact h.of_block (hb.block g (h.lt h0))
  · exact fun h1 => absurd h1 h0
def BlkT (w : World) (g : Nat) (ls : List (List UInt8)) : Prop := w.heap[g]? = some (.cells (ls.map tx).toArray 9 (0, 0))
theorem BlkT.lt {w : World} {g : Nat} {ls : List (List UInt8)} (h : BlkT w g ls) : g < w.heap.size := (Array.getElem?_eq_some_iff.1 h).1
theorem BlkT.cell {w : World} {g : Nat} {ls : List (List UInt8)} (h : BlkT w g ls) {i : Nat} (hi : i < ls.length) : w.cell? ⟨g, i, none⟩ = some (tx (ls.getD i [])) := by
  rw [cell_of_row w g i _ 9 (0, 0) h]
  simp [hi]
theorem BlkT.free {w : World} {g : Nat} {ls : List (List UInt8)} (h : BlkT w g ls) (i : Nat) : w.frozen? ⟨g, i, none⟩ = false := frozen_of_row w g i _ 9 h
theorem BlkT.store {w : World} {g : Nat} {ls : List (List UInt8)} (h : BlkT w g ls) (i : Nat) (z : List UInt8) : BlkT (w.setCell ⟨g, i, none⟩ (tx z)) g (ls.set i z) := by
  show _ = _
  rw [heap_setCell_same w g i _ 9 _ h]
  simp [List.map_set]
theorem BlkT.rd {w : World} {g : Nat} {ls : List (List UInt8)} (h : BlkT w g ls) : RdT w g (some ⟨g, 0, none⟩) ls := fun _ => ⟨0, rfl, fun i hi => by rw [Nat.zero_add]; exact h.cell hi⟩
theorem BlkT.up {w w' : World} {g : Nat} {ls : List (List UInt8)} (h : BlkT w g ls) (hb : Below w.heap.size w w') : BlkT w' g ls := (hb.block g h.lt).trans h
theorem BlkT.of_made {w : World} {base : Nat} {g n : Nat} (h : w.ownsRow base 9 1 (.slice (some ⟨g, 0, none⟩) n n) n (madeCells (Value.string ⟨#[]⟩).cells (n * 1)).toList) : BlkT w g (List.replicate n []) := by
  rcases h.2 with ⟨h', _⟩ | ⟨g', cap', cur, h', _, hg, _, _, hcs, htake⟩
  · simp at h'
  · simp only [Value.slice.injEq, Option.some.injEq, Addr.mk.injEq, and_true, true_and] at h'
    obtain ⟨rfl, rfl⟩ := h'
    show _ = _
    rw [hg]
    have : cur = ((List.replicate n ([] : List UInt8)).map tx).toArray := by
      apply Array.ext'
      rw [List.take_of_length_le (by rw [Array.length_toList, hcs]; exact Nat.le_refl _)] at htake
      rw [htake]
      apply List.ext_getElem
      · simp [madeCells]
      · intro i h1 h2
        simp [madeCells, Value.cells, tx, Nat.mod_one]
    rw [this]
def CopT (xs ys : List (List UInt8)) (k : Nat) : Prop := ys.length = xs.length ∧ ys.take k = xs.take k
theorem CopT.step {xs ys : List (List UInt8)} {k : Nat} (h : CopT xs ys k) (hk : k < xs.length) : CopT xs (ys.set k (xs.getD k [])) (k + 1) := by
  refine ⟨by simpa using h.1, ?_⟩
  have hk' : k < ys.length := by rw [h.1]; exact hk
  rw [List.take_succ_eq_append_getElem (by simpa using hk'), List.take_succ_eq_append_getElem hk, List.take_set]
  rw [List.getElem_set_self, List.set_eq_of_length_le (by rw [List.length_take]; omega), h.2]
  simp [hk]
end Go.Proofs.YtkpomobhjkikeaaGreatDoor
namespace Go.Proofs.YtkpomobhjkikeaaGreatDoor
set_option maxRecDepth 100000
open Go Go.RowKit
structure Dra (w : World) (s g : Nat) (a : Option Addr) (c : Nat) (xs : List Int) (t : Int) : Prop where
  S : Src w s a xs.length c t
  R : Rd w g a .u8 xs
  ne : 0 < xs.length → g ≠ s
  hb : Byt xs
  hl : xs.length ≤ 1048576
  t0 : 0 ≤ t
theorem Dra.up {w w' : World} {s g : Nat} {a : Option Addr} {c : Nat} {xs : List Int} {t : Int} (h : Dra w s g a c xs t) (n : Below w.heap.size w w') : Dra w' s g a c xs t := ⟨h.S.up n, h.R.up n, h.ne, h.hb, h.hl, h.t0⟩
theorem next_D {w : World} {s g : Nat} {a : Option Addr} {c : Nat} {xs : List Int} {t n : Int} (d : Dra w s g a c xs t) (t1 : t ≤ 1048576) (n0 : 1 ≤ n) (n1 : n ≤ 1099511627776) :
    Calls Tryz.prog 14 #[.pointer (some ⟨s, 0, none⟩), .int .i64 n] w fun e w' => ∃ r : Nat, e = .returned (.int .i64 (r : Int)) ∧ (r : Int) < n ∧ Dra w' s g a c xs (t + 1) ∧ But s w w' := by
  refine (l1Next_any w s g a c xs t n d.S d.R d.ne d.hb d.hl d.t0 t1 n0 n1).mono ?_
  rintro e w' ⟨r, rfl, ⟨h0, h1⟩, S, O⟩
  obtain ⟨k, rfl⟩ := Int.eq_ofNat_of_zero_le h0
  have B := But.ofOnly O
  exact ⟨k, rfl, h1, ⟨S, d.R.but B d.ne, d.ne, d.hb, d.hl, by have := d.t0; omega⟩, B⟩
theorem chance_D {w : World} {s g : Nat} {a : Option Addr} {c : Nat} {xs : List Int} {t n : Int} (d : Dra w s g a c xs t) (t1 : t ≤ 1048576) (n0 : 1 ≤ n) (n1 : n ≤ 1048576) :
    Calls Tryz.prog 15 #[.pointer (some ⟨s, 0, none⟩), .int .i64 n] w fun e w' => ∃ b, e = .returned (.bool b) ∧ Dra w' s g a c xs (t + 1) ∧ But s w w' := by
  refine (l1Chance_any w s g a c xs t n d.S d.R d.ne d.hb d.hl d.t0 t1 n0 n1).mono ?_
  rintro e w' ⟨b, rfl, S, O⟩
  have B := But.ofOnly O
  exact ⟨b, rfl, ⟨S, d.R.but B d.ne, d.ne, d.hb, d.hl, by have := d.t0; omega⟩, B⟩
end Go.Proofs.YtkpomobhjkikeaaGreatDoor
namespace Go.Proofs.YtkpomobhjkikeaaGreatDoor
set_option maxRecDepth 100000
open Go Go.RowKit
set_option maxHeartbeats 2000000 in
theorem l1NextX_any (w : World) (s g : Nat) (a : Option Addr) (c : Nat) (xs : List Int) (t n : Int) (hs : Src w s a xs.length c t) (hr : Rd w g a .u8 xs) (hne : 0 < xs.length → g ≠ s) (hb : Byt xs) (hl : xs.length ≤ 4194304)
    (t0 : 0 ≤ t) (t1 : t ≤ 1048576) (n0 : 1 ≤ n) (n1 : n ≤ 1048576) :
    Calls Tryz.prog 14 #[.pointer (some ⟨s, 0, none⟩), .int .i64 n] w fun e w' => ∃ r, e = .returned (.int .i64 r) ∧ (0 ≤ r ∧ r < n) ∧ Src w' s a xs.length c (t + 1) ∧ Only s w w' := by
  have c0 := hs.code
  have c1 := hs.at_
  have f1 := hs.free
  have k1 : (w.setCell ⟨s, 1, none⟩ (.int .i64 (t + 1))).cell? ⟨s, 1, none⟩ = some (.int .i64 (t + 1)) := World.cell?_setCell_same _ _ _ hs.at_
  have k0 : (w.setCell ⟨s, 1, none⟩ (.int .i64 (t + 1))).cell? ⟨s, 0, none⟩ = some (.slice a xs.length c) := by rw [World.cell?_setCell_other (h := by simp)]; exact hs.code
  have tn : decide (n < 1) = false := by simp; omega
  by_cases h0 : xs.length = 0
  · have hk : ((xs.length : Int) == 0) = true := by simp [h0]
    have r0 := Int.emod_nonneg (t * 7) (show n ≠ 0 by omega)
    have r1 := Int.emod_lt_of_pos (t * 7) (show 0 < n by omega)
    have S := hs.step (t + 1) 0
    have O := Only.step w s (.int .i64 (t + 1)) 0
    clear h0
    go_enter Tryz.func14, Tryz.ntmps14
    go_wp2
    go_ret
    exact ⟨_, rfl, ⟨r0, r1⟩, S, O⟩
  · have hk : ((xs.length : Int) == 0) = false := beq_eq_false_iff_ne.2 (by omega)
    obtain ⟨off, rfl, hc⟩ := hr (by omega)
    have gs : g ≠ s := hne (by omega)
    obtain ⟨i1, hi1⟩ := Int.eq_ofNat_of_zero_le (Int.emod_nonneg t (show (xs.length : Int) ≠ 0 by omega))
    have li1 : (i1 : Int) < (xs.length : Int) := by rw [← hi1]; exact Int.emod_lt_of_pos _ (by omega)
    obtain ⟨i2, hi2⟩ := Int.eq_ofNat_of_zero_le (Int.emod_nonneg (t + 1) (show (xs.length : Int) ≠ 0 by omega))
    have li2 : (i2 : Int) < (xs.length : Int) := by rw [← hi2]; exact Int.emod_lt_of_pos _ (by omega)
    obtain ⟨q, hq⟩ : ∃ q, t / (xs.length : Int) = q := ⟨_, rfl⟩
    have q0 : 0 ≤ q := by rw [← hq]; exact Int.ediv_nonneg t0 (by omega)
    have q1 : q ≤ 1048576 := by rw [← hq]; exact Int.le_trans (Int.ediv_le_self _ t0) t1
    have x1 : (w.setCell ⟨s, 1, none⟩ (.int .i64 (t + 1))).cell? ⟨g, off + i1, none⟩ = some (.int .u8 (xs.getD i1 0)) := by rw [World.cell?_setCell_other (h := fun e => gs (by simpa using (congrArg Addr.block e).symm))]; exact hc i1 (by omega)
    have x2 : (w.setCell ⟨s, 1, none⟩ (.int .i64 (t + 1))).cell? ⟨g, off + i2, none⟩ = some (.int .u8 (xs.getD i2 0)) := by rw [World.cell?_setCell_other (h := fun e => gs (by simpa using (congrArg Addr.block e).symm))]; exact hc i2 (by omega)
    have b1 := hb i1
    have b2 := hb i2
    have S := fun m => hs.step (t + 1) m
    have O := fun m => Only.step w s (.int .i64 (t + 1)) m
    generalize xs.getD i1 0 = x at *
    generalize xs.getD i2 0 = y at *
    clear hc hs hr h0
    by_cases hn : n ≤ 200
    · have tn2 : decide (200 < n) = false := by simp; omega
      have r0 := Int.emod_nonneg (x + q * 37) (show n ≠ 0 by omega)
      have r1 := Int.emod_lt_of_pos (x + q * 37) (show 0 < n by omega)
      clear x2 hi2 li2 b2
      go_enter Tryz.func14, Tryz.ntmps14
      go_wp2
      go_quiet (fail)
      go_wp2
      go_ret
      exact ⟨_, rfl, ⟨r0, r1⟩, S _, O _⟩
    · have tn2 : decide (200 < n) = true := by simp; omega
      have r0 := Int.emod_nonneg ((x + q * 37) * 251 + y * 13 + t) (show n ≠ 0 by omega)
      have r1 := Int.emod_lt_of_pos ((x + q * 37) * 251 + y * 13 + t) (show 0 < n by omega)
      go_enter Tryz.func14, Tryz.ntmps14
      go_wp2
      go_quiet (fail)
      go_wp2
      go_quiet (fail)
      go_wp2
      go_ret
      exact ⟨_, rfl, ⟨r0, r1⟩, S _, O _⟩
end Go.Proofs.YtkpomobhjkikeaaGreatDoor
namespace Go.Proofs.YtkpomobhjkikeaaGreatDoor
set_option maxRecDepth 100000
open Go Go.RowKit
theorem byt_setC {ys : List Int} (h : Byt ys) (p : Nat) (x : Int) (h0 : 0 ≤ x) (h1 : x < 256) : Byt (ys.set p x) := by
  intro i
  rw [List.getD_eq_getElem?_getD, List.getElem?_set]
  by_cases hp : p = i
  · rw [if_pos hp]
    split
    · exact ⟨h0, h1⟩
    · exact ⟨by simp, by simp⟩
  · rw [if_neg hp]
    have := h i
    rw [List.getD_eq_getElem?_getD] at this
    exact this
set_option maxHeartbeats 2000000 in
theorem l11Bytes_any (w : World) (s g : Nat) (a : Option Addr) (c : Nat) (xs : List Int) (t : Int) (n : Nat) (hs : Src w s a xs.length c t) (hr : Rd w g a .u8 xs) (hne : 0 < xs.length → g ≠ s) (hb : Byt xs) (hl : xs.length ≤ 4194304)
    (t0 : 0 ≤ t) (t1 : t ≤ 1000000) (hn : n ≤ 7000) :
    Calls Tryz.prog 16 #[.pointer (some ⟨s, 0, none⟩), .int .i64 (n : Int)] w fun e w' => ∃ v ys, e = .returned v ∧ ys.length = n ∧ Byt ys ∧ RowB w' w.heap.size v ys ∧ Src w' s a xs.length c (t + 1) ∧ But s w w' := by
  obtain ⟨i0, hi, hz0, hz1, hz2⟩ := info_parts Tryz.info5
  have NX := hide (l1NextX_any w s g a c xs t 256 hs hr hne hb hl t0 (by omega) (by omega) (by omega))
  have sl := hs.lt
  clear hs hr hne
  go_enter Tryz.func16, Tryz.ntmps16
  go_wp2_with fail
  refine NX.out.mono ?_
  rintro e w0 ⟨r, rfl, ⟨r0, r1⟩, S0, O0⟩
  have z0 := hide O0.size
  clear NX
  go_wp2_with (at_make; refine wpList_make_full _ rfl _ _ 22 rfl w0.heap.size 5 i0 (.int .u8 0) 1 Tryz.underlying22 hi hz0 hz1 .i64 .i64 _ _ n rfl rfl rfl rfl (by rw [hz2]; omega) (by unfold maxLen; omega) (Nat.le_refl _) ?_; intro w1 hown hgrow)
  have hB0 := Blk.of_made hown
  have T0 := TyB.of_made hown
  have hN0 : Below w0.heap.size w0 w1 := (Below.refl _ _).grown hgrow (Nat.le_refl _) (by simp)
  have bz : Byt (List.replicate n (0 : Int)) := fun i => by
    rw [List.getD_eq_getElem?_getD, List.getElem?_replicate]
    split <;> exact ⟨by simp, by simp⟩
  clear hown hgrow
  go_loopw [7] (fun i wr => ∃ (k : Nat) (ys : List Int), k ≤ n ∧ i = .int .i64 (k : Int) ∧ Hid (ys.length = n) ∧ Hid (Byt ys) ∧ Blk wr w0.heap.size .u8 ys ∧ TyB wr w0.heap.size ∧ Below w0.heap.size w0 wr) (fun i _ => n - (intOf i).toNat)
  case atStart => exact ⟨0, _, Nat.zero_le _, rfl, by show _ = _; simp, bz, hB0, T0, hN0⟩
  case round =>
    clear hB0 T0 hN0 bz
    obtain ⟨k, ys, hk, rfl, yl, yb, B, T, N⟩ := hrel
    by_cases hlt : k < n
    · have k0 : (k : Int) < (n : Int) := by omega
      have k1 : decide ((k : Int) < (n : Int)) = true := by simp; omega
      have kk : (k : Int) * (k : Int) ≤ 49000000 := by
        have : (k : Int) ≤ 7000 := by omega
        calc (k : Int) * (k : Int) ≤ 7000 * 7000 := Int.mul_le_mul this this (by omega) (by omega)
          _ = 49000000 := by decide
      have kp : (0 : Int) ≤ (k : Int) * (k : Int) := Int.mul_nonneg (by omega) (by omega)
      have hl : k < ys.length := by rw [yl.out]; exact hlt
      have hcy := B.cell hl
      have hfy := B.free k
      have YL := yl
      have YB := yb
      have KN := hide kk
      go_wp2
      go_roundw
      case rel =>
        refine ⟨k + 1, _, by omega, by go_num, ?_, ?_, B.store k _, T.set k _, N.setCell (Nat.le_refl _) _⟩
        · show _ = _
          rw [List.length_set]
          exact YL.out
        · exact byt_setC YB.out k _ (by omega) (by omega)
      case measure => simp [intOf]; omega
    · obtain rfl : k = n := by omega
      have k1 : decide ((k : Int) < (k : Int)) = false := by simp
      have RB := hide (RowB.of_tyb (B := w.heap.size) B T (by have := z0.out; omega) (by rw [yl.out]; omega))
      rw [yl.out] at RB
      have BT := hide ((But.ofOnly O0).trans (But.ofBelow N))
      have SR := hide (S0.up N)
      have YL := yl
      have YB := yb
      clear B T N
      go_wp2
      go_ret
      exact ⟨_, ys, rfl, YL.out, YB.out, RB.out, SR.out, BT.out⟩
end Go.Proofs.YtkpomobhjkikeaaGreatDoor
namespace Go.Proofs.YtkpomobhjkikeaaGreatDoor
set_option maxRecDepth 100000
open Go Go.RowKit
set_option maxRecDepth 100000 in
set_option maxHeartbeats 4000000 in
theorem drawPieces_any (w : World) (g : Nat) (a : Option Addr) (c : Nat) (xs : List Int) (hr : Rd w g a .u8 xs) (hb : Byt xs) (hl : xs.length ≤ 1048576) :
    Calls Tryz.prog 4 #[.slice a xs.length c] w fun e w' => ∃ (v : Value) (ys : List Int), e = .returned v ∧ RowB w' w.heap.size v ys ∧ Byt ys ∧ ys.length ≤ 6145 ∧ Below w.heap.size w w' := by
  have lg := hr.lt
  go_enter Tryz.func4, Tryz.ntmps4
  go_wp2_with fail
  refine (l1Source_any w a xs.length c hl).mono ?_
  rintro e w2 ⟨rfl, S2, m2⟩
  obtain ⟨s, hs⟩ : ∃ s, s = w.heap.size := ⟨_, rfl⟩
  have S2s : Src w2 s a xs.length c 0 := by rw [hs]; exact S2
  have d2 : Dra w2 s g a c xs 0 := ⟨S2s, hr.up m2, fun h => by have := lg h; omega, hb, hl, by omega⟩
  have MS := hide m2
  have HS := hide hs
  rw [← hs]
  clear S2 S2s m2 hs hr
  go_wp2_with fail
  refine (next_D d2 (n := 60) (by omega) (by decide) (by decide)).mono ?_
  rintro e w3 ⟨n, rfl, hn, d3, B3⟩
  go_wp2_with fail
  refine (chance_D d3 (n := 3) (by omega) (by decide) (by decide)).mono ?_
  rintro e w4 ⟨b, rfl, d4, B4⟩
  have b4 := B3.trans B4
  clear d2 d3 B3 B4
  go_upto_if 10 with fail
  go_cut [4] (fun v wc => ∃ (m : Nat) (u : Int), v = .int .i64 (m : Int) ∧ m ≤ 6145 ∧ u ≤ 10 ∧ Dra wc s g a c xs u ∧ But s w2 wc)
  case first =>
    cases b with
    | true =>
      go_wp2_with fail
      refine (next_D d4 (n := 3) (by omega) (by decide) (by decide)).mono ?_
      rintro e w5 ⟨r, rfl, hq5, d5, B5⟩
      have b5 := b4.trans B5
      have kr : IntKind.i64.wrap (1 + (r : Int)) = 1 + (r : Int) := by rw [IntKind.wrap_i64]; omega
      have ks : IntKind.i64.wrap (2048 * (1 + (r : Int))) = 2048 * (1 + (r : Int)) := by rw [IntKind.wrap_i64]; omega
      have kt : IntKind.i64.wrap (2048 * (1 + (r : Int)) - 1) = 2048 * (1 + (r : Int)) - 1 := by rw [IntKind.wrap_i64]; omega
      go_wp2_with fail
      refine (next_D d5 (n := 3) (by omega) (by decide) (by decide)).mono ?_
      rintro e w6 ⟨q, rfl, hq, d6, B6⟩
      have b6 := b5.trans B6
      have ku : IntKind.i64.wrap (2048 * (1 + (r : Int)) - 1 + (q : Int)) = 2048 * (1 + (r : Int)) - 1 + (q : Int) := by rw [IntKind.wrap_i64]; omega
      have em : Hid (2048 * (1 + (r : Int)) - 1 + (q : Int) = ((2048 * (1 + r) - 1 + q : Nat) : Int)) := by show _ = _; omega
      have lm : Hid (2048 * (1 + r) - 1 + q ≤ 6145) := by show _ ≤ _; omega
      clear d5 b5 B5 B6
      go_wp2_with fail
      go_meet
      exact ⟨2048 * (1 + r) - 1 + q, _, by rw [← em.out], lm.out, by omega, d6, b6⟩
    | false =>
      go_wp2_with fail
      go_meet
      exact ⟨n, _, rfl, by omega, by omega, d4, b4⟩
  case rest =>
    obtain ⟨m, u, rfl, hm, hu, dc, bc⟩ := hcut
    clear d4 b4
    go_wp2_with fail
    refine (l11Bytes_any wc s g a c xs u m dc.S dc.R dc.ne dc.hb (by have := dc.hl; omega) dc.t0 (by omega) (by omega)).mono ?_
    rintro e w7 ⟨v, ys, rfl, yl, yb, R, S7, B7⟩
    have b7 := bc.trans B7
    have zc := bc.size
    have y2 := MS.out.size
    have N7 : Below w.heap.size w w7 := ⟨b7.os.trans MS.out.os, b7.tape.trans MS.out.tape, b7.output.trans MS.out.output, Nat.le_trans y2 b7.size, fun k hk => (b7.block k (by omega) (by have := HS.out; omega)).trans (MS.out.block k hk)⟩
    have R7 : RowB w7 w.heap.size v ys := R.base (by omega)
    have YL : ys.length ≤ 6145 := by omega
    clear dc bc b7 S7 B7 R
    go_wp2
    go_ret
    exact ⟨_, ys, rfl, R7, yb, YL, N7⟩
end Go.Proofs.YtkpomobhjkikeaaGreatDoor
namespace Go.Proofs.YtkpomobhjkikeaaGreatDoor
set_option maxRecDepth 100000
def sm (f : Nat → Nat) : Nat → Nat
  | 0 => 0
  | n + 1 => sm f n + f n
def pm (n : Nat) : Nat → Nat → Nat → Nat
  | 0, _, _ => 1 % n
  | f + 1, b, e => if e % 2 = 1 then pm n f (b * b % n) (e / 2) * b % n else pm n f (b * b % n) (e / 2)
theorem pm_eq (n : Nat) : ∀ f b e, e < 2 ^ f → pm n f b e = b ^ e % n
  | 0, b, e, h => by
    obtain rfl : e = 0 := by simpa using h
    rfl
  | f + 1, b, e, h => by
    have hs := pm_eq n f (b * b % n) (e / 2) (by rw [Nat.pow_succ] at h; omega)
    have e1 : (b * b % n) ^ (e / 2) % n = b ^ (2 * (e / 2)) % n := by
      rw [← Nat.pow_mod, Nat.pow_mul, Nat.pow_two]
    rw [pm, hs, e1]
    by_cases h2 : e % 2 = 1
    · rw [if_pos h2]
      have e2 : b ^ e = b ^ (2 * (e / 2)) * b := by rw [← Nat.pow_succ]; congr 1; omega
      rw [e2, Nat.mod_mul_mod]
    · rw [if_neg h2]
      congr 2; omega
end Go.Proofs.YtkpomobhjkikeaaGreatDoor
namespace Go.Proofs.YtkpomobhjkikeaaGreatDoor
set_option maxRecDepth 100000
abbrev PP : Int := 57896044618658097711785492504343953926634992332820282019728792003956564819949
def sv6 (u : Nat → Int) : Nat → Int
  | 0 => 0
  | k + 1 => sv6 u k + u k * 2251799813685248 ^ k
def Lm (u : Nat → Int) : Prop := ∀ j, j < 5 → 0 ≤ u j ∧ u j < 2251799813685248
theorem Lm.bd {u : Nat → Int} (h : Lm u) : 0 ≤ sv6 u 5 ∧ sv6 u 5 < 57896044618658097711785492504343953926634992332820282019728792003956564819968 := by
  have h0 := h 0 (by omega); have h1 := h 1 (by omega); have h2 := h 2 (by omega); have h3 := h 3 (by omega); have h4 := h 4 (by omega)
  simp only [sv6]
  omega
end Go.Proofs.YtkpomobhjkikeaaGreatDoor
namespace Go.Proofs.YtkpomobhjkikeaaGreatDoor
set_option maxRecDepth 100000
def c16 (f : Nat → Int) : Nat → Int
  | 0 => 0
  | k + 1 => (c16 f k + f k) / 65536
def l16 (f : Nat → Int) (k : Nat) : Int := (c16 f k + f k) % 65536
def s16 (f : Nat → Int) : Nat → Int
  | 0 => 0
  | k + 1 => s16 f k + f k * 65536 ^ k
theorem c16_sum (f : Nat → Int) : ∀ k, s16 (l16 f) k + c16 f k * 65536 ^ k = s16 f k
  | 0 => by simp [s16, c16]
  | k + 1 => by
    have ih := c16_sum f k
    have h : c16 f k + f k = l16 f k + 65536 * c16 f (k + 1) := by
      rw [l16, c16]; omega
    have h2 : (c16 f k + f k) * 65536 ^ k = (l16 f k + 65536 * c16 f (k + 1)) * 65536 ^ k := by rw [h]
    rw [Int.add_mul, Int.add_mul] at h2
    rw [s16, s16, Int.pow_succ]
    have h3 : c16 f (k + 1) * (65536 ^ k * 65536) = 65536 * c16 f (k + 1) * 65536 ^ k := by
      rw [Int.mul_comm (65536 ^ k) 65536, ← Int.mul_assoc, Int.mul_comm (c16 f (k + 1))]
    rw [h3]
    omega
theorem l16_bd (f : Nat → Int) (k : Nat) : 0 ≤ l16 f k ∧ l16 f k < 65536 := by
  unfold l16; omega
theorem c16_bd {f : Nat → Int} {M : Int} (hM : 1 ≤ M) (hf : ∀ j, -(65535 * M) ≤ f j ∧ f j ≤ 65535 * M) : ∀ k, -M ≤ c16 f k ∧ c16 f k ≤ M
  | 0 => by simp [c16]; omega
  | k + 1 => by
    have ih := c16_bd hM hf k
    have := hf k
    rw [c16]
    omega
def L16 (f : Nat → Int) : Prop := ∀ j, j < 16 → 0 ≤ f j ∧ f j < 65536
abbrev W256 : Int := 115792089237316195423570985008687907853269984665640564039457584007913129639936
theorem L16.bd {f : Nat → Int} (h : L16 f) : 0 ≤ s16 f 16 ∧ s16 f 16 < W256 := by
  have h0 := h 0 (by omega); have h1 := h 1 (by omega); have h2 := h 2 (by omega); have h3 := h 3 (by omega)
  have h4 := h 4 (by omega); have h5 := h 5 (by omega); have h6 := h 6 (by omega); have h7 := h 7 (by omega)
  have h8 := h 8 (by omega); have h9 := h 9 (by omega); have ha := h 10 (by omega); have hb := h 11 (by omega)
  have hc := h 12 (by omega); have hd := h 13 (by omega); have he := h 14 (by omega); have hf := h 15 (by omega)
  simp only [s16]
  show _ ∧ _ < 115792089237316195423570985008687907853269984665640564039457584007913129639936
  omega
def r16 (f : Nat → Int) (j : Nat) : Int := if j = 0 then l16 f 0 + 38 * c16 f 16 else l16 f j
theorem r16_val (f : Nat → Int) : s16 (r16 f) 16 = s16 (l16 f) 16 + 38 * c16 f 16 := by
  simp [s16, r16]; omega
theorem r16_sum (f : Nat → Int) : ∃ c, c = c16 f 16 ∧ s16 (r16 f) 16 = s16 f 16 - 115792089237316195423570985008687907853269984665640564039457584007913129639936 * c + 38 * c ∧ 0 ≤ s16 f 16 - 115792089237316195423570985008687907853269984665640564039457584007913129639936 * c ∧ s16 f 16 - 115792089237316195423570985008687907853269984665640564039457584007913129639936 * c < 115792089237316195423570985008687907853269984665640564039457584007913129639936 := by
  have h1 := c16_sum f 16
  have h2 := L16.bd (f := l16 f) (fun j _ => l16_bd f j)
  have h3 := r16_val f
  have e : (65536 : Int) ^ 16 = 115792089237316195423570985008687907853269984665640564039457584007913129639936 := by decide
  rw [e] at h1
  refine ⟨_, rfl, ?_⟩
  generalize s16 (l16 f) 16 = A at *
  generalize c16 f 16 = c at *
  generalize s16 (r16 f) 16 = B at *
  generalize s16 f 16 = U at *
  have h2' : 0 ≤ A ∧ A < 115792089237316195423570985008687907853269984665640564039457584007913129639936 := h2
  omega
def cry (f : Nat → Int) : Nat → Int := r16 (r16 (r16 f))
theorem r16_bd {f : Nat → Int} {M : Int} (hM : 1 ≤ M) (hf : ∀ j, -(65535 * M) ≤ f j ∧ f j ≤ 65535 * M) : ∀ j, -(38 * M) ≤ r16 f j ∧ r16 f j ≤ 65535 + 38 * M := by
  intro j
  have h1 := c16_bd hM hf 16
  have h2 := l16_bd f j
  have h3 := l16_bd f 0
  unfold r16
  split <;> omega
theorem cry_ok {f : Nat → Int} (hf : ∀ j, -1152921504606846976 ≤ f j ∧ f j ≤ 1152921504606846976) : L16 (cry f) ∧ s16 (cry f) 16 % PP = s16 f 16 % PP := by
  have b1 := r16_bd (f := f) (M := 17592454500000) (by omega) (fun j => by have := hf j; omega)
  obtain ⟨c1, _, v1, lo1, hi1⟩ := r16_sum f
  obtain ⟨c2, _, v2, lo2, hi2⟩ := r16_sum (r16 f)
  obtain ⟨c3, hc3, v3, lo3, hi3⟩ := r16_sum (r16 (r16 f))
  have hc1 : -17592454500000 ≤ c1 ∧ c1 ≤ 17592454500000 := by
    have := c16_bd (f := f) (M := 17592454500000) (by omega) (fun j => by have := hf j; omega) 16
    omega
  have e3 : c3 = 0 := by
    generalize s16 (r16 f) 16 = S1 at *
    generalize s16 (r16 (r16 f)) 16 = S2 at *
    generalize s16 f 16 = U at *
    have h2 : c2 = 0 ∨ c2 = 1 ∨ c2 = -1 := by omega
    omega
  refine ⟨?_, ?_⟩
  · intro j _
    have h0 := l16_bd (r16 (r16 f)) j
    unfold cry
    show 0 ≤ r16 (r16 (r16 f)) j ∧ r16 (r16 (r16 f)) j < 65536
    rw [r16, ← hc3, e3]
    split
    · rename_i e; subst e; omega
    · exact h0
  · show s16 (r16 (r16 (r16 f))) 16 % 57896044618658097711785492504343953926634992332820282019728792003956564819949 = s16 f 16 % 57896044618658097711785492504343953926634992332820282019728792003956564819949
    omega
end Go.Proofs.YtkpomobhjkikeaaGreatDoor
namespace Go.Proofs.YtkpomobhjkikeaaGreatDoor
set_option maxRecDepth 100000
theorem mul_bd {a b A B : Int} (ha : 0 ≤ a ∧ a ≤ A) (hb : 0 ≤ b ∧ b ≤ B) : 0 ≤ a * b ∧ a * b ≤ A * B :=
  ⟨Int.mul_nonneg ha.1 hb.1, Int.mul_le_mul ha.2 hb.2 hb.1 (by omega)⟩
end Go.Proofs.YtkpomobhjkikeaaGreatDoor
namespace Go.Proofs.YtkpomobhjkikeaaGreatDoor
set_option maxRecDepth 100000
def W46 (W : Nat → Int) : Prop := ∀ j, j < 4 → 0 ≤ W j ∧ W j < 18446744073709551616
end Go.Proofs.YtkpomobhjkikeaaGreatDoor
namespace Go.Proofs.YtkpomobhjkikeaaGreatDoor
set_option maxRecDepth 100000
open Go.RowKit
set_option maxHeartbeats 2000000 in
theorem l1Turn_any6 (w : World) (g : Nat) (a : Option Addr) (c : Nat) (xs : List Int) (hr : Rd w g a .u8 xs) (hb : Byt xs) (hl : xs.length ≤ 1048576) :
    Calls Tryz.prog 67 #[.slice a xs.length c] w fun e w' => ∃ ys, TurnTo xs ys xs.length ∧ Byt ys ∧ NewRow w.heap.size w' e .u8 ys ∧ Below w.heap.size w w' := by
  obtain ⟨i0, hi, hz0, hz1, hz2⟩ := info_parts Tryz.info5
  have hown0 : (w.alloc (.cells #[] 5)).ownsRow w.heap.size 5 1 (.slice (some ⟨w.heap.size, 0, none⟩) 0 0) 0 [] := World.ownsRow_lit w #[] 0 (Nat.le_refl _) (by unfold maxLen; omega) (by simp)
  have hal : Below w.heap.size w (w.alloc (.cells #[] 5)) := (Below.refl _ _).alloc (Nat.le_refl _) _
  go_enter Tryz.func67, Tryz.ntmps67
  go_wp2
  go_loopw [3, 4] (fun v i wr => ∃ (k : Nat) (t : Int) (ys : List Int), i = .int .i64 t ∧ t + (k : Int) + 1 = (xs.length : Int) ∧ -1 ≤ t ∧ TurnTo xs ys k ∧ Byt ys ∧ wr.ownsRow w.heap.size 5 1 v k (ys.map (Value.int .u8)) ∧ Below w.heap.size w wr) (fun _ i _ => (intOf i + 1).toNat)
  case atStart => exact ⟨0, (xs.length : Int) - 1, [], rfl, by omega, by omega, ⟨rfl, fun i h => absurd h (by omega)⟩, byt_nil, hown0, hal⟩
  case round =>
    obtain ⟨k, t, ys, rfl, ht, ht0, hT, hyb, hown, hN⟩ := hrel
    have hob := hown.lt
    by_cases hlt : 0 ≤ t
    · obtain ⟨j, rfl⟩ := Int.eq_ofNat_of_zero_le hlt
      obtain ⟨off, rfl, hc⟩ := (hr.up hN) (by omega)
      have cx := hc j (by omega)
      have xb := hb j
      have hT' := hT.step
      rw [show xs.length - 1 - k = j by omega] at hT'
      generalize xs.getD j 0 = x at *
      have j1 : (j : Int) < (xs.length : Int) := by omega
      have HT := hide ht
      clear hc ht
      go_wp2_with (at_builtin; refine wpList_append_own _ rfl _ _ 22 rfl w.heap.size 5 i0 (.int .u8 0) 1 1 Tryz.underlying22 hi hz0 hz1 hz2 rfl (by decide) _ k (ys.map (Value.int .u8)) rfl (hown.alloc _) ⟨wr.heap.size, 0, none⟩ 1 1 [.int .u8 x] rfl rfl ?c1 ?c2 ?c3 ?c4 ?c5 ?_)
      case c1 =>
        intro j u hj
        match j, hj with
        | 0, hj => simp at hj; subst hj; simp [Addr.add]
      case c2 => intro u hu; simp at hu; subst hu; rfl
      case c3 => unfold maxLen; have := HT.out; omega
      case c4 => have := HT.out; omega
      case c5 => simp; have := hN.size; omega
      · intro v' w2 hown2 hgrow _
        have nA : Below w.heap.size w (wr.alloc (.cells #[.int .u8 x] 5)) := hN.alloc hN.size _
        have N2 : Below w.heap.size w w2 := nA.grown hgrow (by simp; have := hN.size; omega) (fun i hi => (hob i hi).1)
        have hown3 : w2.ownsRow w.heap.size 5 1 v' (k + 1) ((ys ++ [x]).map (Value.int .u8)) := by simpa using hown2
        have hb3 := byt_app1 hyb x xb.1 (by omega)
        clear hown hown2 hgrow nA hob
        go_wp2
        go_roundw
        case rel => exact ⟨k + 1, (j : Int) - 1, ys ++ [x], rfl, by have := HT.out; omega, by omega, hT', hb3, hown3, N2⟩
        case measure => simp [intOf]
    · obtain rfl : t = -1 := by omega
      obtain rfl : k = xs.length := by omega
      have hown' := hown
      rw [← hT.1] at hown'
      obtain ⟨a', c', g', hv, o1, o2, o3, o4⟩ := Own.of_ownsRow hown'
      subst hv
      have L := hide hT
      clear hown hown' ht hT
      go_wp2
      go_ret
      exact ⟨ys, L.out, hyb, ⟨_, _, g', rfl, o1, o2, o3, o4⟩, hN⟩
set_option maxHeartbeats 1000000 in
theorem l2Num_any6 (w : World) (g : Nat) (a : Option Addr) (c : Nat) (xs : List Int) (hr : Rd w g a .u8 xs) (hb : Byt xs) (hl : xs.length ≤ 1048576) :
    Calls Tryz.prog 101 #[.slice a xs.length c] w fun e w' => ∃ ys, Canon ys (lsum (fun j => xs.getD j 0) xs.length) ∧ ys.length ≤ xs.length ∧ NewRow w.heap.size w' e .u8 ys ∧ Below w.heap.size w w' := by
  go_enter Tryz.func101, Tryz.ntmps101
  go_wp2_with fail
  refine (l1Turn_any6 w g a c xs hr hb hl).mono ?_
  rintro e w1 ⟨ys, T, yb, ⟨a1, c1, g1, rfl, o1, p1, p2, p3⟩, n1⟩
  have V := hide T.val
  have L := hide T.1
  clear T
  go_wp2_with fail
  refine (l1Trim_any w1 g1 a1 c1 ys o1.rd yb p1 p2 (by have := L.out; omega)).mono ?_
  rintro e w2 ⟨zs, C, l2, ⟨a2, c2, g2, rfl, o2, q1, q2, q3⟩, n2⟩
  go_wp2
  go_ret
  exact ⟨zs, by rw [← V.out]; exact C, by have := L.out; omega, ⟨_, _, g2, rfl, o2, q1, q2, Nat.le_trans n1.size q3⟩, nxt n1 n2⟩
def pbytes : List Int := [127, 255, 255, 255, 255, 255, 255, 255, 255, 255, 255, 255, 255, 255, 255, 255, 255, 255, 255, 255, 255, 255, 255, 255, 255, 255, 255, 255, 255, 255, 255, 237]
theorem pbytes_val : bval pbytes = PP := by decide +kernel
theorem pbytes_len : pbytes.length = 32 := rfl
theorem pbytes_byt : Byt pbytes := by
  intro i
  by_cases h : i < 32
  · have : ∀ i, i < 32 → 0 ≤ pbytes.getD i 0 ∧ pbytes.getD i 0 < 256 := by decide
    exact this i h
  · rw [List.getD_eq_getElem?_getD, List.getElem?_eq_none (by rw [pbytes_len]; omega)]
    simp
theorem pbytes_made : ((fill (fun _ => 255) 32).set 0 127).set 31 237 = pbytes := by decide
set_option maxHeartbeats 1000000 in
theorem l2Prime_any (w : World) :
    Calls Tryz.prog 52 #[] w fun e w' => e = .returned (.slice (some ⟨w.heap.size, 0, none⟩) pbytes.length 32) ∧ Blk w' w.heap.size .u8 pbytes ∧ Below w.heap.size w w' := by
  obtain ⟨i0, hi, hz0, hz1, hz2⟩ := info_parts Tryz.info5
  go_enter Tryz.func52, Tryz.ntmps52
  go_wp2_with (at_make; refine wpList_make_full _ rfl _ _ 22 rfl w.heap.size 5 i0 (.int .u8 0) 1 Tryz.underlying22 hi hz0 hz1 .i64 .i64 _ _ 32 rfl rfl rfl rfl (by rw [hz2]; omega) (by unfold maxLen; omega) (Nat.le_refl _) ?_; intro w1 hown hgrow)
  have hB0 := Blk.of_made hown
  have hN0 : Below w.heap.size w w1 := (Below.refl _ _).grown hgrow (Nat.le_refl _) (by simp)
  clear hown hgrow
  go_loopw [2] (fun i wr => ∃ (k : Nat) (ys : List Int), k ≤ 32 ∧ i = .int .i64 k ∧ FillTo (fun _ => 255) ys 32 k ∧ Blk wr w.heap.size .u8 ys ∧ Below w.heap.size w wr) (fun i _ => 32 - (intOf i).toNat)
  case atStart => exact ⟨0, _, by omega, rfl, ⟨by simp, fun j hj => absurd hj (by omega)⟩, hB0, hN0⟩
  case round =>
    clear hB0 hN0
    obtain ⟨k, ys, hk, rfl, hF, hB, hN⟩ := hrel
    by_cases hlt : k < 32
    · have hst := hF.step hlt
      have hcy := hB.cell (i := k) (by rw [hF.1]; exact hlt)
      have hfy := hB.free k
      have k2 : (k : Int) < 32 := by omega
      have S := hB.store k 255
      have Sn : Below w.heap.size w (wr.setCell ⟨w.heap.size, k, none⟩ (.int .u8 255)) := hN.setCell (Nat.le_refl _) _
      clear hB hN hF
      go_wp2
      go_roundw
      case rel => exact ⟨k + 1, _, by omega, by go_num, hst, S, Sn⟩
      case measure => simp [intOf]; omega
    · obtain rfl : k = 32 := by omega
      have hy := hF.all
      subst hy
      have c0 : wr.cell? ⟨w.heap.size, 0, none⟩ = some (.int .u8 255) := hB.cell (i := 0) (by rw [fill_len]; omega)
      have f0 := hB.free 0
      have S := hB.store 0 127
      have c1 : wr.cell? ⟨w.heap.size, 31, none⟩ = some (.int .u8 255) := hB.cell (i := 31) (by rw [fill_len]; omega)
      have f1 := hB.free 31
      have S2 := S.store 31 237
      rw [pbytes_made] at S2
      have Sn : Below w.heap.size w ((wr.setCell ⟨w.heap.size, 0, none⟩ (.int .u8 127)).setCell ⟨w.heap.size, 31, none⟩ (.int .u8 237)) := (hN.setCell (Nat.le_refl _) _).setCell (Nat.le_refl _) _
      clear hB hN hF S
      go_wp2
      go_ret
      exact ⟨rfl, S2, Sn⟩
end Go.Proofs.YtkpomobhjkikeaaGreatDoor
namespace Go.Proofs.YtkpomobhjkikeaaGreatDoor
set_option maxRecDepth 100000
open Go.RowKit
end Go.Proofs.YtkpomobhjkikeaaGreatDoor
namespace Go.Proofs.YtkpomobhjkikeaaGreatDoor
set_option maxRecDepth 100000
open Go.RowKit
end Go.Proofs.YtkpomobhjkikeaaGreatDoor
namespace Go.Proofs.YtkpomobhjkikeaaGreatDoor
set_option maxRecDepth 100000
open Go.RowKit
end Go.Proofs.YtkpomobhjkikeaaGreatDoor
namespace Go.Proofs.YtkpomobhjkikeaaGreatDoor
set_option maxRecDepth 100000
open Go.RowKit
end Go.Proofs.YtkpomobhjkikeaaGreatDoor
namespace Go.Proofs.YtkpomobhjkikeaaGreatDoor
set_option maxRecDepth 100000
open Go.RowKit
abbrev num (xs : List Int) : Int := lsum (fun j => xs.getD j 0) xs.length
def canN (xs : List Int) : Bool := decide (xs.length = 32) && decide (num xs < PP)
end Go.Proofs.YtkpomobhjkikeaaGreatDoor
namespace Go.Proofs.YtkpomobhjkikeaaGreatDoor
set_option maxRecDepth 100000
open Go.RowKit
theorem Blk.keep6 {w : World} {g g' k : Nat} {kk : IntKind} {ys : List Int} {v : Value} (h : Blk w g kk ys) (hne : g ≠ g') : Blk (w.setCell ⟨g', k, none⟩ v) g kk ys :=
  h.of_block (heap_setCell_other w ⟨g', k, none⟩ g v hne)
end Go.Proofs.YtkpomobhjkikeaaGreatDoor
namespace Go.Proofs.YtkpomobhjkikeaaGreatDoor
set_option maxRecDepth 100000
open Go.RowKit
theorem and65535 (n : Int) : bits .and .i64 n 65535 = n % 65536 := by
  have h127 : (BitVec.ofInt 64 65535).toNat = 2 ^ 16 - 1 := by decide
  have key : (BitVec.ofInt 64 n &&& BitVec.ofInt 64 65535).toNat = (n % ((2 ^ 64 : Nat) : Int)).toNat % 2 ^ 16 := by
    rw [BitVec.toNat_and, BitVec.toNat_ofInt, h127, Nat.and_two_pow_sub_one_eq_mod]
  show IntKind.i64.wrap ((BitVec.ofInt 64 n &&& BitVec.ofInt 64 65535).toNat : Nat) = n % 65536
  rw [key, IntKind.wrap_i64]
  omega
def ls16 (f : Nat → Int) : List Int := (List.range 16).map f
theorem ls16_len (f : Nat → Int) : (ls16 f).length = 16 := by simp [ls16]
theorem ls16_get (f : Nat → Int) {j : Nat} (h : j < 16) : (ls16 f).getD j 0 = f j := by simp [ls16, h]
def ag16 (f : Nat → Int) : Value := .agg ((ls16 f).map (Value.int .i64)).toArray
theorem blk16 (w : World) (t : TypeId) (f : Nat → Int) : Blk (w.alloc (.cells ((ls16 f).map (Value.int .i64)).toArray t)) w.heap.size .i64 (ls16 f) := ⟨t, by rw [heap_alloc_last]⟩
def Up16 (p q : Nat → Int) (ys : List Int) (k : Nat) : Prop := ys.length = 16 ∧ (∀ j, j < k → ys.getD j 0 = p j) ∧ ∀ j, k ≤ j → j < 16 → ys.getD j 0 = q j
theorem Up16.step {p q : Nat → Int} {ys : List Int} {k : Nat} (h : Up16 p q ys k) (hk : k < 16) : Up16 p q (ys.set k (p k)) (k + 1) := by
  refine ⟨by simpa using h.1, fun j hj => ?_, fun j hj hj5 => ?_⟩
  · by_cases e : k = j
    · subst e
      rw [getD_set_self _ _ _ (by rw [h.1]; exact hk)]
    · rw [getD_set_ne _ _ _ _ e]
      exact h.2.1 j (by omega)
  · rw [getD_set_ne _ _ _ _ (by omega)]
    exact h.2.2 j (by omega) hj5
theorem Up16.all {p q : Nat → Int} {ys : List Int} (h : Up16 p q ys 16) : ys = ls16 p :=
  eq_of_getD (by rw [h.1, ls16_len]) (fun i hi => by rw [h.1] at hi; rw [h.2.1 i hi, ls16_get p hi])
theorem Up16.zero (p q : Nat → Int) : Up16 p q (ls16 q) 0 := ⟨ls16_len q, fun j hj => absurd hj (by omega), fun j _ hj => ls16_get q hj⟩
theorem ls16_set (p : Nat → Int) (v : Int) : (ls16 p).set 0 v = ls16 (fun j => if j = 0 then v else p j) := by
  refine eq_of_getD (by simp [ls16]) (fun i hi => ?_)
  have hi' : i < 16 := by simpa [ls16] using hi
  rw [ls16_get _ hi']
  by_cases e : i = 0
  · subst e
    rw [getD_set_self _ _ _ (by rw [ls16_len]; omega)]; rfl
  · rw [getD_set_ne _ _ _ _ (by omega), ls16_get _ hi', if_neg e]
def it16 (f : Nat → Int) : Nat → Nat → Int
  | 0 => f
  | k + 1 => r16 (it16 f k)
def In60 (f : Nat → Int) : Prop := ∀ j, -1152921504606846976 ≤ f j ∧ f j ≤ 1152921504606846976
theorem it16_in {f : Nat → Int} (hf : In60 f) : ∀ k, In60 (it16 f k)
  | 0 => hf
  | k + 1 => fun j => by
    have := r16_bd (f := it16 f k) (M := 17592454500000) (by omega) (fun j => by have := it16_in hf k j; omega) j
    show _ ≤ r16 (it16 f k) j ∧ r16 (it16 f k) j ≤ _
    omega
abbrev a16 (f : Nat → Int) : Array Value := ((ls16 f).map (Value.int .i64)).toArray
theorem a16_size (f : Nat → Int) : (a16 f).size = 16 := by simp [a16, ls16]
theorem a16_one (f : Nat → Int) : (a16 f).all (·.oneCell') = true := all_oneCell_toArray (oneCells _ _)
theorem z16 : (#[.int .i64 0, .int .i64 0, .int .i64 0, .int .i64 0, .int .i64 0, .int .i64 0, .int .i64 0, .int .i64 0, .int .i64 0, .int .i64 0, .int .i64 0, .int .i64 0, .int .i64 0, .int .i64 0, .int .i64 0, .int .i64 0] : Array Value) = a16 (fun _ => 0) := rfl
theorem u50 : Tryz.prog.underlying 128 = some (.array 16 2) := by kernel_rfl
theorem i50 : (Tryz.prog.info? 128).map (·.size) = some 16 := by kernel_rfl
set_option maxHeartbeats 2000000 in
theorem l2Carry_any (w : World) (f : Nat → Int) (hf : In60 f) :
    Calls Tryz.prog 98 #[ag16 f] w fun r w' => r = .returned (ag16 (cry f)) ∧ Below w.heap.size w w' := by
  show Calls Tryz.prog 98 #[.agg (a16 f)] w fun r w' => r = .returned (.agg (a16 (it16 f 3))) ∧ Below w.heap.size w w'
  have B0 := blk16 w 128 f
  have n0 : Below w.heap.size w (w.alloc (.cells (a16 f) 128)) := (Below.refl _ _).alloc (Nat.le_refl _) _
  have s0 : (w.alloc (.cells (a16 f) 128)).heap.size = w.heap.size + 1 := by simp
  obtain ⟨A, hA⟩ : ∃ A, A = a16 f := ⟨_, rfl⟩
  change Blk (w.alloc (.cells (a16 f) 128)) _ _ _ at B0
  rw [← hA] at B0 n0 s0 ⊢
  clear hA
  go_enter Tryz.func98, Tryz.ntmps98
  go_wp2
  generalize w.alloc (.cells A 128) = wa at *
  rw [z16]
  have B1 := blk16 wa 128 (fun _ => 0)
  have n1 : Below wa.heap.size wa (wa.alloc (.cells (a16 (fun _ => 0)) 128)) := (Below.refl _ _).alloc (Nat.le_refl _) _
  rw [s0] at B1
  change Blk (wa.alloc (.cells (a16 (fun _ => 0)) 128)) _ _ _ at B1
  generalize wa.alloc (.cells (a16 (fun _ => 0)) 128) = wb at *
  have E0 := B0.up n1
  have N1 := nxt n0 n1
  clear B0 n0 n1 s0
  go_loopw [3] (fun i wr => ∃ (k : Nat), k ≤ 3 ∧ i = .int .i64 k ∧ Blk wr w.heap.size .i64 (ls16 (it16 f k)) ∧ Blk wr (w.heap.size + 1) .i64 (ls16 (fun _ => 0)) ∧ Below w.heap.size w wr) (fun i _ => 3 - (intOf i).toNat)
  case atStart => exact ⟨0, by omega, rfl, E0, B1, N1⟩
  case round =>
    clear E0 B1 N1
    obtain ⟨k, hk, rfl, hB, hR, hN⟩ := hrel
    by_cases hlt : k < 3
    · have k2 : decide ((k : Int) < 3) = true := by simp; omega
      have hin := it16_in hf k
      obtain ⟨q, hq⟩ : ∃ q, q = it16 f k := ⟨_, rfl⟩
      have hq' : Hid (it16 f (k + 1) = r16 q) := by show _ = _; rw [hq]; rfl
      rw [← hq] at hB hin
      clear hq
      have cb := fun j => c16_bd (f := q) (M := 17592454500000) (by omega) (fun j => by have := hin j; omega) j
      go_wp2
      go_loopw [4, 5] (fun c i wq => ∃ (j : Nat) (ys : List Int), j ≤ 16 ∧ i = .int .i64 j ∧ c = .int .i64 (c16 q j) ∧ Up16 (l16 q) q ys j ∧ Blk wq w.heap.size .i64 ys ∧ Blk wq (w.heap.size + 1) .i64 (ls16 (fun _ => 0)) ∧ Below w.heap.size w wq) (fun _ i _ => 16 - (intOf i).toNat)
      case atStart => exact ⟨0, _, by omega, rfl, rfl, Up16.zero _ q, hB, hR, hN⟩
      case round =>
        clear hB hR hN
        obtain ⟨j, ys, hj, rfl, rfl, hU, hB, hR, hN⟩ := hrel
        by_cases hjt : j < 16
        · have R := hU.step hjt
          have hcy := hB.cell (i := j) (by rw [hU.1]; exact hjt)
          rw [hU.2.2 j (Nat.le_refl _) hjt] at hcy
          have hfy := hB.free j
          have j2 : (j : Int) < 16 := by omega
          have cj := cb j
          have qj := hin j
          have S := hB.store j (l16 q j)
          have S1 := hR.keep6 (g' := w.heap.size) (k := j) (v := .int .i64 (l16 q j)) (by omega)
          have Sn : Below w.heap.size w (wr.setCell ⟨w.heap.size, j, none⟩ (.int .i64 (l16 q j))) := hN.setCell (Nat.le_refl _) _
          have E1 : l16 q j = (q j + c16 q j) % 65536 := by unfold l16; rw [Int.add_comm]
          have F : Hid (c16 q (j + 1) = (q j + c16 q j) / 65536) := by show _ = _; rw [c16, Int.add_comm]
          rw [E1] at R S S1 Sn
          have m1 := and65535 (q j + c16 q j)
          clear hU hB hR hN cb hin E1 hf
          generalize q j = z at *
          generalize c16 q j = c at *
          go_wp2
          go_roundw
          case rel => exact ⟨j + 1, _, by omega, by go_num, by rw [F.out], R, S, S1, Sn⟩
          case measure => simp [intOf]; omega
        · obtain rfl : j = 16 := by omega
          have hy := hU.all
          subst hy
          have c0 : wr.cell? ⟨w.heap.size, 0, none⟩ = some (.int .i64 (l16 q 0)) := by rw [hB.cell (i := 0) (by rw [ls16_len]; omega), ls16_get _ (by omega)]
          have f0 := hB.free 0
          have l0 := l16_bd q 0
          have c5 := cb 16
          have S := hB.store 0 (l16 q 0 + 38 * c16 q 16)
          have S1 := hR.keep6 (g' := w.heap.size) (k := 0) (v := .int .i64 (l16 q 0 + 38 * c16 q 16)) (by omega)
          have Sn : Below w.heap.size w (wr.setCell ⟨w.heap.size, 0, none⟩ (.int .i64 (l16 q 0 + 38 * c16 q 16))) := hN.setCell (Nat.le_refl _) _
          rw [ls16_set] at S
          have S' : Blk (wr.setCell ⟨w.heap.size, 0, none⟩ (.int .i64 (l16 q 0 + 38 * c16 q 16))) w.heap.size .i64 (ls16 (r16 q)) := S
          clear hU hB hR hN cb hin S hf
          generalize l16 q 0 = l at *
          generalize c16 q 16 = c at *
          go_wp2
          go_roundw
          case rel => exact ⟨k + 1, by omega, by go_num, by rw [hq'.out]; exact S', S1, Sn⟩
          case measure => simp [intOf]; omega
    · obtain rfl : k = 3 := by omega
      obtain ⟨t, hB⟩ := hB
      obtain ⟨t2, hR⟩ := hR
      have hne : w.heap.size + 1 ≠ w.heap.size := by omega
      have SR : ((wr.setRow (w.heap.size + 1) (a16 (it16 f 3))).heap[w.heap.size + 1]?) = some (.cells (a16 (it16 f 3)) t2 (0, 0)) := setRow_heap _ _ _ _ _ _ hR
      have SN : Below w.heap.size w (wr.setRow (w.heap.size + 1) (a16 (it16 f 3))) := hN.trans ⟨rfl, rfl, rfl, by simp, fun i hi => setRow_other wr _ i _ (by omega)⟩
      go_upto_region 12 with fail
      go_wp2_with (first | (refine wpList_load_row rfl 128 (.tmp 1) rfl w.heap.size rfl t (a16 (it16 f 3)) (0, 0) (.array 16 2) hB u50 rfl (by rw [a16_size]; exact i50) ?_) | (refine wpList_store_row rfl 128 (.tmp 2) (.tmp 32) rfl (w.heap.size + 1) (a16 (it16 f 3)) rfl rfl t2 (a16 (fun _ => 0)) hR (by rw [a16_size]; exact i50) (by rw [a16_size, a16_size]) (a16_one _) ?_))
      exact bodyPost_ret (v := .agg (a16 (it16 f 3))) (results_cell_row Tryz.results98 _ _ (w.heap.size + 1) t2 (a16 (it16 f 3)) (0, 0) (.array 16 2) rfl SR u50 rfl (by rw [a16_size]; exact i50)) rfl ⟨rfl, SN⟩
end Go.Proofs.YtkpomobhjkikeaaGreatDoor
namespace Go.Proofs.YtkpomobhjkikeaaGreatDoor
set_option maxRecDepth 100000
open Go.RowKit
theorem s16_congr {u v : Nat → Int} : ∀ k, (∀ j, j < k → u j = v j) → s16 u k = s16 v k
  | 0, _ => rfl
  | k + 1, h => by rw [s16, s16, s16_congr k (fun j hj => h j (by omega)), h k (by omega)]
theorem s16_upd (p : Nat → Int) (q : Nat) (v : Int) : ∀ n, s16 (fun k => if k = q then v else p k) n = s16 p n + if q < n then (v - p q) * 65536 ^ q else 0
  | 0 => by simp [s16]
  | n + 1 => by
    rw [s16, s16, s16_upd p q v n]
    by_cases e : n = q
    · subst e
      rw [if_pos rfl, if_neg (by omega), if_pos (by omega), Int.sub_mul]; omega
    · rw [if_neg e]
      by_cases h : q < n
      · rw [if_pos h, if_pos (by omega)]; omega
      · rw [if_neg h, if_neg (by omega)]; omega
theorem getD_set_fun (cs : List Int) (q : Nat) (v : Int) (hq : q < cs.length) : (fun k => (cs.set q v).getD k 0) = fun k => if k = q then v else cs.getD k 0 := by
  funext k
  by_cases e : k = q
  · subst e; rw [if_pos rfl, getD_set_self _ _ _ hq]
  · rw [if_neg e, getD_set_ne _ _ _ _ (by omega)]
def Cl (a b : Nat → Int) (cs : List Int) (i j : Nat) : Prop :=
  cs.length = 32 ∧ (∀ k, 0 ≤ cs.getD k 0 ∧ cs.getD k 0 ≤ ((i * 16 + j : Nat) : Int) * 4294967296) ∧ s16 (fun k => cs.getD k 0) 32 = s16 a i * s16 b 16 + a i * 65536 ^ i * s16 b j
theorem Cl.step {a b : Nat → Int} {cs : List Int} {i j : Nat} (h : Cl a b cs i j) (ha : L16 a) (hb : L16 b) (hi : i < 16) (hj : j < 16) (v : Int) (hv : v = cs.getD (i + j) 0 + a i * b j) : Cl a b (cs.set (i + j) v) i (j + 1) := by
  obtain ⟨h1, h2, h3⟩ := h
  have xi := ha i hi
  have yj := hb j hj
  have m := mul_bd (A := 65535) (B := 65535) ⟨xi.1, by omega⟩ ⟨yj.1, by omega⟩
  refine ⟨by simpa using h1, fun k => ?_, ?_⟩
  · have hk := h2 k
    have hij := h2 (i + j)
    by_cases e : i + j = k
    · subst e
      rw [getD_set_self _ _ _ (by omega), hv]; omega
    · rw [getD_set_ne _ _ _ _ e]; omega
  · have hs : s16 b (j + 1) = s16 b j + b j * 65536 ^ j := rfl
    rw [getD_set_fun _ _ _ (by omega), s16_upd, if_pos (by omega), h3, hv, hs, Int.pow_add]
    generalize (65536 : Int) ^ i = p
    generalize (65536 : Int) ^ j = q
    generalize cs.getD (i + j) 0 = c
    grind
theorem Cl.row {a b : Nat → Int} {cs : List Int} {i : Nat} (h : Cl a b cs i 16) : Cl a b cs (i + 1) 0 := by
  obtain ⟨h1, h2, h3⟩ := h
  refine ⟨h1, fun k => by have := h2 k; omega, ?_⟩
  have hs : s16 a (i + 1) = s16 a i + a i * 65536 ^ i := rfl
  have h0 : s16 b 0 = 0 := rfl
  rw [h3, hs, h0]
  generalize (65536 : Int) ^ i = p
  grind
theorem Cl.zero (a b : Nat → Int) : Cl a b (List.replicate 32 0) 0 0 := by
  have e : (fun k => (List.replicate 32 (0 : Int)).getD k 0) = fun _ => 0 := by
    funext k
    by_cases h : k < 32
    · rw [List.getD_eq_getElem?_getD, List.getElem?_replicate, if_pos h]; rfl
    · rw [List.getD_eq_getElem?_getD, List.getElem?_eq_none (by simp; omega)]; rfl
  refine ⟨by simp, fun k => ?_, ?_⟩
  · have h : (List.replicate 32 (0 : Int)).getD k 0 = 0 := congrFun e k
    rw [h]; omega
  · rw [e]; simp [s16]
theorem s16_split (p : Nat → Int) (m : Nat) : ∀ n, s16 p (m + n) = s16 p m + 65536 ^ m * s16 (fun k => p (m + k)) n
  | 0 => by simp [s16]
  | n + 1 => by
    rw [← Nat.add_assoc, s16, s16_split p m n, s16, Int.pow_add, Int.mul_add, Int.mul_left_comm, Int.add_assoc]
theorem s16_lin (p q : Nat → Int) (c : Int) : ∀ n, s16 (fun k => p k + c * q k) n = s16 p n + c * s16 q n
  | 0 => by simp [s16]
  | n + 1 => by rw [s16, s16_lin p q c n, s16, s16, Int.add_mul, Int.mul_add, Int.mul_assoc]; omega
def fold (cs : List Int) (i : Nat) : Int := if i < 16 then cs.getD i 0 + 38 * cs.getD (16 + i) 0 else 0
theorem Cl.fold {a b : Nat → Int} {cs : List Int} (h : Cl a b cs 16 0) : In60 (fold cs) ∧ s16 (Go.Proofs.YtkpomobhjkikeaaGreatDoor.fold cs) 16 % PP = s16 a 16 * s16 b 16 % PP := by
  obtain ⟨h1, h2, h3⟩ := h
  refine ⟨fun j => ?_, ?_⟩
  · have a1 := h2 j
    have a2 := h2 (16 + j)
    unfold Go.Proofs.YtkpomobhjkikeaaGreatDoor.fold
    split <;> omega
  · have e1 : s16 (Go.Proofs.YtkpomobhjkikeaaGreatDoor.fold cs) 16 = s16 (fun k => cs.getD k 0 + 38 * (fun k => cs.getD (16 + k) 0) k) 16 := s16_congr 16 (fun j hj => by simp [Go.Proofs.YtkpomobhjkikeaaGreatDoor.fold, hj])
    rw [e1, s16_lin (fun k => cs.getD k 0) (fun k => cs.getD (16 + k) 0) 38 16]
    have e2 := s16_split (fun k => cs.getD k 0) 16 16
    rw [h3] at e2
    have e3 : (65536 : Int) ^ 16 = 115792089237316195423570985008687907853269984665640564039457584007913129639936 := by decide
    have e4 : a 16 * 65536 ^ 16 * s16 b 0 = 0 := by simp [s16]
    rw [e4] at e2
    rw [e3] at e2
    generalize s16 a 16 * s16 b 16 = X at *
    generalize s16 (fun k => cs.getD k 0) 16 = L at *
    generalize s16 (fun k => cs.getD (16 + k) 0) 16 = H at *
    show (L + 38 * H) % 57896044618658097711785492504343953926634992332820282019728792003956564819949 = X % 57896044618658097711785492504343953926634992332820282019728792003956564819949
    omega
theorem z32 : (#[.int .i64 0, .int .i64 0, .int .i64 0, .int .i64 0, .int .i64 0, .int .i64 0, .int .i64 0, .int .i64 0, .int .i64 0, .int .i64 0, .int .i64 0, .int .i64 0, .int .i64 0, .int .i64 0, .int .i64 0, .int .i64 0, .int .i64 0, .int .i64 0, .int .i64 0, .int .i64 0, .int .i64 0, .int .i64 0, .int .i64 0, .int .i64 0, .int .i64 0, .int .i64 0, .int .i64 0, .int .i64 0, .int .i64 0, .int .i64 0, .int .i64 0, .int .i64 0] : Array Value) = ((List.replicate 32 0).map (Value.int .i64)).toArray := rfl
set_option maxHeartbeats 2000000 in
theorem l2Mul_any (w : World) (a b : Nat → Int) (ha : L16 a) (hb : L16 b) :
    Calls Tryz.prog 75 #[ag16 a, ag16 b] w fun r w' => ∃ t, r = .returned (ag16 t) ∧ L16 t ∧ s16 t 16 % PP = s16 a 16 * s16 b 16 % PP ∧ Below w.heap.size w w' := by
  show Calls Tryz.prog 75 #[.agg (a16 a), .agg (a16 b)] w fun r w' => ∃ t, r = .returned (.agg (a16 t)) ∧ L16 t ∧ s16 t 16 % PP = s16 a 16 * s16 b 16 % PP ∧ Below w.heap.size w w'
  have B0 : Blk (w.alloc (.cells (a16 a) 128)) w.heap.size .i64 (ls16 a) := blk16 w 128 a
  have n0 : Below w.heap.size w (w.alloc (.cells (a16 a) 128)) := (Below.refl _ _).alloc (Nat.le_refl _) _
  have s0 : (w.alloc (.cells (a16 a) 128)).heap.size = w.heap.size + 1 := by simp
  have B1 : ∀ w : World, Blk (w.alloc (.cells (a16 b) 128)) w.heap.size .i64 (ls16 b) := fun w => blk16 w 128 b
  have n1 : ∀ w : World, Below w.heap.size w (w.alloc (.cells (a16 b) 128)) := fun w => (Below.refl _ _).alloc (Nat.le_refl _) _
  have s1 : ∀ w : World, (w.alloc (.cells (a16 b) 128)).heap.size = w.heap.size + 1 := fun w => by simp
  obtain ⟨A, hA⟩ : ∃ A, A = a16 a := ⟨_, rfl⟩
  obtain ⟨B, hB⟩ : ∃ A, A = a16 b := ⟨_, rfl⟩
  rw [← hA] at B0 n0 s0 ⊢
  simp only [← hB] at B1 n1 s1 ⊢
  clear hA hB
  go_enter Tryz.func75, Tryz.ntmps75
  go_wp2
  generalize w.alloc (.cells A 128) = wa at *
  have B1' := B1 wa
  have n1' := n1 wa
  have s1' := s1 wa
  rw [s0] at B1' s1'
  clear B1 n1 s1
  generalize wa.alloc (.cells B 128) = wb at *
  rw [z16]
  have B2 : Blk (wb.alloc (.cells (a16 (fun _ => 0)) 128)) wb.heap.size .i64 (ls16 (fun _ => 0)) := blk16 wb 128 (fun _ => 0)
  have n2 : Below wb.heap.size wb (wb.alloc (.cells (a16 (fun _ => 0)) 128)) := (Below.refl _ _).alloc (Nat.le_refl _) _
  have s2 : (wb.alloc (.cells (a16 (fun _ => 0)) 128)).heap.size = w.heap.size + 1 + 1 + 1 := by simp [s1']
  rw [s1'] at B2
  generalize wb.alloc (.cells (a16 (fun _ => 0)) 128) = wc at *
  rw [z32]
  have B3 : Blk (wc.alloc (.cells ((List.replicate 32 0).map (Value.int .i64)).toArray 157)) wc.heap.size .i64 (List.replicate 32 0) := ⟨157, by rw [heap_alloc_last]⟩
  have n3 : Below wc.heap.size wc (wc.alloc (.cells ((List.replicate 32 0).map (Value.int .i64)).toArray 157)) := (Below.refl _ _).alloc (Nat.le_refl _) _
  have s3 : (wc.alloc (.cells ((List.replicate 32 0).map (Value.int .i64)).toArray 157)).heap.size = w.heap.size + 1 + 1 + 1 + 1 := by simp [s2]
  rw [s2] at B3
  generalize wc.alloc (.cells ((List.replicate 32 0).map (Value.int .i64)).toArray 157) = wd at *
  have E0 := ((B0.up n1').up n2).up n3
  have E1 := (B1'.up n2).up n3
  have E2 := B2.up n3
  have N := nxt (nxt (nxt n0 n1') n2) n3
  clear B0 B1' B2 n0 n1' n2 n3 s0 s1' s2
  go_loopw [6] (fun i wr => ∃ (k : Nat) (cs : List Int), k ≤ 16 ∧ i = .int .i64 k ∧ Cl a b cs k 0 ∧ Blk wr w.heap.size .i64 (ls16 a) ∧ Blk wr (w.heap.size + 1) .i64 (ls16 b) ∧ Blk wr (w.heap.size + 1 + 1) .i64 (ls16 (fun _ => 0)) ∧ Blk wr (w.heap.size + 1 + 1 + 1) .i64 cs ∧ wr.heap.size = w.heap.size + 1 + 1 + 1 + 1 ∧ Below w.heap.size w wr) (fun i _ => 16 - (intOf i).toNat)
  case atStart => exact ⟨0, _, by omega, rfl, Cl.zero a b, E0, E1, E2, B3, s3, N⟩
  case round =>
    clear E0 E1 E2 B3 N s3
    obtain ⟨k, cs, hk, rfl, hC, hA, hB, hR, hS, hz, hN⟩ := hrel
    by_cases hlt : k < 16
    · have k2 : decide ((k : Int) < 16) = true := by simp; omega
      have k3 : (k : Int) < 16 := by omega
      have ca := hA.cell (i := k) (by rw [ls16_len]; exact hlt)
      rw [ls16_get _ hlt] at ca
      have xk := ha k hlt
      obtain ⟨x, hx⟩ : ∃ x, x = a k := ⟨_, rfl⟩
      rw [← hx] at ca xk
      have HX := hide hx
      clear hx
      go_wp2
      go_loopw [8] (fun i wq => ∃ (j : Nat) (ds : List Int), j ≤ 16 ∧ i = .int .i64 j ∧ Cl a b ds k j ∧ Blk wq w.heap.size .i64 (ls16 a) ∧ Blk wq (w.heap.size + 1) .i64 (ls16 b) ∧ Blk wq (w.heap.size + 1 + 1) .i64 (ls16 (fun _ => 0)) ∧ Blk wq (w.heap.size + 1 + 1 + 1) .i64 ds ∧ wq.heap.size = w.heap.size + 1 + 1 + 1 + 1 ∧ Below w.heap.size w wq) (fun i _ => 16 - (intOf i).toNat)
      case atStart => exact ⟨0, cs, by omega, rfl, hC, hA, hB, hR, hS, hz, hN⟩
      case round =>
        clear hC hA hB hR hS hz hN ca cs
        obtain ⟨j, ds, hj, rfl, hC, hA, hB, hR, hS, hz, hN⟩ := hrel
        by_cases hjt : j < 16
        · have j2 : (j : Int) < 16 := by omega
          have cb := hB.cell (i := j) (by rw [ls16_len]; exact hjt)
          rw [ls16_get _ hjt] at cb
          have yj := hb j hjt
          have cc := hS.cell (i := k + j) (by rw [hC.1]; omega)
          have fc := hS.free (k + j)
          have dj := hC.2.1 (k + j)
          have R := fun v hv => hC.step ha hb hlt hjt v hv
          rw [← HX.out] at R
          have m := mul_bd (A := 65535) (B := 65535) ⟨xk.1, by omega⟩ ⟨yj.1, by omega⟩
          have dm : ds.getD (k + j) 0 ≤ 1099511627776 := by omega
          obtain ⟨p, hp⟩ : ∃ p : Nat, k + j = p := ⟨_, rfl⟩
          rw [hp] at cc fc dj R dm
          have p1 : (k : Int) + (j : Int) = (p : Int) := by omega
          have p2 : IntKind.i64.wrap (p : Int) = (p : Int) := by rw [IntKind.wrap_i64]; omega
          have p3 : (p : Int) < 32 := by omega
          have S := fun v => hS.store p v
          have SA := fun v => hide (hA.keep6 (g' := w.heap.size + 1 + 1 + 1) (k := p) (v := v) (by omega))
          have SB := fun v => hide (hB.keep6 (g' := w.heap.size + 1 + 1 + 1) (k := p) (v := v) (by omega))
          have SR := fun v => hide (hR.keep6 (g' := w.heap.size + 1 + 1 + 1) (k := p) (v := v) (by omega))
          have Sn : ∀ v, Below w.heap.size w (wr.setCell ⟨w.heap.size + 1 + 1 + 1, p, none⟩ v) := fun v => hN.setCell (by show w.heap.size ≤ w.heap.size + 1 + 1 + 1; omega) v
          have Sz : ∀ v, Hid ((wr.setCell ⟨w.heap.size + 1 + 1 + 1, p, none⟩ v).heap.size = w.heap.size + 1 + 1 + 1 + 1) := fun v => by show _ = _; simp [World.setCell, hz]
          have x1 : IntKind.i64.wrap (x * b j) = x * b j := by rw [IntKind.wrap_i64]; omega
          have x2 : IntKind.i64.wrap (ds.getD p 0 + x * b j) = ds.getD p 0 + x * b j := by rw [IntKind.wrap_i64]; omega
          have R' := hide (R (ds.getD p 0 + x * b j) rfl)
          clear hC hA hB hR hS hz hN R hp dj m
          generalize b j = y at *
          generalize ds.getD p 0 = d at *
          go_wp2
          go_region
          go_wp2
          go_roundw
          case rel => exact ⟨j + 1, _, by omega, by go_num, R'.out, (SA _).out.drew, (SB _).out.drew, (SR _).out.drew, (S _).drew, (Sz _).out, (Sn _).drew⟩
          case measure => simp [intOf]; omega
        · obtain rfl : j = 16 := by omega
          have R := hide hC.row
          clear hC
          go_wp2
          go_roundw
          case rel => exact ⟨k + 1, _, by omega, by go_num, R.out, hA, hB, hR, hS, hz, hN⟩
          case measure => simp [intOf]; omega
    · obtain rfl : k = 16 := by omega
      clear hA hB
      have G := hide hC.fold
      have cw := fun j => (hC.2.1 j)
      have cl := hC.1
      clear hC
      go_wp2
      rw [z16]
      have B4 : Blk (wr.alloc (.cells (a16 (fun _ => 0)) 128)) wr.heap.size .i64 (ls16 (fun _ => 0)) := blk16 wr 128 (fun _ => 0)
      have n4 : Below wr.heap.size wr (wr.alloc (.cells (a16 (fun _ => 0)) 128)) := (Below.refl _ _).alloc (Nat.le_refl _) _
      rw [hz] at B4
      have R4 := hR.up n4
      have S4 := hS.up n4
      have N4 := nxt hN n4
      generalize wr.alloc (.cells (a16 (fun _ => 0)) 128) = we at *
      clear hR hS hN n4 hz
      go_loopw [10] (fun i wq => ∃ (j : Nat) (ys : List Int), j ≤ 16 ∧ i = .int .i64 j ∧ Up16 (fold cs) (fun _ => 0) ys j ∧ Blk wq (w.heap.size + 1 + 1) .i64 (ls16 (fun _ => 0)) ∧ Blk wq (w.heap.size + 1 + 1 + 1) .i64 cs ∧ Blk wq (w.heap.size + 1 + 1 + 1 + 1) .i64 ys ∧ Below w.heap.size w wq) (fun i _ => 16 - (intOf i).toNat)
      case atStart => exact ⟨0, _, by omega, rfl, Up16.zero _ _, R4, S4, B4, N4⟩
      case round =>
        clear R4 S4 B4 N4
        obtain ⟨j, ys, hj, rfl, hU, hR, hS, hF, hN⟩ := hrel
        by_cases hjt : j < 16
        · have j2 : (j : Int) < 16 := by omega
          have c1 := hS.cell (i := j) (by omega)
          have c2 := hS.cell (i := 16 + j) (by omega)
          have ff := hF.free j
          have cf := hF.cell (i := j) (by rw [hU.1]; exact hjt)
          generalize ys.getD j 0 = f0 at cf
          have w1 := cw j
          have w2 := cw (16 + j)
          have R := hU.step hjt
          have E : fold cs j = cs.getD j 0 + 38 * cs.getD (16 + j) 0 := if_pos hjt
          rw [E] at R
          obtain ⟨p, hp⟩ : ∃ p : Nat, 16 + j = p := ⟨_, rfl⟩
          rw [hp] at c2 w2 R
          have p1 : (j : Int) + 16 = (p : Int) := by omega
          have p2 : IntKind.i64.wrap (p : Int) = (p : Int) := by rw [IntKind.wrap_i64]; omega
          have p3 : (p : Int) < 32 := by omega
          have j3 : (j : Int) < 32 := by omega
          have S := fun v => hF.store j v
          have SR := fun v => hide (hR.keep6 (g' := w.heap.size + 1 + 1 + 1 + 1) (k := j) (v := v) (by omega))
          have SS := fun v => hide (hS.keep6 (g' := w.heap.size + 1 + 1 + 1 + 1) (k := j) (v := v) (by omega))
          have Sn : ∀ v, Below w.heap.size w (wr.setCell ⟨w.heap.size + 1 + 1 + 1 + 1, j, none⟩ v) := fun v => hN.setCell (by show w.heap.size ≤ w.heap.size + 1 + 1 + 1 + 1; omega) v
          have x1 : IntKind.i64.wrap (38 * cs.getD p 0) = 38 * cs.getD p 0 := by rw [IntKind.wrap_i64]; omega
          have x2 : IntKind.i64.wrap (cs.getD j 0 + 38 * cs.getD p 0) = cs.getD j 0 + 38 * cs.getD p 0 := by rw [IntKind.wrap_i64]; omega
          have R' := hide R
          clear hU hR hS hF hN R hp E cw cl
          generalize cs.getD j 0 = d at *
          generalize cs.getD p 0 = e at *
          go_wp2
          go_region
          go_wp2
          go_roundw
          case rel => exact ⟨j + 1, _, by omega, by go_num, R'.out, (SR _).out.drew, (SS _).out.drew, (S _).drew, (Sn _).drew⟩
          case measure => simp [intOf]; omega
        · obtain rfl : j = 16 := by omega
          have hy := hU.all
          subst hy
          clear hU cw cl hS
          have K := cry_ok G.out.1
          have hl := hR.lt
          obtain ⟨t, hF⟩ := hF
          obtain ⟨t2, hR⟩ := hR
          have SR : ∀ w2, Below wr.heap.size wr w2 → ((w2.setRow (w.heap.size + 1 + 1) (a16 (cry (fold cs)))).heap[w.heap.size + 1 + 1]?) = some (.cells (a16 (cry (fold cs))) t2 (0, 0)) := fun w2 h2 => setRow_heap _ _ _ _ _ _ ((h2.block _ hl).trans hR)
          have SN : ∀ w2, Below wr.heap.size wr w2 → Below w.heap.size w (w2.setRow (w.heap.size + 1 + 1) (a16 (cry (fold cs)))) := fun w2 h2 => (nxt hN h2).trans ⟨rfl, rfl, rfl, by simp, fun i hi => setRow_other w2 _ i _ (by omega)⟩
          go_upto_region 15 with fail
          go_wp2_with (first
            | (refine wpList_load_row rfl 128 (.tmp 9) rfl (w.heap.size + 1 + 1 + 1 + 1) rfl t (a16 (fold cs)) (0, 0) (.array 16 2) hF Go.Proofs.YtkpomobhjkikeaaGreatDoor.u50 rfl (by rw [a16_size]; exact i50) ?_)
            | (go_at_call 98; refine (l2Carry_any _ (fold cs) G.out.1).mono ?_; rintro r w2 ⟨rfl, n2⟩)
            | (refine wpList_store_row rfl 128 (.tmp 4) (.tmp 53) rfl (w.heap.size + 1 + 1) (a16 (cry (fold cs))) rfl rfl t2 (a16 (fun _ => 0)) ((n2.block _ hl).trans hR) (by rw [a16_size]; exact i50) (by rw [a16_size, a16_size]) (a16_one _) ?_))
          exact bodyPost_ret (v := .agg (a16 (cry (fold cs)))) (results_cell_row Tryz.results75 _ _ (w.heap.size + 1 + 1) t2 (a16 (cry (fold cs))) (0, 0) (.array 16 2) rfl (SR _ n2) Go.Proofs.YtkpomobhjkikeaaGreatDoor.u50 rfl (by rw [a16_size]; exact i50)) rfl ⟨_, rfl, K.1, K.2.trans G.out.2, SN _ n2⟩
end Go.Proofs.YtkpomobhjkikeaaGreatDoor
namespace Go.Proofs.YtkpomobhjkikeaaGreatDoor
set_option maxRecDepth 100000
open Go.RowKit
def df (a b : Nat → Int) (i : Nat) : Int := if i < 16 then a i - b i else 0
theorem df_in {a b : Nat → Int} (ha : L16 a) (hb : L16 b) : In60 (df a b) := fun j => by
  unfold df
  by_cases h : j < 16
  · rw [if_pos h]
    have := ha j h
    have := hb j h
    omega
  · rw [if_neg h]; omega
theorem df_val (a b : Nat → Int) : s16 (df a b) 16 = s16 a 16 - s16 b 16 := by
  rw [s16_congr 16 (u := df a b) (v := fun k => a k + (-1) * b k) (fun j hj => by simp [df, hj]; omega), s16_lin]; omega
set_option maxHeartbeats 2000000 in
theorem l2Sub_any (w : World) (a b : Nat → Int) (ha : L16 a) (hb : L16 b) :
    Calls Tryz.prog 79 #[ag16 a, ag16 b] w fun r w' => ∃ t, r = .returned (ag16 t) ∧ L16 t ∧ s16 t 16 % PP = (s16 a 16 - s16 b 16) % PP ∧ Below w.heap.size w w' := by
  show Calls Tryz.prog 79 #[.agg (a16 a), .agg (a16 b)] w fun r w' => ∃ t, r = .returned (.agg (a16 t)) ∧ L16 t ∧ s16 t 16 % PP = (s16 a 16 - s16 b 16) % PP ∧ Below w.heap.size w w'
  have B0 : Blk (w.alloc (.cells (a16 a) 128)) w.heap.size .i64 (ls16 a) := blk16 w 128 a
  have n0 : Below w.heap.size w (w.alloc (.cells (a16 a) 128)) := (Below.refl _ _).alloc (Nat.le_refl _) _
  have s0 : (w.alloc (.cells (a16 a) 128)).heap.size = w.heap.size + 1 := by simp
  have B1 : ∀ w : World, Blk (w.alloc (.cells (a16 b) 128)) w.heap.size .i64 (ls16 b) := fun w => blk16 w 128 b
  have n1 : ∀ w : World, Below w.heap.size w (w.alloc (.cells (a16 b) 128)) := fun w => (Below.refl _ _).alloc (Nat.le_refl _) _
  have s1 : ∀ w : World, (w.alloc (.cells (a16 b) 128)).heap.size = w.heap.size + 1 := fun w => by simp
  obtain ⟨A, hA⟩ : ∃ A, A = a16 a := ⟨_, rfl⟩
  obtain ⟨B, hB⟩ : ∃ A, A = a16 b := ⟨_, rfl⟩
  rw [← hA] at B0 n0 s0 ⊢
  simp only [← hB] at B1 n1 s1 ⊢
  clear hA hB
  go_enter Tryz.func79, Tryz.ntmps79
  go_wp2
  generalize w.alloc (.cells A 128) = wa at *
  have B1' := B1 wa
  have n1' := n1 wa
  have s1' := s1 wa
  rw [s0] at B1' s1'
  clear B1 n1 s1
  generalize wa.alloc (.cells B 128) = wb at *
  rw [z16]
  have B2 : Blk (wb.alloc (.cells (a16 (fun _ => 0)) 128)) wb.heap.size .i64 (ls16 (fun _ => 0)) := blk16 wb 128 (fun _ => 0)
  have n2 : Below wb.heap.size wb (wb.alloc (.cells (a16 (fun _ => 0)) 128)) := (Below.refl _ _).alloc (Nat.le_refl _) _
  rw [s1'] at B2
  generalize wb.alloc (.cells (a16 (fun _ => 0)) 128) = wc at *
  have E0 := (B0.up n1').up n2
  have E1 := B1'.up n2
  have N := nxt (nxt n0 n1') n2
  clear B0 B1' n0 n1' n2 s0 s1'
  go_loopw [5] (fun i wr => ∃ (k : Nat) (ys : List Int), k ≤ 16 ∧ i = .int .i64 k ∧ Up16 (df a b) a ys k ∧ Blk wr w.heap.size .i64 ys ∧ Blk wr (w.heap.size + 1) .i64 (ls16 b) ∧ Blk wr (w.heap.size + 1 + 1) .i64 (ls16 (fun _ => 0)) ∧ Below w.heap.size w wr) (fun i _ => 16 - (intOf i).toNat)
  case atStart => exact ⟨0, _, by omega, rfl, Up16.zero _ _, E0, E1, B2, N⟩
  case round =>
    clear E0 E1 B2 N
    obtain ⟨j, ys, hj, rfl, hU, hF, hS, hR, hN⟩ := hrel
    by_cases hjt : j < 16
    · have j2 : (j : Int) < 16 := by omega
      have c1 := hF.cell (i := j) (by rw [hU.1]; exact hjt)
      have c2 := hS.cell (i := j) (by rw [ls16_len]; exact hjt)
      rw [hU.2.2 j (Nat.le_refl _) hjt] at c1
      rw [ls16_get _ hjt] at c2
      have ff := hF.free j
      have w1 := ha j hjt
      have w2 := hb j hjt
      have R := hU.step hjt
      have E : df a b j = a j - b j := if_pos hjt
      rw [E] at R
      have S := fun v => hF.store j v
      have SR := fun v => hide (hR.keep6 (g' := w.heap.size) (k := j) (v := v) (by omega))
      have SS := fun v => hide (hS.keep6 (g' := w.heap.size) (k := j) (v := v) (by omega))
      have Sn : ∀ v, Below w.heap.size w (wr.setCell ⟨w.heap.size, j, none⟩ v) := fun v => hN.setCell (Nat.le_refl _) v
      have x2 : IntKind.i64.wrap (a j - b j) = a j - b j := by rw [IntKind.wrap_i64]; omega
      have R' := hide R
      clear hU hR hS hF hN R E
      generalize a j = d at *
      generalize b j = e at *
      go_wp2
      go_region
      go_wp2
      go_roundw
      case rel => exact ⟨j + 1, _, by omega, by go_num, R'.out, (S _).drew, (SS _).out.drew, (SR _).out.drew, (Sn _).drew⟩
      case measure => simp [intOf]; omega
    · obtain rfl : j = 16 := by omega
      have hy := hU.all
      subst hy
      clear hU hS
      have GI := df_in ha hb
      have K := cry_ok GI
      have hl := hR.lt
      obtain ⟨t, hF⟩ := hF
      obtain ⟨t2, hR⟩ := hR
      have SR : ∀ w2, Below wr.heap.size wr w2 → ((w2.setRow (w.heap.size + 1 + 1) (a16 (cry (df a b)))).heap[w.heap.size + 1 + 1]?) = some (.cells (a16 (cry (df a b))) t2 (0, 0)) := fun w2 h2 => setRow_heap _ _ _ _ _ _ ((h2.block _ hl).trans hR)
      have SN : ∀ w2, Below wr.heap.size wr w2 → Below w.heap.size w (w2.setRow (w.heap.size + 1 + 1) (a16 (cry (df a b)))) := fun w2 h2 => (nxt hN h2).trans ⟨rfl, rfl, rfl, by simp, fun i hi => setRow_other w2 _ i _ (by omega)⟩
      go_upto_region 5 with fail
      go_wp2_with (first
        | (refine wpList_load_row rfl 128 (.tmp 2) rfl w.heap.size rfl t (a16 (df a b)) (0, 0) (.array 16 2) hF Go.Proofs.YtkpomobhjkikeaaGreatDoor.u50 rfl (by rw [a16_size]; exact i50) ?_)
        | (go_at_call 98; refine (l2Carry_any _ (df a b) GI).mono ?_; rintro r w2 ⟨rfl, n2⟩)
        | (refine wpList_store_row rfl 128 (.tmp 4) (.tmp 20) rfl (w.heap.size + 1 + 1) (a16 (cry (df a b))) rfl rfl t2 (a16 (fun _ => 0)) ((n2.block _ hl).trans hR) (by rw [a16_size]; exact i50) (by rw [a16_size, a16_size]) (a16_one _) ?_))
      exact bodyPost_ret (v := .agg (a16 (cry (df a b)))) (results_cell_row Tryz.results79 _ _ (w.heap.size + 1 + 1) t2 (a16 (cry (df a b))) (0, 0) (.array 16 2) rfl (SR _ n2) Go.Proofs.YtkpomobhjkikeaaGreatDoor.u50 rfl (by rw [a16_size]; exact i50)) rfl ⟨_, rfl, K.1, by rw [K.2, df_val], SN _ n2⟩
def sml (n : Int) (i : Nat) : Int := if i = 0 then n else 0
theorem sml_val (n : Int) : ∀ k, s16 (sml n) (k + 1) = n
  | 0 => by simp [s16, sml]
  | k + 1 => by rw [s16, sml_val n k]; simp [sml]
theorem ls16_sml (n : Int) : (ls16 (fun _ => 0)).set 0 n = ls16 (sml n) := ls16_set _ n
set_option maxHeartbeats 2000000 in
theorem l2Small_any (w : World) (n : Int) (hn : 0 ≤ n ∧ n < 65536) :
    Calls Tryz.prog 77 #[.int .i64 n] w fun r w' => ∃ t, r = .returned (ag16 t) ∧ L16 t ∧ s16 t 16 % PP = n % PP ∧ Below w.heap.size w w' := by
  show Calls Tryz.prog 77 #[.int .i64 n] w fun r w' => ∃ t, r = .returned (.agg (a16 t)) ∧ L16 t ∧ s16 t 16 % PP = n % PP ∧ Below w.heap.size w w'
  have B0 : Blk (w.alloc (.cells (a16 (fun _ => 0)) 128)) w.heap.size .i64 (ls16 (fun _ => 0)) := blk16 w 128 (fun _ => 0)
  have n0 : Below w.heap.size w (w.alloc (.cells (a16 (fun _ => 0)) 128)) := (Below.refl _ _).alloc (Nat.le_refl _) _
  have s0 : (w.alloc (.cells (a16 (fun _ => 0)) 128)).heap.size = w.heap.size + 1 := by simp
  go_enter Tryz.func77, Tryz.ntmps77
  go_upto_region 1 with fail
  rw [z16]
  generalize w.alloc (.cells (a16 (fun _ => 0)) 128) = wa at *
  have B1 : Blk (wa.alloc (.cells (a16 (fun _ => 0)) 128)) wa.heap.size .i64 (ls16 (fun _ => 0)) := blk16 wa 128 (fun _ => 0)
  have n1 : Below wa.heap.size wa (wa.alloc (.cells (a16 (fun _ => 0)) 128)) := (Below.refl _ _).alloc (Nat.le_refl _) _
  rw [s0] at B1
  have E0 := B0.up n1
  have N := nxt n0 n1
  go_upto_region 2 with fail
  rw [z16]
  generalize wa.alloc (.cells (a16 (fun _ => 0)) 128) = wb at *
  clear B0 n0 n1
  have c0 : wb.cell? ⟨w.heap.size + 1, 0, none⟩ = some (.int .i64 0) := by rw [B1.cell (i := 0) (by rw [ls16_len]; omega), ls16_get _ (by omega)]
  have f0 := B1.free 0
  have S := B1.store 0 n
  rw [ls16_sml] at S
  have S1 := E0.keep6 (g' := w.heap.size + 1) (k := 0) (v := .int .i64 n) (by omega)
  have Sn : Below w.heap.size w (wb.setCell ⟨w.heap.size + 1, 0, none⟩ (.int .i64 n)) := N.setCell (by show w.heap.size ≤ w.heap.size + 1; omega) _
  clear B1 E0 N
  go_upto_region 3 with fail
  generalize wb.setCell ⟨w.heap.size + 1, 0, none⟩ (.int .i64 n) = wc at *
  have GI : In60 (sml n) := fun j => by unfold sml; split <;> omega
  have K := cry_ok GI
  have hl := S1.lt
  obtain ⟨t, hF⟩ := S
  obtain ⟨t2, hR⟩ := S1
  have SR : ∀ w2, Below wc.heap.size wc w2 → ((w2.setRow w.heap.size (a16 (cry (sml n)))).heap[w.heap.size]?) = some (.cells (a16 (cry (sml n))) t2 (0, 0)) := fun w2 h2 => setRow_heap _ _ _ _ _ _ ((h2.block _ hl).trans hR)
  have SN : ∀ w2, Below wc.heap.size wc w2 → Below w.heap.size w (w2.setRow w.heap.size (a16 (cry (sml n)))) := fun w2 h2 => (nxt Sn h2).trans ⟨rfl, rfl, rfl, by simp, fun i hi => setRow_other w2 _ i _ (by omega)⟩
  go_wp2_with (first
    | (refine wpList_load_row rfl 128 (.tmp 3) rfl (w.heap.size + 1) rfl t (a16 (sml n)) (0, 0) (.array 16 2) hF Go.Proofs.YtkpomobhjkikeaaGreatDoor.u50 rfl (by rw [a16_size]; exact i50) ?_)
    | (go_at_call 98; refine (l2Carry_any _ (sml n) GI).mono ?_; rintro r w2 ⟨rfl, n2⟩)
    | (refine wpList_store_row rfl 128 (.tmp 2) (.tmp 7) rfl w.heap.size (a16 (cry (sml n))) rfl rfl t2 (a16 (fun _ => 0)) ((n2.block _ hl).trans hR) (by rw [a16_size]; exact i50) (by rw [a16_size, a16_size]) (a16_one _) ?_))
  exact bodyPost_ret (v := .agg (a16 (cry (sml n)))) (results_cell_row Tryz.results77 _ _ w.heap.size t2 (a16 (cry (sml n))) (0, 0) (.array 16 2) rfl (SR _ n2) Go.Proofs.YtkpomobhjkikeaaGreatDoor.u50 rfl (by rw [a16_size]; exact i50)) rfl ⟨_, rfl, K.1, by rw [K.2, sml_val], SN _ n2⟩
end Go.Proofs.YtkpomobhjkikeaaGreatDoor
