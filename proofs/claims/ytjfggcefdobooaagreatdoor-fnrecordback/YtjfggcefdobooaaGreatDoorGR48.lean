import Derived.Test.YtjfggcefdobooaaGreatDoorGR47
import Derived.Test.YtjfggcefdobooaaGreatDoorGR43
import Derived.Test.YtjfggcefdobooaaGreatDoorGR44
import Derived.Deep.DeepCutAuto
import Derived.Test.YtjfggcefdobooaaGreatDoorGR41
import Derived.Test.YtjfggcefdobooaaGreatDoorGR2
import Derived.Test.YtjfggcefdobooaaGreatDoorGR42
import Derived.Maps.AppendAt
import Derived.Test.YtjfggcefdobooaaGreatDoorGR45
namespace Go.Proofs.YtjfggcefdobooaaGreatDoor
set_option maxRecDepth 100000
open Go Go.RowKit
def RdT (w : World) (g : Nat) (a : Option Addr) (ls : List (List UInt8)) : Prop :=
  0 < ls.length → ∃ off, a = some ⟨g, off, none⟩ ∧ ∀ i, i < ls.length → w.cell? ⟨g, off + i, none⟩ = some (tx (ls.getD i []))
theorem RdT.nil (w : World) (g : Nat) (a : Option Addr) : RdT w g a [] := fun h => absurd h (by simp)
theorem RdT.lt {w : World} {g : Nat} {a : Option Addr} {ls : List (List UInt8)} (h : RdT w g a ls) (h0 : 0 < ls.length) : g < w.heap.size := by
  obtain ⟨off, ha, hc⟩ := h h0
  exact block_lt_of_cell (hc 0 h0)
theorem RdT.of_block {w w' : World} {g : Nat} {a : Option Addr} {ls : List (List UInt8)} (h : RdT w g a ls) (hb : w'.heap[g]? = w.heap[g]?) : RdT w' g a ls := by
  intro h0
  obtain ⟨off, ha, hc⟩ := h h0
  exact ⟨off, ha, fun i hi => (World.cell?_of_block (a := ⟨g, off + i, none⟩) hb).trans (hc i hi)⟩
theorem RdT.up {w w' : World} {g : Nat} {a : Option Addr} {ls : List (List UInt8)} (h : RdT w g a ls) (hb : Below w.heap.size w w') : RdT w' g a ls := by
  by_cases h0 : 0 < ls.length
  · exact h.of_block (hb.block g (h.lt h0))
  · exact fun h1 => absurd h1 h0
def BlkT (w : World) (g : Nat) (ls : List (List UInt8)) : Prop := w.heap[g]? = some (.cells (ls.map tx).toArray 9 (0, 0))
theorem BlkT.lt {w : World} {g : Nat} {ls : List (List UInt8)} (h : BlkT w g ls) : g < w.heap.size := (Array.getElem?_eq_some_iff.1 h).1
theorem BlkT.cell {w : World} {g : Nat} {ls : List (List UInt8)} (h : BlkT w g ls) {i : Nat} (hi : i < ls.length) : w.cell? ⟨g, i, none⟩ = some (tx (ls.getD i [])) := by
  rw [cell_of_row w g i _ 9 (0, 0) h]
  simp [hi]
theorem BlkT.free {w : World} {g : Nat} {ls : List (List UInt8)} (h : BlkT w g ls) (i : Nat) : w.frozen? ⟨g, i, none⟩ = false := frozen_of_row w g i _ 9 h
theorem BlkT.store {w : World} {g : Nat} {ls : List (List UInt8)} (h : BlkT w g ls) (i : Nat) (z : List UInt8) : BlkT (w.setCell ⟨g, i, none⟩ (tx z)) g (ls.set i z) := by
  show _ = _
  rw [heap_setCell_same w g i _ 9 _ h]
  simp [List.map_set]
theorem BlkT.rd {w : World} {g : Nat} {ls : List (List UInt8)} (h : BlkT w g ls) : RdT w g (some ⟨g, 0, none⟩) ls := fun _ => ⟨0, rfl, fun i hi => by rw [Nat.zero_add]; exact h.cell hi⟩
theorem BlkT.up {w w' : World} {g : Nat} {ls : List (List UInt8)} (h : BlkT w g ls) (hb : Below w.heap.size w w') : BlkT w' g ls := (hb.block g h.lt).trans h
theorem BlkT.of_made {w : World} {base : Nat} {g n : Nat} (h : w.ownsRow base 9 1 (.slice (some ⟨g, 0, none⟩) n n) n (madeCells (Value.string ⟨#[]⟩).cells (n * 1)).toList) : BlkT w g (List.replicate n []) := by
  rcases h.2 with ⟨h', _⟩ | ⟨g', cap', cur, h', _, hg, _, _, hcs, htake⟩
  · simp at h'
  · simp only [Value.slice.injEq, Option.some.injEq, Addr.mk.injEq, and_true, true_and] at h'
    obtain ⟨rfl, rfl⟩ := h'
    show _ = _
    rw [hg]
    have : cur = ((List.replicate n ([] : List UInt8)).map tx).toArray := by
      apply Array.ext'
      rw [List.take_of_length_le (by rw [Array.length_toList, hcs]; exact Nat.le_refl _)] at htake
      rw [htake]
      apply List.ext_getElem
      · simp [madeCells]
      · intro i h1 h2
        simp [madeCells, Value.cells, tx, Nat.mod_one]
    rw [this]
def CopT (xs ys : List (List UInt8)) (k : Nat) : Prop := ys.length = xs.length ∧ ys.take k = xs.take k
theorem CopT.step {xs ys : List (List UInt8)} {k : Nat} (h : CopT xs ys k) (hk : k < xs.length) : CopT xs (ys.set k (xs.getD k [])) (k + 1) := by
  refine ⟨by simpa using h.1, ?_⟩
  have hk' : k < ys.length := by rw [h.1]; exact hk
  rw [List.take_succ_eq_append_getElem (by simpa using hk'), List.take_succ_eq_append_getElem hk, List.take_set]
  rw [List.getElem_set_self, List.set_eq_of_length_le (by rw [List.length_take]; omega), h.2]
  simp [hk]
end Go.Proofs.YtjfggcefdobooaaGreatDoor
namespace Go.Proofs.YtjfggcefdobooaaGreatDoor
set_option maxRecDepth 100000
open Go Go.RowKit
structure Dra (w : World) (s g : Nat) (a : Option Addr) (c : Nat) (xs : List Int) (t : Int) : Prop where
  S : Src w s a xs.length c t
  R : Rd w g a .u8 xs
  ne : 0 < xs.length → g ≠ s
  hb : Byt xs
  hl : xs.length ≤ 1048576
  t0 : 0 ≤ t
theorem Dra.up {w w' : World} {s g : Nat} {a : Option Addr} {c : Nat} {xs : List Int} {t : Int} (h : Dra w s g a c xs t) (n : Below w.heap.size w w') : Dra w' s g a c xs t := ⟨h.S.up n, h.R.up n, h.ne, h.hb, h.hl, h.t0⟩
theorem next_D {w : World} {s g : Nat} {a : Option Addr} {c : Nat} {xs : List Int} {t n : Int} (d : Dra w s g a c xs t) (t1 : t ≤ 1048576) (n0 : 1 ≤ n) (n1 : n ≤ 1099511627776) :
    Calls Tryz.prog 13 #[.pointer (some ⟨s, 0, none⟩), .int .i64 n] w fun e w' => ∃ r : Nat, e = .returned (.int .i64 (r : Int)) ∧ (r : Int) < n ∧ Dra w' s g a c xs (t + 1) ∧ But s w w' := by
  refine (l1Next_any w s g a c xs t n d.S d.R d.ne d.hb d.hl d.t0 t1 n0 n1).mono ?_
  rintro e w' ⟨r, rfl, ⟨h0, h1⟩, S, O⟩
  obtain ⟨k, rfl⟩ := Int.eq_ofNat_of_zero_le h0
  have B := But.ofOnly O
  exact ⟨k, rfl, h1, ⟨S, d.R.but B d.ne, d.ne, d.hb, d.hl, by have := d.t0; omega⟩, B⟩
theorem chance_D {w : World} {s g : Nat} {a : Option Addr} {c : Nat} {xs : List Int} {t n : Int} (d : Dra w s g a c xs t) (t1 : t ≤ 1048576) (n0 : 1 ≤ n) (n1 : n ≤ 1048576) :
    Calls Tryz.prog 14 #[.pointer (some ⟨s, 0, none⟩), .int .i64 n] w fun e w' => ∃ b, e = .returned (.bool b) ∧ Dra w' s g a c xs (t + 1) ∧ But s w w' := by
  refine (l1Chance_any w s g a c xs t n d.S d.R d.ne d.hb d.hl d.t0 t1 n0 n1).mono ?_
  rintro e w' ⟨b, rfl, S, O⟩
  have B := But.ofOnly O
  exact ⟨b, rfl, ⟨S, d.R.but B d.ne, d.ne, d.hb, d.hl, by have := d.t0; omega⟩, B⟩
end Go.Proofs.YtjfggcefdobooaaGreatDoor
namespace Go.Proofs.YtjfggcefdobooaaGreatDoor
set_option maxRecDepth 100000
open Go Go.RowKit
set_option maxHeartbeats 2000000 in
theorem l1NextX_any (w : World) (s g : Nat) (a : Option Addr) (c : Nat) (xs : List Int) (t n : Int) (hs : Src w s a xs.length c t) (hr : Rd w g a .u8 xs) (hne : 0 < xs.length → g ≠ s) (hb : Byt xs) (hl : xs.length ≤ 4194304)
    (t0 : 0 ≤ t) (t1 : t ≤ 1048576) (n0 : 1 ≤ n) (n1 : n ≤ 1048576) :
    Calls Tryz.prog 13 #[.pointer (some ⟨s, 0, none⟩), .int .i64 n] w fun e w' => ∃ r, e = .returned (.int .i64 r) ∧ (0 ≤ r ∧ r < n) ∧ Src w' s a xs.length c (t + 1) ∧ Only s w w' := by
  have c0 := hs.code
  have c1 := hs.at_
  have f1 := hs.free
  have k1 : (w.setCell ⟨s, 1, none⟩ (.int .i64 (t + 1))).cell? ⟨s, 1, none⟩ = some (.int .i64 (t + 1)) := World.cell?_setCell_same _ _ _ hs.at_
  have k0 : (w.setCell ⟨s, 1, none⟩ (.int .i64 (t + 1))).cell? ⟨s, 0, none⟩ = some (.slice a xs.length c) := by rw [World.cell?_setCell_other (h := by simp)]; exact hs.code
  have tn : decide (n < 1) = false := by simp; omega
  by_cases h0 : xs.length = 0
  · have hk : ((xs.length : Int) == 0) = true := by simp [h0]
    have r0 := Int.emod_nonneg (t * 7) (show n ≠ 0 by omega)
    have r1 := Int.emod_lt_of_pos (t * 7) (show 0 < n by omega)
    have S := hs.step (t + 1) 0
    have O := Only.step w s (.int .i64 (t + 1)) 0
    clear h0
    go_enter Tryz.func13, Tryz.ntmps13
    go_wp2
    go_ret
    exact ⟨_, rfl, ⟨r0, r1⟩, S, O⟩
  · have hk : ((xs.length : Int) == 0) = false := beq_eq_false_iff_ne.2 (by omega)
    obtain ⟨off, rfl, hc⟩ := hr (by omega)
    have gs : g ≠ s := hne (by omega)
    obtain ⟨i1, hi1⟩ := Int.eq_ofNat_of_zero_le (Int.emod_nonneg t (show (xs.length : Int) ≠ 0 by omega))
    have li1 : (i1 : Int) < (xs.length : Int) := by rw [← hi1]; exact Int.emod_lt_of_pos _ (by omega)
    obtain ⟨i2, hi2⟩ := Int.eq_ofNat_of_zero_le (Int.emod_nonneg (t + 1) (show (xs.length : Int) ≠ 0 by omega))
    have li2 : (i2 : Int) < (xs.length : Int) := by rw [← hi2]; exact Int.emod_lt_of_pos _ (by omega)
    obtain ⟨q, hq⟩ : ∃ q, t / (xs.length : Int) = q := ⟨_, rfl⟩
    have q0 : 0 ≤ q := by rw [← hq]; exact Int.ediv_nonneg t0 (by omega)
    have q1 : q ≤ 1048576 := by rw [← hq]; exact Int.le_trans (Int.ediv_le_self _ t0) t1
    have x1 : (w.setCell ⟨s, 1, none⟩ (.int .i64 (t + 1))).cell? ⟨g, off + i1, none⟩ = some (.int .u8 (xs.getD i1 0)) := by rw [World.cell?_setCell_other (h := fun e => gs (by simpa using (congrArg Addr.block e).symm))]; exact hc i1 (by omega)
    have x2 : (w.setCell ⟨s, 1, none⟩ (.int .i64 (t + 1))).cell? ⟨g, off + i2, none⟩ = some (.int .u8 (xs.getD i2 0)) := by rw [World.cell?_setCell_other (h := fun e => gs (by simpa using (congrArg Addr.block e).symm))]; exact hc i2 (by omega)
    have b1 := hb i1
    have b2 := hb i2
    have S := fun m => hs.step (t + 1) m
    have O := fun m => Only.step w s (.int .i64 (t + 1)) m
    generalize xs.getD i1 0 = x at *
    generalize xs.getD i2 0 = y at *
    clear hc hs hr h0
    by_cases hn : n ≤ 200
    · have tn2 : decide (200 < n) = false := by simp; omega
      have r0 := Int.emod_nonneg (x + q * 37) (show n ≠ 0 by omega)
      have r1 := Int.emod_lt_of_pos (x + q * 37) (show 0 < n by omega)
      clear x2 hi2 li2 b2
      go_enter Tryz.func13, Tryz.ntmps13
      go_wp2
      go_quiet (fail)
      go_wp2
      go_ret
      exact ⟨_, rfl, ⟨r0, r1⟩, S _, O _⟩
    · have tn2 : decide (200 < n) = true := by simp; omega
      have r0 := Int.emod_nonneg ((x + q * 37) * 251 + y * 13 + t) (show n ≠ 0 by omega)
      have r1 := Int.emod_lt_of_pos ((x + q * 37) * 251 + y * 13 + t) (show 0 < n by omega)
      go_enter Tryz.func13, Tryz.ntmps13
      go_wp2
      go_quiet (fail)
      go_wp2
      go_quiet (fail)
      go_wp2
      go_ret
      exact ⟨_, rfl, ⟨r0, r1⟩, S _, O _⟩
set_option maxHeartbeats 400000 in
theorem l1ChanceX_any (w : World) (s g : Nat) (a : Option Addr) (c : Nat) (xs : List Int) (t n : Int) (hs : Src w s a xs.length c t) (hr : Rd w g a .u8 xs) (hne : 0 < xs.length → g ≠ s) (hb : Byt xs) (hl : xs.length ≤ 4194304)
    (t0 : 0 ≤ t) (t1 : t ≤ 1048576) (n0 : 1 ≤ n) (n1 : n ≤ 1048576) :
    Calls Tryz.prog 14 #[.pointer (some ⟨s, 0, none⟩), .int .i64 n] w fun e w' => ∃ b, e = .returned (.bool b) ∧ Src w' s a xs.length c (t + 1) ∧ Only s w w' := by
  go_enter Tryz.func14, Tryz.ntmps14
  go_wp2_with fail
  refine (l1NextX_any w s g a c xs t n hs hr hne hb hl t0 t1 n0 n1).mono ?_
  rintro e w1 ⟨r, rfl, _, S1, O1⟩
  go_wp2
  go_ret
  exact ⟨_, rfl, S1, O1⟩
end Go.Proofs.YtjfggcefdobooaaGreatDoor
namespace Go.Proofs.YtjfggcefdobooaaGreatDoor
set_option maxRecDepth 100000
open Go Go.RowKit
theorem byt_setC {ys : List Int} (h : Byt ys) (p : Nat) (x : Int) (h0 : 0 ≤ x) (h1 : x < 256) : Byt (ys.set p x) := by
  intro i
  rw [List.getD_eq_getElem?_getD, List.getElem?_set]
  by_cases hp : p = i
  · rw [if_pos hp]
    split
    · exact ⟨h0, h1⟩
    · exact ⟨by simp, by simp⟩
  · rw [if_neg hp]
    have := h i
    rw [List.getD_eq_getElem?_getD] at this
    exact this
set_option maxHeartbeats 2000000 in
theorem l11Bytes_any (w : World) (s g : Nat) (a : Option Addr) (c : Nat) (xs : List Int) (t : Int) (n : Nat) (hs : Src w s a xs.length c t) (hr : Rd w g a .u8 xs) (hne : 0 < xs.length → g ≠ s) (hb : Byt xs) (hl : xs.length ≤ 4194304)
    (t0 : 0 ≤ t) (t1 : t ≤ 1000000) (hn : n ≤ 3000) :
    Calls Tryz.prog 39 #[.pointer (some ⟨s, 0, none⟩), .int .i64 (n : Int)] w fun e w' => ∃ v ys, e = .returned v ∧ ys.length = n ∧ Byt ys ∧ RowB w' w.heap.size v ys ∧ Src w' s a xs.length c (t + 1) ∧ But s w w' := by
  obtain ⟨i0, hi, hz0, hz1, hz2⟩ := info_parts Tryz.info5
  have NX := hide (l1NextX_any w s g a c xs t 256 hs hr hne hb hl t0 (by omega) (by omega) (by omega))
  have sl := hs.lt
  clear hs hr hne
  go_enter Tryz.func39, Tryz.ntmps39
  go_wp2_with fail
  refine NX.out.mono ?_
  rintro e w0 ⟨r, rfl, ⟨r0, r1⟩, S0, O0⟩
  have z0 := hide O0.size
  clear NX
  go_wp2_with (at_make; refine wpList_make_full _ rfl _ _ 22 rfl w0.heap.size 5 i0 (.int .u8 0) 1 Tryz.underlying22 hi hz0 hz1 .i64 .i64 _ _ n rfl rfl rfl rfl (by rw [hz2]; omega) (by unfold maxLen; omega) (Nat.le_refl _) ?_; intro w1 hown hgrow)
  have hB0 := Blk.of_made hown
  have T0 := TyB.of_made hown
  have hN0 : Below w0.heap.size w0 w1 := (Below.refl _ _).grown hgrow (Nat.le_refl _) (by simp)
  have bz : Byt (List.replicate n (0 : Int)) := fun i => by
    rw [List.getD_eq_getElem?_getD, List.getElem?_replicate]
    split <;> exact ⟨by simp, by simp⟩
  clear hown hgrow
  go_loopw [7] (fun i wr => ∃ (k : Nat) (ys : List Int), k ≤ n ∧ i = .int .i64 (k : Int) ∧ Hid (ys.length = n) ∧ Hid (Byt ys) ∧ Blk wr w0.heap.size .u8 ys ∧ TyB wr w0.heap.size ∧ Below w0.heap.size w0 wr) (fun i _ => n - (intOf i).toNat)
  case atStart => exact ⟨0, _, Nat.zero_le _, rfl, by show _ = _; simp, bz, hB0, T0, hN0⟩
  case round =>
    clear hB0 T0 hN0 bz
    obtain ⟨k, ys, hk, rfl, yl, yb, B, T, N⟩ := hrel
    by_cases hlt : k < n
    · have k0 : (k : Int) < (n : Int) := by omega
      have k1 : decide ((k : Int) < (n : Int)) = true := by simp; omega
      have kk : (k : Int) * (k : Int) ≤ 9000000 := by
        have : (k : Int) ≤ 3000 := by omega
        calc (k : Int) * (k : Int) ≤ 3000 * 3000 := Int.mul_le_mul this this (by omega) (by omega)
          _ = 9000000 := by decide
      have kp : (0 : Int) ≤ (k : Int) * (k : Int) := Int.mul_nonneg (by omega) (by omega)
      have hl : k < ys.length := by rw [yl.out]; exact hlt
      have hcy := B.cell hl
      have hfy := B.free k
      have YL := yl
      have YB := yb
      have KN := hide kk
      go_wp2
      go_roundw
      case rel =>
        refine ⟨k + 1, _, by omega, by go_num, ?_, ?_, B.store k _, T.set k _, N.setCell (Nat.le_refl _) _⟩
        · show _ = _
          rw [List.length_set]
          exact YL.out
        · exact byt_setC YB.out k _ (by omega) (by omega)
      case measure => simp [intOf]; omega
    · obtain rfl : k = n := by omega
      have k1 : decide ((k : Int) < (k : Int)) = false := by simp
      have RB := hide (RowB.of_tyb (B := w.heap.size) B T (by have := z0.out; omega) (by rw [yl.out]; omega))
      rw [yl.out] at RB
      have BT := hide ((But.ofOnly O0).trans (But.ofBelow N))
      have SR := hide (S0.up N)
      have YL := yl
      have YB := yb
      clear B T N
      go_wp2
      go_ret
      exact ⟨_, ys, rfl, YL.out, YB.out, RB.out, SR.out, BT.out⟩
set_option maxHeartbeats 2000000 in
theorem l15DrawKind_any (w : World) (s g : Nat) (a : Option Addr) (c : Nat) (xs : List Int) (t : Int) (hs : Src w s a xs.length c t) (hr : Rd w g a .u8 xs) (hne : 0 < xs.length → g ≠ s) (hb : Byt xs) (hl : xs.length ≤ 4194304) (t0 : 0 ≤ t) (t1 : t ≤ 1000000) :
    Calls Tryz.prog 17 #[.pointer (some ⟨s, 0, none⟩)] w fun e w' => ∃ k, e = .returned (.int .i64 k) ∧ (0 ≤ k ∧ k < 256) ∧ Src w' s a xs.length c (t + 1 + 1) ∧ But s w w' := by
  have CH := hide (l1ChanceX_any w s g a c xs t 12 hs hr hne hb hl t0 (by omega) (by omega) (by omega))
  have NX := hide fun W (m : Int) (S : Src W s a xs.length c (t + 1)) (O : Only s w W) (m0 : 1 ≤ m) (m1 : m ≤ 1048576) => l1NextX_any W s g a c xs (t + 1) m S (hr.but (But.ofOnly O) hne) hne hb hl (by omega) (by omega) m0 m1
  clear hs hr hne
  go_enter Tryz.func17, Tryz.ntmps17
  go_wp2_with fail
  refine CH.out.mono ?_
  rintro e w1 ⟨b, rfl, S1, O1⟩
  clear CH
  cases b
  · go_wp2_with fail
    refine (NX.out w1 3 S1 O1 (by decide) (by decide)).mono ?_
    rintro e w2 ⟨r, rfl, ⟨r0, r1⟩, S2, O2⟩
    have BT := hide ((But.ofOnly O1).trans (But.ofOnly O2))
    clear NX O1 O2 S1
    go_wp2
    go_ret
    exact ⟨_, rfl, ⟨by omega, by omega⟩, S2, BT.out⟩
  · go_wp2_with fail
    refine (NX.out w1 6 S1 O1 (by decide) (by decide)).mono ?_
    rintro e w2 ⟨r, rfl, ⟨r0, r1⟩, S2, O2⟩
    have BT := hide ((But.ofOnly O1).trans (But.ofOnly O2))
    clear NX O1 O2 S1
    go_wp2
    go_ret
    exact ⟨_, rfl, ⟨by omega, by omega⟩, S2, BT.out⟩
end Go.Proofs.YtjfggcefdobooaaGreatDoor
namespace Go.Proofs.YtjfggcefdobooaaGreatDoor
set_option maxRecDepth 100000
open Go Go.RowKit
theorem byt_setK {ys : List Int} (h : Byt ys) (k : Nat) (z : Int) (h0 : 0 ≤ z) (h1 : z < 256) : Byt (ys.set k z) := fun i => by
  by_cases e : k = i
  · subst e
    by_cases hl : k < ys.length
    · rw [getD_set_self _ _ _ hl]; exact ⟨h0, h1⟩
    · rw [List.set_eq_of_length_le (by omega)]; exact h k
  · rw [getD_set_ne _ _ _ _ e]; exact h i
theorem RwC.butK {w w' : World} {q s : Nat} {cs : List Value} {t : TypeId} (h : RwC w q cs t) (n : But s w w') (hq : q ≠ s) : RwC w' q cs t := (n.block q h.lt hq).trans h
theorem Own.butK {w w' : World} {g s : Nat} {a : Option Addr} {k : IntKind} {xs : List Int} (h : Own w g a k xs) (n : But s w w') (hg : 0 < xs.length → g ≠ s) : Own w' g a k xs := by
  by_cases h0 : 0 < xs.length
  · exact h.of_block (n.block g (h.rd.lt h0) (hg h0))
  · exact fun q => absurd q h0
theorem Own.onlyK {w w' : World} {g s : Nat} {a : Option Addr} {k : IntKind} {xs : List Int} (h : Own w g a k xs) (n : Only s w w') (hg : 0 < xs.length → g ≠ s) : Own w' g a k xs := by
  by_cases h0 : 0 < xs.length
  · exact h.of_block (n.block g (hg h0))
  · exact fun q => absurd q h0
theorem rd_onlyK {w w' : World} {g s : Nat} {a : Option Addr} {k : IntKind} {xs : List Int} (h : Rd w g a k xs) (n : Only s w w') (hg : 0 < xs.length → g ≠ s) : Rd w' g a k xs := by
  by_cases h0 : 0 < xs.length
  · exact h.of_block (n.block g (hg h0))
  · exact fun q => absurd q h0
theorem rowKs : ∃ d, Tryz.prog.underlying 24 = some d ∧ d.isRow = true := ⟨_, Tryz.underlying24, rfl⟩
theorem iKs : (Tryz.prog.info? 24).map (·.size) = some 2 := by kernel_rfl
def KyD (B : Nat) (W : World) (v : Value) : Prop :=
  ∃ (ax : Option Addr) (cx gx : Nat) (X : List Int) (ay : Option Addr) (cy gy : Nat) (Y : List Int), v = .agg #[.slice ax X.length cx, .slice ay Y.length cy] ∧
    (Own W gx ax .u8 X ∧ (ax = none → cx = 0) ∧ X.length ≤ cx ∧ X.length ≤ 40 ∧ Byt X ∧ B ≤ gx) ∧ (Own W gy ay .u8 Y ∧ (ay = none → cy = 0) ∧ Y.length ≤ cy ∧ Y.length ≤ 40 ∧ Byt Y ∧ B ≤ gy)
set_option maxRecDepth 100000 in
set_option maxHeartbeats 4000000 in
theorem drawKeys_D {w : World} {s g : Nat} {a : Option Addr} {c : Nat} {xs : List Int} {t : Int} (d : Dra w s g a c xs t) (t1 : t ≤ 50000) :
    Calls Tryz.prog 15 #[.pointer (some ⟨s, 0, none⟩)] w fun e w' => ∃ (v : Value) (u : Int), e = .returned v ∧ KyD w.heap.size w' v ∧ u ≤ t + 700 ∧ Dra w' s g a c xs u ∧ But s w w' := by
  obtain ⟨dR, hdR, hrowR⟩ := rowKs
  have ls := d.S.lt
  have lg := d.R.lt
  have n1 : Below w.heap.size w (w.alloc (.cells #[.slice none 0 0, .slice none 0 0] 24)) := (Below.refl _ _).alloc (Nat.le_refl _) _
  have Q0 : RwC (w.alloc (.cells #[.slice none 0 0, .slice none 0 0] 24)) w.heap.size [.slice none 0 0, .slice none 0 0] 24 := RwC.new w _ _
  have z1 : (w.alloc (.cells #[.slice none 0 0, .slice none 0 0] 24)).heap.size = w.heap.size + 1 := by simp
  have d1 := d.up n1
  have b1 : But s w (w.alloc (.cells #[.slice none 0 0, .slice none 0 0] 24)) := But.ofBelow n1
  clear n1 d
  go_enter Tryz.func15, Tryz.ntmps15
  go_wp2_with fail
  generalize w.alloc (.cells #[.slice none 0 0, .slice none 0 0] 24) = w1 at *
  have y1 : w.heap.size < w1.heap.size := by omega
  clear z1
  refine (l8DrawKey_any w1 s g a c xs t d1.S d1.R d1.ne d1.hb d1.hl d1.t0 (by omega)).mono ?_
  rintro e w2 ⟨X, t2, lX, bX, ⟨ax, cx, gx, rfl, oX, zX, kX, gX⟩, h0, h1, S2, B2⟩
  have d2 : Dra w2 s g a c xs t2 := ⟨S2, d1.R.but B2 d1.ne, d1.ne, d1.hb, d1.hl, by have := d1.t0; omega⟩
  have y2 := B2.size
  have lx := oX.rd.lt
  replace Q0 := Q0.butK B2 (by omega)
  have b2 := b1.trans B2
  clear S2 B2 d1 b1
  go_wp2_with fail
  refine (l8DrawNonce_any w2 s g a c xs t2 d2.S d2.R d2.ne d2.hb d2.hl d2.t0 (by omega)).mono ?_
  rintro e w3 ⟨Y, t3, lY, bY, ⟨ay, cy, gy, rfl, oY, zY, kY, gY⟩, h2, h3, S3, B3⟩
  have d3 : Dra w3 s g a c xs t3 := ⟨S3, d2.R.but B3 d2.ne, d2.ne, d2.hb, d2.hl, by have := d2.t0; omega⟩
  have y3 := B3.size
  have ly := oY.rd.lt
  replace oX := oX.butK B3 (fun h => by omega)
  replace Q0 := Q0.butK B3 (by omega)
  have b3 := b2.trans B3
  clear S3 B3 d2 b2
  have qc0 : w3.cell? ⟨w.heap.size, 0, none⟩ = some (.slice none 0 0) := Q0.cell 0
  have qf0 := Q0.free 0
  have qc1 : w3.cell? ⟨w.heap.size, 1, none⟩ = some (.slice none 0 0) := Q0.cell 1
  have qf1 := Q0.free 1
  have RF : RwC ((w3.setCell ⟨w.heap.size, 0, none⟩ (.slice ax X.length cx)).setCell ⟨w.heap.size, 1, none⟩ (.slice ay Y.length cy)) w.heap.size [.slice ax X.length cx, .slice ay Y.length cy] 24 := (Q0.set 0 _).set 1 _
  have OF : Only w.heap.size w3 ((w3.setCell ⟨w.heap.size, 0, none⟩ (.slice ax X.length cx)).setCell ⟨w.heap.size, 1, none⟩ (.slice ay Y.length cy)) := (Only.setCell _ w.heap.size 0 _).trans (Only.setCell _ w.heap.size 1 _)
  have RR := RF.rangeG
  have rX := hide (oX.onlyK OF (fun h => by omega))
  have rY := hide (oY.onlyK OF (fun h => by omega))
  have dF : Hid (Dra ((w3.setCell ⟨w.heap.size, 0, none⟩ (.slice ax X.length cx)).setCell ⟨w.heap.size, 1, none⟩ (.slice ay Y.length cy)) s g a c xs t3) := ⟨d3.S.of_block (OF.block s (by omega)), rd_onlyK d3.R OF (fun h => by have := lg h; omega), d3.ne, d3.hb, d3.hl, d3.t0⟩
  have bF : Hid (But s w ((w3.setCell ⟨w.heap.size, 0, none⟩ (.slice ax X.length cx)).setCell ⟨w.heap.size, 1, none⟩ (.slice ay Y.length cy))) := ⟨OF.os.trans b3.os, OF.tape.trans b3.tape, OF.output.trans b3.output, by rw [OF.size]; exact b3.size, fun k hk hne => (OF.block k (by omega)).trans (b3.block k hk hne)⟩
  clear RF OF Q0 oX oY b3 d3
  go_wp2
  exact bodyPost_ret (v := .agg #[.slice ax X.length cx, .slice ay Y.length cy]) (results_cellG Tryz.results15 _ _ w.heap.size _ dR rfl RR hdR hrowR iKs) rfl ⟨_, t3, rfl, ⟨ax, cx, gx, X, ay, cy, gy, Y, rfl, ⟨rX.out, zX, kX, lX, bX, by omega⟩, ⟨rY.out, zY, kY, lY, bY, by omega⟩⟩, by omega, dF.out, bF.out⟩
set_option maxRecDepth 100000 in
set_option maxHeartbeats 4000000 in
theorem drawSeq_D {w : World} {s g : Nat} {a : Option Addr} {c : Nat} {xs : List Int} {t : Int} (d : Dra w s g a c xs t) (t1 : t ≤ 60000) :
    Calls Tryz.prog 16 #[.pointer (some ⟨s, 0, none⟩)] w fun e w' => ∃ (q u : Int), e = .returned (.int .i64 q) ∧ u ≤ t + 2 ∧ Dra w' s g a c xs u ∧ But s w w' := by
  go_enter Tryz.func16, Tryz.ntmps16
  go_wp2_with fail
  refine (next_D d (n := 10) (by omega) (by decide) (by decide)).mono ?_
  rintro e w1 ⟨k, rfl, hk, d1, B1⟩
  obtain rfl | rfl | rfl | h3 : k = 0 ∨ k = 1 ∨ k = 2 ∨ 3 ≤ k := by omega
  · go_wp2_with fail
    refine (next_D d1 (n := 3) (by omega) (by decide) (by decide)).mono ?_
    rintro e w2 ⟨r, rfl, hr, d2, B2⟩
    go_wp2
    go_ret
    exact ⟨_, _, rfl, by omega, d2, B1.trans B2⟩
  · go_wp2
    go_ret
    exact ⟨_, _, rfl, by omega, d1, B1⟩
  · go_wp2_with fail
    refine (next_D d1 (n := 4294967295) (by omega) (by decide) (by decide)).mono ?_
    rintro e w2 ⟨r, rfl, hr, d2, B2⟩
    go_wp2
    go_ret
    exact ⟨_, _, rfl, by omega, d2, B1.trans B2⟩
  · have e0 : decide ((k : Int) = 0) = false := by simp; omega
    have e1 : decide ((k : Int) = 1) = false := by simp; omega
    have e2 : decide ((k : Int) = 2) = false := by simp; omega
    have f0 : ((k : Int) == 0) = false := by simp; omega
    have f1 : ((k : Int) == 1) = false := by simp; omega
    have f2 : ((k : Int) == 2) = false := by simp; omega
    go_wp2_with fail
    refine (next_D d1 (n := 300) (by omega) (by decide) (by decide)).mono ?_
    rintro e w2 ⟨r, rfl, hr, d2, B2⟩
    go_wp2
    go_ret
    exact ⟨_, _, rfl, by omega, d2, B1.trans B2⟩
set_option maxRecDepth 100000 in
set_option maxHeartbeats 4000000 in
theorem drawData_D {w : World} {s g : Nat} {a : Option Addr} {c : Nat} {xs : List Int} {t : Int} (d : Dra w s g a c xs t) (t1 : t ≤ 60000) :
    Calls Tryz.prog 18 #[.pointer (some ⟨s, 0, none⟩)] w fun e w' => ∃ (v : Value) (ys : List Int) (u : Int), e = .returned v ∧ RowB w' w.heap.size v ys ∧ Byt ys ∧ ys.length ≤ 2049 ∧ u ≤ t + 10 ∧ Dra w' s g a c xs u ∧ But s w w' := by
  have ls := d.S.lt
  have lg := d.R.lt
  go_enter Tryz.func18, Tryz.ntmps18
  go_wp2_with fail
  refine (next_D d (n := 120) (by omega) (by decide) (by decide)).mono ?_
  rintro e w1 ⟨n, rfl, hn, d1, B1⟩
  go_wp2_with fail
  refine (chance_D d1 (n := 12) (by omega) (by decide) (by decide)).mono ?_
  rintro e w2 ⟨b, rfl, d2, B2⟩
  have b2 := B1.trans B2
  clear d d1 B1 B2
  go_upto_if 8 with fail
  go_cut [3] (fun v wc => ∃ (m : Nat) (u : Int), v = .int .i64 (m : Int) ∧ m ≤ 2049 ∧ u ≤ t + 3 ∧ Dra wc s g a c xs u ∧ But s w wc)
  case first =>
    cases b with
    | true =>
      go_wp2_with fail
      refine (next_D d2 (n := 3) (by omega) (by decide) (by decide)).mono ?_
      rintro e w3 ⟨r, rfl, hr, d3, B3⟩
      have b3 := b2.trans B3
      go_wp2_with fail
      go_meet
      exact ⟨2047 + r, _, by congr 1, by omega, by omega, d3, b3⟩
    | false =>
      go_wp2_with fail
      go_meet
      exact ⟨n, _, rfl, by omega, by omega, d2, b2⟩
  case rest =>
    obtain ⟨m, u, rfl, hm, hu, dc, bc⟩ := hcut
    have yc := bc.size
    clear d2 b2
    go_wp2_with fail
    refine (l11Bytes_any wc s g a c xs u m dc.S dc.R dc.ne dc.hb (by have := dc.hl; omega) dc.t0 (by omega) (by omega)).mono ?_
    rintro e w4 ⟨v4, ys, rfl, yl, yb, R4, S4, B4⟩
    have d4 : Dra w4 s g a c xs (u + 1) := ⟨S4, dc.R.but B4 dc.ne, dc.ne, dc.hb, dc.hl, by have := dc.t0; omega⟩
    have b4 := bc.trans B4
    have YL := hide yl
    clear S4 B4 dc bc yl
    by_cases h0 : m = 0
    · subst h0
      go_wp2
      go_ret
      exact ⟨_, ys, _, rfl, R4.base (by omega), yb, by have := YL.out; omega, by omega, d4, b4⟩
    · have e0 : decide ((0 : Int) < (m : Int)) = true := by simp; omega
      go_wp2_with fail
      refine (chance_D d4 (n := 3) (by omega) (by decide) (by decide)).mono ?_
      rintro e w5 ⟨b5, rfl, d5, B5⟩
      have y5 := B5.size
      replace R4 := R4.but B5 (fun k hk => by have := (World.ownsRow.lt R4 k hk).1; omega)
      have b5' := b4.trans B5
      clear d4 b4 B5
      cases b5 with
      | false =>
        go_wp2
        go_ret
        exact ⟨_, ys, _, rfl, R4.base (by omega), yb, by have := YL.out; omega, by omega, d5, b5'⟩
      | true =>
        obtain ⟨gk, ck, ek, hbk, hck, CE, FR, ST, -⟩ := R4.parts (by have := YL.out; omega)
        subst ek
        obtain ⟨j, rfl⟩ : ∃ j, m = j + 1 := ⟨m - 1, by omega⟩
        have kl : j < ys.length := by have := YL.out; omega
        have kl' : (j : Int) < (ys.length : Int) := by omega
        have sj : ((j + 1 : Nat) : Int) - 1 = (j : Int) := by omega
        have ce := CE j kl
        have fr := FR j
        have st := hide (ST j 0 kl)
        have bz : Hid (Byt (ys.set j 0)) := byt_setK yb j 0 (by decide) (by decide)
        have lz : Hid ((ys.set j 0).length = ys.length) := List.length_set ..
        have OF := Only.setCell w5 gk j (.int .u8 0)
        have dF : Hid (Dra (w5.setCell ⟨gk, j, none⟩ (.int .u8 0)) s g a c xs (u + 1 + 1)) := ⟨d5.S.of_block (OF.block s (by omega)), rd_onlyK d5.R OF (fun h => by have := lg h; omega), d5.ne, d5.hb, d5.hl, d5.t0⟩
        have bF : Hid (But s w (w5.setCell ⟨gk, j, none⟩ (.int .u8 0))) := ⟨OF.os.trans b5'.os, OF.tape.trans b5'.tape, OF.output.trans b5'.output, by rw [OF.size]; exact b5'.size, fun k hk hne => (OF.block k (by omega)).trans (b5'.block k hk hne)⟩
        clear CE FR ST R4 OF d5 b5'
        go_wp2
        go_ret
        exact ⟨_, ys.set j 0, _, rfl, st.out.base (by omega), bz.out, by rw [lz.out]; have := YL.out; omega, by omega, dF.out, bF.out⟩
theorem results_c4 {P : Program} {fn : Func} {s1 s2 s3 s4 p : Tmp} {ty : TypeId} (h : fn.results = #[.cell p ty, .tmp s1, .tmp s2, .tmp s3, .tmp s4]) (tmps : Array Value) (w : World) (g : Nat) (cs : List Value) (d : TypeDesc) (v1 v2 v3 v4 : Value)
    (h1 : tmps.getD s1 undef = v1) (h2 : tmps.getD s2 undef = v2) (h3 : tmps.getD s3 undef = v3) (h4 : tmps.getD s4 undef = v4) (hp : tmps.getD p undef = .pointer (some ⟨g, 0, none⟩)) (hc : w.rangeAt g 0 cs) (hu : P.underlying ty = some d) (hd : d.isRow = true) (hi : (P.info? ty).map (·.size) = some cs.length) :
    (results fn tmps).run P w = .ok (.tuple #[.agg cs.toArray, v1, v2, v3, v4]) w := by
  have hp' : tmps[p]?.getD undef = .pointer (some ⟨g, 0, none⟩) := by simpa using hp
  have h1' : tmps[s1]?.getD undef = v1 := by simpa using h1
  have h2' : tmps[s2]?.getD undef = v2 := by simpa using h2
  have h3' : tmps[s3]?.getD undef = v3 := by simpa using h3
  have h4' : tmps[s4]?.getD undef = v4 := by simpa using h4
  simp [results, h, hp', h1', h2', h3', h4', asAddr, run_loadVar_mid w g 0 ty cs d hc hu hd hi]
set_option maxRecDepth 100000 in
set_option maxHeartbeats 8000000 in
theorem drawProtect_any (w : World) (g : Nat) (a : Option Addr) (c : Nat) (xs : List Int) (hr : Rd w g a .u8 xs) (hb : Byt xs) (hl : xs.length ≤ 1048576) :
    Calls Tryz.prog 4 #[.slice a xs.length c] w fun e w' => ∃ (v : Value) (q k : Int) (vd : Value) (ys : List Int) (pad : Nat), e = .returned (.tuple #[v, .int .i64 q, .int .i64 k, vd, .int .i64 (pad : Int)]) ∧ KyD w.heap.size w' v ∧ RowB w' w.heap.size vd ys ∧ Byt ys ∧ ys.length ≤ 2049 ∧ pad ≤ 257 ∧ Below w.heap.size w w' := by
  obtain ⟨dR, hdR, hrowR⟩ := rowKs
  have lg := hr.lt
  have n1 : Below w.heap.size w (w.alloc (.cells #[.slice none 0 0, .slice none 0 0] 24)) := (Below.refl _ _).alloc (Nat.le_refl _) _
  have Q0 : RwC (w.alloc (.cells #[.slice none 0 0, .slice none 0 0] 24)) w.heap.size [.slice none 0 0, .slice none 0 0] 24 := RwC.new w _ _
  have z1 : (w.alloc (.cells #[.slice none 0 0, .slice none 0 0] 24)).heap.size = w.heap.size + 1 := by simp
  replace hr := hr.up n1
  go_enter Tryz.func4, Tryz.ntmps4
  go_wp2_with fail
  generalize w.alloc (.cells #[.slice none 0 0, .slice none 0 0] 24) = w1 at *
  refine (l1Source_any w1 a xs.length c hl).mono ?_
  rintro e w2 ⟨rfl, S2, m2⟩
  obtain ⟨s, hs⟩ : ∃ s, s = w1.heap.size := ⟨_, rfl⟩
  have y2 : w1.heap.size < w2.heap.size := S2.lt
  have S2s : Src w2 s a xs.length c 0 := by rw [hs]; exact S2
  have d2 : Dra w2 s g a c xs 0 := ⟨S2s, hr.up m2, fun h => by have := lg h; omega, hb, hl, by omega⟩
  replace Q0 := Q0.up m2
  have b2 : Below w.heap.size w w2 := n1.trans (m2.mono (by omega))
  rw [← hs]
  have hs1 : w.heap.size < s ∧ s < w2.heap.size := by omega
  clear S2 S2s m2 n1 hr hs z1 y2
  go_wp2_with fail
  refine (next_D d2 (n := 40) (by omega) (by decide) (by decide)).mono ?_
  rintro e w3 ⟨p3, rfl, hp3, d3, B3⟩
  have y3 := B3.size
  replace Q0 := Q0.butK B3 (by omega)
  have b3 : Below w.heap.size w w3 := b2.trans (B3.below (by omega) (by omega))
  clear B3 d2 b2
  go_wp2_with fail
  refine (chance_D d3 (n := 8) (by omega) (by decide) (by decide)).mono ?_
  rintro e w4 ⟨b, rfl, d4, B4⟩
  have y4 := B4.size
  replace Q0 := Q0.butK B4 (by omega)
  have b4 : Below w.heap.size w w4 := b3.trans (B4.below (by omega) (by omega))
  clear B4 d3 b3
  go_upto_if 14 with fail
  go_cut [8] (fun v wc => ∃ (m : Nat) (u : Int), v = .int .i64 (m : Int) ∧ m ≤ 257 ∧ u ≤ 3 ∧ w4.heap.size ≤ wc.heap.size ∧ Dra wc s g a c xs u ∧ RwC wc w.heap.size [.slice none 0 0, .slice none 0 0] 24 ∧ Below w.heap.size w wc)
  case first =>
    cases b with
    | true =>
      go_wp2_with fail
      refine (next_D d4 (n := 3) (by omega) (by decide) (by decide)).mono ?_
      rintro e w5 ⟨r, rfl, hr, d5, B5⟩
      have y5 := B5.size
      replace Q0 := Q0.butK B5 (by omega)
      have b5 : Below w.heap.size w w5 := b4.trans (B5.below (by omega) (by omega))
      go_wp2_with fail
      go_meet
      exact ⟨255 + r, _, by congr 1, by omega, by omega, y5, d5, Q0, b5⟩
    | false =>
      go_wp2_with fail
      go_meet
      exact ⟨p3, _, rfl, by omega, by omega, Nat.le_refl _, d4, Q0, b4⟩
  case rest =>
    obtain ⟨pad, u, rfl, hpad, hu, yc, dc, Qc, bc⟩ := hcut
    clear d4 Q0 b4
    go_wp2_with fail
    refine (drawKeys_D dc (by omega)).mono ?_
    rintro e w6 ⟨v6, u6, rfl, ⟨ax, cx, gx, X, ay, cy, gy, Y, rfl, ⟨oX, zX, kX, lX, bX, gX⟩, ⟨oY, zY, kY, lY, bY, gY⟩⟩, h6, d6, B6⟩
    have y6 := B6.size
    have lx := oX.rd.lt
    have ly := oY.rd.lt
    replace Qc := Qc.butK B6 (by omega)
    have b6 : Below w.heap.size w w6 := bc.trans (B6.below (by omega) (by omega))
    clear B6 dc bc
    go_wp2_with fail
    refine (drawSeq_D d6 (by omega)).mono ?_
    rintro e w7 ⟨q, u7, rfl, h7, d7, B7⟩
    have y7 := B7.size
    replace oX := oX.butK B7 (fun h => by omega)
    replace oY := oY.butK B7 (fun h => by omega)
    replace Qc := Qc.butK B7 (by omega)
    have b7 : Below w.heap.size w w7 := b6.trans (B7.below (by omega) (by omega))
    clear B7 d6 b6
    go_wp2_with fail
    refine (l15DrawKind_any w7 s g a c xs u7 d7.S d7.R d7.ne d7.hb (by have := d7.hl; omega) d7.t0 (by omega)).mono ?_
    rintro e w8 ⟨k, rfl, hk, S8, B8⟩
    have d8 : Dra w8 s g a c xs (u7 + 1 + 1) := ⟨S8, d7.R.but B8 d7.ne, d7.ne, d7.hb, d7.hl, by have := d7.t0; omega⟩
    have y8 := B8.size
    replace oX := oX.butK B8 (fun h => by omega)
    replace oY := oY.butK B8 (fun h => by omega)
    replace Qc := Qc.butK B8 (by omega)
    have b8 : Below w.heap.size w w8 := b7.trans (B8.below (by omega) (by omega))
    clear B8 S8 d7 b7
    go_wp2_with fail
    refine (drawData_D d8 (by omega)).mono ?_
    rintro e w9 ⟨v9, ys, u9, rfl, R9, yb, yl, h9, d9, B9⟩
    have y9 := B9.size
    replace oX := oX.butK B9 (fun h => by omega)
    replace oY := oY.butK B9 (fun h => by omega)
    replace Qc := Qc.butK B9 (by omega)
    have b9 : Below w.heap.size w w9 := b8.trans (B9.below (by omega) (by omega))
    clear B9 d8 d9 b8
    have qc0 : w9.cell? ⟨w.heap.size, 0, none⟩ = some (.slice none 0 0) := Qc.cell 0
    have qf0 := Qc.free 0
    have qc1 : w9.cell? ⟨w.heap.size, 1, none⟩ = some (.slice none 0 0) := Qc.cell 1
    have qf1 := Qc.free 1
    have RF : RwC ((w9.setCell ⟨w.heap.size, 0, none⟩ (.slice ax X.length cx)).setCell ⟨w.heap.size, 1, none⟩ (.slice ay Y.length cy)) w.heap.size [.slice ax X.length cx, .slice ay Y.length cy] 24 := (Qc.set 0 _).set 1 _
    have OF : Only w.heap.size w9 ((w9.setCell ⟨w.heap.size, 0, none⟩ (.slice ax X.length cx)).setCell ⟨w.heap.size, 1, none⟩ (.slice ay Y.length cy)) := (Only.setCell _ w.heap.size 0 _).trans (Only.setCell _ w.heap.size 1 _)
    have RR := RF.rangeG
    have rX := hide (oX.onlyK OF (fun h => by omega))
    have rY := hide (oY.onlyK OF (fun h => by omega))
    have rD := hide ((R9.only OF (by omega)).base (show w.heap.size ≤ w8.heap.size by omega))
    have bF := hide (b9.trans (OF.below (Nat.le_refl _)))
    clear RF OF Qc oX oY R9 b9
    go_wp2
    exact bodyPost_ret (v := .tuple #[.agg #[.slice ax X.length cx, .slice ay Y.length cy], .int .i64 q, .int .i64 k, v9, .int .i64 (pad : Int)]) (results_c4 Tryz.results4 _ _ w.heap.size _ dR _ _ _ _ rfl rfl rfl rfl rfl RR hdR hrowR iKs) rfl ⟨_, q, k, v9, ys, pad, rfl, ⟨ax, cx, gx, X, ay, cy, gy, Y, rfl, ⟨rX.out, zX, kX, lX, bX, by omega⟩, ⟨rY.out, zY, kY, lY, bY, by omega⟩⟩, rD.out, yb, yl, hpad, bF.out⟩
end Go.Proofs.YtjfggcefdobooaaGreatDoor
namespace Go.Proofs.YtjfggcefdobooaaGreatDoor
set_option maxRecDepth 100000
open Go Go.RowKit
set_option maxRecDepth 100000 in
set_option maxHeartbeats 4000000 in
theorem specNonce_any (w : World) (g : Nat) (a : Option Addr) (c : Nat) (iv : List Int) (hr : Rd w g a .u8 iv) (hc : a = none → c = 0) (n : Int) :
    Calls Tryz.prog 28 #[.slice a iv.length c, .int .i64 n] w fun e w' => ∃ v', e = .returned v' ∧ RowB w' w.heap.size v' (rnA iv n) ∧ Below w.heap.size w w' := by
  have E0 : Below w.heap.size w (w.alloc (.cells #[] 5)) := (Below.refl _ _).alloc (Nat.le_refl _) _
  by_cases h12 : iv.length = 12
  · by_cases hn0 : n < 0
    · have q0 : rnA iv n = [] := by unfold rnA; rw [if_neg (by omega)]
      rw [q0, h12]
      clear h12 hr q0
      have q1 : decide (n < 0) = true := by simpa using hn0
      go_enter Tryz.func28, Tryz.ntmps28
      go_wp2
      go_ret
      exact ⟨_, rfl, RowB.lit0 _, E0⟩
    · by_cases hn1 : 4294967295 < n
      · have q0 : rnA iv n = [] := by unfold rnA; rw [if_neg (by omega)]
        rw [q0, h12]
        clear h12 hr q0
        have q1 : decide (n < 0) = false := by simpa using hn0
        have q2 : decide (4294967295 < n) = true := by simpa using hn1
        go_enter Tryz.func28, Tryz.ntmps28
        go_wp2
        go_ret
        exact ⟨_, rfl, RowB.lit0 _, E0⟩
      · have q0 : Hid (rnA iv n = nzT iv (bigL n 8) 8) := by show _ = _; unfold rnA; rw [if_pos (by omega)]
        have q1 : decide (n < 0) = false := by simpa using hn0
        have q2 : decide (4294967295 < n) = false := by simpa using hn1
        have CL := hide (l1CopyN_any w g a c iv hr hc (by omega))
        have AN := fun W => hide (l1BigB_any W n 8 (by omega) (by omega) (by decide))
        rw [h12] at CL ⊢
        have H12 := hide h12
        clear h12 hr hn0 hn1 E0
        have BL : Hid ((bigL n 8).length = 8) := bigL_len n 8
        obtain ⟨B, hB⟩ : ∃ B, B = bigL n 8 := ⟨_, rfl⟩
        simp only [← hB] at AN BL q0
        clear hB
        go_enter Tryz.func28, Tryz.ntmps28
        go_wp2_with fail
        refine CL.out.mono ?_
        rintro e w1 ⟨v1, rfl, R1, n1⟩
        clear CL
        obtain ⟨g1, cap, rfl, hg1, hcap, -⟩ := R1.parts (by rw [H12.out]; decide)
        rw [H12.out] at R1 hcap ⊢
        have l1 := ownBlock_lt R1
        have AN1 := AN w1
        go_wp2_with fail
        refine AN1.out.mono ?_
        rintro e w2 ⟨rfl, R2, n2⟩
        clear AN AN1
        obtain ⟨g2, c2, e2, -, -, D2c, -⟩ := R2.parts (by rw [BL.out]; decide)
        simp only [Value.slice.injEq, Option.some.injEq, Addr.mk.injEq, and_true] at e2
        obtain ⟨e2, -, e3⟩ := e2
        have CB : Hid (∀ k, k < 8 → w2.cell? ⟨w1.heap.size, k, none⟩ = some (.int .u8 (B.getD k 0))) := fun k hk => by rw [e2]; exact D2c k (by rw [BL.out]; exact hk)
        have R1' := R1.up n2
        have N2 := nxt n1 n2
        obtain ⟨g2, hg2⟩ : ∃ g2, g2 = w1.heap.size := ⟨_, rfl⟩
        rw [← hg2] at CB l1 ⊢
        clear R1 R2 D2c n1 n2 BL e2 e3 hg2
        go_wp2
        go_loopw [7] (fun i wr => ∃ k : Nat, k ≤ 8 ∧ i = .int .i64 k ∧ RowB wr w.heap.size (.slice (some ⟨g1, 0, none⟩) 12 cap) (nzT iv B k) ∧ Hid (wr.heap[g2]? = w2.heap[g2]?) ∧ Below w.heap.size w wr) (fun i _ => 8 - (intOf i).toNat)
        case atStart => exact ⟨0, Nat.zero_le _, rfl, R1', rfl, N2⟩
        case round =>
          obtain ⟨k, hk, rfl, R, hbk, hN⟩ := hrel
          by_cases hlt : k < 8
          · have cb := (World.cell?_of_block (a := ⟨g2, k, none⟩) hbk.out).trans (CB.out k hlt)
            have hL : Hid ((nzT iv B k).length = 12) := by show _ = _; rw [nzT_len]; exact H12.out
            obtain ⟨g1', cap', e1, -, -, cz, fz, sz, -⟩ := R.parts (by rw [hL.out]; decide)
            simp only [Value.slice.injEq, Option.some.injEq, Addr.mk.injEq, and_true] at e1
            obtain ⟨e1, -, e2⟩ := e1
            subst e1 e2
            have cz1 := cz (4 + k) (by rw [hL.out]; omega)
            have fz1 := fz (4 + k)
            have R' := sz (4 + k) (xrB ((nzT iv B k).getD (4 + k) 0) (B.getD k 0)) (by rw [hL.out]; omega)
            have hR : RowB (wr.setCell ⟨g1, 4 + k, none⟩ (.int .u8 (xrB ((nzT iv B k).getD (4 + k) 0) (B.getD k 0)))) w.heap.size (.slice (some ⟨g1, 0, none⟩) 12 cap) (nzT iv B (k + 1)) := R'
            have hbk' : Hid ((wr.setCell ⟨g1, 4 + k, none⟩ (.int .u8 (xrB ((nzT iv B k).getD (4 + k) 0) (B.getD k 0)))).heap[g2]? = w2.heap[g2]?) := ((Only.setCell wr g1 (4 + k) _).block g2 (by omega)).trans hbk.out
            have hN' : Below w.heap.size w (wr.setCell ⟨g1, 4 + k, none⟩ (.int .u8 (xrB ((nzT iv B k).getD (4 + k) 0) (B.getD k 0)))) := hN.setCell hg1 _
            unfold xrB at hR hbk' hN'
            clear R R' cz fz sz hN hbk hL
            have k1 : (k : Int) < 8 := by omega
            have e4 : (4 : Int) + (k : Int) = ((4 + k : Nat) : Int) := by omega
            have i4 : ((4 + k : Nat) : Int) < 12 := by omega
            generalize (nzT iv B k).getD (4 + k) 0 = x at *
            generalize B.getD k 0 = y at *
            obtain ⟨m, hm⟩ : ∃ m, m = 4 + k := ⟨_, rfl⟩
            rw [← hm] at cz1 fz1 hR hbk' hN' e4 i4
            clear hm
            go_wp2
            go_region
            go_wp2
            go_roundw
            case rel => exact ⟨k + 1, by omega, by go_num, hR, hbk', hN'.drew⟩
            case measure => simp [intOf]; omega
          · obtain rfl : k = 8 := by omega
            rw [show (((8 : Nat) : Int)) = 8 from rfl]
            go_wp2
            go_ret
            exact ⟨_, rfl, by rw [q0.out]; exact R, hN⟩
  · have q0 : rnA iv n = [] := by unfold rnA; rw [if_neg (by omega)]
    rw [q0]
    have q1 : decide ((iv.length : Int) = 12) = false := by simp; omega
    have q3 : ((iv.length : Int) != 12) = true := by simp; omega
    clear h12 hr q0
    go_enter Tryz.func28, Tryz.ntmps28
    go_wp2
    go_ret
    exact ⟨_, rfl, RowB.lit0 _, E0⟩
end Go.Proofs.YtjfggcefdobooaaGreatDoor
namespace Go.Proofs.YtjfggcefdobooaaGreatDoor
set_option maxRecDepth 100000
open Go Go.RowKit
theorem append_zero0 {P : Program} (w : World) (t tn ty e : TypeId) (i : TypeInfo) (z : Value) (kq kn : IntKind) (ht : P.underlying t = some (.slice e)) (htn : P.underlying tn = some (.int kn)) (hi : P.info? e = some i) (hz : i.zero = some z)
    (g n cap : Nat) (hc : n ≤ cap) : (Builtin.append_ #[t, tn] ty #[.slice (some ⟨g, 0, none⟩) n cap, .int kq 0]).run P w = .ok (.slice (some ⟨g, 0, none⟩) n cap) w := by
  have hw : IntKind.i64.wrap (0 : Int) = 0 := by decide
  simp [Builtin.append_, run_underlying ht, run_underlying htn, sizeOf, typeInfo, zeroValue, hi, hz, asInt, asIntOf, hw, hc, storeCells]
theorem appZ_any {P : Program} (w : World) (ty : TypeId) (i : TypeInfo) (ht : P.underlying 22 = some (.slice 5)) (htn : P.underlying 2 = some (.int .i64)) (hi : P.info? 5 = some i) (hz : i.zero = some (.int .u8 0)) (hsize : i.size = 1) (hby : i.bytes = 1)
    (base B g n cap : Nat) (xs : List Int) (hown : RowB w base (.slice (some ⟨g, 0, none⟩) n cap) xs) (m : Nat) (hl : xs.length + m ≤ 1048576) (hB : B ≤ base) (hbase : base ≤ w.heap.size) :
    ∃ v' w', (Builtin.append_ #[22, 2] ty #[.slice (some ⟨g, 0, none⟩) n cap, .int .i64 m]).run P w = .ok v' w' ∧ RowB w' base v' (xs ++ List.replicate m 0) ∧ Below B w w' := by
  by_cases h0 : 0 < m
  · obtain ⟨v', w', h1, h2, h3, -⟩ := append_zeros_own (P := P) w 22 2 ty 5 i .i64 .i64 ht htn hi hz hsize hby base _ xs.length (xs.map (Value.int .u8)) hown (by simp) m h0 hl hbase
    refine ⟨v', w', h1, ?_, (Below.refl B w).grown h3 (by omega) (fun k hk => by have := (World.ownsRow.lt hown k hk).1; omega)⟩
    show w'.ownsRow base 5 1 v' (xs ++ List.replicate m 0).length ((xs ++ List.replicate m 0).map (Value.int .u8))
    rw [List.length_append, List.map_append, List.map_replicate, List.length_replicate]
    exact h2
  · obtain rfl : m = 0 := by omega
    have hc : n ≤ cap := by
      obtain ⟨a, c, g', e, -, -, hc, -⟩ := hown.own
      cases e
      exact hc
    exact ⟨_, w, append_zero0 (P := P) w 22 2 ty 5 i _ .i64 .i64 ht htn hi hz g n cap hc, by simpa using hown, Below.refl _ _⟩
end Go.Proofs.YtjfggcefdobooaaGreatDoor
namespace Go.Proofs.YtjfggcefdobooaaGreatDoor
set_option maxRecDepth 100000
open Go Go.RowKit
def fitA (kl il : Nat) (q : Int) : Bool := decide (kl = 32 ∧ il = 12 ∧ 0 ≤ q ∧ q ≤ 4294967295)
theorem fits15_any (w : World) (ak ai : Option Addr) (kl ck il ci : Nat) (q : Int) :
    Calls Tryz.prog 23 #[.agg #[.slice ak kl ck, .slice ai il ci], .int .i64 q] w fun e w' => e = .returned (.bool (fitA kl il q)) ∧ Below w.heap.size w w' := by
  have n0 : Below w.heap.size w (w.alloc (.cells #[.slice ak kl ck, .slice ai il ci] 24)) := (Below.refl _ _).alloc (Nat.le_refl _) _
  by_cases h1 : kl = 32
  · subst h1
    by_cases h2 : il = 12
    · subst h2
      by_cases h3 : 0 ≤ q
      · have u3 : decide (0 ≤ q) = true := by simpa using h3
        by_cases h4 : q ≤ 4294967295
        · have u4 : decide (q ≤ 4294967295) = true := by simpa using h4
          rw [show fitA 32 12 q = true by simp [fitA]; omega]
          go_enter Tryz.func23, Tryz.ntmps23
          go_wp2
          go_ret
          exact ⟨rfl, n0⟩
        · have u4 : decide (q ≤ 4294967295) = false := by simpa using h4
          rw [show fitA 32 12 q = false by simp [fitA]; omega]
          go_enter Tryz.func23, Tryz.ntmps23
          go_wp2
          go_ret
          exact ⟨rfl, n0⟩
      · have u3 : decide (0 ≤ q) = false := by simpa using h3
        rw [show fitA 32 12 q = false by simp [fitA]; omega]
        go_enter Tryz.func23, Tryz.ntmps23
        go_wp2
        go_ret
        exact ⟨rfl, n0⟩
    · have u2 : ((il : Int) == 12) = false := by simp; omega
      have u2' : decide ((il : Int) = 12) = false := by simp; omega
      rw [show fitA 32 il q = false by simp [fitA]; omega]
      go_enter Tryz.func23, Tryz.ntmps23
      go_wp2
      go_ret
      exact ⟨rfl, n0⟩
  · have u1 : ((kl : Int) == 32) = false := by simp; omega
    have u1' : decide ((kl : Int) = 32) = false := by simp; omega
    rw [show fitA kl il q = false by simp [fitA]; omega]
    go_enter Tryz.func23, Tryz.ntmps23
    go_wp2
    go_ret
    exact ⟨rfl, n0⟩
theorem RwC.at_base {w w' : World} {q base : Nat} {cs : List Value} {t : TypeId} (h : RwC w q cs t) (n : Below base w w') (hq : q < base) : RwC w' q cs t := (n.block q hq).trans h
theorem fitA_iff (K V : List Int) (q : Int) : fitA K.length V.length q = true ↔ K.length = 32 ∧ (rnA V q).length = 12 := by
  rw [rnA_12]
  simp [fitA]
set_option maxRecDepth 100000 in
set_option maxHeartbeats 8000000 in
theorem specProtect_any (w : World) (gk : Nat) (ak : Option Addr) (ck : Nat) (K : List Int) (hk : Rd w gk ak .u8 K) (bk : Byt K) (kk : K.length ≤ ck) (gi : Nat) (ai : Option Addr) (ci : Nat) (V : List Int) (hi : Rd w gi ai .u8 V) (bi : Byt V) (zi : ai = none → ci = 0) (q k : Int)
    (gx : Nat) (ax : Option Addr) (cx : Nat) (xs : List Int) (hx : Rd w gx ax .u8 xs) (bx : Byt xs) (zx : ax = none → cx = 0) (pad : Int) :
    Calls Tryz.prog 7 #[.agg #[.slice ak K.length ck, .slice ai V.length ci], .int .i64 q, .int .i64 k, .slice ax xs.length cx, .int .i64 pad] w fun e w' => ∃ v, e = .returned v ∧ RowB w' w.heap.size v (prA K V q k xs pad) ∧ Below w.heap.size w w' := by
  obtain ⟨i0, hi0, hz0, hz1, hz2⟩ := info_parts Tryz.info5
  have N : Below w.heap.size w (w.alloc (.cells #[.slice ak K.length ck, .slice ai V.length ci] 24)) := (Below.refl _ _).alloc (Nat.le_refl _) _
  have B0 : RwC (w.alloc (.cells #[.slice ak K.length ck, .slice ai V.length ci] 24)) w.heap.size [.slice ak K.length ck, .slice ai V.length ci] 24 := RwC.new w _ _
  have E0 := fun W : World => (show Below W.heap.size W (W.alloc (.cells #[] 5)) from (Below.refl _ _).alloc (Nat.le_refl _) _)
  have FT := hide fun W => fits15_any W ak ai K.length ck V.length ci q
  have KN := hide fun W => known_any W k
  by_cases hP : okP K V q k xs.length pad
  · have hf := (fitA_iff K V q).2 hP.1
    have hk1 := hP.2.1.1
    rw [hf] at FT
    rw [hk1] at KN
    have u1 : decide ((2048 : Int) < (xs.length : Int)) = false := by have := hP.2.1.2.1; simp; omega
    have u2 : decide (pad < 0) = false := by have := hP.2.2; simp; omega
    have u3 : decide (256 < pad) = false := by have := hP.2.2; simp; omega
    have eP : Hid (prA K V q k xs pad = prL K (rnA V q) k xs pad) := by show _ = _; rw [prA, if_pos hP]
    have HP := hide hP
    obtain ⟨pd, rfl⟩ := Int.eq_ofNat_of_zero_le hP.2.2.1
    have CP := hide fun W (m : Below w.heap.size w W) => l1CopyN_any W gx ax cx xs (hx.up m) zx (by have := hP.2.1.2.1; omega)
    obtain ⟨x, hx8⟩ : ∃ x, k % 256 = x := ⟨_, rfl⟩
    have BK : Hid (bigL k 1 = [x]) := by show _ = _; simp [bigL, ← hx8]
    have IL : Hid ((inL k xs pd).length = xs.length + 1 + pd) := inL_len k xs pd
    have IB := hide (inL_byt k bx pd)
    have eA : Hid (prL K (rnA V q) k xs (pd : Int) = hdL 23 (szP xs.length pd) ++ seA K (rnA V q) (hdL 23 (szP xs.length pd)) (inL k xs pd)) := rfl
    have RN := hide fun W (m : Below w.heap.size w W) => specNonce_any W gi ai ci V (hi.up m) zi q
    have RB := hide (rnA_byt bi q)
    have key : ((xs.length : Int) == 0) = false ∨ (((xs.length : Int) == 0) = true ∧ k = 23) := by
      by_cases e : xs.length = 0
      · exact .inr ⟨by rw [e]; rfl, Classical.byContradiction fun c => hP.2.1.2.2 ⟨e, c⟩⟩
      · exact .inl (beq_eq_false_iff_ne.2 (by omega))
    have SE := hide fun W (m : Below w.heap.size w W) gn an cn (hm : Rd W gn an .u8 (rnA V q)) (km : (rnA V q).length ≤ cn) ge ae ce H (hb : Byt H) (he : Rd W ge ae .u8 H) (en : ae = none → ce = 0) (hl : H.length = 3) gy ay cy (hy : Rd W gy ay .u8 (inL k xs pd)) => specSeal_any W gk ak ck K (hk.up m) bk kk gn an cn (rnA V q) hm RB.out km ge ae ce H he hb en gy ay cy (inL k xs pd) hy IB.out (by have := IL.out; have := hP.2.1.2.1; have := hP.2.2; omega)
    clear hP hf hk1 hk bk kk hi bi zi hx bx zx
    have main : ∀ w1 : World, Below w.heap.size w w1 → RwC w1 w.heap.size [.slice ak K.length ck, .slice ai V.length ci] 24 → True := fun _ _ _ => trivial
    clear main
    rcases key with v1 | ⟨v1, rfl⟩
    · have v2 : decide ((xs.length : Int) = 0) = false := decide_eq_false (beq_eq_false_iff_ne.1 v1)
      go_enter Tryz.func7, Tryz.ntmps7
      go_upto_region 1 with fail
      generalize w.alloc (.cells #[.slice ak K.length ck, .slice ai V.length ci] 24) = wa at *
      have b0 := B0.c0
      have b1 := B0.c1
      go_wp2_with fail
      refine (FT.out wa).mono ?_
      rintro e w1 ⟨rfl, m1⟩
      replace N := nxt N m1
      replace B0 := B0.up m1
      clear b0 b1 m1
      go_wp2_with fail
      refine (KN.out w1).mono ?_
      rintro e w2 ⟨rfl, h⟩
      have h := h.symm
      subst h
      go_wp2_with fail
      refine (CP.out w1 N).mono ?_
      rintro e w3 ⟨v3, rfl, R3, m3⟩
      have B1 := B0
      have sN := N.size
      replace N := nxt N m3
      replace B0 := B0.up m3
      have n4 : Below w3.heap.size w3 (w3.alloc (.cells #[.int .u8 x] 5)) := (Below.refl _ _).alloc (Nat.le_refl _) _
      obtain ⟨v4, w4, hap4, R4, m4⟩ := append_any (P := Tryz.prog) (w3.alloc (.cells #[.int .u8 x] 5)) 22 i0 Tryz.underlying22 hi0 hz0 hz1 hz2 w1.heap.size w1.heap.size _ _ (R3.up n4) _ _ 1 [x] (blk_lit1 w3 .u8 5 x).own0.rd (by simp) (by have := HP.out.2.1.2.1; simp; omega) (Nat.le_refl _) (by have := n4.size; have := m3.size; omega)
      obtain ⟨Z, hZ⟩ : ∃ Z, Z = xs ++ [x] := ⟨_, rfl⟩
      rw [← hZ] at R4
      have HZ := hide hZ
      have ZL : Hid (Z.length = xs.length + 1) := by show _ = _; rw [hZ]; simp
      clear hZ
      obtain ⟨g4, cap4, ev, -⟩ := R4.parts (by rw [ZL.out]; omega)
      subst ev
      obtain ⟨v5, w5, hap5, R5, m5⟩ := appZ_any (P := Tryz.prog) w4 22 i0 Tryz.underlying22 Tryz.underlying2 hi0 hz0 hz1 hz2 w1.heap.size w1.heap.size g4 _ cap4 _ R4 pd (by have := HP.out.2.1.2.1; have := HP.out.2.2; have := ZL.out; omega) (Nat.le_refl _) (by have := m4.size; have := n4.size; have := m3.size; omega)
      have eI : Hid (inL k xs pd = Z ++ List.replicate pd 0) := by show _ = _; rw [inL, BK.out, HZ.out, List.append_assoc]
      rw [← eI.out] at R5
      have N5 := ((N.trans (n4.mono (by have := m3.size; omega))).trans (m4.mono (by omega))).trans (m5.mono (by omega))
      have lt0 : w.heap.size < w1.heap.size := (show RwC w1 w.heap.size _ _ from B1).lt
      have B5 := B0.at_base (n4.mono (show w1.heap.size ≤ _ by have := m3.size; omega)) lt0 |>.at_base m4 lt0 |>.at_base m5 lt0
      clear R3 R4 m4 m5 n4 B0 B1 N CP
      replace eI := hide True.intro
      obtain ⟨Y, hY⟩ : ∃ Y, Y = inL k xs pd := ⟨_, rfl⟩
      rw [← hY] at R5 IL IB eA SE
      clear hY
      obtain ⟨a5, c5, g5, rfl, D5, z5, -, -⟩ := R5.rd
      have eS : Hid ((Y.length : Int) + 16 = szP xs.length pd) := by
        show _ = _
        unfold szP
        have := IL.out
        omega
      have L15 := l15Head_any w5 23 ((Y.length : Int) + 16) (by omega) (by have := IL.out; have := HP.out.2.1.2.1; have := HP.out.2.2; omega)
      have HL := hdL_len 23 ((Y.length : Int) + 16)
      have HBy : Byt (hdL 23 ((Y.length : Int) + 16)) := byt_apd (bigL_byt _ _) (bigL_byt _ _)
      have eH : Hid (hdL 23 ((Y.length : Int) + 16) = hdL 23 (szP xs.length pd)) := by show _ = _; rw [eS.out]
      generalize hdL 23 ((Y.length : Int) + 16) = H at *
      rw [← eH.out] at eA
      replace L15 := hide L15
      replace HL := hide HL
      replace HBy := hide HBy
      have sb : (Y.length : Int) ≤ 10000 := by have := IL.out; have := HP.out.2.1.2.1; have := HP.out.2.2; omega
      go_wp2_with (at_builtin; first | refine Lib.wpList_append_run _ rfl _ _ 22 22 rfl _ _ rfl rfl _ _ hap4 ?_ | refine Lib.wpList_append_run _ rfl _ _ 22 2 rfl _ _ rfl rfl _ _ hap5 ?_)
      clear hap4 hap5
      refine L15.out.mono ?_
      rintro e w6 ⟨v6, rfl, R6, m6⟩
      have N6 := nxt N5 m6
      have B6 := B5.up m6
      have D6 := D5.up m6
      obtain ⟨a6, c6, g6, rfl, E6, z6, -, -⟩ := R6.rd
      clear L15 R5 R6 D5 m6 N5 B5 sb lt0 sN
      have CY : Hid (∀ W, Below w6.heap.size w6 W → (W.cell? ⟨w.heap.size, 0, none⟩ = some (.slice ak K.length ck) ∧ W.cell? ⟨w.heap.size, 1, none⟩ = some (.slice ai V.length ci))) := fun W m => ⟨(B6.up m).c0, (B6.up m).c1⟩
      have C1 : Hid (∀ W, Below w6.heap.size w6 W → Calls Tryz.prog 25 #[.slice a6 H.length c6] W fun e w' => ∃ v, e = .returned v ∧ RowB w' w6.heap.size v H ∧ Below w6.heap.size w6 w') := fun W m => (l1CopyN_any W g6 a6 c6 H (E6.up m) z6 (by rw [HL.out]; decide)).mono (by
        rintro e w' ⟨v, rfl, R, l⟩
        exact ⟨v, rfl, R.base m.size, nxt m l⟩)
      have C2 : Hid (∀ W, Below w6.heap.size w6 W → Calls Tryz.prog 28 #[.slice ai V.length ci, .int .i64 q] W fun e w' => ∃ a c g, e = .returned (.slice a (rnA V q).length c) ∧ Rd w' g a .u8 (rnA V q) ∧ (rnA V q).length ≤ c ∧ Below W.heap.size W w') := fun W m => (RN.out W (nxt N6 m)).mono (by
        rintro e w' ⟨v, rfl, R, l⟩
        obtain ⟨a7, c7, g7, rfl, E7, z7, k7, -⟩ := R.rd
        exact ⟨a7, c7, g7, rfl, E7, k7, l⟩)
      have C3 : Hid (∀ W a c g, Below w6.heap.size w6 W → Rd W g a .u8 (rnA V q) → (rnA V q).length ≤ c → Calls Tryz.prog 27 #[.slice ak K.length ck, .slice a (rnA V q).length c, .slice a6 H.length c6, .slice a5 Y.length c5] W fun e w' => ∃ a c g, e = .returned (.slice a (seA K (rnA V q) H Y).length c) ∧ Rd w' g a .u8 (seA K (rnA V q) H Y) ∧ (a = none → c = 0) ∧ Below W.heap.size W w') := fun W a c g m hm km => (SE.out W (nxt N6 m) g a c hm km g6 a6 c6 H HBy.out (E6.up m) z6 HL.out g5 a5 c5 (D6.up m)).mono (by
        rintro e w' ⟨⟨v, rfl, R⟩, l⟩
        obtain ⟨a7, c7, g7, rfl, E7, z7, k7, -⟩ := R.rd
        exact ⟨a7, c7, g7, rfl, E7, z7, l⟩)
      have SLn : Hid ((seA K (rnA V q) H Y).length ≤ 1000000) := Nat.le_trans (seA_len _ _ _ _) (by have := IL.out; have := HP.out.2.1.2.1; have := HP.out.2.2; omega)
      generalize seA K (rnA V q) H Y = T at *
      have AP : Hid (∀ W ty v a c g, Below w6.heap.size w6 W → RowB W w6.heap.size v H → Rd W g a .u8 T → (a = none → c = 0) → ∃ v' w', (Builtin.append_ #[22, 22] ty #[v, .slice a T.length c]).run Tryz.prog W = .ok v' w' ∧ RowB w' w6.heap.size v' (H ++ T) ∧ Below w6.heap.size w6 w') := fun W ty v a c g m R hr hc => by
        obtain ⟨v', w', h1, h2, h3⟩ := append_any (P := Tryz.prog) W ty i0 Tryz.underlying22 hi0 hz0 hz1 hz2 w6.heap.size w6.heap.size v H R g a c T hr hc (by rw [HL.out]; have := SLn.out; omega) (Nat.le_refl _) m.size
        exact ⟨v', w', h1, h2, m.trans h3⟩
      have nd : Below w6.heap.size w6 w6.drew := (Below.refl _ _).drew
      clear SE RN B6 D6 E6
      go_upto_region 5 with fail
      go_region_held3 (fun W => W.cell? ⟨w.heap.size, 0, none⟩ = some (.slice ak K.length ck) ∧ W.cell? ⟨w.heap.size, 1, none⟩ = some (.slice ai V.length ci))
        (first | exact (unhide CY) _ b68 | exact (unhide CY) _ b67 | exact (unhide CY) _ b64 | exact (unhide CY) _ b58 | exact (unhide CY) _ nd)
        (first
          | (go_at_call 25; refine ((unhide C1) _ nd).mono ?_; rintro r w58 ⟨v58, rfl, R58, b58⟩)
          | (go_at_call 28; refine ((unhide C2) _ b58).mono ?_; rintro r w64 ⟨a64, c64, g64, rfl, D64, k64, n64⟩; (have b64 := nxt b58 n64); (have R64 := R58.up n64))
          | (go_at_call 27; refine ((unhide C3) _ _ _ _ b64 D64 k64).mono ?_; rintro r w67 ⟨a67, c67, g67, rfl, D67, z67, n67⟩; (have b67 := nxt b64 n67); (have A68 := hide ((unhide AP) w67 22 v58 a67 c67 g67 b67 (R64.up n67) D67 z67)))
          | (refine step_append_exN rfl (.tmp 58) (.tmp 67) 22 22 rfl v58 (.slice a67 T.length c67) rfl rfl _ A68.out ?_; rintro v68 w68 ⟨R68, b68⟩)
          | fail)
      all_goals
        go_wp2
        go_ret
        exact ⟨_, rfl, by rw [eP.out, eA.out]; exact R68.base N6.size, nxt N6 b68⟩
    · have v2 : decide ((xs.length : Int) = 0) = true := decide_eq_true (beq_iff_eq.1 v1)
      obtain rfl : x = 23 := by omega
      clear hx8
      go_enter Tryz.func7, Tryz.ntmps7
      go_upto_region 1 with fail
      generalize w.alloc (.cells #[.slice ak K.length ck, .slice ai V.length ci] 24) = wa at *
      have b0 := B0.c0
      have b1 := B0.c1
      go_wp2_with fail
      refine (FT.out wa).mono ?_
      rintro e w1 ⟨rfl, m1⟩
      replace N := nxt N m1
      replace B0 := B0.up m1
      clear b0 b1 m1
      go_wp2_with fail
      refine (KN.out w1).mono ?_
      rintro e w2 ⟨rfl, h⟩
      have h := h.symm
      subst h
      go_wp2_with fail
      refine (CP.out w1 N).mono ?_
      rintro e w3 ⟨v3, rfl, R3, m3⟩
      have B1 := B0
      have sN := N.size
      replace N := nxt N m3
      replace B0 := B0.up m3
      have n4 : Below w3.heap.size w3 (w3.alloc (.cells #[.int .u8 23] 5)) := (Below.refl _ _).alloc (Nat.le_refl _) _
      obtain ⟨v4, w4, hap4, R4, m4⟩ := append_any (P := Tryz.prog) (w3.alloc (.cells #[.int .u8 23] 5)) 22 i0 Tryz.underlying22 hi0 hz0 hz1 hz2 w1.heap.size w1.heap.size _ _ (R3.up n4) _ _ 1 [23] (blk_lit1 w3 .u8 5 23).own0.rd (by simp) (by have := HP.out.2.1.2.1; simp; omega) (Nat.le_refl _) (by have := n4.size; have := m3.size; omega)
      obtain ⟨Z, hZ⟩ : ∃ Z, Z = xs ++ [23] := ⟨_, rfl⟩
      rw [← hZ] at R4
      have HZ := hide hZ
      have ZL : Hid (Z.length = xs.length + 1) := by show _ = _; rw [hZ]; simp
      clear hZ
      obtain ⟨g4, cap4, ev, -⟩ := R4.parts (by rw [ZL.out]; omega)
      subst ev
      obtain ⟨v5, w5, hap5, R5, m5⟩ := appZ_any (P := Tryz.prog) w4 22 i0 Tryz.underlying22 Tryz.underlying2 hi0 hz0 hz1 hz2 w1.heap.size w1.heap.size g4 _ cap4 _ R4 pd (by have := HP.out.2.1.2.1; have := HP.out.2.2; have := ZL.out; omega) (Nat.le_refl _) (by have := m4.size; have := n4.size; have := m3.size; omega)
      have eI : Hid (inL 23 xs pd = Z ++ List.replicate pd 0) := by show _ = _; rw [inL, BK.out, HZ.out, List.append_assoc]
      rw [← eI.out] at R5
      have N5 := ((N.trans (n4.mono (by have := m3.size; omega))).trans (m4.mono (by omega))).trans (m5.mono (by omega))
      have lt0 : w.heap.size < w1.heap.size := (show RwC w1 w.heap.size _ _ from B1).lt
      have B5 := B0.at_base (n4.mono (show w1.heap.size ≤ _ by have := m3.size; omega)) lt0 |>.at_base m4 lt0 |>.at_base m5 lt0
      clear R3 R4 m4 m5 n4 B0 B1 N CP
      replace eI := hide True.intro
      obtain ⟨Y, hY⟩ : ∃ Y, Y = inL 23 xs pd := ⟨_, rfl⟩
      rw [← hY] at R5 IL IB eA SE
      clear hY
      obtain ⟨a5, c5, g5, rfl, D5, z5, -, -⟩ := R5.rd
      have eS : Hid ((Y.length : Int) + 16 = szP xs.length pd) := by
        show _ = _
        unfold szP
        have := IL.out
        omega
      have L15 := l15Head_any w5 23 ((Y.length : Int) + 16) (by omega) (by have := IL.out; have := HP.out.2.1.2.1; have := HP.out.2.2; omega)
      have HL := hdL_len 23 ((Y.length : Int) + 16)
      have HBy : Byt (hdL 23 ((Y.length : Int) + 16)) := byt_apd (bigL_byt _ _) (bigL_byt _ _)
      have eH : Hid (hdL 23 ((Y.length : Int) + 16) = hdL 23 (szP xs.length pd)) := by show _ = _; rw [eS.out]
      generalize hdL 23 ((Y.length : Int) + 16) = H at *
      rw [← eH.out] at eA
      replace L15 := hide L15
      replace HL := hide HL
      replace HBy := hide HBy
      have sb : (Y.length : Int) ≤ 10000 := by have := IL.out; have := HP.out.2.1.2.1; have := HP.out.2.2; omega
      go_wp2_with (at_builtin; first | refine Lib.wpList_append_run _ rfl _ _ 22 22 rfl _ _ rfl rfl _ _ hap4 ?_ | refine Lib.wpList_append_run _ rfl _ _ 22 2 rfl _ _ rfl rfl _ _ hap5 ?_)
      clear hap4 hap5
      refine L15.out.mono ?_
      rintro e w6 ⟨v6, rfl, R6, m6⟩
      have N6 := nxt N5 m6
      have B6 := B5.up m6
      have D6 := D5.up m6
      obtain ⟨a6, c6, g6, rfl, E6, z6, -, -⟩ := R6.rd
      clear L15 R5 R6 D5 m6 N5 B5 sb lt0 sN
      have CY : Hid (∀ W, Below w6.heap.size w6 W → (W.cell? ⟨w.heap.size, 0, none⟩ = some (.slice ak K.length ck) ∧ W.cell? ⟨w.heap.size, 1, none⟩ = some (.slice ai V.length ci))) := fun W m => ⟨(B6.up m).c0, (B6.up m).c1⟩
      have C1 : Hid (∀ W, Below w6.heap.size w6 W → Calls Tryz.prog 25 #[.slice a6 H.length c6] W fun e w' => ∃ v, e = .returned v ∧ RowB w' w6.heap.size v H ∧ Below w6.heap.size w6 w') := fun W m => (l1CopyN_any W g6 a6 c6 H (E6.up m) z6 (by rw [HL.out]; decide)).mono (by
        rintro e w' ⟨v, rfl, R, l⟩
        exact ⟨v, rfl, R.base m.size, nxt m l⟩)
      have C2 : Hid (∀ W, Below w6.heap.size w6 W → Calls Tryz.prog 28 #[.slice ai V.length ci, .int .i64 q] W fun e w' => ∃ a c g, e = .returned (.slice a (rnA V q).length c) ∧ Rd w' g a .u8 (rnA V q) ∧ (rnA V q).length ≤ c ∧ Below W.heap.size W w') := fun W m => (RN.out W (nxt N6 m)).mono (by
        rintro e w' ⟨v, rfl, R, l⟩
        obtain ⟨a7, c7, g7, rfl, E7, z7, k7, -⟩ := R.rd
        exact ⟨a7, c7, g7, rfl, E7, k7, l⟩)
      have C3 : Hid (∀ W a c g, Below w6.heap.size w6 W → Rd W g a .u8 (rnA V q) → (rnA V q).length ≤ c → Calls Tryz.prog 27 #[.slice ak K.length ck, .slice a (rnA V q).length c, .slice a6 H.length c6, .slice a5 Y.length c5] W fun e w' => ∃ a c g, e = .returned (.slice a (seA K (rnA V q) H Y).length c) ∧ Rd w' g a .u8 (seA K (rnA V q) H Y) ∧ (a = none → c = 0) ∧ Below W.heap.size W w') := fun W a c g m hm km => (SE.out W (nxt N6 m) g a c hm km g6 a6 c6 H HBy.out (E6.up m) z6 HL.out g5 a5 c5 (D6.up m)).mono (by
        rintro e w' ⟨⟨v, rfl, R⟩, l⟩
        obtain ⟨a7, c7, g7, rfl, E7, z7, k7, -⟩ := R.rd
        exact ⟨a7, c7, g7, rfl, E7, z7, l⟩)
      have SLn : Hid ((seA K (rnA V q) H Y).length ≤ 1000000) := Nat.le_trans (seA_len _ _ _ _) (by have := IL.out; have := HP.out.2.1.2.1; have := HP.out.2.2; omega)
      generalize seA K (rnA V q) H Y = T at *
      have AP : Hid (∀ W ty v a c g, Below w6.heap.size w6 W → RowB W w6.heap.size v H → Rd W g a .u8 T → (a = none → c = 0) → ∃ v' w', (Builtin.append_ #[22, 22] ty #[v, .slice a T.length c]).run Tryz.prog W = .ok v' w' ∧ RowB w' w6.heap.size v' (H ++ T) ∧ Below w6.heap.size w6 w') := fun W ty v a c g m R hr hc => by
        obtain ⟨v', w', h1, h2, h3⟩ := append_any (P := Tryz.prog) W ty i0 Tryz.underlying22 hi0 hz0 hz1 hz2 w6.heap.size w6.heap.size v H R g a c T hr hc (by rw [HL.out]; have := SLn.out; omega) (Nat.le_refl _) m.size
        exact ⟨v', w', h1, h2, m.trans h3⟩
      have nd : Below w6.heap.size w6 w6.drew := (Below.refl _ _).drew
      clear SE RN B6 D6 E6
      go_upto_region 5 with fail
      go_region_held3 (fun W => W.cell? ⟨w.heap.size, 0, none⟩ = some (.slice ak K.length ck) ∧ W.cell? ⟨w.heap.size, 1, none⟩ = some (.slice ai V.length ci))
        (first | exact (unhide CY) _ b68 | exact (unhide CY) _ b67 | exact (unhide CY) _ b64 | exact (unhide CY) _ b58 | exact (unhide CY) _ nd)
        (first
          | (go_at_call 25; refine ((unhide C1) _ nd).mono ?_; rintro r w58 ⟨v58, rfl, R58, b58⟩)
          | (go_at_call 28; refine ((unhide C2) _ b58).mono ?_; rintro r w64 ⟨a64, c64, g64, rfl, D64, k64, n64⟩; (have b64 := nxt b58 n64); (have R64 := R58.up n64))
          | (go_at_call 27; refine ((unhide C3) _ _ _ _ b64 D64 k64).mono ?_; rintro r w67 ⟨a67, c67, g67, rfl, D67, z67, n67⟩; (have b67 := nxt b64 n67); (have A68 := hide ((unhide AP) w67 22 v58 a67 c67 g67 b67 (R64.up n67) D67 z67)))
          | (refine step_append_exN rfl (.tmp 58) (.tmp 67) 22 22 rfl v58 (.slice a67 T.length c67) rfl rfl _ A68.out ?_; rintro v68 w68 ⟨R68, b68⟩)
          | fail)
      all_goals
        go_wp2
        go_ret
        exact ⟨_, rfl, by rw [eP.out, eA.out]; exact R68.base N6.size, nxt N6 b68⟩
  · have eP : Hid (prA K V q k xs pad = []) := by show _ = _; rw [prA, if_neg hP]
    clear hk bk kk hi bi zi hx bx zx
    by_cases hf : fitA K.length V.length q = true
    · rw [hf] at FT
      by_cases hk1 : isK k = true
      · rw [hk1] at KN
        by_cases hl : 2048 < xs.length
        · have u1 : decide ((2048 : Int) < (xs.length : Int)) = true := by simp; omega
          clear hP hf hk1 hl
          go_enter Tryz.func7, Tryz.ntmps7
          go_upto_region 1 with fail
          generalize w.alloc (.cells #[.slice ak K.length ck, .slice ai V.length ci] 24) = wa at *
          have b0 := B0.c0
          have b1 := B0.c1
          go_wp2_with fail
          refine (FT.out wa).mono ?_
          rintro e w1 ⟨rfl, m1⟩
          replace N := nxt N m1
          replace B0 := B0.up m1
          clear b0 b1 m1
          go_wp2_with fail
          refine (KN.out w1).mono ?_
          rintro e w2 ⟨rfl, h⟩
          have h := h.symm
          subst h
          go_wp2
          go_ret
          exact ⟨_, rfl, by rw [eP.out]; exact (RowB.lit0 _).base N.size, nxt N (E0 _)⟩
        · have u1 : decide ((2048 : Int) < (xs.length : Int)) = false := by simp; omega
          by_cases h0 : xs.length = 0 ∧ k ≠ 23
          · have v1 : ((xs.length : Int) == 0) = true := by rw [h0.1]; rfl
            have v2 : decide ((xs.length : Int) = 0) = true := decide_eq_true (by omega)
            have v3 : (k != 23) = true := by simp [h0.2]
            have v4 : decide (k = 23) = false := by simp [h0.2]
            clear hP hf hk1 hl h0
            go_enter Tryz.func7, Tryz.ntmps7
            go_upto_region 1 with fail
            generalize w.alloc (.cells #[.slice ak K.length ck, .slice ai V.length ci] 24) = wa at *
            have b0 := B0.c0
            have b1 := B0.c1
            go_wp2_with fail
            refine (FT.out wa).mono ?_
            rintro e w1 ⟨rfl, m1⟩
            replace N := nxt N m1
            replace B0 := B0.up m1
            clear b0 b1 m1
            go_wp2_with fail
            refine (KN.out w1).mono ?_
            rintro e w2 ⟨rfl, h⟩
            have h := h.symm
            subst h
            go_wp2
            go_ret
            exact ⟨_, rfl, by rw [eP.out]; exact (RowB.lit0 _).base N.size, nxt N (E0 _)⟩
          · have hpad : ¬ (0 ≤ pad ∧ pad ≤ 256) := fun c => hP ⟨(fitA_iff K V q).1 hf, ⟨hk1, by omega, h0⟩, c⟩
            have key : ((xs.length : Int) == 0) = false ∨ (((xs.length : Int) == 0) = true ∧ k = 23) := by
              by_cases e : xs.length = 0
              · exact .inr ⟨by rw [e]; rfl, Classical.byContradiction fun c => h0 ⟨e, c⟩⟩
              · exact .inl (beq_eq_false_iff_ne.2 (by omega))
            clear hP hf hk1 hl h0
            rcases key with v1 | ⟨v1, rfl⟩
            · have v2 : decide ((xs.length : Int) = 0) = false := decide_eq_false (beq_eq_false_iff_ne.1 v1)
              rcases (by omega : pad < 0 ∨ 256 < pad) with h | h
              · have u2 : decide (pad < 0) = true := by simpa using h
                clear h hpad
                go_enter Tryz.func7, Tryz.ntmps7
                go_upto_region 1 with fail
                generalize w.alloc (.cells #[.slice ak K.length ck, .slice ai V.length ci] 24) = wa at *
                have b0 := B0.c0
                have b1 := B0.c1
                go_wp2_with fail
                refine (FT.out wa).mono ?_
                rintro e w1 ⟨rfl, m1⟩
                replace N := nxt N m1
                replace B0 := B0.up m1
                clear b0 b1 m1
                go_wp2_with fail
                refine (KN.out w1).mono ?_
                rintro e w2 ⟨rfl, h⟩
                have h := h.symm
                subst h
                go_wp2
                go_ret
                exact ⟨_, rfl, by rw [eP.out]; exact (RowB.lit0 _).base N.size, nxt N (E0 _)⟩
              · have u2 : decide (pad < 0) = false := by simp; omega
                have u3 : decide (256 < pad) = true := by simpa using h
                clear h hpad
                go_enter Tryz.func7, Tryz.ntmps7
                go_upto_region 1 with fail
                generalize w.alloc (.cells #[.slice ak K.length ck, .slice ai V.length ci] 24) = wa at *
                have b0 := B0.c0
                have b1 := B0.c1
                go_wp2_with fail
                refine (FT.out wa).mono ?_
                rintro e w1 ⟨rfl, m1⟩
                replace N := nxt N m1
                replace B0 := B0.up m1
                clear b0 b1 m1
                go_wp2_with fail
                refine (KN.out w1).mono ?_
                rintro e w2 ⟨rfl, h⟩
                have h := h.symm
                subst h
                go_wp2
                go_ret
                exact ⟨_, rfl, by rw [eP.out]; exact (RowB.lit0 _).base N.size, nxt N (E0 _)⟩
            · have v2 : decide ((xs.length : Int) = 0) = true := decide_eq_true (beq_iff_eq.1 v1)
              rcases (by omega : pad < 0 ∨ 256 < pad) with h | h
              · have u2 : decide (pad < 0) = true := by simpa using h
                clear h hpad
                go_enter Tryz.func7, Tryz.ntmps7
                go_upto_region 1 with fail
                generalize w.alloc (.cells #[.slice ak K.length ck, .slice ai V.length ci] 24) = wa at *
                have b0 := B0.c0
                have b1 := B0.c1
                go_wp2_with fail
                refine (FT.out wa).mono ?_
                rintro e w1 ⟨rfl, m1⟩
                replace N := nxt N m1
                replace B0 := B0.up m1
                clear b0 b1 m1
                go_wp2_with fail
                refine (KN.out w1).mono ?_
                rintro e w2 ⟨rfl, h⟩
                have h := h.symm
                subst h
                go_wp2
                go_ret
                exact ⟨_, rfl, by rw [eP.out]; exact (RowB.lit0 _).base N.size, nxt N (E0 _)⟩
              · have u2 : decide (pad < 0) = false := by simp; omega
                have u3 : decide (256 < pad) = true := by simpa using h
                clear h hpad
                go_enter Tryz.func7, Tryz.ntmps7
                go_upto_region 1 with fail
                generalize w.alloc (.cells #[.slice ak K.length ck, .slice ai V.length ci] 24) = wa at *
                have b0 := B0.c0
                have b1 := B0.c1
                go_wp2_with fail
                refine (FT.out wa).mono ?_
                rintro e w1 ⟨rfl, m1⟩
                replace N := nxt N m1
                replace B0 := B0.up m1
                clear b0 b1 m1
                go_wp2_with fail
                refine (KN.out w1).mono ?_
                rintro e w2 ⟨rfl, h⟩
                have h := h.symm
                subst h
                go_wp2
                go_ret
                exact ⟨_, rfl, by rw [eP.out]; exact (RowB.lit0 _).base N.size, nxt N (E0 _)⟩
      · have hk2 : isK k = false := by simpa using hk1
        rw [hk2] at KN
        clear hP hf hk1 hk2
        go_enter Tryz.func7, Tryz.ntmps7
        go_upto_region 1 with fail
        generalize w.alloc (.cells #[.slice ak K.length ck, .slice ai V.length ci] 24) = wa at *
        have b0 := B0.c0
        have b1 := B0.c1
        go_wp2_with fail
        refine (FT.out wa).mono ?_
        rintro e w1 ⟨rfl, m1⟩
        replace N := nxt N m1
        replace B0 := B0.up m1
        clear b0 b1 m1
        go_wp2_with fail
        refine (KN.out w1).mono ?_
        rintro e w2 ⟨rfl, h⟩
        have h := h.symm
        subst h
        go_wp2
        go_ret
        exact ⟨_, rfl, by rw [eP.out]; exact (RowB.lit0 _).base N.size, nxt N (E0 _)⟩
    · have hf2 : fitA K.length V.length q = false := by simpa using hf
      rw [hf2] at FT
      clear hP hf hf2 KN
      go_enter Tryz.func7, Tryz.ntmps7
      go_upto_region 1 with fail
      generalize w.alloc (.cells #[.slice ak K.length ck, .slice ai V.length ci] 24) = wa at *
      have b0 := B0.c0
      have b1 := B0.c1
      go_wp2_with fail
      refine (FT.out wa).mono ?_
      rintro e w1 ⟨rfl, m1⟩
      replace N := nxt N m1
      replace B0 := B0.up m1
      clear b0 b1 m1
      go_wp2
      go_ret
      exact ⟨_, rfl, by rw [eP.out]; exact (RowB.lit0 _).base N.size, nxt N (E0 _)⟩
end Go.Proofs.YtjfggcefdobooaaGreatDoor
namespace Go.Proofs.YtjfggcefdobooaaGreatDoor
set_option maxRecDepth 100000
open Go Go.RowKit
structure Plc where
  a : Option Addr
  c : Nat
  q : Nat
def plc0 : Plc := ⟨none, 0, 0⟩
def itC (x : Int × List Int) (q : Plc) : List Value := [.int .i64 x.1, .slice q.a x.2.length q.c]
def itCs : List (Int × List Int) → List Plc → List Value
  | x :: xs, q :: qs => itC x q ++ itCs xs qs
  | _, _ => []
theorem itCs_snoc : ∀ (its : List (Int × List Int)) (bs : List Plc) (x : Int × List Int) (q : Plc), bs.length = its.length → itCs (its ++ [x]) (bs ++ [q]) = itCs its bs ++ itC x q
  | [], [], x, q, _ => rfl
  | [], _ :: _, _, _, h => by simp at h
  | _ :: _, [], _, _, h => by simp at h
  | y :: its, p :: bs, x, q, h => by
    show itC y p ++ itCs (its ++ [x]) (bs ++ [q]) = (itC y p ++ itCs its bs) ++ itC x q
    rw [itCs_snoc its bs x q (by simpa using h), List.append_assoc]
theorem itCs_at0 : ∀ (its : List (Int × List Int)) (bs : List Plc) (i : Nat), bs.length = its.length → i < its.length → (itCs its bs)[2 * i]? = some (.int .i64 (its.getD i (0, [])).1)
  | [], _, i, _, hi => by simp at hi
  | _ :: _, [], _, h, _ => by simp at h
  | y :: its, p :: bs, 0, h, hi => rfl
  | y :: its, p :: bs, i + 1, h, hi => by
    show (itC y p ++ itCs its bs)[2 * (i + 1)]? = _
    rw [List.getElem?_append_right (by simp [itC]; omega), show 2 * (i + 1) - (itC y p).length = 2 * i by simp [itC]; omega, itCs_at0 its bs i (by simpa using h) (by simpa using hi)]
    simp
theorem itCs_at1 : ∀ (its : List (Int × List Int)) (bs : List Plc) (i : Nat), bs.length = its.length → i < its.length → (itCs its bs)[2 * i + 1]? = some (.slice (bs.getD i plc0).a (its.getD i (0, [])).2.length (bs.getD i plc0).c)
  | [], _, i, _, hi => by simp at hi
  | _ :: _, [], _, h, _ => by simp at h
  | y :: its, p :: bs, 0, h, hi => rfl
  | y :: its, p :: bs, i + 1, h, hi => by
    show (itC y p ++ itCs its bs)[2 * (i + 1) + 1]? = _
    rw [List.getElem?_append_right (by simp [itC]; omega), show 2 * (i + 1) + 1 - (itC y p).length = 2 * i + 1 by simp [itC]; omega, itCs_at1 its bs i (by simpa using h) (by simpa using hi)]
    simp
structure Lie (w : World) (x : List Int) (p : Plc) : Prop where
  o : Own w p.q p.a .u8 x
  n : p.a = none → p.c = 0
  c : x.length ≤ p.c
theorem Lie.of {w w' : World} {x : List Int} {p : Plc} (h : Lie w x p) (hb : 0 < x.length → w'.heap[p.q]? = w.heap[p.q]?) : Lie w' x p := by
  refine ⟨?_, h.n, h.c⟩
  by_cases h0 : 0 < x.length
  · exact h.o.of_block (hb h0)
  · exact fun h1 => absurd h1 h0
structure IRow (w : World) (B : Nat) (v : Value) (its : List (Int × List Int)) (bs : List Plc) : Prop where
  o : w.ownsRow B 31 2 v its.length (itCs its bs)
  l : bs.length = its.length
  b : ∀ i, i < its.length → Lie w (its.getD i (0, [])).2 (bs.getD i plc0)
  h : ∀ i, i < its.length → 0 < (its.getD i (0, [])).2.length → B ≤ (bs.getD i plc0).q ∧ v.ownBlock ≠ some (bs.getD i plc0).q
  d : ∀ i j, i < its.length → j < its.length → i ≠ j → 0 < (its.getD i (0, [])).2.length → 0 < (its.getD j (0, [])).2.length → (bs.getD i plc0).q ≠ (bs.getD j plc0).q
theorem iInfo : (Tryz.prog.info? 31).map (fun i => (i.zero, i.size, i.bytes)) = some (some (.agg #[.int .i64 0, .slice none 0 0]), 2, 32) := by kernel_rfl
theorem iUnd : Tryz.prog.underlying 32 = some (.slice 31) := Tryz.underlying32
theorem IRow.nil (w : World) (B : Nat) : IRow w B (.slice none 0 0) [] [] :=
  ⟨⟨rfl, .inl ⟨rfl, rfl⟩⟩, rfl, fun i h => absurd h (by simp), fun i h => absurd h (by simp), fun i j h => absurd h (by simp)⟩
theorem IRow.lt {w : World} {B : Nat} {v : Value} {its : List (Int × List Int)} {bs : List Plc} (h : IRow w B v its bs) {i : Nat} (hi : i < its.length) (h0 : 0 < (its.getD i (0, [])).2.length) : (bs.getD i plc0).q < w.heap.size := (h.b i hi).o.rd.lt h0
theorem IRow.of {w w' : World} {B : Nat} {v : Value} {its : List (Int × List Int)} {bs : List Plc} (h : IRow w B v its bs) (hb : ∀ k, k < w.heap.size → B ≤ k → w'.heap[k]? = w.heap[k]?) : IRow w' B v its bs := by
  refine ⟨⟨h.o.1, ?_⟩, h.l, fun i hi => ?_, h.h, h.d⟩
  · rcases h.o.2 with h' | ⟨g, cap, cur, rfl, hbg, hg, hnc, hcm, hcs, ht⟩
    · exact .inl h'
    · exact .inr ⟨g, cap, cur, rfl, hbg, by rw [hb g ((Array.getElem?_eq_some_iff.1 hg).1) hbg]; exact hg, hnc, hcm, hcs, ht⟩
  · exact (h.b i hi).of fun h0 => hb _ (h.lt hi h0) (h.h i hi h0).1
theorem IRow.app {w : World} {B : Nat} {v : Value} {its : List (Int × List Int)} {bs : List Plc} (h : IRow w B v its bs) (x : Int × List Int) (q : Plc) (hB : B ≤ w.heap.size) (hq : Lie w x.2 q) (M : Nat) (hBM : B ≤ M) (hM1 : ∀ i, i < its.length → 0 < (its.getD i (0, [])).2.length → (bs.getD i plc0).q < M) (hM2 : ∀ k, v.ownBlock = some k → k < M) (hqM : M ≤ q.q) (hl : its.length ≤ 1048576) :
    ∃ v' w', (Builtin.append_ #[32, 32] 32 #[v, .slice (some ⟨w.heap.size, 0, none⟩) 1 1]).run Tryz.prog (w.alloc (.cells #[.int .i64 x.1, .slice q.a x.2.length q.c] 31)) = .ok v' w' ∧ IRow w' B v' (its ++ [x]) (bs ++ [q]) ∧ (∀ k, k < w.heap.size → v.ownBlock ≠ some k → w'.heap[k]? = w.heap[k]?) ∧ Below B w w' ∧ (∀ p, p < w.heap.size → v.ownBlock ≠ some p → v'.ownBlock ≠ some p) := by
  obtain ⟨i, hi, hz, hs, hby⟩ := info_parts iInfo
  have na : Below w.heap.size w (w.alloc (.cells #[.int .i64 x.1, .slice q.a x.2.length q.c] 31)) := (Below.refl _ _).alloc (Nat.le_refl _) _
  have h0 : (w.alloc (.cells #[.int .i64 x.1, .slice q.a x.2.length q.c] 31)).ownsRow B 31 2 v its.length (itCs its bs) := h.o.alloc _
  have hcell : ∀ j u, (itC x q)[j]? = some u → (w.alloc (.cells #[.int .i64 x.1, .slice q.a x.2.length q.c] 31)).cell? ((⟨w.heap.size, 0, none⟩ : Addr).add j) = some u := by
    intro j u hj
    have e : (w.alloc (.cells #[.int .i64 x.1, .slice q.a x.2.length q.c] 31)).heap[w.heap.size]? = some (.cells #[.int .i64 x.1, .slice q.a x.2.length q.c] 31) := heap_alloc_new w _
    rw [Addr.add_mid, Nat.zero_add, cell_of_row _ _ j _ _ (0, 0) e]
    simpa [itC] using hj
  obtain ⟨v', w', h1, h2, h3, h4, h5⟩ := run_append_own_at (P := Tryz.prog) (w.alloc (.cells #[.int .i64 x.1, .slice q.a x.2.length q.c] 31)) B 32 32 31 i (.agg #[.int .i64 0, .slice none 0 0]) 2 32 iUnd hi hz hs hby rfl (by decide) v its.length (itCs its bs) h0 ⟨w.heap.size, 0, none⟩ 1 1 (itC x q) (by simp [itC]) hcell (fun u hu => by
    simp only [itC, List.mem_cons, List.not_mem_nil, or_false] at hu
    rcases hu with rfl | rfl <;> rfl) (by unfold maxLen; omega) (by omega) (Nat.le_trans hB na.size)
  have z : (w.alloc (.cells #[.int .i64 x.1, .slice q.a x.2.length q.c] 31)).heap.size = w.heap.size + 1 := by simp
  have keep : ∀ k, k < w.heap.size → v.ownBlock ≠ some k → w'.heap[k]? = w.heap[k]? := fun k hk hne => (h3.block k (by omega) (fun e => hne e.symm)).trans (na.block k hk)
  have ob := h.o.lt
  have A1 : ∀ j, j < its.length → (bs ++ [q]).getD j plc0 = bs.getD j plc0 := fun j hj => by
    have : j < bs.length := by rw [h.l]; exact hj
    simp [List.getD, List.getElem?_append_left this]
  have A2 : ∀ j, j < its.length → (its ++ [x]).getD j (0, []) = its.getD j (0, []) := fun j hj => by simp [List.getD, List.getElem?_append_left hj]
  have A3 : (bs ++ [q]).getD its.length plc0 = q := by rw [← h.l]; simp
  have A4 : (its ++ [x]).getD its.length (0, []) = x := by simp
  have hqr : v.ownBlock ≠ some q.q := fun e => by have := hM2 _ e; omega
  have LT : ∀ p, p < w.heap.size → v.ownBlock ≠ some p → v'.ownBlock ≠ some p := fun p hp hn => by
    rcases h5 with h5 | h5
    · rw [h5]; exact hn
    · rw [h5]
      intro e
      have e := Option.some.inj e
      omega
  refine ⟨v', w', h1, ⟨?_, by simp [h.l], fun j hj => ?_, fun j hj h0' => ?_, fun j k hj hk hne hj0 hk0 => ?_⟩, keep, ((Below.refl B w).alloc hB _).grown h3 (by omega) (fun k hk => (ob k hk).1), LT⟩
  · show w'.ownsRow B 31 2 v' (its ++ [x]).length (itCs (its ++ [x]) (bs ++ [q]))
    rw [itCs_snoc its bs x q h.l, List.length_append]
    exact h2
  · by_cases hj' : j < its.length
    · rw [A1 j hj', A2 j hj']
      exact (h.b j hj').of fun h0' => keep _ (h.lt hj' h0') (h.h j hj' h0').2
    · have ej : j = its.length := by simp at hj; omega
      subst ej
      rw [A3, A4]
      exact hq.of fun h0' => keep _ (hq.o.rd.lt h0') hqr
  · by_cases hj' : j < its.length
    · rw [A2 j hj'] at h0'
      rw [A1 j hj']
      exact ⟨(h.h j hj' h0').1, LT _ (h.lt hj' h0') (h.h j hj' h0').2⟩
    · have ej : j = its.length := by simp at hj; omega
      subst ej
      rw [A4] at h0'
      rw [A3]
      exact ⟨by omega, LT _ (hq.o.rd.lt h0') hqr⟩
  · by_cases hj' : j < its.length
    · rw [A2 j hj'] at hj0
      rw [A1 j hj']
      by_cases hk' : k < its.length
      · rw [A2 k hk'] at hk0
        rw [A1 k hk']
        exact h.d j k hj' hk' hne hj0 hk0
      · have ek : k = its.length := by simp at hk; omega
        subst ek
        rw [A3]
        have := hM1 j hj' hj0
        omega
    · have ej : j = its.length := by simp at hj; omega
      subst ej
      have hk' : k < its.length := by simp at hk; omega
      rw [A2 k hk'] at hk0
      rw [A1 k hk', A3]
      have := hM1 k hk' hk0
      omega
theorem IRow.cells {w : World} {B : Nat} {v : Value} {its : List (Int × List Int)} {bs : List Plc} (h : IRow w B v its bs) (h0 : 0 < its.length) : ∃ g c, v = .slice (some ⟨g, 0, none⟩) its.length c ∧ B ≤ g ∧ g < w.heap.size ∧ v.ownBlock = some g ∧ (∀ i, i < its.length → w.cell? ⟨g, i * 2, none⟩ = some (.int .i64 (its.getD i (0, [])).1) ∧ w.cell? ⟨g, i * 2 + 1, none⟩ = some (.slice (bs.getD i plc0).a (its.getD i (0, [])).2.length (bs.getD i plc0).c)) ∧ (∀ i, w.frozen? ⟨g, i, none⟩ = false) := by
  rcases h.o.2 with ⟨_, h'⟩ | ⟨g, cap, cur, rfl, hb, hg, hnc, hcm, hcs, ht⟩
  · omega
  · refine ⟨g, cap, rfl, hb, (Array.getElem?_eq_some_iff.1 hg).1, rfl, fun i hi => ⟨?_, ?_⟩, fun i => frozen_of_row w g i cur _ hg⟩
    · rw [cell_of_row w g _ cur _ (0, 0) hg]
      have : (cur.toList.take (its.length * 2))[i * 2]? = (itCs its bs)[i * 2]? := by rw [ht]
      rw [List.getElem?_take, if_pos (by omega), show i * 2 = 2 * i from Nat.mul_comm _ _, itCs_at0 its bs i h.l hi] at this
      simpa [Nat.mul_comm] using this
    · rw [cell_of_row w g _ cur _ (0, 0) hg]
      have : (cur.toList.take (its.length * 2))[i * 2 + 1]? = (itCs its bs)[i * 2 + 1]? := by rw [ht]
      rw [List.getElem?_take, if_pos (by omega), show i * 2 = 2 * i from Nat.mul_comm _ _, itCs_at1 its bs i h.l hi] at this
      simpa [Nat.mul_comm] using this
theorem IRow.slice {w : World} {B : Nat} {v : Value} {its : List (Int × List Int)} {bs : List Plc} (h : IRow w B v its bs) : ∃ a c, v = .slice a its.length c ∧ (a = none → c = 0) := by
  rcases h.o.2 with ⟨h1, h'⟩ | ⟨g, cap, cur, rfl, hb, hg, hnc, hcm, hcs, ht⟩
  · exact ⟨none, 0, by rw [h1, h'], fun _ => rfl⟩
  · exact ⟨_, cap, rfl, fun e => by cases e⟩
structure NoP (p : Nat) (v : Value) (its : List (Int × List Int)) (bs : List Plc) : Prop where
  o : v.ownBlock ≠ some p
  b : ∀ i, i < its.length → 0 < (its.getD i (0, [])).2.length → (bs.getD i plc0).q ≠ p
theorem NoP.nil (p : Nat) : NoP p (.slice none 0 0) [] [] := ⟨(fun e => nomatch e), fun i h => absurd h (by simp)⟩
theorem IRow.ofN {w w' : World} {B p : Nat} {v : Value} {its : List (Int × List Int)} {bs : List Plc} (h : IRow w B v its bs) (np : NoP p v its bs) (hb : ∀ k, k < w.heap.size → B ≤ k → k ≠ p → w'.heap[k]? = w.heap[k]?) : IRow w' B v its bs := by
  refine ⟨⟨h.o.1, ?_⟩, h.l, fun i hi => ?_, h.h, h.d⟩
  · rcases h.o.2 with h' | ⟨g, cap, cur, rfl, hbg, hg, hnc, hcm, hcs, ht⟩
    · exact .inl h'
    · exact .inr ⟨g, cap, cur, rfl, hbg, by rw [hb g ((Array.getElem?_eq_some_iff.1 hg).1) hbg (fun e => np.o (by rw [e]; rfl))]; exact hg, hnc, hcm, hcs, ht⟩
  · exact (h.b i hi).of fun h0 => hb _ (h.lt hi h0) (h.h i hi h0).1 (np.b i hi h0)
theorem NoP.app {p : Nat} {v v' : Value} {its : List (Int × List Int)} {bs : List Plc} (h : NoP p v its bs) (l : bs.length = its.length) (ho : v'.ownBlock ≠ some p) (x : Int × List Int) (q : Plc) (hq : q.q ≠ p) : NoP p v' (its ++ [x]) (bs ++ [q]) := by
  refine ⟨ho, fun j hj h0 => ?_⟩
  by_cases hj' : j < its.length
  · have A1 : (bs ++ [q]).getD j plc0 = bs.getD j plc0 := by
      have : j < bs.length := by rw [l]; exact hj'
      simp [List.getD, List.getElem?_append_left this]
    have A2 : (its ++ [x]).getD j (0, []) = its.getD j (0, []) := by simp [List.getD, List.getElem?_append_left hj']
    rw [A2] at h0
    rw [A1]
    exact h.b j hj' h0
  · have ej : j = its.length := by simp at hj; omega
    subst ej
    rw [← l]
    simpa using hq
theorem IRow.base {w : World} {B C : Nat} {v : Value} {its : List (Int × List Int)} {bs : List Plc} (R : IRow w B v its bs) (hC : C ≤ B) : IRow w C v its bs :=
  ⟨⟨R.o.1, by
      rcases R.o.2 with h' | ⟨g, cap, cur, e1, hbg, h3⟩
      · exact .inl h'
      · exact .inr ⟨g, cap, cur, e1, by omega, h3⟩⟩, R.l, R.b, fun i hi h0 => ⟨by have := (R.h i hi h0).1; omega, (R.h i hi h0).2⟩, R.d⟩
end Go.Proofs.YtjfggcefdobooaaGreatDoor
namespace Go.Proofs.YtjfggcefdobooaaGreatDoor
set_option maxRecDepth 100000
open Go Go.RowKit
def ccN (a1 a2 : Addr) (x : Option Addr) : Int := if x = some a1 then 1 else if x = some a2 then 2 else 0
set_option maxHeartbeats 4000000 in
theorem cutCode_any (w : World) (x : Option Addr) (a1 a2 : Addr) (hx : ∀ a, x = some a → ∃ ca ta, w.heap[a.block]? = some (.cells ca ta (0, 0)))
    (h1 : Sen w 1 a1) (h2 : Sen w 5 a2) :
    Calls Tryz.prog 34 #[x.elim .nilIface erV] w fun e w' => e = .returned (.int .i64 (ccN a1 a2 x)) ∧ w' = w := by
  have I0 := hide (isErr_any x a1 w hx h1.b)
  have c0 := h1.c
  have I1 := hide (isErr_any x a2 w hx h2.b)
  have c1 := h2.c
  obtain ⟨v, hv⟩ : ∃ v, v = x.elim .nilIface erV := ⟨_, rfl⟩
  rw [← hv] at I0 I1 ⊢
  clear h1 h2
  unfold erV at c0 c1 I0 I1
  by_cases q0 : x = some a1
  · rw [decide_eq_true q0] at I0
    have e : Hid (ccN a1 a2 x = 1) := by show _ = _; unfold ccN; rw [if_pos q0]
    generalize ccN a1 a2 x = o at *
    clear q0 hx hv
    go_enter Tryz.func34, Tryz.ntmps34
    go_wp2_with fail
    refine I0.out.mono ?_
    rintro e w' ⟨rfl, hw⟩
    have hw := hw.symm
    subst hw
    go_wp2
    go_ret
    exact ⟨by rw [e.out]; rfl, rfl⟩
  rw [decide_eq_false q0] at I0
  by_cases q1 : x = some a2
  · rw [decide_eq_true q1] at I1
    have e : Hid (ccN a1 a2 x = 2) := by show _ = _; unfold ccN; rw [if_neg q0]; rw [if_pos q1]
    generalize ccN a1 a2 x = o at *
    clear q0 q1 hx hv
    go_enter Tryz.func34, Tryz.ntmps34
    go_wp2_with fail
    refine I0.out.mono ?_
    rintro e w' ⟨rfl, hw⟩
    have hw := hw.symm
    subst hw
    go_wp2_with fail
    refine I1.out.mono ?_
    rintro e w' ⟨rfl, hw⟩
    have hw := hw.symm
    subst hw
    go_wp2
    go_ret
    exact ⟨by rw [e.out]; rfl, rfl⟩
  rw [decide_eq_false q1] at I1
  have e : Hid (ccN a1 a2 x = 0) := by show _ = _; unfold ccN; rw [if_neg q0]; rw [if_neg q1]
  generalize ccN a1 a2 x = o at *
  clear q0 q1 hx hv
  go_enter Tryz.func34, Tryz.ntmps34
  go_wp2_with fail
  refine I0.out.mono ?_
  rintro e w' ⟨rfl, hw⟩
  have hw := hw.symm
  subst hw
  go_wp2_with fail
  refine I1.out.mono ?_
  rintro e w' ⟨rfl, hw⟩
  have hw := hw.symm
  subst hw
  go_wp2
  go_ret
  exact ⟨by rw [e.out]; rfl, rfl⟩
end Go.Proofs.YtjfggcefdobooaaGreatDoor
namespace Go.Proofs.YtjfggcefdobooaaGreatDoor
set_option maxRecDepth 100000
open Go Go.RowKit
def RS (a0 a1 a2 : Addr) (w : World) (B : Nat) (ys : List Int) (K : Int) (ad : Option Addr) (n cd : Nat) (ev : Value) : Prop :=
  (rcT ys = 0 ∧ ev = .nilIface ∧ K = rcK ys ∧ n = (rcB ys).length ∧ RowB w B (.slice ad n cd) (rcB ys)) ∨ (rcT ys ≠ 0 ∧ ∃ x, rcX a0 a1 a2 (rcT ys) = some x ∧ ev = erV x)
theorem RS.up {a0 a1 a2 : Addr} {w w' : World} {B : Nat} {ys : List Int} {K : Int} {ad : Option Addr} {n cd : Nat} {ev : Value} (h : RS a0 a1 a2 w B ys K ad n cd ev) (m : Below w.heap.size w w') : RS a0 a1 a2 w' B ys K ad n cd ev := by
  rcases h with ⟨h1, h2, h3, h4, h5⟩ | h
  · exact .inl ⟨h1, h2, h3, h4, h5.up m⟩
  · exact .inr h
theorem RS.only {a0 a1 a2 : Addr} {w w' : World} {B q : Nat} {zs : List Value} {t : TypeId} {ys : List Int} {K : Int} {ad : Option Addr} {n cd : Nat} {ev : Value} (h : RS a0 a1 a2 w B ys K ad n cd ev) (O : Only q w w') (hq : RwC w q zs t) (ht : t ≠ 5) : RS a0 a1 a2 w' B ys K ad n cd ev := by
  rcases h with ⟨h1, h2, h3, h4, h5⟩ | h
  · exact .inl ⟨h1, h2, h3, h4, h5.onlyT O hq ht⟩
  · exact .inr h
theorem firstR_any (w W : World) (g : Nat) (a : Option Addr) (c m k : Nat) (xs : List Int) (hm : m = (xs.drop k).length) (hr : Rd w g a .u8 (xs.drop k)) (hb : Byt xs) (hc : m ≤ c) (hn : xs.length ≤ 1048576) (a0 a1 a2 : Addr) (h0 : Sen w 0 a0) (h1 : Sen w 1 a1) (h2 : Sen w 5 a2) (N : Below w.heap.size w W) :
    Calls Tryz.prog 31 #[.slice a m c] W fun e w' => Below W.heap.size W w' ∧ ∃ K ad n cd ev, e = .returned (.tuple #[.agg #[.int .i64 K, .slice ad n cd], ev]) ∧ RS a0 a1 a2 w' W.heap.size (xs.drop k) K ad n cd ev := by
  subst hm
  refine (firstRecord_any W g a c (xs.drop k) (hr.up N) (byt_drop hb k) hc (by rw [List.length_drop]; omega) a0 a1 a2 (h0.up N) (h1.up N) (h2.up N)).mono ?_
  rintro e w' ⟨b, ⟨h, ad, cd, rfl, R⟩ | ⟨x, h, rfl⟩⟩
  · refine ⟨b, _, _, _, _, _, rfl, .inl ⟨?_, rfl, rfl, rfl, R⟩⟩
    rw [rcE_T] at h
    generalize rcT (xs.drop k) = t at h
    match t, h with
    | 0, _ => rfl
    | 1, h => cases h
    | 2, h => cases h
    | t + 3, h => cases h
  · refine ⟨b, _, _, _, _, _, rfl, .inr ⟨fun e => ?_, x, ?_, rfl⟩⟩
    · rw [rcE_T, e] at h
      cases h
    · rw [← rcE_T]
      exact h
structure CSt (w wr : World) (g q4 : Nat) (xs : List Int) (a0 a1 a2 : Addr) (k m : Nat) (a' : Option Addr) (c' : Nat) (its : List (Int × List Int)) (bs : List Plc) (v : Value) (K : Int) (ad : Option Addr) (n cd : Nat) (ev : Value) (M : Nat) : Prop where
  hm : m = (xs.drop k).length
  mc : m ≤ c'
  z : a' = none → c' = 0
  rd : Rd w g a' .u8 (xs.drop k)
  A : Ahc xs its k
  R : IRow wr (w.heap.size + 2) v its bs
  NP : NoP q4 v its bs
  T : RwC wr (w.heap.size + 1) [.int .i64 0, v, .slice none 0 0] 34
  U : RwC wr w.heap.size [.int .i64 0, .slice none 0 0, .slice none 0 0] 34
  V : RwC wr q4 [.int .i64 K, .slice ad n cd] 31
  S : RS a0 a1 a2 wr M (xs.drop k) K ad n cd ev
  M0 : w.heap.size + 2 ≤ M
  M1 : ∀ i, i < its.length → 0 < (its.getD i (0, [])).2.length → (bs.getD i plc0).q < M
  M2 : ∀ k, v.ownBlock = some k → k < M
  N : Below w.heap.size w wr
  q : w.heap.size + 2 ≤ q4
structure CSm (w w5 : World) (q4 : Nat) (xs : List Int) (k : Nat) (its : List (Int × List Int)) (bs : List Plc) (v : Value) (K : Int) (ad : Option Addr) (n cd : Nat) : Prop where
  A : Ahc xs its k
  R : IRow w5 (w.heap.size + 2) v its bs
  NP : NoP q4 v its bs
  T : RwC w5 (w.heap.size + 1) [.int .i64 0, v, .slice none 0 0] 34
  U : RwC w5 w.heap.size [.int .i64 0, .slice none 0 0, .slice none 0 0] 34
  V : RwC w5 q4 [.int .i64 K, .slice ad n cd] 31
  N : Below w.heap.size w w5
theorem CSt.app {w wr : World} {g q4 : Nat} {xs : List Int} {a0 a1 a2 : Addr} {k m : Nat} {a' : Option Addr} {c' : Nat} {its : List (Int × List Int)} {bs : List Plc} {v : Value} {K : Int} {ad : Option Addr} {n cd : Nat} {ev : Value} {M : Nat} (h : CSt w wr g q4 xs a0 a1 a2 k m a' c' its bs v K ad n cd ev M) (hb : Byt xs) (hn : xs.length ≤ 1048576) (ht : rcT (xs.drop k) = 0) :
    ∃ v' w4, (Builtin.append_ #[32, 32] 32 #[v, .slice (some ⟨wr.heap.size, 0, none⟩) 1 1]).run Tryz.prog (wr.alloc (.cells #[.int .i64 K, .slice ad n cd] 31)) = .ok v' w4 ∧ w4.cell? ⟨w.heap.size + 1, 1, none⟩ = some v ∧ w4.frozen? ⟨w.heap.size + 1, 1, none⟩ = false ∧
      ∃ its' bs', CSm w (w4.setCell ⟨w.heap.size + 1, 1, none⟩ v') q4 xs (k + (3 + n)) its' bs' v' K ad n cd ∧ its'.length ≤ 1048576 ∧ 3 + n ≤ m := by
  have L := rcT_len (byt_drop hb k) ht
  rcases h.S with ⟨-, -, hK, hn', hR⟩ | ⟨h1, -⟩
  · subst hK
    subst hn'
    have Al := h.A.l
    have Ak := h.A.k
    obtain ⟨a, c, gd, ev', O1, O2, O3, O4⟩ := hR.own
    simp only [Value.slice.injEq, true_and] at ev'
    obtain ⟨rfl, rfl⟩ := ev'
    have LI : Lie wr (rcB (xs.drop k)) ⟨ad, cd, gd⟩ := ⟨O1, O2, O3⟩
    have z := h.N.size
    have zq := h.V.lt
    have Mg : M ≤ gd := O4
    have gq : gd ≠ q4 := by
      rintro rfl
      obtain ⟨-, ⟨e1, e2⟩ | ⟨gg, cap, cur, e1, -, hg, -⟩⟩ := hR
      · omega
      · have lt := O1.rd.lt (by omega)
        obtain ⟨off, e3, -⟩ := O1 (by omega)
        simp only [Value.slice.injEq] at e1
        rw [e3] at e1
        simp only [Option.some.injEq, Addr.mk.injEq] at e1
        obtain ⟨⟨rfl, -⟩, -⟩ := e1
        have := hg.symm.trans h.V
        simp at this
    obtain ⟨v', w4, r1, r2, r3, r4, r5⟩ := h.R.app (rcK (xs.drop k), rcB (xs.drop k)) ⟨ad, cd, gd⟩ (by have := h.T.lt; have := h.q; omega) LI M h.M0 h.M1 h.M2 Mg (by omega)
    have T4 : RwC w4 (w.heap.size + 1) [.int .i64 0, v, .slice none 0 0] 34 := (r4.block _ (by omega)).trans h.T
    have U4 : RwC w4 w.heap.size [.int .i64 0, .slice none 0 0, .slice none 0 0] 34 := (r4.block _ (by omega)).trans h.U
    have V4 : RwC w4 q4 [.int .i64 (rcK (xs.drop k)), .slice ad (rcB (xs.drop k)).length cd] 31 := (r3 q4 zq h.NP.o).trans h.V
    have O5 := Only.setCell w4 (w.heap.size + 1) 1 v'
    refine ⟨v', w4, r1, T4.c1, T4.free 1, _, _, ⟨?_, r2.of (fun i hi hB => O5.block i (by omega)), h.NP.app h.R.l (r5 q4 zq h.NP.o) _ _ gq, T4.set 1 v', U4.onl O5 (by omega), V4.onl O5 (by have := h.q; omega), (h.N.trans (r4.mono (show w.heap.size ≤ w.heap.size + 2 by omega))).trans (O5.below (by omega))⟩, by simp; omega, by have := h.hm; omega⟩
    have := h.A.step hb ht
    rw [L.2.2.2]
    exact this
  · exact absurd ht h1
theorem CSm.next {w w5 w6 w7 : World} {g q4 : Nat} {xs : List Int} {a0 a1 a2 : Addr} {k m : Nat} {a' : Option Addr} {c' : Nat} {its : List (Int × List Int)} {bs : List Plc} {v : Value} {K K' : Int} {ad ad' : Option Addr} {n cd n' cd' : Nat} {ev : Value} (h : CSm w w5 q4 xs k its bs v K ad n cd) (q : w.heap.size + 2 ≤ q4) (b6 : Below w5.heap.size w5 w6) (S : RS a0 a1 a2 w6 w5.heap.size (xs.drop k) K' ad' n' cd' ev) (O : Only q4 w6 w7) (V7 : RwC w7 q4 [.int .i64 K', .slice ad' n' cd'] 31)
    (hm : m = (xs.drop k).length) (mc : m ≤ c') (z : a' = none → c' = 0) (rd : Rd w g a' .u8 (xs.drop k)) : CSt w w7 g q4 xs a0 a1 a2 k m a' c' its bs v K' ad' n' cd' ev w5.heap.size := by
  have zq := h.V.lt
  have s6 := b6.size
  refine ⟨hm, mc, z, rd, h.A, ?_, h.NP, (h.T.up b6).onl O (by omega), (h.U.up b6).onl O (by omega), V7, S.only O (h.V.up b6) (by decide), by omega, fun i hi h0 => h.R.lt hi h0, fun i hi => (h.R.o.lt i hi).2, (nxt h.N b6).trans (O.below (by omega)), q⟩
  exact (h.R.of (w' := w6) (fun i hi _ => b6.block i hi)).ofN h.NP (fun i hi hB hne => O.block i hne)
end Go.Proofs.YtjfggcefdobooaaGreatDoor
