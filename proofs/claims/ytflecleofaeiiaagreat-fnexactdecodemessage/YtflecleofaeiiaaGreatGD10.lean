import Derived.Test.YtflecleofaeiiaaGreatGD9
import Derived.Test.YtflecleofaeiiaaGreatGD4
import Derived.Test.YtflecleofaeiiaaGreatGD1
import Derived.Lib.AppendStr
import Derived.Lib.AppendZeros
import Derived.BigQuiet
import Derived.Test.YtflecleofaeiiaaGreatGD5

/-
  A text appended to an owned row.
-/
namespace Go.Proofs.YtflecleofaeiiaaGreat
open Go Go.RowKit

/-- A text's bytes. -/
def txL (l : List UInt8) : List Int := l.map fun b => (b.toNat : Int)
theorem txL_len (l : List UInt8) : (txL l).length = l.length := by simp [txL]
/-- A text appended. -/
theorem appendT_any {P : Program} (w : World) (ty : TypeId) (i : TypeInfo) (ht : P.underlying 22 = some (.slice 5)) (hu : P.underlying 9 = some .string) (hi : P.info? 5 = some i) (hz : i.zero = some (.int .u8 0)) (hsize : i.size = 1) (hby : i.bytes = 1)
    (base B : Nat) (v : Value) (xs : List Int) (hown : RowB w base v xs) (l : List UInt8) (hl : xs.length + l.length ≤ 1099511627776) (hB : B ≤ base) (hbase : base ≤ w.heap.size) :
    ∃ v' w', (Builtin.append_ #[22, 9] ty #[v, .string ⟨⟨l⟩⟩]).run P w = .ok v' w' ∧ RowB w' base v' (xs ++ txL l) ∧ Below B w w' := by
  have hs : (ByteArray.mk ⟨l⟩).size = l.length := rfl
  obtain ⟨v', w', h1, h2, h3, _⟩ := Lib.run_append_own_string (P := P) w base 22 9 ty 5 i ht hu hi hz hsize hby v xs.length (xs.map (Value.int .u8)) hown ⟨⟨l⟩⟩ (by rw [hs]; unfold maxLen; omega) (by rw [hs]; omega) hbase
  refine ⟨v', w', h1, ?_, (Below.refl B w).grown h3 (by omega) (fun k hk => by have := (World.ownsRow.lt hown k hk).1; omega)⟩
  show w'.ownsRow base 5 1 v' (xs ++ txL l).length ((xs ++ txL l).map (Value.int .u8))
  rw [List.length_append, List.map_append, txL_len]
  have e : (txL l).map (Value.int .u8) = Lib.strCells ⟨⟨l⟩⟩ := by simp [txL, Lib.strCells]
  rw [e]
  exact h2
end Go.Proofs.YtflecleofaeiiaaGreat

/-
  The program's appendNumber, up to eight bytes; slices.Clone of bytes (as MiB, MiD, without the messages).
-/
namespace Go.Proofs.YtflecleofaeiiaaGreat
open Go Go.RowKit

theorem bigL_takeN (n : Int) (t k : Nat) (h : k < t) : (bigL n t).take (k + 1) = (bigL n t).take k ++ [n / 256 ^ (t - 1 - k) % 256] := by
  rw [List.take_add_one]
  simp [bigL, h]
theorem RowB.nilN (w : World) (base : Nat) : RowB w base (.slice none 0 0) [] := ⟨rfl, .inl ⟨rfl, rfl⟩⟩
set_option maxHeartbeats 4000000 in
theorem appendNum_any (w : World) (base : Nat) (v : Value) (xs : List Int) (R0 : RowB w base v xs) (hb : base ≤ w.heap.size) (n : Int) (t : Nat) (ht : t ≤ 8) (hl : xs.length ≤ 1073741824) :
    Calls Tryz.prog 95 #[v, .int .i64 n, .int .i64 (t : Int)] w fun e w' => ∃ v', e = .returned v' ∧ RowB w' base v' (xs ++ bigL n t) ∧ Below base w w' := by
  obtain ⟨i0, hi, hz0, hz1, hz2⟩ := info_parts Tryz.info5
  go_enter Tryz.func95, Tryz.ntmps95
  go_wp2
  go_loopw [0, 7, 9] (fun l _ i wr => ∃ k : Nat, k ≤ t ∧ i = .int .i64 k ∧ RowB wr base l (xs ++ (bigL n t).take k) ∧ Below base w wr) (fun _ _ i _ => t - (intOf i).toNat)
  case atStart => exact ⟨0, Nat.zero_le _, rfl, by simpa using R0, Below.refl _ _⟩
  case round =>
    obtain ⟨k, hk, rfl, R, hN⟩ := hrel
    by_cases hlt : k < t
    · have hs := hN.size
      have bt := bigL_takeN n t k hlt
      obtain ⟨x, hx⟩ : ∃ x, x = n / 256 ^ (t - 1 - k) % 256 := ⟨_, rfl⟩
      rw [← hx] at bt
      have BT := hide bt
      clear bt
      have n2 : Below wr.heap.size wr (wr.alloc (.cells #[.int .u8 x] 5)) := (Below.refl _ _).alloc (Nat.le_refl _) _
      obtain ⟨v3, w3, hap3, R3, n3⟩ := append_any (P := Tryz.prog) (wr.alloc (.cells #[.int .u8 x] 5)) 22 i0 Tryz.underlying22 hi hz0 hz1 hz2 base base _ _ (R.up n2) _ _ 1 [x] (blk_lit1 wr .u8 5 x).own0.rd (by simp) (by simp; omega) (Nat.le_refl _) (by simp; omega)
      rw [List.append_assoc, ← BT.out] at R3
      have N3 := (hN.trans (n2.mono (by omega))).trans n3
      clear R n2 n3 hN BT
      have k1 : (k : Int) < (t : Int) := by omega
      obtain ⟨d, hd⟩ : ∃ d, d = t - 1 - k := ⟨_, rfl⟩
      rw [← hd] at hx
      rcases (by omega : d = 0 ∨ d = 1 ∨ d = 2 ∨ d = 3 ∨ d = 4 ∨ d = 5 ∨ d = 6 ∨ d = 7) with rfl | rfl | rfl | rfl | rfl | rfl | rfl | rfl
      · have he : (t : Int) - 1 - (k : Int) = 0 := by omega
        clear hd
        simp at hx
        replace hx := hx.symm
        go_wp2_with (at_builtin; refine Lib.wpList_append_run _ rfl _ _ 22 22 rfl _ _ rfl rfl _ _ hap3 ?_)
        clear hap3
        go_roundw
        case rel => exact ⟨k + 1, by omega, by go_num, R3, N3⟩
        case measure => simp [intOf]; omega
      · have he : (t : Int) - 1 - (k : Int) = 1 := by omega
        clear hd
        simp at hx
        replace hx := hx.symm
        go_wp2_with (at_builtin; refine Lib.wpList_append_run _ rfl _ _ 22 22 rfl _ _ rfl rfl _ _ hap3 ?_)
        clear hap3
        go_roundw
        case rel => exact ⟨k + 1, by omega, by go_num, R3, N3⟩
        case measure => simp [intOf]; omega
      · have he : (t : Int) - 1 - (k : Int) = 2 := by omega
        clear hd
        simp at hx
        replace hx := hx.symm
        go_wp2_with (at_builtin; refine Lib.wpList_append_run _ rfl _ _ 22 22 rfl _ _ rfl rfl _ _ hap3 ?_)
        clear hap3
        go_roundw
        case rel => exact ⟨k + 1, by omega, by go_num, R3, N3⟩
        case measure => simp [intOf]; omega
      · have he : (t : Int) - 1 - (k : Int) = 3 := by omega
        clear hd
        simp at hx
        replace hx := hx.symm
        go_wp2_with (at_builtin; refine Lib.wpList_append_run _ rfl _ _ 22 22 rfl _ _ rfl rfl _ _ hap3 ?_)
        clear hap3
        go_roundw
        case rel => exact ⟨k + 1, by omega, by go_num, R3, N3⟩
        case measure => simp [intOf]; omega
      · have he : (t : Int) - 1 - (k : Int) = 4 := by omega
        clear hd
        simp at hx
        replace hx := hx.symm
        go_wp2_with (at_builtin; refine Lib.wpList_append_run _ rfl _ _ 22 22 rfl _ _ rfl rfl _ _ hap3 ?_)
        clear hap3
        go_roundw
        case rel => exact ⟨k + 1, by omega, by go_num, R3, N3⟩
        case measure => simp [intOf]; omega
      · have he : (t : Int) - 1 - (k : Int) = 5 := by omega
        clear hd
        simp at hx
        replace hx := hx.symm
        go_wp2_with (at_builtin; refine Lib.wpList_append_run _ rfl _ _ 22 22 rfl _ _ rfl rfl _ _ hap3 ?_)
        clear hap3
        go_roundw
        case rel => exact ⟨k + 1, by omega, by go_num, R3, N3⟩
        case measure => simp [intOf]; omega
      · have he : (t : Int) - 1 - (k : Int) = 6 := by omega
        clear hd
        simp at hx
        replace hx := hx.symm
        go_wp2_with (at_builtin; refine Lib.wpList_append_run _ rfl _ _ 22 22 rfl _ _ rfl rfl _ _ hap3 ?_)
        clear hap3
        go_roundw
        case rel => exact ⟨k + 1, by omega, by go_num, R3, N3⟩
        case measure => simp [intOf]; omega
      · have he : (t : Int) - 1 - (k : Int) = 7 := by omega
        clear hd
        simp at hx
        replace hx := hx.symm
        go_wp2_with (at_builtin; refine Lib.wpList_append_run _ rfl _ _ 22 22 rfl _ _ rfl rfl _ _ hap3 ?_)
        clear hap3
        go_roundw
        case rel => exact ⟨k + 1, by omega, by go_num, R3, N3⟩
        case measure => simp [intOf]; omega
    · obtain rfl : k = t := by omega
      rw [List.take_of_length_le (by rw [bigL_len]; exact Nat.le_refl _)] at R
      go_wp2
      go_ret
      exact ⟨_, rfl, R, hN⟩
set_option maxRecDepth 100000 in
set_option maxHeartbeats 1000000 in
theorem cloneR_any (w : World) (g : Nat) (a : Option Addr) (c : Nat) (xs : List Int) (h : Rd w g a .u8 xs) (hz : a = none → c = 0) (m : xs.length ≤ 1099511627776) : Calls Tryz.prog 29 #[.slice a xs.length c] w fun e w' => ∃ v', e = .returned v' ∧ RowB w' w.heap.size v' xs ∧ Below w.heap.size w w' := by
  obtain ⟨i0, hi, hz0, hz1, hz2⟩ := info_parts Tryz.info5
  cases a with
  | none =>
    obtain rfl : xs = [] := by
      by_cases h0 : 0 < xs.length
      · obtain ⟨off, e, _⟩ := h h0
        simp at e
      · exact List.eq_nil_of_length_eq_zero (by omega)
    obtain rfl := hz rfl
    have b0 : ∀ W, (binOp BinOp.eql 22 (.slice none 0 0) (.slice none 0 0)).run Tryz.prog W = .ok (.bool true) W := fun W => by kernel_rfl
    go_enter Tryz.func29, Tryz.ntmps29
    go_wp2
    go_ret
    exact ⟨_, rfl, RowB.nilN _ _, Below.refl _ _⟩
  | some ad =>
    have n0 : Below w.heap.size w (w.alloc (.cells #[] 5)) := (Below.refl _ _).alloc (Nat.le_refl _) _
    have r := h.up n0
    obtain ⟨v1, w1, hap, R1, n1⟩ := append_any (P := Tryz.prog) (w.alloc (.cells #[] 5)) 22 i0 Tryz.underlying22 hi hz0 hz1 hz2 w.heap.size w.heap.size _ _ (RowB.lit0 w) g (some ad) c xs r (by simp) (by simp; omega) (Nat.le_refl _) n0.size
    have N1 := n0.trans n1
    rw [List.nil_append] at R1
    have b0 : ∀ W, (binOp BinOp.eql 22 (.slice (some ad) xs.length c) (.slice none 0 0)).run Tryz.prog W = .ok (.bool false) W := fun W => by kernel_rfl
    clear n0 n1 r m h
    go_enter Tryz.func29, Tryz.ntmps29
    go_wp2_with (at_builtin; refine Lib.wpList_append_run _ rfl _ _ 22 22 rfl _ _ rfl rfl _ _ hap ?_)
    go_ret
    exact ⟨_, rfl, R1, N1⟩
end Go.Proofs.YtflecleofaeiiaaGreat

/-
  A short text appended: its length is one byte; the program's.
-/
namespace Go.Proofs.YtflecleofaeiiaaGreat
open Go Go.RowKit

/-- A text, its length ahead. -/
def shL (l : List UInt8) : List Int := bigL (l.length : Int) 1 ++ txL l
theorem shL_len (l : List UInt8) : (shL l).length = l.length + 1 := by simp [shL, bigL_len, txL_len]; omega
set_option maxRecDepth 100000 in
set_option maxHeartbeats 1000000 in
theorem appendShort_any (w : World) (base : Nat) (v : Value) (xs : List Int) (R0 : RowB w base v xs) (hb : base ≤ w.heap.size) (l : List UInt8) (hl : xs.length ≤ 1073741824) (hz : l.length ≤ 1048576) :
    Calls Tryz.prog 91 #[v, .string ⟨⟨l⟩⟩] w fun e w' => ∃ v', e = .returned v' ∧ RowB w' base v' (xs ++ shL l) ∧ Below base w w' := by
  obtain ⟨i0, hi, hz0, hz1, hz2⟩ := info_parts Tryz.info5
  have C1 := hide (appendNum_any w base v xs R0 hb (l.length : Int) 1 (by omega) hl)
  have sz := tx_size l
  go_enter Tryz.func91, Tryz.ntmps91
  go_wp2_with fail
  refine C1.out.mono ?_
  rintro r w1 ⟨v1, rfl, R1, n1⟩
  have s1 := n1.size
  obtain ⟨v2, w2, hap, R2, n2⟩ := appendT_any (P := Tryz.prog) w1 22 i0 Tryz.underlying22 Tryz.underlying9 hi hz0 hz1 hz2 base base _ _ R1 l (by rw [List.length_append, bigL_len]; omega) (Nat.le_refl _) (by omega)
  rw [List.append_assoc] at R2
  have N2 := n1.trans n2
  clear R1 n1 n2 C1 R0
  go_wp2_with (at_builtin; refine Lib.wpList_append_run _ rfl _ _ 22 9 rfl _ _ rfl rfl _ _ hap ?_)
  go_ret
  exact ⟨_, rfl, R2, N2⟩
end Go.Proofs.YtflecleofaeiiaaGreat

/-
  The library's Grow of nothing and Concat: cut out of MkA, MkB and XlA, for longer lists.
-/
namespace Go.Proofs.YtflecleofaeiiaaGreat
open Go Go.RowKit

/-- A list that lies somewhere, out of block q. -/
structure Lst where
  g : Nat
  a : Option Addr
  c : Nat
  xs : List Int

def cat (ls : List Lst) : List Int := (ls.map Lst.xs).flatten

theorem cat_take (ls : List Lst) (j : Nat) (l : Lst) (h : ls[j]? = some l) : cat (ls.take (j + 1)) = cat (ls.take j) ++ l.xs := by
  unfold cat
  rw [List.take_add_one, h]
  simp

/-- A row of lists in block b. -/
def Lsts (w : World) (b : Nat) (ls : List Lst) : Prop := ∀ j l, ls[j]? = some l → w.cell? ⟨b, j, none⟩ = some (.slice l.a l.xs.length l.c)

theorem Lsts.up {w w' : World} {b : Nat} {ls : List Lst} (h : Lsts w b ls) (n : Below w.heap.size w w') : Lsts w' b ls := fun j l hj => by
  have := h j l hj
  rw [World.cell?_of_block (a := ⟨b, j, none⟩) (n.block b (block_lt_of_cell this))]
  exact this

set_option maxRecDepth 100000 in
set_option maxHeartbeats 1000000 in
theorem grow_any (w : World) (n : Nat) (h0 : 0 < n) (h1 : n ≤ 4194304) :
    Calls Tryz.prog 110 #[.slice none 0 0, .int .i64 (n : Int)] w fun e w' => ∃ v, e = .returned v ∧ RowB w' w.heap.size v [] ∧ Below w.heap.size w w' := by
  obtain ⟨i0, hi, hz0, hz1, hz2⟩ := info_parts Tryz.info5
  have hap := Lib.run_append_nil_zeros (P := Tryz.prog) w 22 3 22 5 i0 (.int .u8 0) .i64 .i64 Tryz.underlying22 Tryz.underlying3 hi hz0 n h0 (by omega) (by omega) (by rw [hz2]; omega)
  have ge := grownCap_ge w n 0 5
  have le : grownCap w n 0 5 ≤ maxLen := grownCap_le_maxLen w n 0 5 (by unfold maxLen; omega)
  have R : RowB (w.drew.alloc (.cells (Builtin.zeroCells (Value.int .u8 0).cells n ++ Builtin.zeroCells (Value.int .u8 0).cells (grownCap w n 0 5 - n)) 5)) w.heap.size (.slice (some ⟨w.heap.size, 0, none⟩) 0 (grownCap w n 0 5)) [] :=
    ⟨rfl, .inr ⟨w.heap.size, grownCap w n 0 5, _, rfl, Nat.le_refl _, _root_.Go.heap_alloc_new w.drew _, Nat.zero_le _, le, by rw [Array.size_append, size_zeroCells, size_zeroCells]; show n * 1 + (grownCap w n 0 5 - n) * 1 = _; omega, by simp⟩⟩
  have nb : Below w.heap.size w (w.drew.alloc (.cells (Builtin.zeroCells (Value.int .u8 0).cells n ++ Builtin.zeroCells (Value.int .u8 0).cells (grownCap w n 0 5 - n)) 5)) := ((Below.refl _ _).drew).alloc (Nat.le_refl _) _
  generalize w.drew.alloc (.cells (Builtin.zeroCells (Value.int .u8 0).cells n ++ Builtin.zeroCells (Value.int .u8 0).cells (grownCap w n 0 5 - n)) 5) = w' at *
  generalize grownCap w n 0 5 = cp at *
  have n0 : decide ((n : Int) < 0) = false := by simp
  have n1 : decide ((0 : Int) < (n : Int)) = true := by simp; omega
  have n2 : decide (0 < n) = true := by simpa using h0
  clear ge le
  go_enter Tryz.func110, Tryz.ntmps110
  go_wp2_with (at_builtin; refine Lib.wpList_append_run _ rfl _ _ 22 3 rfl _ _ rfl rfl _ _ hap ?_)
  go_ret
  exact ⟨_, rfl, R, nb⟩

theorem cat_len_le (ls : List Lst) (j : Nat) : (cat (ls.take j)).length ≤ (cat ls).length := by
  have : cat ls = cat (ls.take j) ++ cat (ls.drop j) := by
    unfold cat
    rw [← List.flatten_append, ← List.map_append, List.take_append_drop]
  rw [this, List.length_append]
  omega

set_option maxRecDepth 100000 in
set_option maxHeartbeats 4000000 in
theorem concatB_any (w : World) (b n c : Nat) (ls : List Lst) (hn : ls.length = n) (hm : n ≤ 1000) (hs : Lsts w b ls) (hl : ∀ l ∈ ls, Rd w l.g l.a .u8 l.xs ∧ (l.a = none → l.c = 0)) (h0 : 0 < (cat ls).length) (h1 : (cat ls).length ≤ 4194304) :
    Calls Tryz.prog 107 #[.slice (some ⟨b, 0, none⟩) n c] w fun e w' => (∃ v, e = .returned v ∧ RowB w' w.heap.size v (cat ls)) ∧ Below w.heap.size w w' := by
  obtain ⟨i0, hi, hz0, hz1, hz2⟩ := info_parts Tryz.info5
  have HN := hide hn
  clear hn
  obtain ⟨rs, hrs⟩ : ∃ l, l = cat ls := ⟨_, rfl⟩
  have HR := hide hrs
  rw [← hrs] at h0 h1 ⊢
  clear hrs
  have GR := hide (grow_any w rs.length h0 h1)
  go_enter Tryz.func107, Tryz.ntmps107
  go_wp2
  go_loopw [3, 5, 11] (fun s _ i wr => ∃ (j : Nat), j ≤ n ∧ i = .int .i64 j ∧ s = .int .i64 ((cat (ls.take j)).length : Int) ∧ w = wr) (fun _ _ i _ => n - (intOf i).toNat)
  case atStart => exact ⟨0, Nat.zero_le _, rfl, rfl, rfl⟩
  case round =>
    obtain ⟨j, hj, rfl, rfl, rfl⟩ := hrel
    by_cases hlt : j < n
    · obtain ⟨l, hjl⟩ : ∃ l, ls[j]? = some l := ⟨ls[j]'(by rw [HN.out]; exact hlt), List.getElem?_eq_getElem _⟩
      have cc := hs j l hjl
      have ct := cat_take ls j l hjl
      have lb := cat_len_le ls (j + 1)
      rw [← HR.out, ct, List.length_append] at lb
      have CT : Hid ((cat (ls.take (j + 1))).length = (cat (ls.take j)).length + l.xs.length) := by show _ = _; rw [ct, List.length_append]
      clear ct
      generalize (cat (ls.take j)).length = cj at *
      have jn : (j : Int) < (n : Int) := by omega
      have c0 : decide ((cj : Int) + (l.xs.length : Int) < 0) = false := by simp; omega
      go_wp2
      go_roundw
      case rel => exact ⟨j + 1, by omega, by go_num, by rw [CT.out]; go_num, by trivial⟩
      case measure => simp [intOf]; omega
    · obtain rfl : j = n := by omega
      have e : ls.take j = ls := List.take_of_length_le (by rw [HN.out]; exact Nat.le_refl _)
      rw [e, ← HR.out]
      clear e
      go_wp2_with fail
      refine GR.out.mono ?_
      rintro r w1 ⟨v1, rfl, R1, n1⟩
      go_wp2
      go_loopw [6, 8, 27] (fun v _ i wq => ∃ (k : Nat), k ≤ j ∧ i = .int .i64 k ∧ RowB wq w.heap.size v (cat (ls.take k)) ∧ Below w.heap.size w wq) (fun _ _ i _ => j - (intOf i).toNat)
      case atStart => exact ⟨0, Nat.zero_le _, rfl, R1, n1⟩
      case round =>
        obtain ⟨k, hk, rfl, R, hN⟩ := hrel
        clear R1 n1 GR
        by_cases hlt2 : k < j
        · obtain ⟨l, hjl⟩ : ∃ l, ls[k]? = some l := ⟨ls[k]'(by rw [HN.out]; exact hlt2), List.getElem?_eq_getElem _⟩
          have lm : l ∈ ls := List.mem_of_getElem? hjl
          have cc := (hs.up hN) k l hjl
          have ct := cat_take ls k l hjl
          have lb := cat_len_le ls (k + 1)
          rw [← HR.out, ct, List.length_append] at lb
          obtain ⟨v', w2, hap, o2, n2⟩ := append_any (P := Tryz.prog) wr 22 i0 Tryz.underlying22 hi hz0 hz1 hz2 w.heap.size w.heap.size _ _ R l.g l.a l.c l.xs ((hl l lm).1.up hN) (hl l lm).2 (by omega) (Nat.le_refl _) hN.size
          rw [← ct] at o2
          have N2 := hN.trans n2
          have kj : (k : Int) < (j : Int) := by omega
          clear ct lb R n2
          go_wp2_with (at_builtin; refine Lib.wpList_append_run _ rfl _ _ 22 22 rfl _ _ rfl rfl _ _ hap ?_)
          clear hap
          go_roundw
          case rel => exact ⟨k + 1, by omega, by go_num, o2, N2⟩
          case measure => simp [intOf]; omega
        · obtain rfl : k = j := by omega
          have e : ls.take k = ls := List.take_of_length_le (by rw [HN.out]; exact Nat.le_refl _)
          rw [e, ← HR.out] at R
          clear e
          go_wp2
          go_ret
          exact ⟨⟨_, rfl, R⟩, hN⟩
theorem concat_any (w : World) (b n c : Nat) (ls : List Lst) (hn : ls.length = n) (hm : n ≤ 1000) (hs : Lsts w b ls) (hl : ∀ l ∈ ls, Rd w l.g l.a .u8 l.xs ∧ (l.a = none → l.c = 0)) (h0 : 0 < (cat ls).length) (h1 : (cat ls).length ≤ 4194304) :
    Calls Tryz.prog 107 #[.slice (some ⟨b, 0, none⟩) n c] w fun e w' => NewRow w.heap.size w' e .u8 (cat ls) ∧ Below w.heap.size w w' := by
  refine (concatB_any w b n c ls hn hm hs hl h0 h1).mono ?_
  rintro e w' ⟨⟨v, rfl, R⟩, n⟩
  obtain ⟨a4, c4, g4, rfl, o4, p4, q4, r4⟩ := R.own
  exact ⟨⟨a4, c4, g4, rfl, o4, p4, q4, r4⟩, n⟩

end Go.Proofs.YtflecleofaeiiaaGreat

/-
  A ticket's state as bytes; the program's.
-/
namespace Go.Proofs.YtflecleofaeiiaaGreat
open Go Go.RowKit

theorem lsts_twoS (w : World) (t : TypeId) (l0 l1 : Lst) : Lsts (w.alloc (.cells #[.slice l0.a l0.xs.length l0.c, .slice l1.a l1.xs.length l1.c] t)) w.heap.size [l0, l1] := fun j l h => by
  have R := RwC.new w [.slice l0.a l0.xs.length l0.c, .slice l1.a l1.xs.length l1.c] t
  rcases (by have := (List.getElem?_eq_some_iff.1 h).1; simp at this; omega : j = 0 ∨ j = 1) with rfl | rfl
  · simp at h; subst h; exact R.cell 0
  · simp at h; subst h; exact R.cell 1
theorem cat2S (l0 l1 : Lst) : cat [l0, l1] = l0.xs ++ l1.xs := by simp [cat]
theorem RwC.at_base {w w' : World} {q B : Nat} {cs : List Value} {t : TypeId} (h : RwC w q cs t) (n : Below B w w') (hq : q < B) : RwC w' q cs t := (n.block q hq).trans h
theorem nameF_lenE {l : List UInt8} (h : nameF l = 0) : 1 ≤ l.length ∧ l.length ≤ 128 := by
  unfold nameF at h
  by_cases q : l.length < 1 ∨ 128 < l.length
  · rw [if_pos q] at h; exact absurd h (by decide)
  · omega
theorem sf0 {n n' : Nat} {md li : Int} {ho : List UInt8} {p : Nat} {ea : Int} (h : sfV n n' md li ho p ea = 0) : n = 32 ∧ n' = 32 ∧ (0 ≤ md ∧ md ≤ 253402300799) ∧ (1 ≤ li ∧ li ≤ 604800) ∧ (1 ≤ ho.length ∧ ho.length ≤ 128) ∧ p ≤ 32 ∧ (0 ≤ ea ∧ ea ≤ 4294967295) := by
  unfold sfV at h
  by_cases h0 : n ≠ 32 ∨ n' ≠ 32
  · rw [if_pos h0] at h; exact absurd h (by decide)
  rw [if_neg h0] at h
  by_cases h1 : isTm md = false
  · rw [if_pos h1] at h; exact absurd h (by decide)
  rw [if_neg h1] at h
  by_cases h2 : isLi li = false
  · rw [if_pos h2] at h; exact absurd h (by decide)
  rw [if_neg h2] at h
  by_cases h3 : nameF ho ≠ 0
  · rw [if_pos h3] at h; exact absurd h (by decide)
  rw [if_neg h3] at h
  by_cases h4 : 32 < p
  · rw [if_pos h4] at h; exact absurd h (by decide)
  rw [if_neg h4] at h
  by_cases h5 : isAg ea = false
  · rw [if_pos h5] at h; exact absurd h (by decide)
  exact ⟨by omega, by omega, (isTm_iff md).1 (by simpa using h1), (isLi_iff li).1 (by simpa using h2), nameF_lenE (by simpa using h3), by omega, (isAg_iff ea).1 (by simpa using h5)⟩
/-- A state's bytes. -/
def esL (X Y : List Int) (md li : Int) (ho pr : List UInt8) (ea : Int) : List Int := X ++ Y ++ bigL md 8 ++ bigL li 4 ++ bigL ea 4 ++ shL ho ++ shL pr
def esA (X Y : List Int) (md li : Int) (ho pr : List UInt8) (ea : Int) : List Int := if sfV X.length Y.length md li ho pr.length ea = 0 then esL X Y md li ho pr ea else []
theorem esL_len (X Y : List Int) (md li : Int) (ho pr : List UInt8) (ea : Int) : (esL X Y md li ho pr ea).length = X.length + Y.length + ho.length + pr.length + 18 := by
  unfold esL
  simp only [List.length_append, bigL_len, shL_len]
  omega
theorem esA_len (X Y : List Int) (md li : Int) (ho pr : List UInt8) (ea : Int) : (esA X Y md li ho pr ea).length ≤ 242 := by
  unfold esA
  by_cases h : sfV X.length Y.length md li ho pr.length ea = 0
  · have := sf0 h
    rw [if_pos h, esL_len]
    omega
  · rw [if_neg h]; simp
end Go.Proofs.YtflecleofaeiiaaGreat

/-
  Bytes that are read one field behind the other; the model's l13Take, l13Number. Behind the end there are bytes 0.
-/
namespace Go.Proofs.YtflecleofaeiiaaGreat
open Go Go.RowKit

/-- The n bytes from place i on. -/
def tkB (xs : List Int) (i n : Nat) : List Int := fill (fun k => xs.getD (i + k) 0) n
theorem tkB_len (xs : List Int) (i n : Nat) : (tkB xs i n).length = n := fill_len _ _
theorem tkB_get (xs : List Int) (i n k : Nat) (h : k < n) : (tkB xs i n).getD k 0 = xs.getD (i + k) 0 := fill_get _ _ _ h
theorem tkB_byt {xs : List Int} (h : Byt xs) (i n : Nat) : Byt (tkB xs i n) := fun k => by
  by_cases hk : k < n
  · rw [tkB_get _ _ _ _ hk]; exact h _
  · rw [List.getD_eq_getElem?_getD, List.getElem?_eq_none (by rw [tkB_len]; omega)]
    exact ⟨by simp, by simp⟩
/-- What is read lies in a block of its own; of what was there the reader's block alone has changed. -/
def NewI (p : Nat) (w w' : World) : Prop := w'.os = w.os ∧ w'.tape = w.tape ∧ w'.output = w.output ∧ w.heap.size ≤ w'.heap.size ∧ ∀ b, b < w.heap.size → b ≠ p → w'.heap[b]? = w.heap[b]?
theorem NewI.below {p B : Nat} {w w' : World} (h : NewI p w w') (hB : B ≤ p) (hw : B ≤ w.heap.size) : Below B w w' := ⟨h.1, h.2.1, h.2.2.1, h.2.2.2.1, fun k hk => h.2.2.2.2 k (by omega) (by omega)⟩
theorem NewI.block {p b : Nat} {w w' : World} (h : NewI p w w') (hb : b < w.heap.size) (hne : b ≠ p) : w'.heap[b]? = w.heap[b]? := h.2.2.2.2 b hb hne
theorem NewI.refl (p : Nat) (w : World) : NewI p w w := ⟨rfl, rfl, rfl, Nat.le_refl _, fun _ _ _ => rfl⟩
theorem NewI.trans {p : Nat} {a b c : World} (h : NewI p a b) (k : NewI p b c) : NewI p a c :=
  ⟨k.1.trans h.1, k.2.1.trans h.2.1, k.2.2.1.trans h.2.2.1, Nat.le_trans h.2.2.2.1 k.2.2.2.1, fun x hx hn => (k.2.2.2.2 x (Nat.lt_of_lt_of_le hx h.2.2.2.1) hn).trans (h.2.2.2.2 x hx hn)⟩
theorem NewI.of_below {p : Nat} {w w' : World} (h : Below w.heap.size w w') : NewI p w w' := ⟨h.os, h.tape, h.output, h.size, fun b hb _ => h.block b hb⟩
theorem NewI.of_only {p : Nat} {w w' : World} (h : Only p w w') : NewI p w w' := ⟨h.os, h.tape, h.output, Nat.le_of_eq h.size.symm, fun b _ hn => h.block b hn⟩
set_option maxRecDepth 100000 in
set_option maxHeartbeats 2000000 in
theorem l13Take_any (w : World) (p g : Nat) (a : Option Addr) (c : Nat) (xs : List Int) (i n : Nat) (hC : Cur w p (.slice a xs.length c) i) (hr : Rd w g a .u8 xs) (hi : i ≤ 4194304) (hn : n ≤ 3000) (hl : xs.length ≤ 4194304) :
    Calls Tryz.prog 36 #[.pointer (some ⟨p, 0, none⟩), .int .i64 (n : Int)] w fun e w' => e = .returned (.slice (some ⟨w.heap.size, 0, none⟩) n n) ∧ Blk w' w.heap.size .u8 (tkB xs i n) ∧ Cur w' p (.slice a xs.length c) ((i + n : Nat) : Int) ∧ NewI p w w' := by
  obtain ⟨i0, hi0, hz0, hz1, hz2⟩ := info_parts Tryz.info5
  have pl := hC.lt
  go_enter Tryz.func36, Tryz.ntmps36
  go_wp2_with (at_make; refine wpList_make_full _ rfl _ _ 22 rfl w.heap.size 5 i0 (.int .u8 0) 1 Tryz.underlying22 hi0 hz0 hz1 .i64 .i64 _ _ n rfl rfl rfl rfl (by rw [hz2]; omega) (by unfold maxLen; omega) (Nat.le_refl _) ?_; intro w1 hown hgrow)
  have hB0 := Blk.of_made hown
  have hN0 : Below w.heap.size w w1 := (Below.refl _ _).grown hgrow (Nat.le_refl _) (by simp)
  clear hown hgrow
  go_loopw [6] (fun j wr => ∃ (k : Nat) (ys : List Int), k ≤ n ∧ j = .int .i64 (k : Int) ∧ Hid (FillTo (fun k => xs.getD (i + k) 0) ys n k) ∧ Hid (∀ j, k ≤ j → ys.getD j 0 = 0) ∧ Blk wr w.heap.size .u8 ys ∧ Below w.heap.size w wr) (fun j _ => n - (intOf j).toNat)
  case atStart => exact ⟨0, _, Nat.zero_le _, rfl, ⟨by simp, fun j hj => absurd hj (by omega)⟩, (fun j _ => by rw [List.getD_eq_getElem?_getD, List.getElem?_replicate]; split <;> rfl), hB0, hN0⟩
  case round =>
    clear hB0 hN0
    obtain ⟨k, ys, hk, rfl, F, Z, B, N⟩ := hrel
    have C := hC.up N
    have c0 := C.c0
    have c1 := C.c1
    have f1 := C.f1
    by_cases hlt : k < n
    · have k0 : (k : Int) < (n : Int) := by omega
      have k1 : decide ((k : Int) < (n : Int)) = true := by simp; omega
      have kl : k < ys.length := by rw [F.out.1]; exact hlt
      by_cases hx : i + k < xs.length
      · have x0 : (i : Int) + (k : Int) < (xs.length : Int) := by omega
        have x1 : decide ((i : Int) + (k : Int) < (xs.length : Int)) = true := decide_eq_true x0
        obtain ⟨off, rfl, hc⟩ := hr.up N (by omega)
        have hcx := hc (i + k) hx
        clear hc
        have hfy := B.free k
        have hcy := B.cell kl
        have F' := hide (F.out.step hlt)
        have Z' : Hid (∀ j, k + 1 ≤ j → (ys.set k (xs.getD (i + k) 0)).getD j 0 = 0) := fun j hj => by rw [getD_set_ne _ _ _ _ (by omega)]; exact Z.out j (by omega)
        have B' := fun m q => hide (show Blk (((wr.drewN m).setCell ⟨w.heap.size, k, none⟩ (.int .u8 (xs.getD (i + k) 0))).drewN q) w.heap.size .u8 (ys.set k (xs.getD (i + k) 0)) from Blk.store (show Blk (wr.drewN m) w.heap.size .u8 ys from B) k (xs.getD (i + k) 0))
        have N' := fun m q => hide (show Below w.heap.size w (((wr.drewN m).setCell ⟨w.heap.size, k, none⟩ (.int .u8 (xs.getD (i + k) 0))).drewN q) from below_drewN ((below_drewN N m).trans ((Only.setCell _ _ _ _).below (Nat.le_refl _))) q)
        generalize xs.getD (i + k) 0 = x at *
        go_wp2
        go_quiet (fail)
        go_wp2
        go_region
        all_goals
          go_wp2
          go_roundw
          case rel => exact ⟨k + 1, _, by omega, by go_num, F', Z', (B' _ 0).out, (N' _ 0).out⟩
          case measure => simp [intOf]; omega
      · have x0 : ¬ (i : Int) + (k : Int) < (xs.length : Int) := by omega
        have x1 : decide ((i : Int) + (k : Int) < (xs.length : Int)) = false := decide_eq_false x0
        have F' : Hid (FillTo (fun k => xs.getD (i + k) 0) ys n (k + 1)) := by
          refine ⟨F.out.1, fun j hj => ?_⟩
          by_cases hjk : j < k
          · exact F.out.2 j hjk
          · obtain rfl : j = k := by omega
            show ys.getD j 0 = xs.getD (i + j) 0
            rw [Z.out j (Nat.le_refl _), List.getD_eq_getElem?_getD, List.getElem?_eq_none (by omega)]
            rfl
        have Z' : Hid (∀ j, k + 1 ≤ j → ys.getD j 0 = 0) := fun j hj => Z.out j (by omega)
        have B' := fun m => hide (show Blk (wr.drewN m) w.heap.size .u8 ys from B)
        have N' := fun m => hide (show Below w.heap.size w (wr.drewN m) from below_drewN N m)
        go_wp2
        go_quiet (fail)
        go_wp2
        go_roundw
        case rel => exact ⟨k + 1, _, by omega, by go_num, F', Z', (B' _).out, (N' _).out⟩
        case measure => simp [intOf]; omega
    · obtain rfl : k = n := by omega
      have k0 : ¬ (k : Int) < (k : Int) := by omega
      obtain rfl : ys = tkB xs i k := F.out.all
      have c2 := hide (show Cur (wr.setCell ⟨p, 1, none⟩ (.int .i64 ((i : Int) + (k : Int)))) p (.slice a xs.length c) ((i + k : Nat) : Int) from by have := C.store ((i : Int) + (k : Int)); rwa [show ((i : Int) + (k : Int)) = ((i + k : Nat) : Int) by omega] at this ⊢)
      have B2 := hide (show Blk (wr.setCell ⟨p, 1, none⟩ (.int .i64 ((i : Int) + (k : Int)))) w.heap.size .u8 (tkB xs i k) from B.of_block ((Only.setCell wr p 1 _).block _ (by omega)))
      have N2 := hide ((NewI.of_below (p := p) N).trans (NewI.of_only (Only.setCell wr p 1 (.int .i64 ((i : Int) + (k : Int))))))
      go_wp2
      go_ret
      exact ⟨rfl, B2.out, c2.out, N2.out⟩
/-- A number of n bytes from place i on, as 64 bits hold it. -/
def nmV (xs : List Int) (i n : Nat) : Int := wrap64 (beN xs i n)
theorem beN_tkB (xs : List Int) (i n : Nat) : ∀ k, k ≤ n → beN (tkB xs i n) 0 k = beN xs i k
  | 0, _ => rfl
  | k + 1, h => by
    have ih := beN_tkB xs i n k (by omega)
    show beN (tkB xs i n) 0 k * 256 + (tkB xs i n).getD (0 + k) 0 = beN xs i k * 256 + xs.getD (i + k) 0
    rw [ih, Nat.zero_add, tkB_get _ _ _ _ (by omega)]
set_option maxRecDepth 100000 in
set_option maxHeartbeats 2000000 in
theorem l13Number_any (w : World) (p g : Nat) (a : Option Addr) (c : Nat) (xs : List Int) (i n : Nat) (hC : Cur w p (.slice a xs.length c) i) (hr : Rd w g a .u8 xs) (hb : Byt xs) (hi : i ≤ 4194304) (hn : n ≤ 8) (hl : xs.length ≤ 4194304) :
    Calls Tryz.prog 35 #[.pointer (some ⟨p, 0, none⟩), .int .i64 (n : Int)] w fun e w' => e = .returned (.int .i64 (nmV xs i n)) ∧ Cur w' p (.slice a xs.length c) ((i + n : Nat) : Int) ∧ NewI p w w' := by
  have TK := hide (l13Take_any w p g a c xs i n hC hr hi (by omega) hl)
  have pl := hC.lt
  clear hC hr
  go_enter Tryz.func35, Tryz.ntmps35
  go_wp2_with fail
  refine TK.out.mono ?_
  rintro e w1 ⟨rfl, B, C, N⟩
  clear TK
  go_wp2
  go_loopw [5, 7] (fun v j wr => ∃ k : Nat, k ≤ n ∧ v = .int .i64 (nmV xs i k) ∧ j = .int .i64 (k : Int) ∧ wr = w1) (fun _ j _ => n - (intOf j).toNat)
  case atStart => exact ⟨0, Nat.zero_le _, by rw [show nmV xs i 0 = 0 by unfold nmV wrap64 beN; decide], rfl, rfl⟩
  case round =>
    obtain ⟨k, hk, rfl, rfl, rfl⟩ := hrel
    by_cases hlt : k < n
    · have k0 : (k : Int) < (n : Int) := by omega
      have kl : k < (tkB xs i n).length := by rw [tkB_len]; exact hlt
      have hc := B.cell kl
      rw [tkB_get _ _ _ _ hlt] at hc
      have bx := hb (i + k)
      have x0 := bx.1
      have x1 := bx.2
      have e : Hid (nmV xs i (k + 1) = wrap64 (wrap64 (nmV xs i k * 256) + xs.getD (i + k) 0)) := by
        show nmV xs i (k + 1) = _
        unfold nmV wrap64
        simp only [beN]
        omega
      clear bx
      generalize xs.getD (i + k) 0 = x at *
      generalize nmV xs i k = m at *
      go_wp2
      go_roundw
      case rel => exact ⟨k + 1, by omega, by rw [e.out], by go_num, trivial⟩
      case measure => simp [intOf]; omega
    · obtain rfl : k = n := by omega
      go_wp2
      go_ret
      exact ⟨rfl, C, N⟩
theorem nmV_small {xs : List Int} (hb : Byt xs) (i n : Nat) (hn : n ≤ 7) : nmV xs i n = beN xs i n := by
  have r := beN_rng hb i n
  have r1 : beN xs i n < 72057594037927936 := by
    rcases (by omega : n = 0 ∨ n = 1 ∨ n = 2 ∨ n = 3 ∨ n = 4 ∨ n = 5 ∨ n = 6 ∨ n = 7) with rfl | rfl | rfl | rfl | rfl | rfl | rfl | rfl
    all_goals (have := r.2; simp at this; omega)
  unfold nmV wrap64
  omega
end Go.Proofs.YtflecleofaeiiaaGreat

/-
  A ticket's state out of bytes: no Go.
-/
namespace Go.Proofs.YtflecleofaeiiaaGreat
open Go Go.RowKit

/-- Bytes as a text. -/
def txB (xs : List Int) : List UInt8 := xs.map fun n => UInt8.ofNat n.toNat
theorem txB_len (xs : List Int) : (txB xs).length = xs.length := by simp [txB]
theorem str_is (xs : List Int) : str xs = ⟨⟨txB xs⟩⟩ := by
  have h := str_data xs ByteArray.empty
  have e : (str xs).data = ⟨txB xs⟩ := by
    unfold str
    rw [h]
    show (#[] : Array UInt8) ++ (txB xs).toArray = _
    simp
  calc str xs = ⟨(str xs).data⟩ := rfl
    _ = _ := by rw [e]
theorem txL_txB {xs : List Int} (h : Byt xs) : txL (txB xs) = xs := by
  unfold txL txB
  rw [List.map_map]
  have : ∀ x ∈ xs, ((fun b : UInt8 => (b.toNat : Int)) ∘ fun n : Int => UInt8.ofNat n.toNat) x = x := fun x hx => by
    obtain ⟨i, hi, e⟩ := List.getElem_of_mem hx
    have b := h i
    rw [List.getD_eq_getElem?_getD, List.getElem?_eq_getElem hi, e] at b
    simp at b
    simp
    omega
  exact (List.map_congr_left this).trans (List.map_id _)
theorem tkB_take (xs : List Int) (i n : Nat) (h : i + n ≤ xs.length) : (xs.drop i).take n = tkB xs i n := by
  apply eq_of_getD
  · rw [List.length_take, List.length_drop, tkB_len]; omega
  · intro k hk
    rw [List.length_take, List.length_drop] at hk
    rw [tkB_get _ _ _ _ (by omega), List.getD_eq_getElem?_getD, List.getElem?_take, if_pos (by omega), List.getElem?_drop, ← List.getD_eq_getElem?_getD]
/-- What is read: the two texts' sizes, and all of it. -/
def dn1 (b : List Int) : Nat := (beN b 80 1).toNat
def dn2 (b : List Int) : Nat := (beN b (81 + dn1 b) 1).toNat
def dX (b : List Int) : List Int := tkB b 0 32
def dY (b : List Int) : List Int := tkB b 32 32
def dM (b : List Int) : Int := nmV b 64 8
def dL (b : List Int) : Int := nmV b 72 4
def dE (b : List Int) : Int := nmV b 76 4
def dH (b : List Int) : List UInt8 := txB (tkB b 81 (dn1 b))
def dP (b : List Int) : List UInt8 := txB (tkB b (82 + dn1 b) (dn2 b))
theorem dn1_is {b : List Int} (h : Byt b) : (dn1 b : Int) = beN b 80 1 ∧ dn1 b ≤ 255 := by
  have r := beN_rng h 80 1
  have r1 : beN b 80 1 < 256 := by have := r.2; simpa using this
  unfold dn1
  omega
theorem dn2_is {b : List Int} (h : Byt b) : (dn2 b : Int) = beN b (81 + dn1 b) 1 ∧ dn2 b ≤ 255 := by
  have r := beN_rng h (81 + dn1 b) 1
  have r1 : beN b (81 + dn1 b) 1 < 256 := by have := r.2; simpa using this
  unfold dn2
  omega
theorem dH_len (b : List Int) : (dH b).length = dn1 b := by unfold dH; rw [txB_len, tkB_len]
theorem dP_len (b : List Int) : (dP b).length = dn2 b := by unfold dP; rw [txB_len, tkB_len]
theorem dX_len (b : List Int) : (dX b).length = 32 := tkB_len _ _ _
theorem dY_len (b : List Int) : (dY b).length = 32 := tkB_len _ _ _
/-- Are these the bytes of a state? -/
def dsB (b : List Int) : Bool := decide (sfV (dX b).length (dY b).length (dM b) (dL b) (dH b) (dP b).length (dE b) = 0) && decide (esA (dX b) (dY b) (dM b) (dL b) (dH b) (dP b) (dE b) = b)
theorem dsB_len {b : List Int} (h : dsB b = true) : 82 + dn1 b + dn2 b = b.length := by
  unfold dsB at h
  simp only [Bool.and_eq_true, decide_eq_true_eq] at h
  obtain ⟨h0, h1⟩ := h
  unfold esA at h1
  rw [if_pos h0] at h1
  have := congrArg List.length h1
  rw [esL_len, dH_len, dP_len, dX_len, dY_len] at this
  omega
/-- Where the bytes do not lack, the form alone decides. -/
theorem dsB_form {b : List Int} (h : 82 + dn1 b + dn2 b ≤ b.length) : dsB b = decide (esA (dX b) (dY b) (dM b) (dL b) (dH b) (dP b) (dE b) = b) := by
  unfold dsB
  by_cases h0 : sfV (dX b).length (dY b).length (dM b) (dL b) (dH b) (dP b).length (dE b) = 0
  · simp [h0]
  · have e : esA (dX b) (dY b) (dM b) (dL b) (dH b) (dP b) (dE b) = [] := by unfold esA; rw [if_neg h0]
    rw [e]
    have : ¬ ([] : List Int) = b := fun q => by rw [← q] at h; simp at h
    simp [h0, this]
theorem dsB_short {b : List Int} (h : ¬ 82 + dn1 b + dn2 b ≤ b.length) : dsB b = false := by
  cases e : dsB b
  · rfl
  · exact absurd (dsB_len e) (by omega)
end Go.Proofs.YtflecleofaeiiaaGreat

/-
  Items as bytes: numbers alone.
-/
namespace Go.Proofs.YtflecleofaeiiaaGreat

/-- The first byte of a length, and its one form. -/
def lenS (n : Nat) : Nat := if n < 128 then n else if n < 256 then 129 else 130
def lenL (n : Nat) : List Int := if n < 128 then [(n : Int)] else if n < 256 then [129, (n : Int)] else [130, (n : Int) / 256, (n : Int) % 256]
theorem lenL_len (n : Nat) : 1 ≤ (lenL n).length ∧ (lenL n).length ≤ 3 := by unfold lenL; split; · simp
                                                                             split <;> simp
theorem lenL_byt (n : Nat) (h : n ≤ 65535) : Byt (lenL n) := by
  intro i
  unfold lenL
  split
  · match i with
    | 0 => simp; omega
    | i + 1 => simp
  split
  · match i with
    | 0 => simp
    | 1 => simp; omega
    | i + 2 => simp
  · match i with
    | 0 => simp
    | 1 => simp; omega
    | 2 => simp; omega
    | i + 3 => simp
/-- What EncodeItem answers. -/
def itB (tag : Int) (n : Nat) : Bool := decide (1 ≤ tag) && (decide (tag ≤ 255) && decide (n ≤ 65535))
def itL (tag : Int) (body : List Int) : List Int := if itB tag body.length = true then tag :: (lenL body.length ++ body) else []
theorem itL_len (tag : Int) (body : List Int) : (itL tag body).length ≤ body.length + 4 := by
  unfold itL
  split
  · have := lenL_len body.length
    simp
    omega
  · simp
end Go.Proofs.YtflecleofaeiiaaGreat

/-
  The program's EncodeItem.
-/
namespace Go.Proofs.YtflecleofaeiiaaGreat
open Go Go.RowKit

/-- One byte appended. -/
theorem append_one {P : Program} (w : World) (i : TypeInfo) (ht : P.underlying 22 = some (.slice 5)) (hi : P.info? 5 = some i) (hz : i.zero = some (.int .u8 0)) (hsize : i.size = 1) (hby : i.bytes = 1)
    (B : Nat) (v : Value) (xs : List Int) (hown : RowB w B v xs) (x : Int) (hl : xs.length ≤ 1048576) (hB : B ≤ w.heap.size) :
    ∃ v' w', (Builtin.append_ #[22, 22] 22 #[v, .slice (some ⟨w.heap.size, 0, none⟩) 1 1]).run P (w.alloc (.cells #[.int .u8 x] 5)) = .ok v' w' ∧ RowB w' B v' (xs ++ [x]) ∧ Below B w w' := by
  have na : Below w.heap.size w (w.alloc (.cells #[.int .u8 x] 5)) := (Below.refl _ _).alloc (Nat.le_refl _) _
  have B1 : Blk (w.alloc (.cells #[.int .u8 x] 5)) w.heap.size .u8 [x] := blk_lit1 w .u8 5 x
  obtain ⟨v', w2, hap, o2, n2⟩ := append_any (P := P) (w.alloc (.cells #[.int .u8 x] 5)) 22 i ht hi hz hsize hby B B _ _ (hown.up na) _ _ 1 [x] B1.own0.rd (by simp) (by simp; omega) (Nat.le_refl _) (by have := na.size; omega)
  exact ⟨v', w2, hap, o2, (na.mono hB).trans n2⟩

theorem itB_yes {tag : Int} {n : Nat} (h : itB tag n = true) : 1 ≤ tag ∧ tag ≤ 255 ∧ n ≤ 65535 := by
  unfold itB at h
  simpa using h

theorem itL_short (tag : Int) (body : List Int) : (itL tag body).length ≤ 65540 := by
  unfold itL
  split
  · rename_i h
    have := itB_yes h
    have := lenL_len body.length
    simp
    omega
  · simp
end Go.Proofs.YtflecleofaeiiaaGreat
