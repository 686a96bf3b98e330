import Derived.Test.YtmmbkkfjiaoeiaaGreatGV3
import Derived.Test.YtmmbkkfjiaoeiaaGreatGV2
import Derived.Test.YtmmbkkfjiaoeiaaGreatGV1
import Derived.Lib.AppendStr
import Derived.Test.YtmmbkkfjiaoeiaaGreatGV4
import Derived.Lib.AppendZeros
import Derived.Test.YtmmbkkfjiaoeiaaGreatGV8
import Derived.Deep.Cut
namespace Go.Proofs.YtmmbkkfjiaoeiaaGreat
open Go Go.RowKit
def txL (l : List UInt8) : List Int := l.map fun b => (b.toNat : Int)
theorem txL_len (l : List UInt8) : (txL l).length = l.length := by simp [txL]
theorem appendT_any {P : Program} (w : World) (ty : TypeId) (i : TypeInfo) (ht : P.underlying 22 = some (.slice 5)) (hu : P.underlying 9 = some .string) (hi : P.info? 5 = some i) (hz : i.zero = some (.int .u8 0)) (hsize : i.size = 1) (hby : i.bytes = 1)
    (base B : Nat) (v : Value) (xs : List Int) (hown : RowB w base v xs) (l : List UInt8) (hl : xs.length + l.length ≤ 1099511627776) (hB : B ≤ base) (hbase : base ≤ w.heap.size) :
    ∃ v' w', (Builtin.append_ #[22, 9] ty #[v, .string ⟨⟨l⟩⟩]).run P w = .ok v' w' ∧ RowB w' base v' (xs ++ txL l) ∧ Below B w w' := by
  have hs : (ByteArray.mk ⟨l⟩).size = l.length := rfl
  obtain ⟨v', w', h1, h2, h3, _⟩ := Lib.run_append_own_string (P := P) w base 22 9 ty 5 i ht hu hi hz hsize hby v xs.length (xs.map (Value.int .u8)) hown ⟨⟨l⟩⟩ (by rw [hs]; unfold maxLen; omega) (by rw [hs]; omega) hbase
  refine ⟨v', w', h1, ?_, (Below.refl B w).grown h3 (by omega) (fun k hk => by have := (World.ownsRow.lt hown k hk).1; omega)⟩
  show w'.ownsRow base 5 1 v' (xs ++ txL l).length ((xs ++ txL l).map (Value.int .u8))
  rw [List.length_append, List.map_append, txL_len]
  have e : (txL l).map (Value.int .u8) = Lib.strCells ⟨⟨l⟩⟩ := by simp [txL, Lib.strCells]
  rw [e]
  exact h2
end Go.Proofs.YtmmbkkfjiaoeiaaGreat
namespace Go.Proofs.YtmmbkkfjiaoeiaaGreat
open Go Go.RowKit
theorem RowB.nil (w : World) (base : Nat) : RowB w base (.slice none 0 0) [] := ⟨rfl, .inl ⟨rfl, rfl⟩⟩
end Go.Proofs.YtmmbkkfjiaoeiaaGreat
namespace Go.Proofs.YtmmbkkfjiaoeiaaGreat
open Go Go.RowKit
def shL (l : List UInt8) : List Int := bigL (l.length : Int) 1 ++ txL l
theorem shL_len (l : List UInt8) : (shL l).length = l.length + 1 := by simp [shL, bigL_len, txL_len]; omega
set_option maxRecDepth 100000 in
set_option maxHeartbeats 1000000 in
theorem appendShort_any (w : World) (base : Nat) (v : Value) (xs : List Int) (R0 : RowB w base v xs) (hb : base ≤ w.heap.size) (l : List UInt8) (hl : xs.length ≤ 1073741824) (hz : l.length ≤ 1048576) :
    Calls Tryz.prog 91 #[v, .string ⟨⟨l⟩⟩] w fun e w' => ∃ v', e = .returned v' ∧ RowB w' base v' (xs ++ shL l) ∧ Below base w w' := by
  obtain ⟨i0, hi, hz0, hz1, hz2⟩ := info_parts Tryz.info5
  have C1 := hide (appendNum_any w base v xs R0 hb (l.length : Int) 1 (by omega) hl)
  have sz := tx_size l
  go_enter Tryz.func91, Tryz.ntmps91
  go_wp2_with fail
  refine C1.out.mono ?_
  rintro r w1 ⟨v1, rfl, R1, n1⟩
  have s1 := n1.size
  obtain ⟨v2, w2, hap, R2, n2⟩ := appendT_any (P := Tryz.prog) w1 22 i0 Tryz.underlying22 Tryz.underlying9 hi hz0 hz1 hz2 base base _ _ R1 l (by rw [List.length_append, bigL_len]; omega) (Nat.le_refl _) (by omega)
  rw [List.append_assoc] at R2
  have N2 := n1.trans n2
  clear R1 n1 n2 C1 R0
  go_wp2_with (at_builtin; refine Lib.wpList_append_run _ rfl _ _ 22 9 rfl _ _ rfl rfl _ _ hap ?_)
  go_ret
  exact ⟨_, rfl, R2, N2⟩
end Go.Proofs.YtmmbkkfjiaoeiaaGreat
namespace Go.Proofs.YtmmbkkfjiaoeiaaGreat
open Go Go.RowKit
theorem bigL_take (n : Int) (t k : Nat) (h : k < t) : (bigL n t).take (k + 1) = (bigL n t).take k ++ [n / 256 ^ (t - 1 - k) % 256] := by
  rw [List.take_add_one]
  simp [bigL, h]
set_option maxHeartbeats 2000000 in
theorem appendNumber_any (w : World) (base : Nat) (v : Value) (xs : List Int) (R0 : RowB w base v xs) (hb : base ≤ w.heap.size) (n : Int) (t : Nat) (ht : t ≤ 4) (hl : xs.length ≤ 1073741824) :
    Calls Tryz.prog 17 #[v, .int .i64 n, .int .i64 (t : Int)] w fun e w' => ∃ v', e = .returned v' ∧ RowB w' base v' (xs ++ bigL n t) ∧ Below base w w' := by
  obtain ⟨i0, hi, hz0, hz1, hz2⟩ := info_parts Tryz.info5
  go_enter Tryz.func17, Tryz.ntmps17
  go_wp2
  go_loopw [0, 7, 9] (fun l _ i wr => ∃ k : Nat, k ≤ t ∧ i = .int .i64 k ∧ RowB wr base l (xs ++ (bigL n t).take k) ∧ Below base w wr) (fun _ _ i _ => t - (intOf i).toNat)
  case atStart => exact ⟨0, Nat.zero_le _, rfl, by simpa using R0, Below.refl _ _⟩
  case round =>
    obtain ⟨k, hk, rfl, R, hN⟩ := hrel
    by_cases hlt : k < t
    · have hs := hN.size
      have bt := bigL_take n t k hlt
      obtain ⟨x, hx⟩ : ∃ x, x = n / 256 ^ (t - 1 - k) % 256 := ⟨_, rfl⟩
      rw [← hx] at bt
      have BT := hide bt
      clear bt
      have n2 : Below wr.heap.size wr (wr.alloc (.cells #[.int .u8 x] 5)) := (Below.refl _ _).alloc (Nat.le_refl _) _
      obtain ⟨v3, w3, hap3, R3, n3⟩ := append_any (P := Tryz.prog) (wr.alloc (.cells #[.int .u8 x] 5)) 22 i0 Tryz.underlying22 hi hz0 hz1 hz2 base base _ _ (R.up n2) _ _ 1 [x] (blk_lit1 wr .u8 5 x).own0.rd (by simp) (by simp; omega) (Nat.le_refl _) (by simp; omega)
      rw [List.append_assoc, ← BT.out] at R3
      have N3 := (hN.trans (n2.mono (by omega))).trans n3
      clear R n2 n3 hN BT
      have k1 : (k : Int) < (t : Int) := by omega
      obtain ⟨d, hd⟩ : ∃ d, d = t - 1 - k := ⟨_, rfl⟩
      rw [← hd] at hx
      rcases (by omega : d = 0 ∨ d = 1 ∨ d = 2 ∨ d = 3) with rfl | rfl | rfl | rfl
      · have he : (t : Int) - 1 - (k : Int) = 0 := by omega
        clear hd
        simp at hx
        replace hx := hx.symm
        go_wp2_with (at_builtin; refine Lib.wpList_append_run _ rfl _ _ 22 22 rfl _ _ rfl rfl _ _ hap3 ?_)
        clear hap3
        go_roundw
        case rel => exact ⟨k + 1, by omega, by go_num, R3, N3⟩
        case measure => simp [intOf]; omega
      · have he : (t : Int) - 1 - (k : Int) = 1 := by omega
        clear hd
        simp at hx
        replace hx := hx.symm
        go_wp2_with (at_builtin; refine Lib.wpList_append_run _ rfl _ _ 22 22 rfl _ _ rfl rfl _ _ hap3 ?_)
        clear hap3
        go_roundw
        case rel => exact ⟨k + 1, by omega, by go_num, R3, N3⟩
        case measure => simp [intOf]; omega
      · have he : (t : Int) - 1 - (k : Int) = 2 := by omega
        clear hd
        simp at hx
        replace hx := hx.symm
        go_wp2_with (at_builtin; refine Lib.wpList_append_run _ rfl _ _ 22 22 rfl _ _ rfl rfl _ _ hap3 ?_)
        clear hap3
        go_roundw
        case rel => exact ⟨k + 1, by omega, by go_num, R3, N3⟩
        case measure => simp [intOf]; omega
      · have he : (t : Int) - 1 - (k : Int) = 3 := by omega
        clear hd
        simp at hx
        replace hx := hx.symm
        go_wp2_with (at_builtin; refine Lib.wpList_append_run _ rfl _ _ 22 22 rfl _ _ rfl rfl _ _ hap3 ?_)
        clear hap3
        go_roundw
        case rel => exact ⟨k + 1, by omega, by go_num, R3, N3⟩
        case measure => simp [intOf]; omega
    · obtain rfl : k = t := by omega
      rw [List.take_of_length_le (by rw [bigL_len]; exact Nat.le_refl _)] at R
      go_wp2
      go_ret
      exact ⟨_, rfl, R, hN⟩
def loL (xs : List Int) : List Int := bigL (xs.length : Int) 2 ++ xs
def lsL (ls : List (List UInt8)) : List Int := [(ls.length : Int)] ++ (ls.map shL).flatten
def clL (bs : List (List Int)) : List Int := [(bs.length : Int)] ++ (bs.map loL).flatten
theorem loL_len (l : List Int) : (loL l).length = l.length + 2 := by simp [loL, bigL_len]; omega
set_option maxHeartbeats 1000000 in
theorem appendLong_any (w : World) (base : Nat) (v : Value) (xs : List Int) (R0 : RowB w base v xs) (hb : base ≤ w.heap.size) (g : Nat) (a : Option Addr) (c : Nat) (us : List Int) (hr : Rd w g a .u8 us) (hc : a = none → c = 0) (hg : us.length = 0 ∨ g < base) (hl : xs.length ≤ 1073741824) (hz : us.length ≤ 1048576) :
    Calls Tryz.prog 94 #[v, .slice a us.length c] w fun e w' => ∃ v', e = .returned v' ∧ RowB w' base v' (xs ++ loL us) ∧ Below base w w' := by
  obtain ⟨i0, hi, hz0, hz1, hz2⟩ := info_parts Tryz.info5
  have C1 := hide (appendNumber_any w base v xs R0 hb (us.length : Int) 2 (by omega) hl)
  go_enter Tryz.func94, Tryz.ntmps94
  go_wp2_with fail
  refine C1.out.mono ?_
  rintro r w1 ⟨v1, rfl, R1, n1⟩
  have s1 := n1.size
  have hr1 : Rd w1 g a .u8 us := by
    by_cases h0 : 0 < us.length
    · exact hr.of_block (n1.block g (by omega))
    · exact fun h => absurd h h0
  obtain ⟨v2, w2, hap, R2, n2⟩ := append_any (P := Tryz.prog) w1 22 i0 Tryz.underlying22 hi hz0 hz1 hz2 base base _ _ R1 g a c us hr1 hc (by rw [List.length_append, bigL_len]; omega) (Nat.le_refl _) (by omega)
  rw [List.append_assoc] at R2
  have N2 := n1.trans n2
  clear R1 n1 n2 C1 R0 hr hr1 hg
  go_wp2_with (at_builtin; refine Lib.wpList_append_run _ rfl _ _ 22 22 rfl _ _ rfl rfl _ _ hap ?_)
  go_ret
  exact ⟨_, rfl, R2, N2⟩
theorem RdT.at_base {w w' : World} {g base : Nat} {a : Option Addr} {ls : List (List UInt8)} (h : RdT w g a ls) (hg : ls.length = 0 ∨ g < base) (n : Below base w w') : RdT w' g a ls := by
  by_cases h0 : 0 < ls.length
  · exact h.of_block (n.block g (by omega))
  · exact fun h1 => absurd h1 h0
theorem Rd.at_base {w w' : World} {g base : Nat} {a : Option Addr} {xs : List Int} (h : Rd w g a .u8 xs) (hg : xs.length = 0 ∨ g < base) (n : Below base w w') : Rd w' g a .u8 xs := by
  by_cases h0 : 0 < xs.length
  · exact h.of_block (n.block g (by omega))
  · exact fun h1 => absurd h1 h0
theorem sh_take (ls : List (List UInt8)) (k : Nat) (h : k < ls.length) : ((ls.map shL).take (k + 1)).flatten = ((ls.map shL).take k).flatten ++ shL (ls.getD k []) := by
  rw [List.take_add_one]
  simp [h]
theorem sh_sum (ls : List (List UInt8)) (B : Nat) (hz : ∀ l ∈ ls, l.length ≤ B) (k : Nat) : ((ls.map shL).take k).flatten.length ≤ k * (B + 1) := by
  induction k with
  | zero => simp
  | succ k ih =>
    by_cases h : k < ls.length
    · rw [sh_take ls k h, List.length_append, shL_len, Nat.succ_mul]
      have := hz (ls.getD k []) (by rw [List.getD_eq_getElem?_getD, List.getElem?_eq_getElem h]; exact List.getElem_mem h)
      omega
    · rw [List.take_of_length_le (by simp; omega)]
      rw [List.take_of_length_le (by simp; omega)] at ih
      rw [Nat.succ_mul]
      omega
set_option maxHeartbeats 1000000 in
theorem appendShorts_any (w : World) (base : Nat) (v : Value) (xs : List Int) (R0 : RowB w base v xs) (hb : base ≤ w.heap.size) (g : Nat) (a : Option Addr) (c : Nat) (ls : List (List UInt8)) (hr : RdT w g a ls) (hg : ls.length = 0 ∨ g < base) (hl : xs.length ≤ 536870912) (hn : ls.length ≤ 8) (hz : ∀ l ∈ ls, l.length ≤ 1048576) :
    Calls Tryz.prog 93 #[v, .slice a ls.length c] w fun e w' => ∃ v', e = .returned v' ∧ RowB w' base v' (xs ++ lsL ls) ∧ Below base w w' := by
  obtain ⟨i0, hi, hz0, hz1, hz2⟩ := info_parts Tryz.info5
  have n2 : Below w.heap.size w (w.alloc (.cells #[.int .u8 (ls.length : Int)] 5)) := (Below.refl _ _).alloc (Nat.le_refl _) _
  obtain ⟨v3, w3, hap3, R3, n3⟩ := append_any (P := Tryz.prog) (w.alloc (.cells #[.int .u8 (ls.length : Int)] 5)) 22 i0 Tryz.underlying22 hi hz0 hz1 hz2 base base _ _ (R0.up n2) _ _ 1 [(ls.length : Int)] (blk_lit1 w .u8 5 (ls.length : Int)).own0.rd (by simp) (by simp; omega) (Nat.le_refl _) (by simp; omega)
  have N3 := (n2.mono hb).trans n3
  have SUM := hide (sh_sum ls 1048576 hz)
  have HZ := hide hz
  clear n2 n3 R0 hz
  go_enter Tryz.func93, Tryz.ntmps93
  go_wp2_with (at_builtin; refine Lib.wpList_append_run _ rfl _ _ 22 22 rfl _ _ rfl rfl _ _ hap3 ?_)
  clear hap3
  go_loopw [0, 6, 15] (fun q _ i wr => ∃ k : Nat, k ≤ ls.length ∧ i = .int .i64 k ∧ RowB wr base q (xs ++ [(ls.length : Int)] ++ ((ls.map shL).take k).flatten) ∧ Below base w wr) (fun _ _ i _ => ls.length - (intOf i).toNat)
  case atStart => exact ⟨0, Nat.zero_le _, rfl, by simpa using R3, N3⟩
  case round =>
    obtain ⟨k, hk, rfl, R, hN⟩ := hrel
    clear R3 N3
    by_cases hlt : k < ls.length
    · have hs := hN.size
      obtain ⟨off, rfl, hc⟩ := (hr.at_base hg hN) (by omega)
      have t0 : (k : Int) < (ls.length : Int) := by omega
      have c1 := hc k hlt
      have ST := hide (sh_take ls k hlt)
      have zk : (ls.getD k []).length ≤ 1048576 := HZ.out _ (by rw [List.getD_eq_getElem?_getD, List.getElem?_eq_getElem hlt]; exact List.getElem_mem hlt)
      have CS := hide (appendShort_any wr base _ _ R (by omega) (ls.getD k []) (by
        have := SUM.out k
        have : k * (1048576 + 1) ≤ 8 * (1048576 + 1) := Nat.mul_le_mul_right _ (by omega)
        simp only [List.length_append, List.length_cons, List.length_nil]
        omega) zk)
      clear R hc zk hr
      generalize ls.getD k [] = x at *
      simp only [tx] at c1
      go_wp2_with fail
      refine CS.out.mono ?_
      rintro r w4 ⟨v4, rfl, R4, n4⟩
      rw [List.append_assoc, ← ST.out] at R4
      have N4 := hN.trans n4
      clear CS n4 hN ST c1
      go_wp2
      go_roundw
      case rel => exact ⟨k + 1, by omega, by go_num, R4, N4⟩
      case measure => simp [intOf]; omega
    · obtain rfl : k = ls.length := by omega
      rw [List.take_of_length_le (by simp), List.append_assoc] at R
      clear hr
      go_wp2
      go_ret
      exact ⟨_, rfl, R, hN⟩
end Go.Proofs.YtmmbkkfjiaoeiaaGreat
namespace Go.Proofs.YtmmbkkfjiaoeiaaGreat
open Go Go.RowKit
structure Lst where
  g : Nat
  a : Option Addr
  c : Nat
  xs : List Int
def cat (ls : List Lst) : List Int := (ls.map Lst.xs).flatten
theorem cat_take (ls : List Lst) (j : Nat) (l : Lst) (h : ls[j]? = some l) : cat (ls.take (j + 1)) = cat (ls.take j) ++ l.xs := by
  unfold cat
  rw [List.take_add_one, h]
  simp
def Lsts (w : World) (b : Nat) (ls : List Lst) : Prop := ∀ j l, ls[j]? = some l → w.cell? ⟨b, j, none⟩ = some (.slice l.a l.xs.length l.c)
theorem Lsts.up {w w' : World} {b : Nat} {ls : List Lst} (h : Lsts w b ls) (n : Below w.heap.size w w') : Lsts w' b ls := fun j l hj => by
  have := h j l hj
  rw [World.cell?_of_block (a := ⟨b, j, none⟩) (n.block b (block_lt_of_cell this))]
  exact this
set_option maxRecDepth 100000 in
set_option maxHeartbeats 1000000 in
theorem grow_any (w : World) (n : Nat) (h0 : 0 < n) (h1 : n ≤ 4194304) :
    Calls Tryz.prog 110 #[.slice none 0 0, .int .i64 (n : Int)] w fun e w' => ∃ v, e = .returned v ∧ RowB w' w.heap.size v [] ∧ Below w.heap.size w w' := by
  obtain ⟨i0, hi, hz0, hz1, hz2⟩ := info_parts Tryz.info5
  have hap := Lib.run_append_nil_zeros (P := Tryz.prog) w 22 3 22 5 i0 (.int .u8 0) .i64 .i64 Tryz.underlying22 Tryz.underlying3 hi hz0 n h0 (by omega) (by omega) (by rw [hz2]; omega)
  have ge := grownCap_ge w n 0 5
  have le : grownCap w n 0 5 ≤ maxLen := grownCap_le_maxLen w n 0 5 (by unfold maxLen; omega)
  have R : RowB (w.drew.alloc (.cells (Builtin.zeroCells (Value.int .u8 0).cells n ++ Builtin.zeroCells (Value.int .u8 0).cells (grownCap w n 0 5 - n)) 5)) w.heap.size (.slice (some ⟨w.heap.size, 0, none⟩) 0 (grownCap w n 0 5)) [] :=
    ⟨rfl, .inr ⟨w.heap.size, grownCap w n 0 5, _, rfl, Nat.le_refl _, _root_.Go.heap_alloc_new w.drew _, Nat.zero_le _, le, by rw [Array.size_append, size_zeroCells, size_zeroCells]; show n * 1 + (grownCap w n 0 5 - n) * 1 = _; omega, by simp⟩⟩
  have nb : Below w.heap.size w (w.drew.alloc (.cells (Builtin.zeroCells (Value.int .u8 0).cells n ++ Builtin.zeroCells (Value.int .u8 0).cells (grownCap w n 0 5 - n)) 5)) := ((Below.refl _ _).drew).alloc (Nat.le_refl _) _
  generalize w.drew.alloc (.cells (Builtin.zeroCells (Value.int .u8 0).cells n ++ Builtin.zeroCells (Value.int .u8 0).cells (grownCap w n 0 5 - n)) 5) = w' at *
  generalize grownCap w n 0 5 = cp at *
  have n0 : decide ((n : Int) < 0) = false := by simp
  have n1 : decide ((0 : Int) < (n : Int)) = true := by simp; omega
  have n2 : decide (0 < n) = true := by simpa using h0
  clear ge le
  go_enter Tryz.func110, Tryz.ntmps110
  go_wp2_with (at_builtin; refine Lib.wpList_append_run _ rfl _ _ 22 3 rfl _ _ rfl rfl _ _ hap ?_)
  go_ret
  exact ⟨_, rfl, R, nb⟩
theorem cat_len_le (ls : List Lst) (j : Nat) : (cat (ls.take j)).length ≤ (cat ls).length := by
  have : cat ls = cat (ls.take j) ++ cat (ls.drop j) := by
    unfold cat
    rw [← List.flatten_append, ← List.map_append, List.take_append_drop]
  rw [this, List.length_append]
  omega
set_option maxRecDepth 100000 in
set_option maxHeartbeats 4000000 in
theorem concatB_any (w : World) (b n c : Nat) (ls : List Lst) (hn : ls.length = n) (hm : n ≤ 1000) (hs : Lsts w b ls) (hl : ∀ l ∈ ls, Rd w l.g l.a .u8 l.xs ∧ (l.a = none → l.c = 0)) (h0 : 0 < (cat ls).length) (h1 : (cat ls).length ≤ 4194304) :
    Calls Tryz.prog 107 #[.slice (some ⟨b, 0, none⟩) n c] w fun e w' => (∃ v, e = .returned v ∧ RowB w' w.heap.size v (cat ls)) ∧ Below w.heap.size w w' := by
  obtain ⟨i0, hi, hz0, hz1, hz2⟩ := info_parts Tryz.info5
  have HN := hide hn
  clear hn
  obtain ⟨rs, hrs⟩ : ∃ l, l = cat ls := ⟨_, rfl⟩
  have HR := hide hrs
  rw [← hrs] at h0 h1 ⊢
  clear hrs
  have GR := hide (grow_any w rs.length h0 h1)
  go_enter Tryz.func107, Tryz.ntmps107
  go_wp2
  go_loopw [3, 5, 11] (fun s _ i wr => ∃ (j : Nat), j ≤ n ∧ i = .int .i64 j ∧ s = .int .i64 ((cat (ls.take j)).length : Int) ∧ w = wr) (fun _ _ i _ => n - (intOf i).toNat)
  case atStart => exact ⟨0, Nat.zero_le _, rfl, rfl, rfl⟩
  case round =>
    obtain ⟨j, hj, rfl, rfl, rfl⟩ := hrel
    by_cases hlt : j < n
    · obtain ⟨l, hjl⟩ : ∃ l, ls[j]? = some l := ⟨ls[j]'(by rw [HN.out]; exact hlt), List.getElem?_eq_getElem _⟩
      have cc := hs j l hjl
      have ct := cat_take ls j l hjl
      have lb := cat_len_le ls (j + 1)
      rw [← HR.out, ct, List.length_append] at lb
      have CT : Hid ((cat (ls.take (j + 1))).length = (cat (ls.take j)).length + l.xs.length) := by show _ = _; rw [ct, List.length_append]
      clear ct
      generalize (cat (ls.take j)).length = cj at *
      have jn : (j : Int) < (n : Int) := by omega
      have c0 : decide ((cj : Int) + (l.xs.length : Int) < 0) = false := by simp; omega
      go_wp2
      go_roundw
      case rel => exact ⟨j + 1, by omega, by go_num, by rw [CT.out]; go_num, by trivial⟩
      case measure => simp [intOf]; omega
    · obtain rfl : j = n := by omega
      have e : ls.take j = ls := List.take_of_length_le (by rw [HN.out]; exact Nat.le_refl _)
      rw [e, ← HR.out]
      clear e
      go_wp2_with fail
      refine GR.out.mono ?_
      rintro r w1 ⟨v1, rfl, R1, n1⟩
      go_wp2
      go_loopw [6, 8, 27] (fun v _ i wq => ∃ (k : Nat), k ≤ j ∧ i = .int .i64 k ∧ RowB wq w.heap.size v (cat (ls.take k)) ∧ Below w.heap.size w wq) (fun _ _ i _ => j - (intOf i).toNat)
      case atStart => exact ⟨0, Nat.zero_le _, rfl, R1, n1⟩
      case round =>
        obtain ⟨k, hk, rfl, R, hN⟩ := hrel
        clear R1 n1 GR
        by_cases hlt2 : k < j
        · obtain ⟨l, hjl⟩ : ∃ l, ls[k]? = some l := ⟨ls[k]'(by rw [HN.out]; exact hlt2), List.getElem?_eq_getElem _⟩
          have lm : l ∈ ls := List.mem_of_getElem? hjl
          have cc := (hs.up hN) k l hjl
          have ct := cat_take ls k l hjl
          have lb := cat_len_le ls (k + 1)
          rw [← HR.out, ct, List.length_append] at lb
          obtain ⟨v', w2, hap, o2, n2⟩ := append_any (P := Tryz.prog) wr 22 i0 Tryz.underlying22 hi hz0 hz1 hz2 w.heap.size w.heap.size _ _ R l.g l.a l.c l.xs ((hl l lm).1.up hN) (hl l lm).2 (by omega) (Nat.le_refl _) hN.size
          rw [← ct] at o2
          have N2 := hN.trans n2
          have kj : (k : Int) < (j : Int) := by omega
          clear ct lb R n2
          go_wp2_with (at_builtin; refine Lib.wpList_append_run _ rfl _ _ 22 22 rfl _ _ rfl rfl _ _ hap ?_)
          clear hap
          go_roundw
          case rel => exact ⟨k + 1, by omega, by go_num, o2, N2⟩
          case measure => simp [intOf]; omega
        · obtain rfl : k = j := by omega
          have e : ls.take k = ls := List.take_of_length_le (by rw [HN.out]; exact Nat.le_refl _)
          rw [e, ← HR.out] at R
          clear e
          go_wp2
          go_ret
          exact ⟨⟨_, rfl, R⟩, hN⟩
end Go.Proofs.YtmmbkkfjiaoeiaaGreat
namespace Go.Proofs.YtmmbkkfjiaoeiaaGreat
open Go Go.RowKit
def RBf (b : Nat) (xs : List Int) : Fact := ⟨fun v w => RowB w b v xs, fun n h => h.up n⟩
def B3f (xs : List Int) (l1 l2 : Lst) : Fact :=
  ⟨fun v w => ∃ (b g : Nat) (a : Option Addr) (c : Nat), v = .slice (some ⟨b, 0, none⟩) 3 3 ∧ Lsts w b [⟨g, a, c, xs⟩, l1, l2] ∧ Rd w g a .u8 xs ∧ (a = none → c = 0), fun n h => by
    obtain ⟨b, g, a, c, e, l, r, z⟩ := h
    exact ⟨b, g, a, c, e, l.up n, r.up n, z⟩⟩
theorem bs3_run (w : World) (a1 a2 a3 : Option Addr) (n1 n2 n3 c1 c2 c3 : Nat) : (Instr.buildSlice 148 3 #[(0, .slice a1 n1 c1), (1, .slice a2 n2 c2), (2, .slice a3 n3 c3)]).run Tryz.prog w = .ok (.slice (some ⟨w.heap.size, 0, none⟩) 3 3) (w.alloc (.cells #[.slice a1 n1 c1, .slice a2 n2 c2, .slice a3 n3 c3] 22)) := by
  kernel_rfl
theorem lsts_three (w : World) (t : TypeId) (a b c : Lst) : Lsts (w.alloc (.cells #[.slice a.a a.xs.length a.c, .slice b.a b.xs.length b.c, .slice c.a c.xs.length c.c] t)) w.heap.size [a, b, c] := by
  intro j x hj
  match j, hj with
  | 0, hj => simp at hj; subst hj; simp [World.cell?_alloc_at]
  | 1, hj => simp at hj; subst hj; simp [World.cell?_alloc_at]
  | 2, hj => simp at hj; subst hj; simp [World.cell?_alloc_at]
theorem step_bs3 {ops : Array Oper} {Q : Exit → Act → World → Prop} {md : Region.Mode} {F : Nat → Fact} {a0 : Act} {w0 : World} {i : Nat} {o : Oper} {B : Nat} {xs : List Int} {l1 l2 : Lst} (hi : ops[i]? = some o) (p q s j k m : Nat) (hop : o.op = .buildSlice 148 3 #[(0, .tmp p), (1, .tmp q), (2, .tmp s)])
    (hj : waits md ops i j p = true) (hk : waits md ops i k q = true) (hm : waits md ops i m s = true) (hFj : F j = RBf B xs) (hFk : F k = Fact.eq (.slice l1.a l1.xs.length l1.c)) (hFm : F m = Fact.eq (.slice l2.a l2.xs.length l2.c)) (hFi : F i = B3f xs l1 l2) : StepOk Tryz.prog md ops Q F a0 w0 i := by
  refine step_grow hi fun a w _ _ hf => ?_
  have h1 := hf j p hj
  have h2 := hf k q hk
  have h3 := hf m s hm
  rw [hFj] at h1
  rw [hFk] at h2
  rw [hFm] at h3
  obtain ⟨a1, c1, g1, e1, r1, z1, _, _⟩ := RowB.rd h1
  have x1 : a.eval (.tmp p) = .slice a1 xs.length c1 := e1
  have x2 : a.eval (.tmp q) = .slice l1.a l1.xs.length l1.c := h2
  have x3 : a.eval (.tmp s) = .slice l2.a l2.xs.length l2.c := h3
  have gg : (#[(0, Operand.tmp p), (1, Operand.tmp q), (2, Operand.tmp s)].map fun (n, x) => (n, a.eval x)) = #[(0, Value.slice a1 xs.length c1), (1, .slice l1.a l1.xs.length l1.c), (2, .slice l2.a l2.xs.length l2.c)] := by simp [x1, x2, x3]
  have n9 : Below w.heap.size w (w.alloc (.cells #[.slice a1 xs.length c1, .slice l1.a l1.xs.length l1.c, .slice l2.a l2.xs.length l2.c] 22)) := (Below.refl _ _).alloc (Nat.le_refl _) _
  refine ⟨.slice (some ⟨w.heap.size, 0, none⟩) 3 3, _, ?_, n9, ?_⟩
  · simp only [execOp, hop, gg]
    rw [Sem.run_bind, bs3_run]
    rfl
  · rw [hFi]
    exact ⟨w.heap.size, g1, a1, c1, rfl, lsts_three w 22 ⟨g1, a1, c1, xs⟩ l1 l2, r1.up n9, z1⟩
theorem cat3 (a b c : Lst) : cat [a, b, c] = a.xs ++ (b.xs ++ c.xs) := by simp [cat]
def fpL (v : Int) (r s : List Int) : List Int := bigL v 1 ++ (r ++ s)
theorem fpL_len (v : Int) (r s : List Int) : (fpL v r s).length = r.length + s.length + 1 := by simp [fpL, bigL_len]; omega
set_option maxHeartbeats 4000000 in
theorem firstBody_any (w : World) (q : Nat) (v : Int) (l1 l2 : Lst) (h0 : w.cell? ⟨q, 0, none⟩ = some (.int .i64 v)) (h1 : w.cell? ⟨q, 1, none⟩ = some (.slice l1.a l1.xs.length l1.c)) (h2 : w.cell? ⟨q, 2, none⟩ = some (.slice l2.a l2.xs.length l2.c))
    (r1 : Rd w l1.g l1.a .u8 l1.xs) (r2 : Rd w l2.g l2.a .u8 l2.xs) (z1 : l1.a = none → l1.c = 0) (z2 : l2.a = none → l2.c = 0) (m1 : l1.xs.length ≤ 1048576) (m2 : l2.xs.length ≤ 1048576) :
    Calls Tryz.prog 92 #[.pointer (some ⟨q, 0, none⟩)] w fun e w' => (∃ x, e = .returned x ∧ RowB w' w.heap.size x (fpL v l1.xs l2.xs)) ∧ Below w.heap.size w w' := by
  have ql := block_lt_of_cell h0
  have cu : ∀ {W : World}, Below w.heap.size w W → ∀ i, W.cell? ⟨q, i, none⟩ = w.cell? ⟨q, i, none⟩ := fun n i => World.cell?_of_block (a := ⟨q, i, none⟩) (n.block q ql)
  go_enter Tryz.func92, Tryz.ntmps92
  go_upto_region 1 with fail
  refine region_end 16 (fun i => [Fact.eq (.pointer (some ⟨q, 0, none⟩)), Fact.eq (.pointer (some ⟨q, 0, none⟩)), Fact.eq (.pointer (some ⟨q, 0, none⟩)), Fact.eq (.int .i64 v), RBf w.heap.size (bigL v 1), Fact.eq (.pointer (some ⟨q, 0, none⟩)), Fact.eq (.pointer (some ⟨q, 0, none⟩)), Fact.eq (.pointer (some ⟨q, 1, none⟩)), Fact.eq (.slice l1.a l1.xs.length l1.c), Fact.eq (.pointer (some ⟨q, 0, none⟩)), Fact.eq (.pointer (some ⟨q, 0, none⟩)), Fact.eq (.pointer (some ⟨q, 2, none⟩)), Fact.eq (.slice l2.a l2.xs.length l2.c), B3f (bigL v 1) l1 l2, RBf w.heap.size (fpL v l1.xs l2.xs), RBf w.heap.size (fpL v l1.xs l2.xs)].getD i Fact.no) (by kernel_rfl) (by kernel_rfl) rfl ?_ ?_
  · intro i hi
    obtain rfl | rfl | rfl | rfl | rfl | rfl | rfl | rfl | rfl | rfl | rfl | rfl | rfl | rfl | rfl | rfl : i = 0 ∨ i = 1 ∨ i = 2 ∨ i = 3 ∨ i = 4 ∨ i = 5 ∨ i = 6 ∨ i = 7 ∨ i = 8 ∨ i = 9 ∨ i = 10 ∨ i = 11 ∨ i = 12 ∨ i = 13 ∨ i = 14 ∨ i = 15 := by omega
    · refine step_pure rfl fun A ww hb hw hf => ?_
      have e0 : A.tmps[0]?.getD undef = .pointer (some ⟨q, 0, none⟩) := gdv (hb.2.2 0 (by kernel_rfl))
      exact ⟨.pointer (some ⟨q, 0, none⟩), by simp [go_sem, e0], rfl⟩
    · refine step_pure rfl fun A ww hb hw hf => ?_
      have e0 : A.tmps[3]?.getD undef = .pointer (some ⟨q, 0, none⟩) := gdv (hf 0 3 (by kernel_rfl))
      exact ⟨.pointer (some ⟨q, 0, none⟩), by simp [go_sem, e0], rfl⟩
    · refine step_pure rfl fun A ww hb hw hf => ?_
      have e0 : A.tmps[4]?.getD undef = .pointer (some ⟨q, 0, none⟩) := gdv (hf 1 4 (by kernel_rfl))
      exact ⟨.pointer (some ⟨q, 0, none⟩), by simp [go_sem, e0], rfl⟩
    · refine step_pure rfl fun A ww hb hw hf => ?_
      have e0 : A.tmps[5]?.getD undef = .pointer (some ⟨q, 0, none⟩) := gdv (hf 2 5 (by kernel_rfl))
      have hc : ww.cell? ⟨q, 0, none⟩ = some (.int .i64 v) := (cu hw 0).trans h0
      exact ⟨.int .i64 v, by simp [go_sem, e0, hc], rfl⟩
    · refine step_callv rfl 17 _ _ rfl (by kernel_rfl) fun A ww hb hw hf => ?_
      have e6 : A.tmps.getD 6 undef = .int .i64 v := hf 3 6 (by kernel_rfl)
      show Calls Tryz.prog 17 #[.slice none 0 0, A.tmps.getD 6 undef, .int .i64 1] ww _
      rw [e6]
      refine (appendNumber_any ww ww.heap.size (.slice none 0 0) [] (RowB.nil ww _) (Nat.le_refl _) v 1 (by decide) (by simp)).mono ?_
      rintro r w' ⟨x, rfl, R, n⟩
      exact ⟨x, rfl, n, R.base hw.size⟩
    · refine step_pure rfl fun A ww hb hw hf => ?_
      have e0 : A.tmps[0]?.getD undef = .pointer (some ⟨q, 0, none⟩) := gdv (hb.2.2 0 (by kernel_rfl))
      exact ⟨.pointer (some ⟨q, 0, none⟩), by simp [go_sem, e0], rfl⟩
    · refine step_pure rfl fun A ww hb hw hf => ?_
      have e0 : A.tmps[8]?.getD undef = .pointer (some ⟨q, 0, none⟩) := gdv (hf 5 8 (by kernel_rfl))
      exact ⟨.pointer (some ⟨q, 0, none⟩), by simp [go_sem, e0], rfl⟩
    · refine step_pure rfl fun A ww hb hw hf => ?_
      have e0 : A.tmps[9]?.getD undef = .pointer (some ⟨q, 0, none⟩) := gdv (hf 6 9 (by kernel_rfl))
      exact ⟨.pointer (some ⟨q, 1, none⟩), by simp [go_sem, e0], rfl⟩
    · refine step_pure rfl fun A ww hb hw hf => ?_
      have e0 : A.tmps[10]?.getD undef = .pointer (some ⟨q, 1, none⟩) := gdv (hf 7 10 (by kernel_rfl))
      have hc : ww.cell? ⟨q, 1, none⟩ = some (.slice l1.a l1.xs.length l1.c) := (cu hw 1).trans h1
      exact ⟨.slice l1.a l1.xs.length l1.c, by simp [go_sem, e0, hc], rfl⟩
    · refine step_pure rfl fun A ww hb hw hf => ?_
      have e0 : A.tmps[0]?.getD undef = .pointer (some ⟨q, 0, none⟩) := gdv (hb.2.2 0 (by kernel_rfl))
      exact ⟨.pointer (some ⟨q, 0, none⟩), by simp [go_sem, e0], rfl⟩
    · refine step_pure rfl fun A ww hb hw hf => ?_
      have e0 : A.tmps[12]?.getD undef = .pointer (some ⟨q, 0, none⟩) := gdv (hf 9 12 (by kernel_rfl))
      exact ⟨.pointer (some ⟨q, 0, none⟩), by simp [go_sem, e0], rfl⟩
    · refine step_pure rfl fun A ww hb hw hf => ?_
      have e0 : A.tmps[13]?.getD undef = .pointer (some ⟨q, 0, none⟩) := gdv (hf 10 13 (by kernel_rfl))
      exact ⟨.pointer (some ⟨q, 2, none⟩), by simp [go_sem, e0], rfl⟩
    · refine step_pure rfl fun A ww hb hw hf => ?_
      have e0 : A.tmps[14]?.getD undef = .pointer (some ⟨q, 2, none⟩) := gdv (hf 11 14 (by kernel_rfl))
      have hc : ww.cell? ⟨q, 2, none⟩ = some (.slice l2.a l2.xs.length l2.c) := (cu hw 2).trans h2
      exact ⟨.slice l2.a l2.xs.length l2.c, by simp [go_sem, e0, hc], rfl⟩
    · exact step_bs3 rfl 7 11 15 4 8 12 rfl (by kernel_rfl) (by kernel_rfl) (by kernel_rfl) rfl rfl rfl rfl
    · refine step_callv rfl 107 _ _ rfl (by kernel_rfl) fun A ww hb hw hf => ?_
      obtain ⟨b, g, a, c, e16, L, R, Z⟩ := hf 13 16 (by kernel_rfl)
      show Calls Tryz.prog 107 #[A.tmps.getD 16 undef] ww _
      rw [e16]
      have lb := bigL_len v 1
      have CC := concatB_any ww b 3 3 [⟨g, a, c, bigL v 1⟩, l1, l2] rfl (by omega) L (by
        intro x hx
        simp only [List.mem_cons, List.not_mem_nil, or_false] at hx
        rcases hx with rfl | rfl | rfl
        · exact ⟨R, Z⟩
        · exact ⟨r1.up hw, z1⟩
        · exact ⟨r2.up hw, z2⟩) (by rw [cat3]; simp only [List.length_append]; omega) (by rw [cat3]; simp only [List.length_append]; omega)
      rw [cat3] at CC
      exact CC.mono (by rintro r w' ⟨⟨x, rfl, R'⟩, n⟩; exact ⟨x, rfl, n, R'.base hw.size⟩)
    · refine step_pure rfl fun A ww hb hw hf => ?_
      have e17 := hf 14 17 (by kernel_rfl)
      exact ⟨A.tmps.getD 17 undef, by simp [go_sem], e17⟩
  intro A W hb hw hF
  have e2 := hF 15 2 (by kernel_rfl)
  obtain ⟨vs, hvs⟩ : ∃ vs : Nat → Value, ∀ d, A.tmps.getD d undef = vs d := ⟨_, fun _ => rfl⟩
  rw [hvs] at e2
  rw [puts_of (md := .any) (k := 16) (by kernel_rfl) rfl hb vs hvs]
  clear hb hF hvs h0 h1 h2 r1 r2 z1 z2 cu
  simp only [puts, Act.put, List.setIfInBounds_toArray, List.set_cons_succ, List.set_cons_zero]
  generalize vs 2 = v2 at *
  go_wp2
  go_ret
  exact ⟨⟨_, rfl, e2⟩, hw⟩
end Go.Proofs.YtmmbkkfjiaoeiaaGreat
namespace Go.Proofs.YtmmbkkfjiaoeiaaGreat
open Go Go.RowKit
section
variable {P : Program} {ops : Array Oper} {Q : Exit → Act → World → Prop} {md : Region.Mode} {F : Nat → Fact} {a0 : Act} {w0 : World}
def FreshOk (P : Program) (md : Region.Mode) (ops : Array Oper) (Q : Exit → Act → World → Prop) (F : Nat → Fact) (a0 : Act) (w0 : World) (i : Nat) : Prop :=
  ∀ o, ops[i]? = some o → ∀ a w, Based ops a0 a → Below w0.heap.size w0 w → (∀ j d, waits md ops i j d = true → (F j).p (a.tmps.getD d undef) w) →
    ∀ K : Act → World → Prop, (∀ v w', Below w.heap.size w w' → (F i).p v w' → v = .pointer (some ⟨w.heap.size, 0, none⟩) → w.heap.size < w'.heap.size → K (a.put o.dst v) w') → o.wp P a w K Q
theorem FreshOk.step {i : Nat} (h : FreshOk P md ops Q F a0 w0 i) : StepOk P md ops Q F a0 w0 i :=
  fun o ho a w hb hw hf K hK => h o ho a w hb hw hf K (fun v w' hn hv _ _ => hK v w' hn hv)
structure Sep (i1 i2 d1 d2 : Nat) (listed : Array Bool) (a : Act) (w : World) : Prop where
  l : listed.getD i1 false = true → ∃ q, a.tmps.getD d1 undef = .pointer (some ⟨q, 0, none⟩) ∧ q < w.heap.size
  r : listed.getD i2 false = true → ∃ q, a.tmps.getD d2 undef = .pointer (some ⟨q, 0, none⟩) ∧ q < w.heap.size
  n : listed.getD i1 false = true → listed.getD i2 false = true → a.tmps.getD d1 undef ≠ a.tmps.getD d2 undef
theorem Sep.other {i1 i2 d1 d2 : Nat} {listed : Array Bool} {a : Act} {w w' : World} (h : Sep i1 i2 d1 d2 listed a w) {i : Nat} {dst : Option Tmp} {v : Value} (h1 : i ≠ i1) (h2 : i ≠ i2) (e1 : dst ≠ some d1) (e2 : dst ≠ some d2) (hw : w.heap.size ≤ w'.heap.size) : Sep i1 i2 d1 d2 (listed.setIfInBounds i true) (a.put dst v) w' := by
  refine ⟨fun g => ?_, fun g => ?_, fun g g' => ?_⟩
  · rw [getD_off h1] at g
    obtain ⟨q, hq, hl⟩ := h.l g
    exact ⟨q, by rw [put_off e1]; exact hq, by omega⟩
  · rw [getD_off h2] at g
    obtain ⟨q, hq, hl⟩ := h.r g
    exact ⟨q, by rw [put_off e2]; exact hq, by omega⟩
  · rw [getD_off h1] at g
    rw [getD_off h2] at g'
    rw [put_off e1, put_off e2]
    exact h.n g g'
theorem Sep.this {i1 i2 d1 d2 : Nat} {listed : Array Bool} {a : Act} {w w' : World} (h : Sep i1 i2 d1 d2 listed a w) {v : Value} (hne : i1 ≠ i2) (hd : d1 ≠ d2) (hs : d1 < a.tmps.size) (hv : v = .pointer (some ⟨w.heap.size, 0, none⟩)) (hw : w.heap.size < w'.heap.size) :
    Sep i1 i2 d1 d2 (listed.setIfInBounds i1 true) (a.put (some d1) v) w' := by
  have e2 : (some d1 : Option Tmp) ≠ some d2 := by simpa using hd
  refine ⟨fun _ => ⟨w.heap.size, by rw [put_at hs, hv], hw⟩, fun g => ?_, fun _ g' => ?_⟩
  · rw [getD_off hne] at g
    obtain ⟨q, hq, hl⟩ := h.r g
    exact ⟨q, by rw [put_off e2]; exact hq, by omega⟩
  · rw [getD_off hne] at g'
    obtain ⟨q, hq, hl⟩ := h.r g'
    rw [put_at hs, put_off e2, hq, hv]
    intro x
    simp only [Value.pointer.injEq, Option.some.injEq, Addr.mk.injEq, and_true] at x
    omega
theorem writes_is {i d : Nat} (h : writes ops i d = true) : ∃ o, ops[i]? = some o ∧ o.dst = some d := by
  unfold writes at h
  cases ho : ops[i]? with
  | none => rw [ho] at h; simp at h
  | some o =>
    rw [ho] at h
    exact ⟨o, rfl, by simpa using h⟩
end
end Go.Proofs.YtmmbkkfjiaoeiaaGreat
