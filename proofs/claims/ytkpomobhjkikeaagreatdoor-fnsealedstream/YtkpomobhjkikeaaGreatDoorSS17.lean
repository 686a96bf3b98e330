import Derived.Test.YtkpomobhjkikeaaGreatDoorSS1
import Derived.Deep.MidRow
import Derived.Laws.BitsAllLaws
import Derived.Laws.Rows
import Derived.Great.BuildSlice
import Derived.BigQuiet
import Derived.BigRegion
namespace Go.Proofs.YtkpomobhjkikeaaGreatDoor
set_option maxRecDepth 100000
open Go Go.RowKit
def Seg (w : World) (q off : Nat) (k : IntKind) (ys : List Int) : Prop := ∀ i, i < ys.length → w.cell? ⟨q, off + i, none⟩ = some (.int k (ys.getD i 0)) ∧ w.frozen? ⟨q, off + i, none⟩ = false
theorem frozen_setCell (w : World) (p r : Addr) (v : Value) : (w.setCell p v).frozen? r = w.frozen? r := by simp
theorem Seg.range {w : World} {q off : Nat} {k : IntKind} {ys : List Int} (h : Seg w q off k ys) : w.rangeAt q off (ys.map (Value.int k)) := fun j v hv => by
  have hj : j < ys.length := by have := (List.getElem?_eq_some_iff.1 hv).1; simpa using this
  rw [(h j hj).1]
  simpa [hj] using hv
theorem one_ints (k : IntKind) (ys : List Int) : (ys.map (Value.int k)).toArray.all (·.oneCell') = true := all_oneCell_toArray fun v hv => by
  obtain ⟨x, _, rfl⟩ := List.mem_map.1 hv
  rfl
theorem Seg.blk {w : World} {q : Nat} {k : IntKind} {ys : List Int} (h : Blk w q k ys) : Seg w q 0 k ys := fun i hi => ⟨by rw [Nat.zero_add]; exact h.cell hi, h.free _⟩
theorem blk_alloc (w : World) (k : IntKind) (t : TypeId) (ys : List Int) : Blk (w.alloc (.cells (ys.map (Value.int k)).toArray t)) w.heap.size k ys := ⟨t, by show (w.heap.push _)[w.heap.size]? = _; simp⟩
def ag (k : IntKind) (ys : List Int) : Value := .agg (ys.map (Value.int k)).toArray
theorem blk_setRow {w : World} {q : Nat} {k : IntKind} {ys zs : List Int} (h : Blk w q k ys) : Blk (w.setRow q (zs.map (Value.int k)).toArray) q k zs := by
  obtain ⟨t, h⟩ := h
  exact ⟨t, setRow_heap w q _ _ _ _ h⟩
theorem only_setRow (w : World) (q : Nat) (cs : Array Value) : Only q w (w.setRow q cs) := ⟨rfl, rfl, rfl, by simp, fun b hb => setRow_other w q b cs hb⟩
def W4 (x : Int) : Prop := 0 ≤ x ∧ x < 4294967296
def lf (x : Int) (n : Nat) : Int := bits BinOp.or IntKind.u32 (x * 2 ^ n % 4294967296) (x / 2 ^ (32 - n))
theorem or_w4 {x y : Int} (h : W4 x) (k : W4 y) : W4 (bits BinOp.or IntKind.u32 x y) := by
  obtain ⟨n, rfl⟩ := Int.eq_ofNat_of_zero_le h.1
  obtain ⟨m, rfl⟩ := Int.eq_ofNat_of_zero_le k.1
  have h1 := h.2
  have k1 := k.2
  rw [u32_or_nat n m (by omega) (by omega)]
  have : n ||| m < 2 ^ 32 := Nat.or_lt_two_pow (by omega) (by omega)
  exact ⟨by omega, by omega⟩
theorem xor_w4 {x y : Int} (h : W4 x) (k : W4 y) : W4 (bits BinOp.xor IntKind.u32 x y) := by
  obtain ⟨n, rfl⟩ := Int.eq_ofNat_of_zero_le h.1
  obtain ⟨m, rfl⟩ := Int.eq_ofNat_of_zero_le k.1
  have h1 := h.2
  have k1 := k.2
  rw [u32_xor_nat n m (by omega) (by omega)]
  have : n ^^^ m < 2 ^ 32 := Nat.xor_lt_two_pow (by omega) (by omega)
  exact ⟨by omega, by omega⟩
theorem shr_w4 {x : Int} (h : W4 x) (n : Nat) : W4 (x / 2 ^ n) := by
  have hp : (0 : Int) < 2 ^ n := Int.pow_pos (by decide)
  have h1 := Int.ediv_nonneg h.1 (Int.le_of_lt hp)
  have h2 := Int.ediv_le_self (2 ^ n) h.1
  have h3 := h.2
  exact ⟨h1, by omega⟩
theorem mod_w4 (x : Int) : W4 (x % 4294967296) := ⟨by omega, by omega⟩
theorem lf_w4 {x : Int} (h : W4 x) (n : Nat) : W4 (lf x n) := or_w4 (mod_w4 _) (shr_w4 h _)
structure Q4 where
  a : Int
  b : Int
  c : Int
  d : Int
def Q4.Ok (s : Q4) : Prop := W4 s.a ∧ W4 s.b ∧ W4 s.c ∧ W4 s.d
def qA (s : Q4) : Int := (s.a + s.b) % 4294967296
def qD (s : Q4) (n : Nat) : Int := lf (bits BinOp.xor IntKind.u32 s.d (qA s)) n
def qC (s : Q4) (n : Nat) : Int := (s.c + qD s n) % 4294967296
def qB (s : Q4) (n m : Nat) : Int := lf (bits BinOp.xor IntKind.u32 s.b (qC s n)) m
def qH (s : Q4) (n m : Nat) : Q4 := ⟨qA s, qB s n m, qC s n, qD s n⟩
theorem qA_w (s : Q4) : W4 (qA s) := mod_w4 _
theorem qD_w {s : Q4} (h : s.Ok) (n : Nat) : W4 (qD s n) := lf_w4 (xor_w4 h.2.2.2 (qA_w s)) n
theorem qC_w (s : Q4) (n : Nat) : W4 (qC s n) := mod_w4 _
theorem qB_w {s : Q4} (h : s.Ok) (n m : Nat) : W4 (qB s n m) := lf_w4 (xor_w4 h.2.1 (qC_w s n)) m
theorem qH_ok {s : Q4} (h : s.Ok) (n m : Nat) : (qH s n m).Ok := ⟨qA_w s, qB_w h n m, qC_w s n, qD_w h n⟩
def qr (s : Q4) : Q4 := qH (qH s 16 12) 8 7
theorem qr_ok {s : Q4} (h : s.Ok) : (qr s).Ok := qH_ok (qH_ok h _ _) _ _
def put4 (ys : List Int) (i j k l : Nat) (s : Q4) : List Int := (((ys.set i s.a).set j s.b).set k s.c).set l s.d
def get4 (ys : List Int) (i j k l : Nat) : Q4 := ⟨ys.getD i 0, ys.getD j 0, ys.getD k 0, ys.getD l 0⟩
def qrL (ys : List Int) (i j k l : Nat) : List Int := put4 ys i j k l (qr (get4 ys i j k l))
theorem put4_len (ys : List Int) (i j k l : Nat) (s : Q4) : (put4 ys i j k l s).length = ys.length := by simp [put4]
def Ws (ys : List Int) : Prop := ∀ i, W4 (ys.getD i 0)
theorem Ws.set {ys : List Int} (h : Ws ys) (i : Nat) {x : Int} (hx : W4 x) : Ws (ys.set i x) := by
  intro j
  by_cases e : i = j
  · subst e
    by_cases hl : i < ys.length
    · rw [getD_set_self _ _ _ hl]; exact hx
    · rw [List.set_eq_of_length_le (by omega)]; exact h i
  · rw [getD_set_ne _ _ _ _ e]; exact h j
theorem Ws.put4 {ys : List Int} (h : Ws ys) (i j k l : Nat) {s : Q4} (hs : s.Ok) : Ws (put4 ys i j k l s) := (((h.set i hs.1).set j hs.2.1).set k hs.2.2.1).set l hs.2.2.2
theorem Ws.get4 {ys : List Int} (h : Ws ys) (i j k l : Nat) : (get4 ys i j k l).Ok := ⟨h i, h j, h k, h l⟩
theorem Ws.qr {ys : List Int} (h : Ws ys) (i j k l : Nat) : Ws (qrL ys i j k l) := h.put4 i j k l (qr_ok (h.get4 i j k l))
theorem qrL_len (ys : List Int) (i j k l : Nat) : (qrL ys i j k l).length = ys.length := put4_len _ _ _ _ _ _
def dbl (ys : List Int) : List Int :=
  qrL (qrL (qrL (qrL (qrL (qrL (qrL (qrL ys 0 4 8 12) 1 5 9 13) 2 6 10 14) 3 7 11 15) 0 5 10 15) 1 6 11 12) 2 7 8 13) 3 4 9 14
theorem Ws.dbl {ys : List Int} (h : Ws ys) : Ws (dbl ys) := (((((((h.qr _ _ _ _).qr _ _ _ _).qr _ _ _ _).qr _ _ _ _).qr _ _ _ _).qr _ _ _ _).qr _ _ _ _).qr _ _ _ _
theorem dbl_len (ys : List Int) : (dbl ys).length = ys.length := by simp [Go.Proofs.YtkpomobhjkikeaaGreatDoor.dbl, qrL_len]
def rds : Nat → List Int → List Int
  | 0, ys => ys
  | n + 1, ys => dbl (rds n ys)
theorem rds_len (ys : List Int) : ∀ n, (rds n ys).length = ys.length
  | 0 => rfl
  | n + 1 => by rw [rds, dbl_len]; exact rds_len ys n
theorem rds_ws {ys : List Int} (h : Ws ys) : ∀ n, Ws (rds n ys)
  | 0 => h
  | n + 1 => (rds_ws h n).dbl
end Go.Proofs.YtkpomobhjkikeaaGreatDoor
