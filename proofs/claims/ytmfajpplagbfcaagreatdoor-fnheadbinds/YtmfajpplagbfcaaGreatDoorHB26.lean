import Derived.Test.YtmfajpplagbfcaaGreatDoorHB25
import Derived.Test.YtmfajpplagbfcaaGreatDoorHB4
namespace Go.Proofs.YtmfajpplagbfcaaGreatDoor
set_option maxRecDepth 100000
open Go Go.RowKit
end Go.Proofs.YtmfajpplagbfcaaGreatDoor
namespace Go.Proofs.YtmfajpplagbfcaaGreatDoor
set_option maxRecDepth 100000
open Go Go.RowKit
def bw (z : Nat) (xs : List Int) (j : Nat) : Nat → Int
  | 0 => 0
  | m + 1 => bw z xs j m * 256 + xs.getD (z * j + m) 0
theorem bw_lt {z : Nat} {xs : List Int} (hb : Byt xs) (j : Nat) : ∀ m, 0 ≤ bw z xs j m ∧ bw z xs j m < 256 ^ m
  | 0 => by simp [bw]
  | m + 1 => by
    have ih := bw_lt (z := z) hb j m
    have h := hb (z * j + m)
    rw [bw, Int.pow_succ]
    omega
def wd (z : Nat) (xs : List Int) (j : Nat) : Int := bw z xs j z
theorem wd_32 {xs : List Int} (hb : Byt xs) (j : Nat) : Wd32 (wd 4 xs j) := by
  have := bw_lt (z := 4) hb j 4
  have e : (256 : Int) ^ 4 = 4294967296 := by decide
  rw [e] at this
  exact this
theorem bw_congr {z : Nat} {xs ys : List Int} {j : Nat} : ∀ {m : Nat}, (∀ i, i < m → xs.getD (z * j + i) 0 = ys.getD (z * j + i) 0) → bw z xs j m = bw z ys j m
  | 0, _ => rfl
  | m + 1, h => by rw [bw, bw, bw_congr (fun i hi => h i (by omega)), h m (by omega)]
def FilW (z : Nat) (xs : List Int) (n : Nat) (ys : List Int) (i : Nat) : Prop :=
  ys.length = n ∧ ∀ j, j < n → ys.getD j 0 = if j < i / z then wd z xs j else if j = i / z then bw z xs j (i % z) else 0
theorem FilW.zero (z : Nat) (xs : List Int) (n : Nat) : FilW z xs n (List.replicate n 0) 0 := by
  refine ⟨by simp, fun j hj => ?_⟩
  rw [Nat.zero_div, if_neg (by omega), Nat.zero_mod, List.getD_eq_getElem?_getD, List.getElem?_replicate, if_pos hj]
  split <;> rfl
theorem FilW.here {z n i : Nat} {xs ys : List Int} (h : FilW z xs n ys i) (hi : i / z < n) : ys.getD (i / z) 0 = bw z xs (i / z) (i % z) := by
  rw [h.2 _ hi, if_neg (by omega), if_pos rfl]
theorem FilW.step {z n i : Nat} {xs ys : List Int} (hz : 0 < z) (h : FilW z xs n ys i) : FilW z xs n (ys.set (i / z) (bw z xs (i / z) (i % z) * 256 + xs.getD i 0)) (i + 1) := by
  refine ⟨by rw [List.length_set]; exact h.1, fun j hj => ?_⟩
  have hm := Nat.div_add_mod i z
  have hml := Nat.mod_lt i hz
  have hnew : bw z xs (i / z) (i % z) * 256 + xs.getD i 0 = bw z xs (i / z) (i % z + 1) := by rw [bw, hm]
  rw [hnew]
  by_cases e : i % z + 1 = z
  · have d1 : (i + 1) / z = i / z + 1 := by
      rw [show i + 1 = z * (i / z + 1) by rw [Nat.mul_add, Nat.mul_one]; omega, Nat.mul_div_cancel_left _ hz]
    have d2 : (i + 1) % z = 0 := by
      rw [show i + 1 = z * (i / z + 1) by rw [Nat.mul_add, Nat.mul_one]; omega, Nat.mul_mod_right]
    rw [d1, d2]
    by_cases c : i / z = j
    · subst c
      rw [getD_set_self _ _ _ (by rw [h.1]; exact hj), if_pos (by omega), e]
      rfl
    · rw [getD_set_ne _ _ _ _ c, h.2 j hj]
      by_cases c2 : j < i / z
      · rw [if_pos c2, if_pos (by omega)]
      · rw [if_neg c2, if_neg (by omega), if_neg (by omega)]
        split <;> rfl
  · have d1 : (i + 1) / z = i / z := by
      refine Nat.div_eq_of_lt_le ?_ ?_
      · rw [Nat.mul_comm]; omega
      · rw [Nat.add_mul, Nat.one_mul, Nat.mul_comm]; omega
    have d2 : (i + 1) % z = i % z + 1 := by
      have := Nat.div_add_mod (i + 1) z
      rw [d1] at this
      omega
    rw [d1, d2]
    by_cases c : i / z = j
    · subst c
      rw [getD_set_self _ _ _ (by rw [h.1]; exact hj), if_neg (by omega), if_pos rfl]
    · rw [getD_set_ne _ _ _ _ c, h.2 j hj]
      by_cases c2 : j < i / z
      · rw [if_pos c2, if_pos c2]
      · rw [if_neg c2, if_neg c2, if_neg (by omega), if_neg (by omega)]
theorem FilW.all {z n : Nat} {xs ys : List Int} (hz : 0 < z) (h : FilW z xs n ys (z * n)) : ys.length = n ∧ ∀ j, j < n → ys.getD j 0 = wd z xs j := by
  refine ⟨h.1, fun j hj => ?_⟩
  rw [h.2 j hj, Nat.mul_div_cancel_left _ hz, if_pos hj]
def whole32 (s : S8) (l : List Int) : S8 := if l.length < 64 then s else whole32 (blk32 s (wd 4 l)) (l.drop 64)
termination_by l.length
decreasing_by simp; omega
theorem whole_short32 (s : S8) {l : List Int} (h : l.length < 64) : whole32 s l = s := by rw [whole32, if_pos h]
theorem wd_take32 (l : List Int) : ∀ j, j < 16 → wd 4 (l.take 64) j = wd 4 l j := fun j hj => bw_congr fun i hi => by
  rw [List.getD_eq_getElem?_getD, List.getD_eq_getElem?_getD, List.getElem?_take, if_pos (by omega)]
theorem wS_congr32 {b c : Nat → Int} (h : ∀ i, i < 16 → b i = c i) (i : Nat) : wS32 b i = wS32 c i := by
  induction i using Nat.strongRecOn with
  | ind i ih =>
    by_cases h1 : i < 16
    · rw [wS_low32 b h1, wS_low32 c h1, h i h1]
    · rw [wS_go32 b (by omega), wS_go32 c (by omega), ih (i - 2) (by omega), ih (i - 7) (by omega), ih (i - 15) (by omega), ih (i - 16) (by omega)]
theorem blk_congr32 (s : S8) {b c : Nat → Int} (h : ∀ i, i < 16 → b i = c i) : blk32 s b = blk32 s c := by
  have e : wS32 b = wS32 c := funext (wS_congr32 h)
  unfold blk32
  rw [e]
theorem whole_app32 (s : S8) (l m : List Int) (h : l.length = 64) : whole32 s (l ++ m) = whole32 (blk32 s (wd 4 l)) m := by
  rw [whole32, if_neg (by rw [List.length_append]; omega)]
  have e1 : (l ++ m).drop 64 = m := by rw [← h]; exact List.drop_left
  have e2 : (l ++ m).take 64 = l := by rw [← h]; exact List.take_left
  rw [e1]
  rw [blk_congr32 s (fun i hi => (wd_take32 (l ++ m) i hi).symm), e2]
theorem whole_ok32 {s : S8} (hs : Ok32 s) (l : List Int) : Ok32 (whole32 s l) := by
  induction h : l.length using Nat.strongRecOn generalizing s l with
  | ind n ih =>
    by_cases c : l.length < 64
    · rw [whole_short32 s c]
      exact hs
    · rw [whole32, if_neg c]
      exact ih (l.drop 64).length (by simp; omega) (blk_ok32 _ _) _ rfl
def left32 (l : List Int) : List Int := l.drop (l.length - l.length % 64)
theorem left_short32 {l : List Int} (h : l.length < 64) : left32 l = l := by
  unfold left32
  rw [Nat.mod_eq_of_lt h, Nat.sub_self, List.drop_zero]
theorem left_app32 (l m : List Int) (h : l.length = 64) : left32 (l ++ m) = left32 m := by
  unfold left32
  rw [List.length_append, h, Nat.add_mod_left]
  have : m.length % 64 ≤ m.length := Nat.mod_le _ _
  rw [show 64 + m.length - m.length % 64 = l.length + (m.length - m.length % 64) by omega, ← List.drop_drop, List.drop_left]
def tell32 (s : S8) : List Int := bigL s.a 4 ++ (bigL s.b 4 ++ (bigL s.c 4 ++ (bigL s.d 4 ++ (bigL s.e 4 ++ (bigL s.f 4 ++ (bigL s.g 4 ++ bigL s.h 4))))))
theorem tell_len32 (s : S8) : (tell32 s).length = 32 := by unfold tell32; simp [bigL_len]
theorem tell_byt32 (s : S8) : Byt (tell32 s) :=
  byt_apd (bigL_byt _ _) (byt_apd (bigL_byt _ _) (byt_apd (bigL_byt _ _) (byt_apd (bigL_byt _ _) (byt_apd (bigL_byt _ _) (byt_apd (bigL_byt _ _) (byt_apd (bigL_byt _ _) (bigL_byt _ _)))))))
theorem tell_get32 (s : S8) (i : Nat) (h : i < 32) : (tell32 s).getD i 0 = s.l.getD (i / 4) 0 / 2 ^ (8 * (4 - 1 - i % 4)) % 256 := by
  have key : ∀ (v : Int) (m : List Int) (p : Nat), p < 4 → (bigL v 4 ++ m).getD p 0 = v / 2 ^ (8 * (4 - 1 - p)) % 256 := fun v m p hp => by
    rw [getD_apd_left _ _ _ (by rw [bigL_len]; exact hp), bigL_get _ _ _ hp, p256_two]
  have go : ∀ (v : Int) (m : List Int) (p : Nat), 4 ≤ p → (bigL v 4 ++ m).getD p 0 = m.getD (p - 4) 0 := fun v m p hp => by
    rw [getD_apd_right _ _ _ (by rw [bigL_len]; exact hp), bigL_len]
  have lst : ∀ (v : Int) (p : Nat), p < 4 → (bigL v 4).getD p 0 = v / 2 ^ (8 * (4 - 1 - p)) % 256 := fun v p hp => by
    rw [bigL_get _ _ _ hp, p256_two]
  have hm := Nat.div_add_mod i 4
  have hl := Nat.mod_lt i (show 0 < 4 by decide)
  unfold tell32
  obtain c | c | c | c | c | c | c | c : i / 4 = 0 ∨ i / 4 = 1 ∨ i / 4 = 2 ∨ i / 4 = 3 ∨ i / 4 = 4 ∨ i / 4 = 5 ∨ i / 4 = 6 ∨ i / 4 = 7 := by omega
  · rw [c, key _ _ _ (by omega), show i % 4 = i by omega]; rfl
  · rw [c, go _ _ _ (by omega), key _ _ _ (by omega), show i - 4 = i % 4 by omega]; rfl
  · rw [c, go _ _ _ (by omega), go _ _ _ (by omega), key _ _ _ (by omega), show i - 4 - 4 = i % 4 by omega]; rfl
  · rw [c, go _ _ _ (by omega), go _ _ _ (by omega), go _ _ _ (by omega), key _ _ _ (by omega), show i - 4 - 4 - 4 = i % 4 by omega]; rfl
  · rw [c, go _ _ _ (by omega), go _ _ _ (by omega), go _ _ _ (by omega), go _ _ _ (by omega), key _ _ _ (by omega), show i - 4 - 4 - 4 - 4 = i % 4 by omega]; rfl
  · rw [c, go _ _ _ (by omega), go _ _ _ (by omega), go _ _ _ (by omega), go _ _ _ (by omega), go _ _ _ (by omega), key _ _ _ (by omega), show i - 4 - 4 - 4 - 4 - 4 = i % 4 by omega]; rfl
  · rw [c, go _ _ _ (by omega), go _ _ _ (by omega), go _ _ _ (by omega), go _ _ _ (by omega), go _ _ _ (by omega), go _ _ _ (by omega), key _ _ _ (by omega), show i - 4 - 4 - 4 - 4 - 4 - 4 = i % 4 by omega]; rfl
  · rw [c, go _ _ _ (by omega), go _ _ _ (by omega), go _ _ _ (by omega), go _ _ _ (by omega), go _ _ _ (by omega), go _ _ _ (by omega), go _ _ _ (by omega), lst _ _ (by omega), show i - 4 - 4 - 4 - 4 - 4 - 4 - 4 = i % 4 by omega]; rfl
def start32 : S8 := ⟨1779033703, 3144134277, 1013904242, 2773480762, 1359893119, 2600822924, 528734635, 1541459225⟩
theorem start_ok32 : Ok32 start32 := by
  refine ⟨?_, ?_, ?_, ?_, ?_, ?_, ?_, ?_⟩ <;> exact ⟨by decide, by decide⟩
end Go.Proofs.YtmfajpplagbfcaaGreatDoor
namespace Go.Proofs.YtmfajpplagbfcaaGreatDoor
set_option maxRecDepth 100000
open Go Go.RowKit
def agw (k : IntKind) (b : Nat → Int) : Value := .agg #[.int k (b 0), .int k (b 1), .int k (b 2), .int k (b 3), .int k (b 4), .int k (b 5), .int k (b 6), .int k (b 7), .int k (b 8), .int k (b 9), .int k (b 10), .int k (b 11), .int k (b 12), .int k (b 13), .int k (b 14), .int k (b 15)]
def lsw (b : Nat → Int) : List Int := [b 0, b 1, b 2, b 3, b 4, b 5, b 6, b 7, b 8, b 9, b 10, b 11, b 12, b 13, b 14, b 15]
theorem lsw_len (b : Nat → Int) : (lsw b).length = 16 := rfl
theorem lsw_get (b : Nat → Int) (i : Nat) (h : i < 16) : (lsw b).getD i 0 = b i := by
  obtain rfl | rfl | rfl | rfl | rfl | rfl | rfl | rfl | rfl | rfl | rfl | rfl | rfl | rfl | rfl | rfl : i = 0 ∨ i = 1 ∨ i = 2 ∨ i = 3 ∨ i = 4 ∨ i = 5 ∨ i = 6 ∨ i = 7 ∨ i = 8 ∨ i = 9 ∨ i = 10 ∨ i = 11 ∨ i = 12 ∨ i = 13 ∨ i = 14 ∨ i = 15 := by omega
  all_goals rfl
theorem blk_agw (w : World) (k : IntKind) (ty : TypeId) (b : Nat → Int) : Blk (w.alloc (.cells #[.int k (b 0), .int k (b 1), .int k (b 2), .int k (b 3), .int k (b 4), .int k (b 5), .int k (b 6), .int k (b 7), .int k (b 8), .int k (b 9), .int k (b 10), .int k (b 11), .int k (b 12), .int k (b 13), .int k (b 14), .int k (b 15)] ty)) w.heap.size k (lsw b) := by
  refine ⟨ty, ?_⟩
  show (w.heap.push _)[w.heap.size]? = _
  simp [lsw]
theorem blk_ag8 (w : World) (k : IntKind) (ty : TypeId) (s : S8) : Blk (w.alloc (.cells #[.int k s.a, .int k s.b, .int k s.c, .int k s.d, .int k s.e, .int k s.f, .int k s.g, .int k s.h] ty)) w.heap.size k s.l := by
  refine ⟨ty, ?_⟩
  show (w.heap.push _)[w.heap.size]? = _
  simp [S8.l]
theorem Blk.f8 {w : World} {q : Nat} {k : IntKind} {s : S8} (h : Blk w q k s.l) :
    (w.cell? ⟨q, 0, none⟩ = some (.int k s.a) ∧ w.cell? ⟨q, 1, none⟩ = some (.int k s.b) ∧ w.cell? ⟨q, 2, none⟩ = some (.int k s.c) ∧ w.cell? ⟨q, 3, none⟩ = some (.int k s.d) ∧ w.cell? ⟨q, 4, none⟩ = some (.int k s.e) ∧ w.cell? ⟨q, 5, none⟩ = some (.int k s.f) ∧ w.cell? ⟨q, 6, none⟩ = some (.int k s.g) ∧ w.cell? ⟨q, 7, none⟩ = some (.int k s.h))
    ∧ (w.frozen? ⟨q, 0, none⟩ = false ∧ w.frozen? ⟨q, 1, none⟩ = false ∧ w.frozen? ⟨q, 2, none⟩ = false ∧ w.frozen? ⟨q, 3, none⟩ = false ∧ w.frozen? ⟨q, 4, none⟩ = false ∧ w.frozen? ⟨q, 5, none⟩ = false ∧ w.frozen? ⟨q, 6, none⟩ = false ∧ w.frozen? ⟨q, 7, none⟩ = false) :=
  ⟨⟨h.cell (i := 0) (by rw [S8.l_len]; omega), h.cell (i := 1) (by rw [S8.l_len]; omega), h.cell (i := 2) (by rw [S8.l_len]; omega), h.cell (i := 3) (by rw [S8.l_len]; omega), h.cell (i := 4) (by rw [S8.l_len]; omega), h.cell (i := 5) (by rw [S8.l_len]; omega), h.cell (i := 6) (by rw [S8.l_len]; omega), h.cell (i := 7) (by rw [S8.l_len]; omega)⟩,
   ⟨h.free 0, h.free 1, h.free 2, h.free 3, h.free 4, h.free 5, h.free 6, h.free 7⟩⟩
theorem tm16 (n k : Nat) (h : k ≤ n) : ((n : Int) - (k : Int)).tmod 16 = (((n - k) % 16 : Nat) : Int) := by
  rw [Int.tmod_eq_emod_of_nonneg (by omega)]
  omega
theorem below_set8 {B : Nat} {a w : World} (h : Below B a w) {q : Nat} (hq : B ≤ q) (x0 x1 x2 x3 x4 x5 x6 x7 : Value) :
    Below B a ((((((((w.setCell ⟨q, 0, none⟩ x0).setCell ⟨q, 1, none⟩ x1).setCell ⟨q, 2, none⟩ x2).setCell ⟨q, 3, none⟩ x3).setCell ⟨q, 4, none⟩ x4).setCell ⟨q, 5, none⟩ x5).setCell ⟨q, 6, none⟩ x6).setCell ⟨q, 7, none⟩ x7) :=
  (((((((h.setCell hq _).setCell hq _).setCell hq _).setCell hq _).setCell hq _).setCell hq _).setCell hq _).setCell hq _
end Go.Proofs.YtmfajpplagbfcaaGreatDoor
namespace Go.Proofs.YtmfajpplagbfcaaGreatDoor
set_option maxRecDepth 100000
open Go Go.RowKit
def Seg (w : World) (q off : Nat) (k : IntKind) (ys : List Int) : Prop := ∀ i, i < ys.length → w.cell? ⟨q, off + i, none⟩ = some (.int k (ys.getD i 0)) ∧ w.frozen? ⟨q, off + i, none⟩ = false
structure SegX (q off n : Nat) (w w' : World) : Prop where
  only : Only q w w'
  out : ∀ j, (j < off ∨ off + n ≤ j) → w'.cell? ⟨q, j, none⟩ = w.cell? ⟨q, j, none⟩ ∧ w'.frozen? ⟨q, j, none⟩ = w.frozen? ⟨q, j, none⟩
theorem SegX.refl (q off n : Nat) (w : World) : SegX q off n w w := ⟨Only.refl _ _, fun _ _ => ⟨rfl, rfl⟩⟩
theorem SegX.trans {q off n : Nat} {a b c : World} (h : SegX q off n a b) (k : SegX q off n b c) : SegX q off n a c :=
  ⟨h.only.trans k.only, fun j hj => ⟨(k.out j hj).1.trans (h.out j hj).1, (k.out j hj).2.trans (h.out j hj).2⟩⟩
theorem SegX.drew {q off n : Nat} {a b : World} (h : SegX q off n a b) : SegX q off n a b.drew := h.trans ⟨⟨rfl, rfl, rfl, rfl, fun _ _ => rfl⟩, fun _ _ => ⟨rfl, rfl⟩⟩
theorem SegX.drewN {q off n : Nat} {a b : World} (h : SegX q off n a b) (m : Nat) : SegX q off n a (b.drewN m) := h.trans ⟨⟨rfl, rfl, rfl, rfl, fun _ _ => rfl⟩, fun _ _ => ⟨rfl, rfl⟩⟩
theorem frozen_setCell (w : World) (p r : Addr) (v : Value) : (w.setCell p v).frozen? r = w.frozen? r := by simp
theorem SegX.set (w : World) (q off n i : Nat) (hi : i < n) (v : Value) : SegX q off n w (w.setCell ⟨q, off + i, none⟩ v) := by
  refine ⟨Only.setCell w q (off + i) v, fun j hj => ⟨?_, frozen_setCell _ _ _ _⟩⟩
  rw [World.cell?_setCell_other (h := fun h => by simp only [Addr.mk.injEq, true_and, and_true] at h; omega)]
theorem Seg.store {w : World} {q off : Nat} {k : IntKind} {ys : List Int} (h : Seg w q off k ys) (i : Nat) (hi : i < ys.length) (z : Int) : Seg (w.setCell ⟨q, off + i, none⟩ (.int k z)) q off k (ys.set i z) := by
  intro j hj
  rw [List.length_set] at hj
  refine ⟨?_, by rw [frozen_setCell]; exact (h j hj).2⟩
  by_cases e : i = j
  · subst e
    rw [getD_set_self _ _ _ hi, World.cell?_setCell_same _ _ _ (h i hi).1]
  · rw [getD_set_ne _ _ _ _ e, World.cell?_setCell_other (h := fun h => by simp only [Addr.mk.injEq, true_and, and_true] at h; omega)]
    exact (h j hj).1
theorem Seg.up {w w' : World} {q off : Nat} {k : IntKind} {ys : List Int} (h : Seg w q off k ys) (n : Below w.heap.size w w') : Seg w' q off k ys := by
  intro i hi
  have l := block_lt_of_cell (h i hi).1
  exact ⟨(World.cell?_of_block (a := ⟨q, off + i, none⟩) (n.block q l)).trans (h i hi).1, (World.frozen?_of_block (a := ⟨q, off + i, none⟩) (n.block q l)).trans (h i hi).2⟩
theorem p256_leh {m n : Nat} (h : m ≤ n) : (256 : Int) ^ m ≤ 256 ^ n := by
  obtain ⟨d, rfl⟩ := Nat.exists_eq_add_of_le h
  rw [Int.pow_add]
  have h1 := p256_pos d
  have h2 := p256_pos m
  have : (256 : Int) ^ m * 1 ≤ 256 ^ m * 256 ^ d := Int.mul_le_mul_of_nonneg_left (by omega) (by omega)
  omega
theorem Seg.range {w : World} {q off : Nat} {k : IntKind} {ys : List Int} (h : Seg w q off k ys) : w.rangeAt q off (ys.map (Value.int k)) := fun j v hv => by
  have hj : j < ys.length := by have := (List.getElem?_eq_some_iff.1 hv).1; simpa using this
  rw [(h j hj).1]
  simpa [hj] using hv
theorem one_ints (k : IntKind) (ys : List Int) : (ys.map (Value.int k)).toArray.all (·.oneCell') = true := all_oneCell_toArray fun v hv => by
  obtain ⟨x, _, rfl⟩ := List.mem_map.1 hv
  rfl
theorem Seg.blk {w : World} {q : Nat} {k : IntKind} {ys : List Int} (h : Blk w q k ys) : Seg w q 0 k ys := fun i hi => ⟨by rw [Nat.zero_add]; exact h.cell hi, h.free _⟩
theorem orb32 (x b : Int) (h0 : 0 ≤ x) (h1 : x < 16777216) (b0 : 0 ≤ b) (b1 : b < 256) : bits BinOp.or IntKind.u32 (x * 256 % 4294967296) b = x * 256 + b := by
  obtain ⟨n, rfl⟩ := Int.eq_ofNat_of_zero_le h0
  obtain ⟨m, rfl⟩ := Int.eq_ofNat_of_zero_le b0
  rw [Int.emod_eq_of_lt (by omega) (by omega), show (n : Int) * 256 = ((n * 256 : Nat) : Int) by omega, u32_or_nat (n * 256) m (by omega) (by omega), nat_join 8 (n * 256) m (by omega) (by omega)]
  omega
end Go.Proofs.YtmfajpplagbfcaaGreatDoor
