import Derived.Test.YtmfajpplagbfcaaGreatDoorHC3
import Derived.Test.YtmfajpplagbfcaaGreatDoorHC19
import Derived.Laws.IdiomCopy
import Derived.Deep.DeepCutAuto
import Derived.Lib.AppendZeros
namespace Go.Proofs.YtmfajpplagbfcaaGreatDoor
set_option maxRecDepth 100000
open Go Go.RowKit
def bw (z : Nat) (xs : List Int) (j : Nat) : Nat → Int
  | 0 => 0
  | m + 1 => bw z xs j m * 256 + xs.getD (z * j + m) 0
theorem bw_lt {z : Nat} {xs : List Int} (hb : Byt xs) (j : Nat) : ∀ m, 0 ≤ bw z xs j m ∧ bw z xs j m < 256 ^ m
  | 0 => by simp [bw]
  | m + 1 => by
    have ih := bw_lt (z := z) hb j m
    have h := hb (z * j + m)
    rw [bw, Int.pow_succ]
    omega
def wd (z : Nat) (xs : List Int) (j : Nat) : Int := bw z xs j z
theorem wd_32 {xs : List Int} (hb : Byt xs) (j : Nat) : Wd32 (wd 4 xs j) := by
  have := bw_lt (z := 4) hb j 4
  have e : (256 : Int) ^ 4 = 4294967296 := by decide
  rw [e] at this
  exact this
theorem bw_congr {z : Nat} {xs ys : List Int} {j : Nat} : ∀ {m : Nat}, (∀ i, i < m → xs.getD (z * j + i) 0 = ys.getD (z * j + i) 0) → bw z xs j m = bw z ys j m
  | 0, _ => rfl
  | m + 1, h => by rw [bw, bw, bw_congr (fun i hi => h i (by omega)), h m (by omega)]
def FilW (z : Nat) (xs : List Int) (n : Nat) (ys : List Int) (i : Nat) : Prop :=
  ys.length = n ∧ ∀ j, j < n → ys.getD j 0 = if j < i / z then wd z xs j else if j = i / z then bw z xs j (i % z) else 0
theorem FilW.zero (z : Nat) (xs : List Int) (n : Nat) : FilW z xs n (List.replicate n 0) 0 := by
  refine ⟨by simp, fun j hj => ?_⟩
  rw [Nat.zero_div, if_neg (by omega), Nat.zero_mod, List.getD_eq_getElem?_getD, List.getElem?_replicate, if_pos hj]
  split <;> rfl
theorem FilW.here {z n i : Nat} {xs ys : List Int} (h : FilW z xs n ys i) (hi : i / z < n) : ys.getD (i / z) 0 = bw z xs (i / z) (i % z) := by
  rw [h.2 _ hi, if_neg (by omega), if_pos rfl]
theorem FilW.step {z n i : Nat} {xs ys : List Int} (hz : 0 < z) (h : FilW z xs n ys i) : FilW z xs n (ys.set (i / z) (bw z xs (i / z) (i % z) * 256 + xs.getD i 0)) (i + 1) := by
  refine ⟨by rw [List.length_set]; exact h.1, fun j hj => ?_⟩
  have hm := Nat.div_add_mod i z
  have hml := Nat.mod_lt i hz
  have hnew : bw z xs (i / z) (i % z) * 256 + xs.getD i 0 = bw z xs (i / z) (i % z + 1) := by rw [bw, hm]
  rw [hnew]
  by_cases e : i % z + 1 = z
  · have d1 : (i + 1) / z = i / z + 1 := by
      rw [show i + 1 = z * (i / z + 1) by rw [Nat.mul_add, Nat.mul_one]; omega, Nat.mul_div_cancel_left _ hz]
    have d2 : (i + 1) % z = 0 := by
      rw [show i + 1 = z * (i / z + 1) by rw [Nat.mul_add, Nat.mul_one]; omega, Nat.mul_mod_right]
    rw [d1, d2]
    by_cases c : i / z = j
    · subst c
      rw [getD_set_self _ _ _ (by rw [h.1]; exact hj), if_pos (by omega), e]
      rfl
    · rw [getD_set_ne _ _ _ _ c, h.2 j hj]
      by_cases c2 : j < i / z
      · rw [if_pos c2, if_pos (by omega)]
      · rw [if_neg c2, if_neg (by omega), if_neg (by omega)]
        split <;> rfl
  · have d1 : (i + 1) / z = i / z := by
      refine Nat.div_eq_of_lt_le ?_ ?_
      · rw [Nat.mul_comm]; omega
      · rw [Nat.add_mul, Nat.one_mul, Nat.mul_comm]; omega
    have d2 : (i + 1) % z = i % z + 1 := by
      have := Nat.div_add_mod (i + 1) z
      rw [d1] at this
      omega
    rw [d1, d2]
    by_cases c : i / z = j
    · subst c
      rw [getD_set_self _ _ _ (by rw [h.1]; exact hj), if_neg (by omega), if_pos rfl]
    · rw [getD_set_ne _ _ _ _ c, h.2 j hj]
      by_cases c2 : j < i / z
      · rw [if_pos c2, if_pos c2]
      · rw [if_neg c2, if_neg c2, if_neg (by omega), if_neg (by omega)]
theorem FilW.all {z n : Nat} {xs ys : List Int} (hz : 0 < z) (h : FilW z xs n ys (z * n)) : ys.length = n ∧ ∀ j, j < n → ys.getD j 0 = wd z xs j := by
  refine ⟨h.1, fun j hj => ?_⟩
  rw [h.2 j hj, Nat.mul_div_cancel_left _ hz, if_pos hj]
/-- The words behind all whole blocks. -/
def wholeF32 : Nat → S8 → List Int → S8
  | 0, s, _ => s
  | n + 1, s, l => if l.length < 64 then s else wholeF32 n (blk32 s (wd 4 l)) (l.drop 64)
def whole32 (s : S8) (l : List Int) : S8 := wholeF32 (1 + l.length) s l
theorem wholeF_same32 : ∀ (n m : Nat) (s : S8) (l : List Int), l.length < n → l.length < m → wholeF32 n s l = wholeF32 m s l
  | 0, _, _, _, h, _ => absurd h (by omega)
  | _ + 1, 0, _, _, _, k => absurd k (by omega)
  | n + 1, m + 1, s, l, h, k => by
    rw [wholeF32, wholeF32]
    by_cases c : l.length < 64
    · rw [if_pos c, if_pos c]
    · rw [if_neg c, if_neg c, wholeF_same32 n m _ _ (by rw [List.length_drop]; omega) (by rw [List.length_drop]; omega)]
theorem whole_eq32 (s : S8) (l : List Int) : whole32 s l = if l.length < 64 then s else whole32 (blk32 s (wd 4 l)) (l.drop 64) := by
  have e : whole32 s l = wholeF32 (l.length + 1) s l := wholeF_same32 _ _ s l (by omega) (by omega)
  rw [e, wholeF32]
  by_cases c : l.length < 64
  · rw [if_pos c, if_pos c]
  · rw [if_neg c, if_neg c]
    exact wholeF_same32 _ _ _ _ (by rw [List.length_drop]; omega) (by omega)
theorem whole_short32 (s : S8) {l : List Int} (h : l.length < 64) : whole32 s l = s := by rw [whole_eq32, if_pos h]
theorem wd_take32 (l : List Int) : ∀ j, j < 16 → wd 4 (l.take 64) j = wd 4 l j := fun j hj => bw_congr fun i hi => by
  rw [List.getD_eq_getElem?_getD, List.getD_eq_getElem?_getD, List.getElem?_take, if_pos (by omega)]
theorem wS_congr32 {b c : Nat → Int} (h : ∀ i, i < 16 → b i = c i) (i : Nat) : wS32 b i = wS32 c i := by
  induction i using Nat.strongRecOn with
  | ind i ih =>
    by_cases h1 : i < 16
    · rw [wS_low32 b h1, wS_low32 c h1, h i h1]
    · rw [wS_go32 b (by omega), wS_go32 c (by omega), ih (i - 2) (by omega), ih (i - 7) (by omega), ih (i - 15) (by omega), ih (i - 16) (by omega)]
theorem blk_congr32 (s : S8) {b c : Nat → Int} (h : ∀ i, i < 16 → b i = c i) : blk32 s b = blk32 s c := by
  have e : wS32 b = wS32 c := funext (wS_congr32 h)
  unfold blk32
  rw [e]
theorem whole_app32 (s : S8) (l m : List Int) (h : l.length = 64) : whole32 s (l ++ m) = whole32 (blk32 s (wd 4 l)) m := by
  rw [whole_eq32, if_neg (by rw [List.length_append]; omega)]
  have e1 : (l ++ m).drop 64 = m := by rw [← h]; exact List.drop_left
  have e2 : (l ++ m).take 64 = l := by rw [← h]; exact List.take_left
  rw [e1]
  rw [blk_congr32 s (fun i hi => (wd_take32 (l ++ m) i hi).symm), e2]
theorem whole_ok32 {s : S8} (hs : Ok32 s) (l : List Int) : Ok32 (whole32 s l) := by
  induction h : l.length using Nat.strongRecOn generalizing s l with
  | ind n ih =>
    by_cases c : l.length < 64
    · rw [whole_short32 s c]
      exact hs
    · rw [whole_eq32, if_neg c]
      exact ih (l.drop 64).length (by simp; omega) (blk_ok32 _ _) _ rfl
def left32 (l : List Int) : List Int := l.drop (l.length - l.length % 64)
theorem left_short32 {l : List Int} (h : l.length < 64) : left32 l = l := by
  unfold left32
  rw [Nat.mod_eq_of_lt h, Nat.sub_self, List.drop_zero]
theorem left_app32 (l m : List Int) (h : l.length = 64) : left32 (l ++ m) = left32 m := by
  unfold left32
  rw [List.length_append, h, Nat.add_mod_left]
  have : m.length % 64 ≤ m.length := Nat.mod_le _ _
  rw [show 64 + m.length - m.length % 64 = l.length + (m.length - m.length % 64) by omega, ← List.drop_drop, List.drop_left]
def tell32 (s : S8) : List Int := bigL s.a 4 ++ (bigL s.b 4 ++ (bigL s.c 4 ++ (bigL s.d 4 ++ (bigL s.e 4 ++ (bigL s.f 4 ++ (bigL s.g 4 ++ bigL s.h 4))))))
theorem tell_len32 (s : S8) : (tell32 s).length = 32 := by unfold tell32; simp [bigL_len]
theorem tell_byt32 (s : S8) : Byt (tell32 s) :=
  byt_apd (bigL_byt _ _) (byt_apd (bigL_byt _ _) (byt_apd (bigL_byt _ _) (byt_apd (bigL_byt _ _) (byt_apd (bigL_byt _ _) (byt_apd (bigL_byt _ _) (byt_apd (bigL_byt _ _) (bigL_byt _ _)))))))
theorem tell_get32 (s : S8) (i : Nat) (h : i < 32) : (tell32 s).getD i 0 = s.l.getD (i / 4) 0 / 2 ^ (8 * (4 - 1 - i % 4)) % 256 := by
  have key : ∀ (v : Int) (m : List Int) (p : Nat), p < 4 → (bigL v 4 ++ m).getD p 0 = v / 2 ^ (8 * (4 - 1 - p)) % 256 := fun v m p hp => by
    rw [getD_apd_left _ _ _ (by rw [bigL_len]; exact hp), bigL_get _ _ _ hp, p256_two]
  have go : ∀ (v : Int) (m : List Int) (p : Nat), 4 ≤ p → (bigL v 4 ++ m).getD p 0 = m.getD (p - 4) 0 := fun v m p hp => by
    rw [getD_apd_right _ _ _ (by rw [bigL_len]; exact hp), bigL_len]
  have lst : ∀ (v : Int) (p : Nat), p < 4 → (bigL v 4).getD p 0 = v / 2 ^ (8 * (4 - 1 - p)) % 256 := fun v p hp => by
    rw [bigL_get _ _ _ hp, p256_two]
  have hm := Nat.div_add_mod i 4
  have hl := Nat.mod_lt i (show 0 < 4 by decide)
  unfold tell32
  obtain c | c | c | c | c | c | c | c : i / 4 = 0 ∨ i / 4 = 1 ∨ i / 4 = 2 ∨ i / 4 = 3 ∨ i / 4 = 4 ∨ i / 4 = 5 ∨ i / 4 = 6 ∨ i / 4 = 7 := by omega
  · rw [c, key _ _ _ (by omega), show i % 4 = i by omega]; rfl
  · rw [c, go _ _ _ (by omega), key _ _ _ (by omega), show i - 4 = i % 4 by omega]; rfl
  · rw [c, go _ _ _ (by omega), go _ _ _ (by omega), key _ _ _ (by omega), show i - 4 - 4 = i % 4 by omega]; rfl
  · rw [c, go _ _ _ (by omega), go _ _ _ (by omega), go _ _ _ (by omega), key _ _ _ (by omega), show i - 4 - 4 - 4 = i % 4 by omega]; rfl
  · rw [c, go _ _ _ (by omega), go _ _ _ (by omega), go _ _ _ (by omega), go _ _ _ (by omega), key _ _ _ (by omega), show i - 4 - 4 - 4 - 4 = i % 4 by omega]; rfl
  · rw [c, go _ _ _ (by omega), go _ _ _ (by omega), go _ _ _ (by omega), go _ _ _ (by omega), go _ _ _ (by omega), key _ _ _ (by omega), show i - 4 - 4 - 4 - 4 - 4 = i % 4 by omega]; rfl
  · rw [c, go _ _ _ (by omega), go _ _ _ (by omega), go _ _ _ (by omega), go _ _ _ (by omega), go _ _ _ (by omega), go _ _ _ (by omega), key _ _ _ (by omega), show i - 4 - 4 - 4 - 4 - 4 - 4 = i % 4 by omega]; rfl
  · rw [c, go _ _ _ (by omega), go _ _ _ (by omega), go _ _ _ (by omega), go _ _ _ (by omega), go _ _ _ (by omega), go _ _ _ (by omega), go _ _ _ (by omega), lst _ _ (by omega), show i - 4 - 4 - 4 - 4 - 4 - 4 - 4 = i % 4 by omega]; rfl
def start32 : S8 := ⟨1779033703, 3144134277, 1013904242, 2773480762, 1359893119, 2600822924, 528734635, 1541459225⟩
theorem start_ok32 : Ok32 start32 := by
  refine ⟨?_, ?_, ?_, ?_, ?_, ?_, ?_, ?_⟩ <;> exact ⟨by decide, by decide⟩
end Go.Proofs.YtmfajpplagbfcaaGreatDoor
namespace Go.Proofs.YtmfajpplagbfcaaGreatDoor
set_option maxRecDepth 100000
open Go Go.RowKit
def agw (k : IntKind) (b : Nat → Int) : Value := .agg #[.int k (b 0), .int k (b 1), .int k (b 2), .int k (b 3), .int k (b 4), .int k (b 5), .int k (b 6), .int k (b 7), .int k (b 8), .int k (b 9), .int k (b 10), .int k (b 11), .int k (b 12), .int k (b 13), .int k (b 14), .int k (b 15)]
def lsw (b : Nat → Int) : List Int := [b 0, b 1, b 2, b 3, b 4, b 5, b 6, b 7, b 8, b 9, b 10, b 11, b 12, b 13, b 14, b 15]
theorem lsw_len (b : Nat → Int) : (lsw b).length = 16 := rfl
theorem lsw_get (b : Nat → Int) (i : Nat) (h : i < 16) : (lsw b).getD i 0 = b i := by
  obtain rfl | rfl | rfl | rfl | rfl | rfl | rfl | rfl | rfl | rfl | rfl | rfl | rfl | rfl | rfl | rfl : i = 0 ∨ i = 1 ∨ i = 2 ∨ i = 3 ∨ i = 4 ∨ i = 5 ∨ i = 6 ∨ i = 7 ∨ i = 8 ∨ i = 9 ∨ i = 10 ∨ i = 11 ∨ i = 12 ∨ i = 13 ∨ i = 14 ∨ i = 15 := by omega
  all_goals rfl
theorem blk_agw (w : World) (k : IntKind) (ty : TypeId) (b : Nat → Int) : Blk (w.alloc (.cells #[.int k (b 0), .int k (b 1), .int k (b 2), .int k (b 3), .int k (b 4), .int k (b 5), .int k (b 6), .int k (b 7), .int k (b 8), .int k (b 9), .int k (b 10), .int k (b 11), .int k (b 12), .int k (b 13), .int k (b 14), .int k (b 15)] ty)) w.heap.size k (lsw b) := by
  refine ⟨ty, ?_⟩
  show (w.heap.push _)[w.heap.size]? = _
  simp [lsw]
theorem blk_ag8 (w : World) (k : IntKind) (ty : TypeId) (s : S8) : Blk (w.alloc (.cells #[.int k s.a, .int k s.b, .int k s.c, .int k s.d, .int k s.e, .int k s.f, .int k s.g, .int k s.h] ty)) w.heap.size k s.l := by
  refine ⟨ty, ?_⟩
  show (w.heap.push _)[w.heap.size]? = _
  simp [S8.l]
theorem Blk.f8 {w : World} {q : Nat} {k : IntKind} {s : S8} (h : Blk w q k s.l) :
    (w.cell? ⟨q, 0, none⟩ = some (.int k s.a) ∧ w.cell? ⟨q, 1, none⟩ = some (.int k s.b) ∧ w.cell? ⟨q, 2, none⟩ = some (.int k s.c) ∧ w.cell? ⟨q, 3, none⟩ = some (.int k s.d) ∧ w.cell? ⟨q, 4, none⟩ = some (.int k s.e) ∧ w.cell? ⟨q, 5, none⟩ = some (.int k s.f) ∧ w.cell? ⟨q, 6, none⟩ = some (.int k s.g) ∧ w.cell? ⟨q, 7, none⟩ = some (.int k s.h))
    ∧ (w.frozen? ⟨q, 0, none⟩ = false ∧ w.frozen? ⟨q, 1, none⟩ = false ∧ w.frozen? ⟨q, 2, none⟩ = false ∧ w.frozen? ⟨q, 3, none⟩ = false ∧ w.frozen? ⟨q, 4, none⟩ = false ∧ w.frozen? ⟨q, 5, none⟩ = false ∧ w.frozen? ⟨q, 6, none⟩ = false ∧ w.frozen? ⟨q, 7, none⟩ = false) :=
  ⟨⟨h.cell (i := 0) (by rw [S8.l_len]; omega), h.cell (i := 1) (by rw [S8.l_len]; omega), h.cell (i := 2) (by rw [S8.l_len]; omega), h.cell (i := 3) (by rw [S8.l_len]; omega), h.cell (i := 4) (by rw [S8.l_len]; omega), h.cell (i := 5) (by rw [S8.l_len]; omega), h.cell (i := 6) (by rw [S8.l_len]; omega), h.cell (i := 7) (by rw [S8.l_len]; omega)⟩,
   ⟨h.free 0, h.free 1, h.free 2, h.free 3, h.free 4, h.free 5, h.free 6, h.free 7⟩⟩
theorem tm16 (n k : Nat) (h : k ≤ n) : ((n : Int) - (k : Int)).tmod 16 = (((n - k) % 16 : Nat) : Int) := by
  rw [Int.tmod_eq_emod_of_nonneg (by omega)]
  omega
theorem below_set8 {B : Nat} {a w : World} (h : Below B a w) {q : Nat} (hq : B ≤ q) (x0 x1 x2 x3 x4 x5 x6 x7 : Value) :
    Below B a ((((((((w.setCell ⟨q, 0, none⟩ x0).setCell ⟨q, 1, none⟩ x1).setCell ⟨q, 2, none⟩ x2).setCell ⟨q, 3, none⟩ x3).setCell ⟨q, 4, none⟩ x4).setCell ⟨q, 5, none⟩ x5).setCell ⟨q, 6, none⟩ x6).setCell ⟨q, 7, none⟩ x7) :=
  (((((((h.setCell hq _).setCell hq _).setCell hq _).setCell hq _).setCell hq _).setCell hq _).setCell hq _).setCell hq _
end Go.Proofs.YtmfajpplagbfcaaGreatDoor
namespace Go.Proofs.YtmfajpplagbfcaaGreatDoor
set_option maxRecDepth 100000
open Go Go.RowKit
def Seg (w : World) (q off : Nat) (k : IntKind) (ys : List Int) : Prop := ∀ i, i < ys.length → w.cell? ⟨q, off + i, none⟩ = some (.int k (ys.getD i 0)) ∧ w.frozen? ⟨q, off + i, none⟩ = false
structure SegX (q off n : Nat) (w w' : World) : Prop where
  only : Only q w w'
  out : ∀ j, (j < off ∨ off + n ≤ j) → w'.cell? ⟨q, j, none⟩ = w.cell? ⟨q, j, none⟩ ∧ w'.frozen? ⟨q, j, none⟩ = w.frozen? ⟨q, j, none⟩
theorem SegX.refl (q off n : Nat) (w : World) : SegX q off n w w := ⟨Only.refl _ _, fun _ _ => ⟨rfl, rfl⟩⟩
theorem SegX.trans {q off n : Nat} {a b c : World} (h : SegX q off n a b) (k : SegX q off n b c) : SegX q off n a c :=
  ⟨h.only.trans k.only, fun j hj => ⟨(k.out j hj).1.trans (h.out j hj).1, (k.out j hj).2.trans (h.out j hj).2⟩⟩
theorem SegX.drew {q off n : Nat} {a b : World} (h : SegX q off n a b) : SegX q off n a b.drew := h.trans ⟨⟨rfl, rfl, rfl, rfl, fun _ _ => rfl⟩, fun _ _ => ⟨rfl, rfl⟩⟩
theorem SegX.drewN {q off n : Nat} {a b : World} (h : SegX q off n a b) (m : Nat) : SegX q off n a (b.drewN m) := h.trans ⟨⟨rfl, rfl, rfl, rfl, fun _ _ => rfl⟩, fun _ _ => ⟨rfl, rfl⟩⟩
theorem frozen_setCell (w : World) (p r : Addr) (v : Value) : (w.setCell p v).frozen? r = w.frozen? r := by simp
theorem SegX.set (w : World) (q off n i : Nat) (hi : i < n) (v : Value) : SegX q off n w (w.setCell ⟨q, off + i, none⟩ v) := by
  refine ⟨Only.setCell w q (off + i) v, fun j hj => ⟨?_, frozen_setCell _ _ _ _⟩⟩
  rw [World.cell?_setCell_other (h := fun h => by simp only [Addr.mk.injEq, true_and, and_true] at h; omega)]
theorem Seg.store {w : World} {q off : Nat} {k : IntKind} {ys : List Int} (h : Seg w q off k ys) (i : Nat) (hi : i < ys.length) (z : Int) : Seg (w.setCell ⟨q, off + i, none⟩ (.int k z)) q off k (ys.set i z) := by
  intro j hj
  rw [List.length_set] at hj
  refine ⟨?_, by rw [frozen_setCell]; exact (h j hj).2⟩
  by_cases e : i = j
  · subst e
    rw [getD_set_self _ _ _ hi, World.cell?_setCell_same _ _ _ (h i hi).1]
  · rw [getD_set_ne _ _ _ _ e, World.cell?_setCell_other (h := fun h => by simp only [Addr.mk.injEq, true_and, and_true] at h; omega)]
    exact (h j hj).1
theorem Seg.up {w w' : World} {q off : Nat} {k : IntKind} {ys : List Int} (h : Seg w q off k ys) (n : Below w.heap.size w w') : Seg w' q off k ys := by
  intro i hi
  have l := block_lt_of_cell (h i hi).1
  exact ⟨(World.cell?_of_block (a := ⟨q, off + i, none⟩) (n.block q l)).trans (h i hi).1, (World.frozen?_of_block (a := ⟨q, off + i, none⟩) (n.block q l)).trans (h i hi).2⟩
theorem p256_leh {m n : Nat} (h : m ≤ n) : (256 : Int) ^ m ≤ 256 ^ n := by
  obtain ⟨d, rfl⟩ := Nat.exists_eq_add_of_le h
  rw [Int.pow_add]
  have h1 := p256_pos d
  have h2 := p256_pos m
  have : (256 : Int) ^ m * 1 ≤ 256 ^ m * 256 ^ d := Int.mul_le_mul_of_nonneg_left (by omega) (by omega)
  omega
theorem Seg.range {w : World} {q off : Nat} {k : IntKind} {ys : List Int} (h : Seg w q off k ys) : w.rangeAt q off (ys.map (Value.int k)) := fun j v hv => by
  have hj : j < ys.length := by have := (List.getElem?_eq_some_iff.1 hv).1; simpa using this
  rw [(h j hj).1]
  simpa [hj] using hv
theorem one_ints (k : IntKind) (ys : List Int) : (ys.map (Value.int k)).toArray.all (·.oneCell') = true := all_oneCell_toArray fun v hv => by
  obtain ⟨x, _, rfl⟩ := List.mem_map.1 hv
  rfl
theorem Seg.blk {w : World} {q : Nat} {k : IntKind} {ys : List Int} (h : Blk w q k ys) : Seg w q 0 k ys := fun i hi => ⟨by rw [Nat.zero_add]; exact h.cell hi, h.free _⟩
theorem orb32 (x b : Int) (h0 : 0 ≤ x) (h1 : x < 16777216) (b0 : 0 ≤ b) (b1 : b < 256) : bits BinOp.or IntKind.u32 (x * 256 % 4294967296) b = x * 256 + b := by
  obtain ⟨n, rfl⟩ := Int.eq_ofNat_of_zero_le h0
  obtain ⟨m, rfl⟩ := Int.eq_ofNat_of_zero_le b0
  rw [Int.emod_eq_of_lt (by omega) (by omega), show (n : Int) * 256 = ((n * 256 : Nat) : Int) by omega, u32_or_nat (n * 256) m (by omega) (by omega), nat_join 8 (n * 256) m (by omega) (by omega)]
  omega
end Go.Proofs.YtmfajpplagbfcaaGreatDoor
namespace Go.Proofs.YtmfajpplagbfcaaGreatDoor
set_option maxRecDepth 100000
open Go Go.RowKit
def hcl (k : IntKind) (L : Int) (C : S8) (R : List Int) : List Value := .int .i64 L :: (C.l.map (Value.int k) ++ R.map (Value.int .u8))
theorem hcl_len (k : IntKind) (L : Int) (C : S8) {R : List Int} (h : R.length = 128) : (hcl k L C R).length = 137 := by
  unfold hcl
  rw [List.length_cons, List.length_append, List.length_map, List.length_map, h, S8.l_len]
theorem hcl_one (k : IntKind) (L : Int) (C : S8) (R : List Int) : (hcl k L C R).toArray.all (·.oneCell') = true := all_oneCell_toArray fun v hv => by
  unfold hcl at hv
  rcases List.mem_cons.1 hv with rfl | h
  · rfl
  · rcases List.mem_append.1 h with h | h
    · obtain ⟨x, _, rfl⟩ := List.mem_map.1 h
      rfl
    · obtain ⟨x, _, rfl⟩ := List.mem_map.1 h
      rfl
structure HB (k : IntKind) (w : World) (q : Nat) (L : Int) (C : S8) (R : List Int) : Prop where
  len : R.length = 128
  c0 : w.cell? ⟨q, 0, none⟩ = some (.int .i64 L)
  f0 : w.frozen? ⟨q, 0, none⟩ = false
  ch : Seg w q 1 k C.l
  rs : Seg w q 9 .u8 R
theorem HB.lt {k : IntKind} {w : World} {q : Nat} {L : Int} {C : S8} {R : List Int} (h : HB k w q L C R) : q < w.heap.size := block_lt_of_cell h.c0
theorem HB.of_block {k : IntKind} {w w' : World} {q : Nat} {L : Int} {C : S8} {R : List Int} (h : HB k w q L C R) (hb : w'.heap[q]? = w.heap[q]?) : HB k w' q L C R :=
  ⟨h.len, (World.cell?_of_block (a := ⟨q, 0, none⟩) hb).trans h.c0, (World.frozen?_of_block (a := ⟨q, 0, none⟩) hb).trans h.f0,
   fun i hi => ⟨(World.cell?_of_block (a := ⟨q, 1 + i, none⟩) hb).trans (h.ch i hi).1, (World.frozen?_of_block (a := ⟨q, 1 + i, none⟩) hb).trans (h.ch i hi).2⟩,
   fun i hi => ⟨(World.cell?_of_block (a := ⟨q, 9 + i, none⟩) hb).trans (h.rs i hi).1, (World.frozen?_of_block (a := ⟨q, 9 + i, none⟩) hb).trans (h.rs i hi).2⟩⟩
theorem HB.up {k : IntKind} {w w' : World} {q : Nat} {L : Int} {C : S8} {R : List Int} (h : HB k w q L C R) (n : Below w.heap.size w w') : HB k w' q L C R := h.of_block (n.block q h.lt)
theorem HB.range {k : IntKind} {w : World} {q : Nat} {L : Int} {C : S8} {R : List Int} (h : HB k w q L C R) : w.rangeAt q 0 (hcl k L C R) := by
  intro j v hv
  unfold hcl at hv
  cases j with
  | zero =>
    simp at hv
    subst hv
    exact h.c0
  | succ j =>
    rw [List.getElem?_cons_succ] at hv
    by_cases c : j < 8
    · rw [List.getElem?_append_left (by rw [List.length_map, S8.l_len]; exact c)] at hv
      rw [show 0 + (j + 1) = 1 + j by omega]
      exact h.ch.range j v hv
    · rw [List.getElem?_append_right (by rw [List.length_map, S8.l_len]; omega), List.length_map, S8.l_len] at hv
      rw [show 0 + (j + 1) = 9 + (j - 8) by omega]
      exact h.rs.range (j - 8) v hv
theorem HB.there {k : IntKind} {w : World} {q : Nat} {L : Int} {C : S8} {R : List Int} (h : HB k w q L C R) : w.there q 0 137 := by
  intro j hj
  rw [Nat.zero_add]
  cases j with
  | zero => exact ⟨by rw [h.c0]; rfl, h.f0⟩
  | succ j =>
    by_cases c : j < 8
    · have := h.ch j (by rw [S8.l_len]; exact c)
      rw [show 1 + j = j + 1 by omega] at this
      exact ⟨by rw [this.1]; rfl, this.2⟩
    · have := h.rs (j - 8) (by rw [h.len]; omega)
      rw [show 9 + (j - 8) = j + 1 by omega] at this
      exact ⟨by rw [this.1]; rfl, this.2⟩
theorem HB.of_range {k : IntKind} {w : World} {q : Nat} {L : Int} {C : S8} {R : List Int} (hl : R.length = 128) (rg : w.rangeAt q 0 (hcl k L C R)) (th : w.there q 0 137) : HB k w q L C R := by
  have f : ∀ j, j < 137 → w.frozen? ⟨q, j, none⟩ = false := fun j hj => by have := (th j hj).2; rwa [Nat.zero_add] at this
  refine ⟨hl, rg 0 _ rfl, f 0 (by omega), fun i hi => ⟨?_, f _ (by rw [S8.l_len] at hi; omega)⟩, fun i hi => ⟨?_, f _ (by omega)⟩⟩
  · have := rg (i + 1) (.int k (C.l.getD i 0)) (by
      unfold hcl
      rw [List.getElem?_cons_succ, List.getElem?_append_left (by rw [List.length_map]; exact hi)]
      simp [hi])
    rwa [show 0 + (i + 1) = 1 + i by omega] at this
  · have := rg (i + 9) (.int .u8 (R.getD i 0)) (by
      unfold hcl
      rw [show i + 9 = (i + 8) + 1 by omega, List.getElem?_cons_succ, List.getElem?_append_right (by rw [List.length_map, S8.l_len]; omega), List.length_map, S8.l_len, Nat.add_sub_cancel]
      simp [hi])
    rwa [show 0 + (i + 9) = 9 + i by omega] at this
theorem HB.alloc (k : IntKind) (w : World) (ty : TypeId) (L : Int) (C : S8) {R : List Int} (hl : R.length = 128) : HB k (w.alloc (.cells (hcl k L C R).toArray ty)) w.heap.size L C R := by
  have hh : (w.alloc (.cells (hcl k L C R).toArray ty)).heap[w.heap.size]? = some (.cells (hcl k L C R).toArray ty (0, 0)) := by
    show (w.heap.push _)[w.heap.size]? = _
    simp
  refine HB.of_range hl (fun j v hv => ?_) (fun j hj => ⟨?_, frozen_of_row _ _ _ _ _ hh⟩)
  · rw [cell_of_row _ _ _ _ _ _ hh]
    simpa using hv
  · rw [cell_of_row _ _ _ _ _ _ hh]
    have := hcl_len k L C hl
    simp [this]
    omega
theorem HB.setL {k : IntKind} {w : World} {q : Nat} {L : Int} {C : S8} {R : List Int} (h : HB k w q L C R) (L' : Int) : HB k (w.setCell ⟨q, 0, none⟩ (.int .i64 L')) q L' C R := by
  refine ⟨h.len, World.cell?_setCell_same _ _ _ h.c0, by rw [frozen_setCell]; exact h.f0, fun i hi => ⟨?_, by rw [frozen_setCell]; exact (h.ch i hi).2⟩, fun i hi => ⟨?_, by rw [frozen_setCell]; exact (h.rs i hi).2⟩⟩
  · rw [World.cell?_setCell_other (h := fun h => by simp only [Addr.mk.injEq, true_and, and_true] at h; omega)]
    exact (h.ch i hi).1
  · rw [World.cell?_setCell_other (h := fun h => by simp only [Addr.mk.injEq, true_and, and_true] at h; omega)]
    exact (h.rs i hi).1
theorem setCells_frozen (w : World) (q o : Nat) (vs : List Value) (a : Addr) : (w.setCells q o vs).frozen? a = w.frozen? a := World.frozen?_setCells q vs o w a
theorem cell_out {w : World} {q o : Nat} {vs : List Value} {j : Nat} {v : Value} (h : w.cell? ⟨q, j, none⟩ = some v) (hj : j < o ∨ o + vs.length ≤ j) : (w.setCells q o vs).cell? ⟨q, j, none⟩ = some v := by
  have := World.rangeAt_setCells_apart (w := w) (b' := q) (o' := j) (cs := [v]) (fun i u hu => by
    match i, hu with
    | 0, hu => simp at hu; subst hu; exact h) q o vs (.inr (by rcases hj with hj | hj; exact .inl (by simp; omega); exact .inr (by omega)))
  exact this 0 v rfl
theorem HB.setC {k : IntKind} {w : World} {q : Nat} {L : Int} {C : S8} {R : List Int} (h : HB k w q L C R) (C' : S8) : HB k (w.setCells q 1 (C'.l.map (Value.int k))) q L C' R := by
  have l8 : (C'.l.map (Value.int k)).length = 8 := by rw [List.length_map, S8.l_len]
  have sm := World.rangeAt_setCells_same w q 1 (C'.l.map (Value.int k)) (by
    rw [l8]
    intro j hj
    have := h.ch j (by rw [S8.l_len]; exact hj)
    exact ⟨by rw [this.1]; rfl, this.2⟩)
  refine ⟨h.len, cell_out h.c0 (.inl (by omega)), by rw [setCells_frozen]; exact h.f0, fun i hi => ⟨?_, ?_⟩, fun i hi => ⟨cell_out (h.rs i hi).1 (.inr (by rw [l8]; omega)), by rw [setCells_frozen]; exact (h.rs i hi).2⟩⟩
  · exact sm i _ (by simp [hi])
  · rw [setCells_frozen]
    exact (h.ch i (by rw [S8.l_len] at hi ⊢; exact hi)).2
def lay (R : List Int) (r : Nat) (xs : List Int) : List Int := R.take r ++ (xs ++ R.drop (r + xs.length))
theorem lay_len {R : List Int} {r : Nat} {xs : List Int} (h : r + xs.length ≤ R.length) : (lay R r xs).length = R.length := by
  unfold lay
  simp
  omega
theorem HB.setR {k : IntKind} {w : World} {q : Nat} {L : Int} {C : S8} {R : List Int} (h : HB k w q L C R) (r : Nat) (xs : List Int) (hr : r + xs.length ≤ 128) : HB k (w.setCells q (9 + r) (xs.map (Value.int .u8))) q L C (lay R r xs) := by
  have hl := h.len
  have lx : (xs.map (Value.int .u8)).length = xs.length := List.length_map _
  have sm := World.rangeAt_setCells_same w q (9 + r) (xs.map (Value.int .u8)) (by
    rw [lx]
    intro j hj
    have := h.rs (r + j) (by omega)
    rw [show 9 + (r + j) = 9 + r + j by omega] at this
    exact ⟨by rw [this.1]; rfl, this.2⟩)
  refine ⟨by rw [lay_len (by omega)]; exact hl, cell_out h.c0 (.inl (by omega)), by rw [setCells_frozen]; exact h.f0, fun i hi => ⟨cell_out (h.ch i hi).1 (.inl (by rw [S8.l_len] at hi; omega)), by rw [setCells_frozen]; exact (h.ch i hi).2⟩, fun i hi => ?_⟩
  rw [lay_len (by omega)] at hi
  refine ⟨?_, by rw [setCells_frozen]; exact (h.rs i hi).2⟩
  unfold lay
  have tl : (R.take r).length = r := by rw [List.length_take]; omega
  by_cases c1 : i < r
  · rw [getD_apd_left _ _ _ (by omega)]
    have e : (R.take r).getD i 0 = R.getD i 0 := by rw [List.getD_eq_getElem?_getD, List.getD_eq_getElem?_getD, List.getElem?_take, if_pos c1]
    rw [e]
    exact cell_out (h.rs i hi).1 (.inl (by omega))
  · rw [getD_apd_right _ _ _ (by omega), tl]
    by_cases c2 : i - r < xs.length
    · rw [getD_apd_left _ _ _ c2]
      have := sm (i - r) (.int .u8 (xs.getD (i - r) 0)) (by simp [c2])
      rwa [show 9 + r + (i - r) = 9 + i by omega] at this
    · rw [getD_apd_right _ _ _ (by omega), List.getD_eq_getElem?_getD, List.getElem?_drop, show r + xs.length + (i - r - xs.length) = i by omega, ← List.getD_eq_getElem?_getD]
      exact cell_out (h.rs i hi).1 (.inr (by rw [lx]; omega))
theorem only_setCells (w : World) (q : Nat) : ∀ (vs : List Value) (o : Nat), Only q w (w.setCells q o vs)
  | [], _ => Only.refl _ _
  | v :: vs, o => (Only.setCell w q o v).trans (only_setCells (w.setCell ⟨q, o, none⟩ v) q vs (o + 1))
structure Bth (q : Nat) (w w' : World) : Prop where
  os : w'.os = w.os
  tape : w'.tape = w.tape
  output : w'.output = w.output
  size : w.heap.size ≤ w'.heap.size
  block : ∀ g, g < w.heap.size → g ≠ q → w'.heap[g]? = w.heap[g]?
theorem Bth.refl (q : Nat) (w : World) : Bth q w w := ⟨rfl, rfl, rfl, Nat.le_refl _, fun _ _ _ => rfl⟩
theorem Bth.trans {q : Nat} {a b c : World} (h : Bth q a b) (k : Bth q b c) : Bth q a c :=
  ⟨k.os.trans h.os, k.tape.trans h.tape, k.output.trans h.output, Nat.le_trans h.size k.size, fun g hg hq => (k.block g (Nat.lt_of_lt_of_le hg h.size) hq).trans (h.block g hg hq)⟩
theorem Bth.of_below {q : Nat} {a b : World} (h : Below a.heap.size a b) : Bth q a b := ⟨h.os, h.tape, h.output, h.size, fun g hg _ => h.block g hg⟩
theorem Bth.of_only {q : Nat} {a b : World} (h : Only q a b) : Bth q a b := ⟨h.os, h.tape, h.output, Nat.le_of_eq h.size.symm, fun g _ hq => h.block g hq⟩
theorem Bth.below {q B : Nat} {a b : World} (h : Bth q a b) (h1 : B ≤ q) (h2 : B ≤ a.heap.size) : Below B a b := ⟨h.os, h.tape, h.output, h.size, fun g hg => h.block g (by omega) (by omega)⟩
theorem HasT.bt {q g : Nat} {w w' : World} {l : List Int} (h : HasT w g l) (hl : 0 < l.length) (b : Bth q w w') (hq : g ≠ q) : HasT w' g l := h.of_block (b.block g (block_lt_of_cell (h 0 hl)) hq)
theorem Rd.bt {q g : Nat} {w w' : World} {a : Option Addr} {k : IntKind} {xs : List Int} (h : Rd w g a k xs) (b : Bth q w w') (hq : g ≠ q) : Rd w' g a k xs := by
  by_cases h0 : 0 < xs.length
  · exact h.of_block (b.block g (h.lt h0) hq)
  · exact fun h1 => absurd h1 h0
theorem HB.of_seg {k : IntKind} {w w' : World} {q : Nat} {L : Int} {C C' : S8} {R : List Int} (h : HB k w q L C R) (x : SegX q 1 8 w w') (s : Seg w' q 1 k C'.l) : HB k w' q L C' R :=
  ⟨h.len, (x.out 0 (.inl (by omega))).1.trans h.c0, (x.out 0 (.inl (by omega))).2.trans h.f0, s, fun i hi => ⟨(x.out (9 + i) (.inr (by omega))).1.trans (h.rs i hi).1, (x.out (9 + i) (.inr (by omega))).2.trans (h.rs i hi).2⟩⟩
theorem results_cell_m {P : Program} {fn : Func} {p : Tmp} {ty : TypeId} (h : fn.results = #[.cell p ty]) (tmps : Array Value) (w : World) (g : Nat) (cs : List Value) (d : TypeDesc)
    (hp : tmps.getD p undef = .pointer (some ⟨g, 0, none⟩)) (hc : w.rangeAt g 0 cs) (hu : P.underlying ty = some d) (hd : d.isRow = true) (hi : (P.info? ty).map (·.size) = some cs.length) :
    (results fn tmps).run P w = .ok (.agg cs.toArray) w := by
  have hp' : tmps[p]?.getD undef = .pointer (some ⟨g, 0, none⟩) := by simpa using hp
  simp [results, h, hp', asAddr, run_loadVar_mid w g 0 ty cs d hc hu hd hi]
theorem take_more {R : List Int} {r : Nat} {xs : List Int} (h : r ≤ R.length) : (lay R r xs).take (r + xs.length) = R.take r ++ xs := by
  unfold lay
  rw [← List.append_assoc]
  have : (R.take r ++ xs).length = r + xs.length := by rw [List.length_append, List.length_take]; omega
  rw [← this]
  exact List.take_left
theorem lay_byt {R : List Int} {r : Nat} {xs : List Int} (h : Byt R) (k : Byt xs) : Byt (lay R r xs) := by
  refine byt_apd (fun j => ?_) (byt_apd k (fun j => ?_))
  · rw [List.getD_eq_getElem?_getD, List.getElem?_take]
    split
    · rw [← List.getD_eq_getElem?_getD]
      exact h j
    · simp
  · rw [List.getD_eq_getElem?_getD, List.getElem?_drop, ← List.getD_eq_getElem?_getD]
    exact h _
theorem byt_takeh {xs : List Int} (h : Byt xs) (n : Nat) : Byt (xs.take n) := fun j => by
  rw [List.getD_eq_getElem?_getD, List.getElem?_take]
  split
  · rw [← List.getD_eq_getElem?_getD]
    exact h j
  · simp
theorem rd_drop {w : World} {g o t : Nat} {xs : List Int} (h : Rd w g (some ⟨g, o, none⟩) .u8 xs) : Rd w g (some ⟨g, o + t, none⟩) .u8 (xs.drop t) := by
  intro h0
  rw [List.length_drop] at h0
  obtain ⟨o', e, hc⟩ := h (by omega)
  simp only [Option.some.injEq, Addr.mk.injEq, true_and, and_true] at e
  subst e
  refine ⟨o + t, rfl, fun i hi => ?_⟩
  rw [List.length_drop] at hi
  have := hc (t + i) (by omega)
  rw [List.getD_eq_getElem?_getD, List.getElem?_drop, ← List.getD_eq_getElem?_getD, Nat.add_assoc]
  exact this
theorem und22h : Tryz.prog.underlying 22 = some (.slice 5) := Tryz.underlying22
theorem s5 : (Tryz.prog.info? 5).map (·.size) = some 1 := by kernel_rfl
theorem zero137 (k : IntKind) : hcl k 0 ⟨0, 0, 0, 0, 0, 0, 0, 0⟩ (List.replicate 128 0) = .int .i64 0 :: (List.replicate 8 (.int k 0) ++ List.replicate 128 (.int .u8 0)) := by
  unfold hcl
  rw [List.map_replicate]
  rfl
end Go.Proofs.YtmfajpplagbfcaaGreatDoor
namespace Go.Proofs.YtmfajpplagbfcaaGreatDoor
set_option maxRecDepth 100000
open Go Go.RowKit
set_option maxHeartbeats 8000000 in
theorem behind_32 (w : World) (s : S8) (hs : Ok32 s) (b : Nat → Int) (hb : ∀ i, i < 16 → Wd32 (b i)) (hT : HasT w 1 kL) :
    Calls Tryz.prog 77 #[ag8 .u32 s, agw .u32 b] w fun e w' => e = .returned (ag8 .u32 (blk32 s b)) ∧ Below w.heap.size w w' := by
  have n0 : Below w.heap.size w (w.alloc (.cells #[.int .u32 s.a, .int .u32 s.b, .int .u32 s.c, .int .u32 s.d, .int .u32 s.e, .int .u32 s.f, .int .u32 s.g, .int .u32 s.h] 73)) := (Below.refl _ _).alloc (Nat.le_refl _) _
  have B0 := blk_ag8 w .u32 73 s
  have z0 : (w.alloc (.cells #[.int .u32 s.a, .int .u32 s.b, .int .u32 s.c, .int .u32 s.d, .int .u32 s.e, .int .u32 s.f, .int .u32 s.g, .int .u32 s.h] 73)).heap.size = w.heap.size + 1 := by simp
  simp only [ag8, agw]
  go_enter Tryz.func77, Tryz.ntmps77
  go_wp2_with fail
  generalize w.alloc (.cells #[.int .u32 s.a, .int .u32 s.b, .int .u32 s.c, .int .u32 s.d, .int .u32 s.e, .int .u32 s.f, .int .u32 s.g, .int .u32 s.h] 73) = wa at *
  have n1 : Below wa.heap.size wa (wa.alloc (.cells #[.int .u32 (b 0), .int .u32 (b 1), .int .u32 (b 2), .int .u32 (b 3), .int .u32 (b 4), .int .u32 (b 5), .int .u32 (b 6), .int .u32 (b 7), .int .u32 (b 8), .int .u32 (b 9), .int .u32 (b 10), .int .u32 (b 11), .int .u32 (b 12), .int .u32 (b 13), .int .u32 (b 14), .int .u32 (b 15)] 123)) := (Below.refl _ _).alloc (Nat.le_refl _) _
  have B1 := blk_agw wa .u32 123 b
  have z1 : (wa.alloc (.cells #[.int .u32 (b 0), .int .u32 (b 1), .int .u32 (b 2), .int .u32 (b 3), .int .u32 (b 4), .int .u32 (b 5), .int .u32 (b 6), .int .u32 (b 7), .int .u32 (b 8), .int .u32 (b 9), .int .u32 (b 10), .int .u32 (b 11), .int .u32 (b 12), .int .u32 (b 13), .int .u32 (b 14), .int .u32 (b 15)] 123)).heap.size = wa.heap.size + 1 := by simp
  generalize wa.alloc (.cells #[.int .u32 (b 0), .int .u32 (b 1), .int .u32 (b 2), .int .u32 (b 3), .int .u32 (b 4), .int .u32 (b 5), .int .u32 (b 6), .int .u32 (b 7), .int .u32 (b 8), .int .u32 (b 9), .int .u32 (b 10), .int .u32 (b 11), .int .u32 (b 12), .int .u32 (b 13), .int .u32 (b 14), .int .u32 (b 15)] 123) = wb at *
  have B0 := B0.up n1
  have N1 := nxt n0 n1
  rw [z0] at B1 z1
  clear n0 n1 z0
  have n2 : Below wb.heap.size wb (wb.alloc (.cells #[.int .u32 0, .int .u32 0, .int .u32 0, .int .u32 0, .int .u32 0, .int .u32 0, .int .u32 0, .int .u32 0] 73)) := (Below.refl _ _).alloc (Nat.le_refl _) _
  have B2 := blk_ag8 wb .u32 73 ⟨0, 0, 0, 0, 0, 0, 0, 0⟩
  have z2 : (wb.alloc (.cells #[.int .u32 0, .int .u32 0, .int .u32 0, .int .u32 0, .int .u32 0, .int .u32 0, .int .u32 0, .int .u32 0] 73)).heap.size = wb.heap.size + 1 := by simp
  simp only [] at B2
  generalize wb.alloc (.cells #[.int .u32 0, .int .u32 0, .int .u32 0, .int .u32 0, .int .u32 0, .int .u32 0, .int .u32 0, .int .u32 0] 73) = wc at *
  have B0 := B0.up n2
  have B1 := B1.up n2
  have N2 := nxt N1 n2
  rw [z1] at B2 z2
  clear n2 N1 z1
  have hT2 := hT.up N2
  obtain ⟨⟨c0, c1, c2, c3, c4, c5, c6, c7⟩, -⟩ := B0.f8
  go_quiet (fail)
  go_wp2_with fail
  refine (stepsOf_32 _).mono ?_
  rintro r wd ⟨rfl, rfl⟩
  have N2 := N2.trans (below_drewN (Below.refl _ _) nq)
  have B0 : Blk (wc.drewN nq) w.heap.size .u32 s.l := B0
  have B1 : Blk (wc.drewN nq) (w.heap.size + 1) .u32 (lsw b) := B1
  have B2 : Blk (wc.drewN nq) (w.heap.size + 1 + 1) .u32 (S8.l ⟨0, 0, 0, 0, 0, 0, 0, 0⟩) := B2
  have hT2 : HasT (wc.drewN nq) 1 kL := hT2
  have z2 : (wc.drewN nq).heap.size = w.heap.size + 1 + 1 + 1 := z2
  generalize wc.drewN nq = wd at *
  clear c0 c1 c2 c3 c4 c5 c6 c7
  have gl : 1 < w.heap.size := block_lt_of_cell (hT 0 (by decide))
  clear hT
  have R0 := Roll.first32 (b := b) (lsw_len b) (lsw_get b)
  go_wp2_with fail
  go_loopw [5, 6, 7, 8, 9, 10, 11, 12, 33] (fun va vb vc vd ve vf vg vh i wr => ∃ (n : Nat) (r : S8) (ys : List Int), n ≤ 64 ∧ i = .int .i64 n ∧ va = .int .u32 r.a ∧ vb = .int .u32 r.b ∧ vc = .int .u32 r.c ∧ vd = .int .u32 r.d ∧ ve = .int .u32 r.e ∧ vf = .int .u32 r.f ∧ vg = .int .u32 r.g ∧ vh = .int .u32 r.h ∧ Hid (r = rnds32 K32 (wS32 b) n s) ∧ Roll32 b ys (max n 16) ∧ Blk wr (w.heap.size + 1) .u32 ys ∧ Blk wr w.heap.size .u32 s.l ∧ Blk wr (w.heap.size + 1 + 1) .u32 (S8.l ⟨0, 0, 0, 0, 0, 0, 0, 0⟩) ∧ HasT wr 1 kL ∧ Below w.heap.size w wr) (fun _ _ _ _ _ _ _ _ i _ => 64 - (intOf i).toNat)
  case atStart => exact ⟨0, s, lsw b, Nat.zero_le _, rfl, rfl, rfl, rfl, rfl, rfl, rfl, rfl, rfl, rfl, R0, B1, B0, B2, hT2, N2⟩
  case round =>
    obtain ⟨n, r, ys, hn, rfl, rfl, rfl, rfl, rfl, rfl, rfl, rfl, rfl, hr, hR, hB1, hB0, hB2, hT, hN⟩ := hrel
    clear B0 B1 B2 hT2 N2 R0 z2
    by_cases hlt : n < 64
    · have ok : Ok32 r := by rw [hr.out]; exact rnds_ok32 hs n
      obtain ⟨oa, ob, oc, od, oe, of, og, oh⟩ := ok
      have hr' : Hid (stp32 (K32 n) (wS32 b n) r = rnds32 K32 (wS32 b) (n + 1) s) := by show _ = _; rw [hr.out]; rfl
      have G1 := fun w => hide (greatMix1_32 w r.e oe)
      have G0 := fun w => hide (greatMix0_32 w r.a oa)
      have CH := fun w => hide (choice_32 w r.e r.f r.g oe of og)
      have MJ := fun w => hide (majority_32 w r.a r.b r.c oa ob oc)
      have kl := kL_lt ⟨n, by omega⟩
      have UB : ∀ w, Hid (Calls Tryz.prog 74 #[.int .u64 (kL.getD n 0)] w fun e w' => e = .returned (.int .u32 (K32 n)) ∧ w' = w) := fun w => upperBits_32 w (kL.getD n 0) kl.1 kl.2
      have wd := wS_wd32 hb n
      have kd := K_wd32 n hlt
      clear hr kl
      by_cases h16 : 16 ≤ n
      · have hR' := Roll.step32 (i := n) (by rw [Nat.max_eq_left h16] at hR; exact hR) h16
        have y2 := hR.2 (n - 2) (by omega) (by omega)
        have y15 := hR.2 (n - 15) (by omega) (by omega)
        have EX := extend_32 wr (w.heap.size + 1) n (n % 16) ((n - 2) % 16) ((n - 7) % 16) ((n - 15) % 16) (ys.getD (n % 16) 0) (ys.getD ((n - 2) % 16) 0) (ys.getD ((n - 7) % 16) 0) (ys.getD ((n - 15) % 16) 0)
          (by rw [IntKind.wrap_i64]; omega) (by rw [IntKind.wrap_i64]; omega) (by rw [IntKind.wrap_i64]; omega) (by have := tm16 n 0 (by omega); simpa using this) (tm16 n 2 (by omega)) (tm16 n 7 (by omega)) (tm16 n 15 (by omega)) (by omega) (by omega) (by omega) (by omega) (by rw [y2]; exact wS_wd32 hb _) (by rw [y15]; exact wS_wd32 hb _)
          (fun W h => (hB1.up h).cell (by rw [hR.1]; omega)) (fun W h => (hB1.up h).cell (by rw [hR.1]; omega)) (fun W h => (hB1.up h).cell (by rw [hR.1]; omega)) (fun W h => (hB1.up h).cell (by rw [hR.1]; omega)) (fun W h => (hB1.up h).free _)
        generalize extv32 (ys.getD (n % 16) 0) (ys.getD ((n - 2) % 16) 0) (ys.getD ((n - 7) % 16) 0) (ys.getD ((n - 15) % 16) 0) = ev at *
        have EXH := hide EX
        have h16' : decide ((16 : Int) ≤ (n : Int)) = true := by simp; omega
        clear EX y2 y15 hb
        go_wp2_with fail
        refine EXH.out.mono ?_
        rintro x wx ⟨rfl, w1, nb, rfl⟩
        have hl := hB1.lt
        have B1 := (hB1.up nb).store (n % 16) ev
        have B0 := (hB0.up nb).of_block (w' := w1.setCell ⟨w.heap.size + 1, n % 16, none⟩ (.int .u32 ev)) (heap_setCell_other _ ⟨w.heap.size + 1, n % 16, none⟩ _ _ (by show w.heap.size ≠ w.heap.size + 1; omega))
        have B2 := (hB2.up nb).of_block (w' := w1.setCell ⟨w.heap.size + 1, n % 16, none⟩ (.int .u32 ev)) (heap_setCell_other _ ⟨w.heap.size + 1, n % 16, none⟩ _ _ (by show w.heap.size + 1 + 1 ≠ w.heap.size + 1; omega))
        have N : Below w.heap.size w (w1.setCell ⟨w.heap.size + 1, n % 16, none⟩ (.int .u32 ev)) := (nxt hN nb).setCell (by show w.heap.size ≤ w.heap.size + 1; omega) _
        have T1 := (hT.up nb).of_block (w' := w1.setCell ⟨w.heap.size + 1, n % 16, none⟩ (.int .u32 ev)) (heap_setCell_other _ ⟨w.heap.size + 1, n % 16, none⟩ _ _ (by show 1 ≠ w.heap.size + 1; omega))
        generalize w1.setCell ⟨w.heap.size + 1, n % 16, none⟩ (.int .u32 ev) = wt at *
        have RR : Roll32 b (ys.set (n % 16) ev) (max (n + 1) 16) := by rw [Nat.max_eq_left (by omega)]; exact hR'
        generalize ys.set (n % 16) ev = ys' at *
        clear EXH hR hR' hB1 hB0 hB2 hT hN nb h16'
        have cb := B1.cell (i := n % 16) (by rw [RR.1]; omega)
        rw [RR.2 n (by omega) (by omega)] at cb
        have ck := T1 n (by show n < 80; omega)
        have p1 : (n : Int) % 16 = ((n % 16 : Nat) : Int) := by omega
        have p2 : ((n % 16 : Nat) : Int) < 16 := by omega
        have p3 : (n : Int) < 80 := by omega
        generalize n % 16 = p at cb p1 p2
        clear h16
        go_wp2_with fail
        go_quiet ((first | (go_at_call 88; exact Calls.quiet_of (G1 _).out) | (go_at_call 89; exact Calls.quiet_of_same (CH _).out) | (go_at_call 74; exact Calls.quiet_of_same (UB _).out)))
        obtain ⟨t, ht⟩ : ∃ t, t = tS32 (K32 n) (wS32 b n) r := ⟨_, rfl⟩
        go_wp2_with fail
        have tv : ((r.h + gg132 r.e + ch32 r.e r.f r.g + K32 n) % 4294967296 + wS32 b n) % 4294967296 = t := by rw [ht]; unfold tS32; omega
        rw [tv]
        have HT := hide ht
        clear tv ht cb ck p1 p2 p3 G1 CH UB kd wd
        refine (G0 _).out.mono ?_
        rintro x wx ⟨rfl, m1, rfl⟩
        go_wp2_with fail
        refine (MJ _).out.mono ?_
        rintro x wx ⟨rfl, rfl⟩
        go_wp2
        go_roundw
        case rel => exact ⟨n + 1, stp32 (K32 n) (wS32 b n) r, ys', by omega, by go_num, by congr 1; show _ = (tS32 (K32 n) (wS32 b n) r + uS32 r) % 4294967296; rw [← HT.out]; unfold uS32; omega, rfl, rfl, rfl, by congr 1; show _ = (r.d + tS32 (K32 n) (wS32 b n) r) % 4294967296; rw [← HT.out], rfl, rfl, rfl, hr', RR, B1, B0, B2, T1, below_drewN N _⟩
        case measure => simp [intOf]; omega
      · have RR : Roll32 b ys (max (n + 1) 16) := by rw [Nat.max_eq_right (by omega)]; rw [Nat.max_eq_right (by omega)] at hR; exact hR
        have h16' : decide ((16 : Int) ≤ (n : Int)) = false := by simp; omega
        have B1 := hB1
        have B0 := hB0
        have B2 := hB2
        have T1 := hT
        have N := hN
        clear hR hB1 hB0 hB2 hT hN hb
        generalize ys = ys' at *
        generalize wr = wt at *
        have cb := B1.cell (i := n % 16) (by rw [RR.1]; omega)
        rw [RR.2 n (by omega) (by omega)] at cb
        have ck := T1 n (by show n < 80; omega)
        have p1 : (n : Int) % 16 = ((n % 16 : Nat) : Int) := by omega
        have p2 : ((n % 16 : Nat) : Int) < 16 := by omega
        have p3 : (n : Int) < 80 := by omega
        generalize n % 16 = p at cb p1 p2
        clear h16
        go_wp2_with fail
        go_quiet ((first | (go_at_call 88; exact Calls.quiet_of (G1 _).out) | (go_at_call 89; exact Calls.quiet_of_same (CH _).out) | (go_at_call 74; exact Calls.quiet_of_same (UB _).out)))
        obtain ⟨t, ht⟩ : ∃ t, t = tS32 (K32 n) (wS32 b n) r := ⟨_, rfl⟩
        go_wp2_with fail
        have tv : ((r.h + gg132 r.e + ch32 r.e r.f r.g + K32 n) % 4294967296 + wS32 b n) % 4294967296 = t := by rw [ht]; unfold tS32; omega
        rw [tv]
        have HT := hide ht
        clear tv ht cb ck p1 p2 p3 G1 CH UB kd wd
        refine (G0 _).out.mono ?_
        rintro x wx ⟨rfl, m1, rfl⟩
        go_wp2_with fail
        refine (MJ _).out.mono ?_
        rintro x wx ⟨rfl, rfl⟩
        go_wp2
        go_roundw
        case rel => exact ⟨n + 1, stp32 (K32 n) (wS32 b n) r, ys', by omega, by go_num, by congr 1; show _ = (tS32 (K32 n) (wS32 b n) r + uS32 r) % 4294967296; rw [← HT.out]; unfold uS32; omega, rfl, rfl, rfl, by congr 1; show _ = (r.d + tS32 (K32 n) (wS32 b n) r) % 4294967296; rw [← HT.out], rfl, rfl, rfl, hr', RR, B1, B0, B2, T1, below_drewN N _⟩
        case measure => simp [intOf]; omega
    · obtain rfl : n = 64 := by omega
      have K : Hid (blk32 s b = add32 s r) := by show _ = _; rw [hr.out]; rfl
      obtain ⟨⟨c0, c1, c2, c3, c4, c5, c6, c7⟩, -⟩ := hB0.f8
      obtain ⟨⟨d0, d1, d2, d3, d4, d5, d6, d7⟩, ⟨f0, f1, f2, f3, f4, f5, f6, f7⟩⟩ := hB2.f8
      clear hr hR hB1 hB0 hB2 hT
      go_wp2
      refine bodyPost_ret (v := ag8 .u32 (add32 s r)) (by simp [ag8, add32, results,  Tryz.results77, go_sem, d0, d1, d2, d3, d4, d5, d6, d7]) rfl ⟨by rw [K.out]; rfl, ?_⟩
      exact below_set8 hN (by omega) _ _ _ _ _ _ _ _
end Go.Proofs.YtmfajpplagbfcaaGreatDoor
