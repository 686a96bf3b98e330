
/-
  Words out of bytes, the highest byte first, and what stands behind all whole blocks of data. No program in sight (written by gens/wn.py).
-/
import Derived.Test.YtnfciobpfiibcaaDoorPdN
import Derived.Test.YtnfciobpfiibcaaDoorHn32
import Derived.Test.YtnfciobpfiibcaaDoorHn64
namespace Go.Proofs.YtnfciobpfiibcaaDoor
set_option maxRecDepth 100000
open Go Go.RowKit

/-- The first m bytes of word j, of words of z bytes. -/
def bw (z : Nat) (xs : List Int) (j : Nat) : Nat → Int
  | 0 => 0
  | m + 1 => bw z xs j m * 256 + xs.getD (z * j + m) 0
theorem bw_lt {z : Nat} {xs : List Int} (hb : Byt xs) (j : Nat) : ∀ m, 0 ≤ bw z xs j m ∧ bw z xs j m < 256 ^ m
  | 0 => by simp [bw]
  | m + 1 => by
    have ih := bw_lt (z := z) hb j m
    have h := hb (z * j + m)
    rw [bw, Int.pow_succ]
    omega
/-- Word j. -/
def wd (z : Nat) (xs : List Int) (j : Nat) : Int := bw z xs j z
theorem wd_32 {xs : List Int} (hb : Byt xs) (j : Nat) : Wd32 (wd 4 xs j) := by
  have := bw_lt (z := 4) hb j 4
  have e : (256 : Int) ^ 4 = 4294967296 := by decide
  rw [e] at this
  exact this
theorem wd_64 {xs : List Int} (hb : Byt xs) (j : Nat) : Wd64 (wd 8 xs j) := by
  have := bw_lt (z := 8) hb j 8
  have e : (256 : Int) ^ 8 = 18446744073709551616 := by decide
  rw [e] at this
  exact this
theorem bw_congr {z : Nat} {xs ys : List Int} {j : Nat} : ∀ {m : Nat}, (∀ i, i < m → xs.getD (z * j + i) 0 = ys.getD (z * j + i) 0) → bw z xs j m = bw z ys j m
  | 0, _ => rfl
  | m + 1, h => by rw [bw, bw, bw_congr (fun i hi => h i (by omega)), h m (by omega)]

/-- Words that are filled byte by byte: i bytes so far, n words. -/
def FilW (z : Nat) (xs : List Int) (n : Nat) (ys : List Int) (i : Nat) : Prop :=
  ys.length = n ∧ ∀ j, j < n → ys.getD j 0 = if j < i / z then wd z xs j else if j = i / z then bw z xs j (i % z) else 0
theorem FilW.zero (z : Nat) (xs : List Int) (n : Nat) : FilW z xs n (List.replicate n 0) 0 := by
  refine ⟨by simp, fun j hj => ?_⟩
  rw [Nat.zero_div, if_neg (by omega), Nat.zero_mod, List.getD_eq_getElem?_getD, List.getElem?_replicate, if_pos hj]
  split <;> rfl
theorem FilW.here {z n i : Nat} {xs ys : List Int} (h : FilW z xs n ys i) (hi : i / z < n) : ys.getD (i / z) 0 = bw z xs (i / z) (i % z) := by
  rw [h.2 _ hi, if_neg (by omega), if_pos rfl]
theorem FilW.step {z n i : Nat} {xs ys : List Int} (hz : 0 < z) (h : FilW z xs n ys i) : FilW z xs n (ys.set (i / z) (bw z xs (i / z) (i % z) * 256 + xs.getD i 0)) (i + 1) := by
  refine ⟨by rw [List.length_set]; exact h.1, fun j hj => ?_⟩
  have hm := Nat.div_add_mod i z
  have hml := Nat.mod_lt i hz
  have hnew : bw z xs (i / z) (i % z) * 256 + xs.getD i 0 = bw z xs (i / z) (i % z + 1) := by rw [bw, hm]
  rw [hnew]
  by_cases e : i % z + 1 = z
  · have d1 : (i + 1) / z = i / z + 1 := by
      rw [show i + 1 = z * (i / z + 1) by rw [Nat.mul_add, Nat.mul_one]; omega, Nat.mul_div_cancel_left _ hz]
    have d2 : (i + 1) % z = 0 := by
      rw [show i + 1 = z * (i / z + 1) by rw [Nat.mul_add, Nat.mul_one]; omega, Nat.mul_mod_right]
    rw [d1, d2]
    by_cases c : i / z = j
    · subst c
      rw [getD_set_self _ _ _ (by rw [h.1]; exact hj), if_pos (by omega), e]
      rfl
    · rw [getD_set_ne _ _ _ _ c, h.2 j hj]
      by_cases c2 : j < i / z
      · rw [if_pos c2, if_pos (by omega)]
      · rw [if_neg c2, if_neg (by omega), if_neg (by omega)]
        split <;> rfl
  · have d1 : (i + 1) / z = i / z := by
      refine Nat.div_eq_of_lt_le ?_ ?_
      · rw [Nat.mul_comm]; omega
      · rw [Nat.add_mul, Nat.one_mul, Nat.mul_comm]; omega
    have d2 : (i + 1) % z = i % z + 1 := by
      have := Nat.div_add_mod (i + 1) z
      rw [d1] at this
      omega
    rw [d1, d2]
    by_cases c : i / z = j
    · subst c
      rw [getD_set_self _ _ _ (by rw [h.1]; exact hj), if_neg (by omega), if_pos rfl]
    · rw [getD_set_ne _ _ _ _ c, h.2 j hj]
      by_cases c2 : j < i / z
      · rw [if_pos c2, if_pos c2]
      · rw [if_neg c2, if_neg c2, if_neg (by omega), if_neg (by omega)]
theorem FilW.all {z n : Nat} {xs ys : List Int} (hz : 0 < z) (h : FilW z xs n ys (z * n)) : ys.length = n ∧ ∀ j, j < n → ys.getD j 0 = wd z xs j := by
  refine ⟨h.1, fun j hj => ?_⟩
  rw [h.2 j hj, Nat.mul_div_cancel_left _ hz, if_pos hj]

/-- The words behind all whole blocks. -/
def wholeF32 : Nat → S8 → List Int → S8
  | 0, s, _ => s
  | n + 1, s, l => if l.length < 64 then s else wholeF32 n (blk32 s (wd 4 l)) (l.drop 64)
def whole32 (s : S8) (l : List Int) : S8 := wholeF32 (1 + l.length) s l
theorem wholeF_same32 : ∀ (n m : Nat) (s : S8) (l : List Int), l.length < n → l.length < m → wholeF32 n s l = wholeF32 m s l
  | 0, _, _, _, h, _ => absurd h (by omega)
  | _ + 1, 0, _, _, _, k => absurd k (by omega)
  | n + 1, m + 1, s, l, h, k => by
    rw [wholeF32, wholeF32]
    by_cases c : l.length < 64
    · rw [if_pos c, if_pos c]
    · rw [if_neg c, if_neg c, wholeF_same32 n m _ _ (by rw [List.length_drop]; omega) (by rw [List.length_drop]; omega)]
theorem whole_eq32 (s : S8) (l : List Int) : whole32 s l = if l.length < 64 then s else whole32 (blk32 s (wd 4 l)) (l.drop 64) := by
  have e : whole32 s l = wholeF32 (l.length + 1) s l := wholeF_same32 _ _ s l (by omega) (by omega)
  rw [e, wholeF32]
  by_cases c : l.length < 64
  · rw [if_pos c, if_pos c]
  · rw [if_neg c, if_neg c]
    exact wholeF_same32 _ _ _ _ (by rw [List.length_drop]; omega) (by omega)
theorem whole_short32 (s : S8) {l : List Int} (h : l.length < 64) : whole32 s l = s := by rw [whole_eq32, if_pos h]
theorem wd_take32 (l : List Int) : ∀ j, j < 16 → wd 4 (l.take 64) j = wd 4 l j := fun j hj => bw_congr fun i hi => by
  rw [List.getD_eq_getElem?_getD, List.getD_eq_getElem?_getD, List.getElem?_take, if_pos (by omega)]
theorem wS_congr32 {b c : Nat → Int} (h : ∀ i, i < 16 → b i = c i) (i : Nat) : wS32 b i = wS32 c i := by
  induction i using Nat.strongRecOn with
  | ind i ih =>
    by_cases h1 : i < 16
    · rw [wS_low32 b h1, wS_low32 c h1, h i h1]
    · rw [wS_go32 b (by omega), wS_go32 c (by omega), ih (i - 2) (by omega), ih (i - 7) (by omega), ih (i - 15) (by omega), ih (i - 16) (by omega)]
theorem blk_congr32 (s : S8) {b c : Nat → Int} (h : ∀ i, i < 16 → b i = c i) : blk32 s b = blk32 s c := by
  have e : wS32 b = wS32 c := funext (wS_congr32 h)
  unfold blk32
  rw [e]
theorem whole_app32 (s : S8) (l m : List Int) (h : l.length = 64) : whole32 s (l ++ m) = whole32 (blk32 s (wd 4 l)) m := by
  rw [whole_eq32, if_neg (by rw [List.length_append]; omega)]
  have e1 : (l ++ m).drop 64 = m := by rw [← h]; exact List.drop_left
  have e2 : (l ++ m).take 64 = l := by rw [← h]; exact List.take_left
  rw [e1]
  rw [blk_congr32 s (fun i hi => (wd_take32 (l ++ m) i hi).symm), e2]
theorem whole_ok32 {s : S8} (hs : Ok32 s) (l : List Int) : Ok32 (whole32 s l) := by
  induction h : l.length using Nat.strongRecOn generalizing s l with
  | ind n ih =>
    by_cases c : l.length < 64
    · rw [whole_short32 s c]
      exact hs
    · rw [whole_eq32, if_neg c]
      exact ih (l.drop 64).length (by simp; omega) (blk_ok32 _ _) _ rfl
/-- What fills no block. -/
def left32 (l : List Int) : List Int := l.drop (l.length - l.length % 64)
theorem left_short32 {l : List Int} (h : l.length < 64) : left32 l = l := by
  unfold left32
  rw [Nat.mod_eq_of_lt h, Nat.sub_self, List.drop_zero]
theorem left_app32 (l m : List Int) (h : l.length = 64) : left32 (l ++ m) = left32 m := by
  unfold left32
  rw [List.length_append, h, Nat.add_mod_left]
  have : m.length % 64 ≤ m.length := Nat.mod_le _ _
  rw [show 64 + m.length - m.length % 64 = l.length + (m.length - m.length % 64) by omega, ← List.drop_drop, List.drop_left]
theorem left_len32 (l : List Int) : (left32 l).length = l.length % 64 := by
  unfold left32
  rw [List.length_drop]
  have : l.length % 64 ≤ l.length := Nat.mod_le _ _
  omega
/-- The eight words as bytes. -/
def tell32 (s : S8) : List Int := bigL s.a 4 ++ (bigL s.b 4 ++ (bigL s.c 4 ++ (bigL s.d 4 ++ (bigL s.e 4 ++ (bigL s.f 4 ++ (bigL s.g 4 ++ bigL s.h 4))))))
theorem tell_len32 (s : S8) : (tell32 s).length = 32 := by unfold tell32; simp [bigL_len]
theorem tell_byt32 (s : S8) : Byt (tell32 s) :=
  byt_apd (bigL_byt _ _) (byt_apd (bigL_byt _ _) (byt_apd (bigL_byt _ _) (byt_apd (bigL_byt _ _) (byt_apd (bigL_byt _ _) (byt_apd (bigL_byt _ _) (byt_apd (bigL_byt _ _) (bigL_byt _ _)))))))
theorem tell_get32 (s : S8) (i : Nat) (h : i < 32) : (tell32 s).getD i 0 = s.l.getD (i / 4) 0 / 2 ^ (8 * (4 - 1 - i % 4)) % 256 := by
  have key : ∀ (v : Int) (m : List Int) (p : Nat), p < 4 → (bigL v 4 ++ m).getD p 0 = v / 2 ^ (8 * (4 - 1 - p)) % 256 := fun v m p hp => by
    rw [getD_apd_left _ _ _ (by rw [bigL_len]; exact hp), bigL_get _ _ _ hp, p256_two]
  have go : ∀ (v : Int) (m : List Int) (p : Nat), 4 ≤ p → (bigL v 4 ++ m).getD p 0 = m.getD (p - 4) 0 := fun v m p hp => by
    rw [getD_apd_right _ _ _ (by rw [bigL_len]; exact hp), bigL_len]
  have lst : ∀ (v : Int) (p : Nat), p < 4 → (bigL v 4).getD p 0 = v / 2 ^ (8 * (4 - 1 - p)) % 256 := fun v p hp => by
    rw [bigL_get _ _ _ hp, p256_two]
  have hm := Nat.div_add_mod i 4
  have hl := Nat.mod_lt i (show 0 < 4 by decide)
  unfold tell32
  obtain c | c | c | c | c | c | c | c : i / 4 = 0 ∨ i / 4 = 1 ∨ i / 4 = 2 ∨ i / 4 = 3 ∨ i / 4 = 4 ∨ i / 4 = 5 ∨ i / 4 = 6 ∨ i / 4 = 7 := by omega
  · rw [c, key _ _ _ (by omega), show i % 4 = i by omega]; rfl
  · rw [c, go _ _ _ (by omega), key _ _ _ (by omega), show i - 4 = i % 4 by omega]; rfl
  · rw [c, go _ _ _ (by omega), go _ _ _ (by omega), key _ _ _ (by omega), show i - 4 - 4 = i % 4 by omega]; rfl
  · rw [c, go _ _ _ (by omega), go _ _ _ (by omega), go _ _ _ (by omega), key _ _ _ (by omega), show i - 4 - 4 - 4 = i % 4 by omega]; rfl
  · rw [c, go _ _ _ (by omega), go _ _ _ (by omega), go _ _ _ (by omega), go _ _ _ (by omega), key _ _ _ (by omega), show i - 4 - 4 - 4 - 4 = i % 4 by omega]; rfl
  · rw [c, go _ _ _ (by omega), go _ _ _ (by omega), go _ _ _ (by omega), go _ _ _ (by omega), go _ _ _ (by omega), key _ _ _ (by omega), show i - 4 - 4 - 4 - 4 - 4 = i % 4 by omega]; rfl
  · rw [c, go _ _ _ (by omega), go _ _ _ (by omega), go _ _ _ (by omega), go _ _ _ (by omega), go _ _ _ (by omega), go _ _ _ (by omega), key _ _ _ (by omega), show i - 4 - 4 - 4 - 4 - 4 - 4 = i % 4 by omega]; rfl
  · rw [c, go _ _ _ (by omega), go _ _ _ (by omega), go _ _ _ (by omega), go _ _ _ (by omega), go _ _ _ (by omega), go _ _ _ (by omega), go _ _ _ (by omega), lst _ _ (by omega), show i - 4 - 4 - 4 - 4 - 4 - 4 - 4 = i % 4 by omega]; rfl
/-- The start words. -/
def start32 : S8 := ⟨1779033703, 3144134277, 1013904242, 2773480762, 1359893119, 2600822924, 528734635, 1541459225⟩
theorem start_ok32 : Ok32 start32 := by
  refine ⟨?_, ?_, ?_, ?_, ?_, ?_, ?_, ?_⟩ <;> exact ⟨by decide, by decide⟩

/-- The words behind all whole blocks. -/
def wholeF64 : Nat → S8 → List Int → S8
  | 0, s, _ => s
  | n + 1, s, l => if l.length < 128 then s else wholeF64 n (blk64 s (wd 8 l)) (l.drop 128)
def whole64 (s : S8) (l : List Int) : S8 := wholeF64 (1 + l.length) s l
theorem wholeF_same64 : ∀ (n m : Nat) (s : S8) (l : List Int), l.length < n → l.length < m → wholeF64 n s l = wholeF64 m s l
  | 0, _, _, _, h, _ => absurd h (by omega)
  | _ + 1, 0, _, _, _, k => absurd k (by omega)
  | n + 1, m + 1, s, l, h, k => by
    rw [wholeF64, wholeF64]
    by_cases c : l.length < 128
    · rw [if_pos c, if_pos c]
    · rw [if_neg c, if_neg c, wholeF_same64 n m _ _ (by rw [List.length_drop]; omega) (by rw [List.length_drop]; omega)]
theorem whole_eq64 (s : S8) (l : List Int) : whole64 s l = if l.length < 128 then s else whole64 (blk64 s (wd 8 l)) (l.drop 128) := by
  have e : whole64 s l = wholeF64 (l.length + 1) s l := wholeF_same64 _ _ s l (by omega) (by omega)
  rw [e, wholeF64]
  by_cases c : l.length < 128
  · rw [if_pos c, if_pos c]
  · rw [if_neg c, if_neg c]
    exact wholeF_same64 _ _ _ _ (by rw [List.length_drop]; omega) (by omega)
theorem whole_short64 (s : S8) {l : List Int} (h : l.length < 128) : whole64 s l = s := by rw [whole_eq64, if_pos h]
theorem wd_take64 (l : List Int) : ∀ j, j < 16 → wd 8 (l.take 128) j = wd 8 l j := fun j hj => bw_congr fun i hi => by
  rw [List.getD_eq_getElem?_getD, List.getD_eq_getElem?_getD, List.getElem?_take, if_pos (by omega)]
theorem wS_congr64 {b c : Nat → Int} (h : ∀ i, i < 16 → b i = c i) (i : Nat) : wS64 b i = wS64 c i := by
  induction i using Nat.strongRecOn with
  | ind i ih =>
    by_cases h1 : i < 16
    · rw [wS_low64 b h1, wS_low64 c h1, h i h1]
    · rw [wS_go64 b (by omega), wS_go64 c (by omega), ih (i - 2) (by omega), ih (i - 7) (by omega), ih (i - 15) (by omega), ih (i - 16) (by omega)]
theorem blk_congr64 (s : S8) {b c : Nat → Int} (h : ∀ i, i < 16 → b i = c i) : blk64 s b = blk64 s c := by
  have e : wS64 b = wS64 c := funext (wS_congr64 h)
  unfold blk64
  rw [e]
theorem whole_app64 (s : S8) (l m : List Int) (h : l.length = 128) : whole64 s (l ++ m) = whole64 (blk64 s (wd 8 l)) m := by
  rw [whole_eq64, if_neg (by rw [List.length_append]; omega)]
  have e1 : (l ++ m).drop 128 = m := by rw [← h]; exact List.drop_left
  have e2 : (l ++ m).take 128 = l := by rw [← h]; exact List.take_left
  rw [e1]
  rw [blk_congr64 s (fun i hi => (wd_take64 (l ++ m) i hi).symm), e2]
theorem whole_ok64 {s : S8} (hs : Ok64 s) (l : List Int) : Ok64 (whole64 s l) := by
  induction h : l.length using Nat.strongRecOn generalizing s l with
  | ind n ih =>
    by_cases c : l.length < 128
    · rw [whole_short64 s c]
      exact hs
    · rw [whole_eq64, if_neg c]
      exact ih (l.drop 128).length (by simp; omega) (blk_ok64 _ _) _ rfl
/-- What fills no block. -/
def left64 (l : List Int) : List Int := l.drop (l.length - l.length % 128)
theorem left_short64 {l : List Int} (h : l.length < 128) : left64 l = l := by
  unfold left64
  rw [Nat.mod_eq_of_lt h, Nat.sub_self, List.drop_zero]
theorem left_app64 (l m : List Int) (h : l.length = 128) : left64 (l ++ m) = left64 m := by
  unfold left64
  rw [List.length_append, h, Nat.add_mod_left]
  have : m.length % 128 ≤ m.length := Nat.mod_le _ _
  rw [show 128 + m.length - m.length % 128 = l.length + (m.length - m.length % 128) by omega, ← List.drop_drop, List.drop_left]
theorem left_len64 (l : List Int) : (left64 l).length = l.length % 128 := by
  unfold left64
  rw [List.length_drop]
  have : l.length % 128 ≤ l.length := Nat.mod_le _ _
  omega
/-- The eight words as bytes. -/
def tell64 (s : S8) : List Int := bigL s.a 8 ++ (bigL s.b 8 ++ (bigL s.c 8 ++ (bigL s.d 8 ++ (bigL s.e 8 ++ (bigL s.f 8 ++ (bigL s.g 8 ++ bigL s.h 8))))))
theorem tell_len64 (s : S8) : (tell64 s).length = 64 := by unfold tell64; simp [bigL_len]
theorem tell_byt64 (s : S8) : Byt (tell64 s) :=
  byt_apd (bigL_byt _ _) (byt_apd (bigL_byt _ _) (byt_apd (bigL_byt _ _) (byt_apd (bigL_byt _ _) (byt_apd (bigL_byt _ _) (byt_apd (bigL_byt _ _) (byt_apd (bigL_byt _ _) (bigL_byt _ _)))))))
theorem tell_get64 (s : S8) (i : Nat) (h : i < 64) : (tell64 s).getD i 0 = s.l.getD (i / 8) 0 / 2 ^ (8 * (8 - 1 - i % 8)) % 256 := by
  have key : ∀ (v : Int) (m : List Int) (p : Nat), p < 8 → (bigL v 8 ++ m).getD p 0 = v / 2 ^ (8 * (8 - 1 - p)) % 256 := fun v m p hp => by
    rw [getD_apd_left _ _ _ (by rw [bigL_len]; exact hp), bigL_get _ _ _ hp, p256_two]
  have go : ∀ (v : Int) (m : List Int) (p : Nat), 8 ≤ p → (bigL v 8 ++ m).getD p 0 = m.getD (p - 8) 0 := fun v m p hp => by
    rw [getD_apd_right _ _ _ (by rw [bigL_len]; exact hp), bigL_len]
  have lst : ∀ (v : Int) (p : Nat), p < 8 → (bigL v 8).getD p 0 = v / 2 ^ (8 * (8 - 1 - p)) % 256 := fun v p hp => by
    rw [bigL_get _ _ _ hp, p256_two]
  have hm := Nat.div_add_mod i 8
  have hl := Nat.mod_lt i (show 0 < 8 by decide)
  unfold tell64
  obtain c | c | c | c | c | c | c | c : i / 8 = 0 ∨ i / 8 = 1 ∨ i / 8 = 2 ∨ i / 8 = 3 ∨ i / 8 = 4 ∨ i / 8 = 5 ∨ i / 8 = 6 ∨ i / 8 = 7 := by omega
  · rw [c, key _ _ _ (by omega), show i % 8 = i by omega]; rfl
  · rw [c, go _ _ _ (by omega), key _ _ _ (by omega), show i - 8 = i % 8 by omega]; rfl
  · rw [c, go _ _ _ (by omega), go _ _ _ (by omega), key _ _ _ (by omega), show i - 8 - 8 = i % 8 by omega]; rfl
  · rw [c, go _ _ _ (by omega), go _ _ _ (by omega), go _ _ _ (by omega), key _ _ _ (by omega), show i - 8 - 8 - 8 = i % 8 by omega]; rfl
  · rw [c, go _ _ _ (by omega), go _ _ _ (by omega), go _ _ _ (by omega), go _ _ _ (by omega), key _ _ _ (by omega), show i - 8 - 8 - 8 - 8 = i % 8 by omega]; rfl
  · rw [c, go _ _ _ (by omega), go _ _ _ (by omega), go _ _ _ (by omega), go _ _ _ (by omega), go _ _ _ (by omega), key _ _ _ (by omega), show i - 8 - 8 - 8 - 8 - 8 = i % 8 by omega]; rfl
  · rw [c, go _ _ _ (by omega), go _ _ _ (by omega), go _ _ _ (by omega), go _ _ _ (by omega), go _ _ _ (by omega), go _ _ _ (by omega), key _ _ _ (by omega), show i - 8 - 8 - 8 - 8 - 8 - 8 = i % 8 by omega]; rfl
  · rw [c, go _ _ _ (by omega), go _ _ _ (by omega), go _ _ _ (by omega), go _ _ _ (by omega), go _ _ _ (by omega), go _ _ _ (by omega), go _ _ _ (by omega), lst _ _ (by omega), show i - 8 - 8 - 8 - 8 - 8 - 8 - 8 = i % 8 by omega]; rfl
/-- The start words. -/
def start64 : S8 := ⟨7640891576956012808, 13503953896175478587, 4354685564936845355, 11912009170470909681, 5840696475078001361, 11170449401992604703, 2270897969802886507, 6620516959819538809⟩
theorem start_ok64 : Ok64 start64 := by
  refine ⟨?_, ?_, ?_, ?_, ?_, ?_, ?_, ?_⟩ <;> exact ⟨by decide, by decide⟩
end Go.Proofs.YtnfciobpfiibcaaDoor
