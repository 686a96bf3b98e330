import Derived.Test.YtjfggcefdobooaaGreatDoorGR22
import Derived.Deep.RegionHeld3
namespace Go.Proofs.YtjfggcefdobooaaGreatDoor
set_option maxRecDepth 100000
open Go Go.RowKit
theorem lsum_set {ys : List Int} {i : Nat} {v : Int} : ∀ n, n ≤ ys.length → lsum (fun j => (ys.set i v).getD j 0) n = lsum (fun j => ys.getD j 0) n + if i < n then (v - ys.getD i 0) * 256 ^ i else 0
  | 0, _ => by simp [lsum]
  | n + 1, h => by
    have ih := lsum_set (ys := ys) (i := i) (v := v) n (by omega)
    rw [lsum, lsum, ih]
    by_cases e : i = n
    · subst e
      rw [if_neg (by omega), if_pos (by omega), getD_set_self _ _ _ (by omega), Int.sub_mul]
      omega
    · rw [getD_set_ne _ _ _ _ e]
      by_cases c : i < n
      · rw [if_pos c, if_pos (by omega)]; omega
      · rw [if_neg c, if_neg (by omega)]; omega
theorem lsum_split (c : Nat → Int) (n : Nat) : ∀ m, lsum c (n + m) = lsum c n + 256 ^ n * lsum (fun j => c (n + j)) m
  | 0 => by simp [lsum]
  | m + 1 => by
    rw [← Nat.add_assoc, lsum, lsum_split c n m, lsum, Int.pow_add, Int.mul_add, Int.mul_comm (c (n + m)), Int.mul_assoc, Int.mul_comm (256 ^ m)]
    omega
theorem lsum_lin (c d : Nat → Int) (q : Int) : ∀ n, lsum (fun j => c j + q * d j) n = lsum c n + q * lsum d n
  | 0 => by simp [lsum]
  | n + 1 => by
    rw [lsum, lsum, lsum, lsum_lin c d q n, Int.add_mul, Int.mul_add, Int.mul_assoc]
    omega
theorem lsum_first {a b : Nat → Int} {d : Int} (h0 : a 0 = b 0 + d) (h : ∀ j, 0 < j → a j = b j) : ∀ n, lsum a (n + 1) = lsum b (n + 1) + d
  | 0 => by simp [lsum, h0]
  | n + 1 => by
    rw [lsum, lsum_first h0 h n, lsum.eq_2 b (n + 1), h (n + 1) (by omega)]
    omega
theorem lsum_bd {a : Nat → Int} : ∀ n, (∀ j, j < n → 0 ≤ a j ∧ a j < 256) → 0 ≤ lsum a n ∧ lsum a n < 256 ^ n
  | 0, _ => by simp [lsum]
  | n + 1, h => by
    have ih := lsum_bd n (fun j hj => h j (by omega))
    have ha := h n (by omega)
    have hp := p256_pos n
    rw [lsum, Int.pow_succ]
    have h1 : 0 ≤ a n * 256 ^ n := Int.mul_nonneg ha.1 (by omega)
    have h2 : a n * 256 ^ n ≤ 255 * 256 ^ n := Int.mul_le_mul_of_nonneg_right (by omega) (by omega)
    omega
def yr (u : Nat → Int) : Nat → Int
  | 0 => 0
  | k + 1 => (u k + yr u k) / 256
def yf (u : Nat → Int) (k : Nat) : Int := (u k + yr u k) % 256
theorem yr_sum (u : Nat → Int) : ∀ k, lsum (yf u) k + yr u k * 256 ^ k = lsum u k
  | 0 => by simp [lsum, yr]
  | k + 1 => by
    have ih := yr_sum u k
    have h : u k + yr u k = yf u k + 256 * yr u (k + 1) := by rw [yf, yr]; omega
    have h2 : (u k + yr u k) * 256 ^ k = (yf u k + 256 * yr u (k + 1)) * 256 ^ k := by rw [h]
    rw [Int.add_mul, Int.add_mul] at h2
    rw [lsum, lsum, Int.pow_succ]
    have h3 : yr u (k + 1) * (256 ^ k * 256) = 256 * yr u (k + 1) * 256 ^ k := by
      rw [Int.mul_comm (256 ^ k) 256, ← Int.mul_assoc, Int.mul_comm (yr u (k + 1))]
    rw [h3]
    omega
theorem yf_bd (u : Nat → Int) (k : Nat) : 0 ≤ yf u k ∧ yf u k < 256 := by unfold yf; omega
theorem yr_bd {u : Nat → Int} {M : Int} (hM : 0 ≤ M) (hu : ∀ j, 0 ≤ u j ∧ u j ≤ M) : ∀ k, 0 ≤ yr u k ∧ yr u k ≤ M
  | 0 => ⟨by simp [yr], by simpa [yr] using hM⟩
  | k + 1 => by
    have ih := yr_bd hM hu k
    have := hu k
    rw [yr]
    omega
def ytp (u : Nat → Int) : Int := u 16 + yr u 16
def yn (u : Nat → Int) (j : Nat) : Int := if j = 0 then yf u 0 + 5 * (ytp u / 4) else if j = 16 then ytp u % 4 else if j < 16 then yf u j else 0
theorem yn_val (u : Nat → Int) : lsum (yn u) 17 + PO * (ytp u / 4) = lsum u 17 := by
  have h1 := yr_sum u 16
  have h2 : lsum (yn u) 16 = lsum (yf u) 16 + 5 * (ytp u / 4) := by
    have e : lsum (yn u) 16 = lsum (fun j => if j = 0 then yf u 0 + 5 * (ytp u / 4) else yf u j) 16 := lsum_congr 16 (fun j hj => by
      unfold yn
      by_cases h0 : j = 0
      · rw [if_pos h0, if_pos h0]
      · rw [if_neg h0, if_neg h0, if_neg (by omega), if_pos hj])
    rw [e]
    exact lsum_first (b := yf u) (by simp) (fun j hj => by rw [if_neg (by omega)]) 15
  have h3 : lsum (yn u) 17 = lsum (yn u) 16 + ytp u % 4 * 256 ^ 16 := by rw [lsum]; rfl
  have h4 : lsum u 17 = lsum u 16 + u 16 * 256 ^ 16 := by rw [lsum]
  rw [h3, h2, h4, ← h1]
  have h5 : ytp u = u 16 + yr u 16 := rfl
  simp only [show (256 : Int) ^ 16 = 340282366920938463463374607431768211456 by decide]
  generalize ytp u = t at *
  generalize lsum (yf u) 16 = A at *
  show A + 5 * (t / 4) + t % 4 * 340282366920938463463374607431768211456 + 1361129467683753853853498429727072845819 * (t / 4) = A + yr u 16 * 340282366920938463463374607431768211456 + u 16 * 340282366920938463463374607431768211456
  omega
theorem yn_bd {u : Nat → Int} {M : Int} (hM : 256 ≤ M) (hu : ∀ j, 0 ≤ u j ∧ u j ≤ M) : (∀ j, 0 ≤ yn u j ∧ yn u j ≤ 4 * M) ∧ lsum (yn u) 17 < 256 ^ 16 * 4 + 5 * M := by
  have ht : 0 ≤ ytp u ∧ ytp u ≤ 2 * M := by
    have := hu 16
    have := yr_bd (by omega) hu 16
    unfold ytp
    omega
  refine ⟨fun j => ?_, ?_⟩
  · have := yf_bd u j
    have := yf_bd u 0
    unfold yn
    split
    · omega
    · split
      · omega
      · split <;> omega
  · have h1 := yn_val u
    have h2 := yr_sum u 16
    have h3 := lsum_bd (a := yf u) 16 (fun j _ => yf_bd u j)
    have h4 : lsum u 17 = lsum u 16 + u 16 * 256 ^ 16 := by rw [lsum]
    rw [h4, ← h2] at h1
    have h5 : ytp u = u 16 + yr u 16 := rfl
    simp only [show (256 : Int) ^ 16 = 340282366920938463463374607431768211456 by decide] at *
    generalize lsum (yn u) 17 = X at *
    generalize lsum (yf u) 16 = A at *
    generalize ytp u = t at *
    have h1' : X + 1361129467683753853853498429727072845819 * (t / 4) = A + yr u 16 * 340282366920938463463374607431768211456 + u 16 * 340282366920938463463374607431768211456 := h1
    omega
def ynn (u : Nat → Int) : Nat → (Nat → Int)
  | 0 => u
  | r + 1 => yn (ynn u r)
def ybd : Nat → Int
  | 0 => 12111920640
  | r + 1 => 4 * ybd r
theorem ybd_ge : ∀ r, 12111920640 ≤ ybd r
  | 0 => Int.le_refl _
  | r + 1 => by have := ybd_ge r; rw [ybd]; omega
theorem ybd_le (r : Nat) (h : r ≤ 3) : ybd r ≤ 775162920960 := by
  obtain rfl | rfl | rfl | rfl : r = 0 ∨ r = 1 ∨ r = 2 ∨ r = 3 := by omega
  all_goals decide
theorem ynn_bd {u : Nat → Int} (hu : ∀ j, 0 ≤ u j ∧ u j ≤ 12111920640) : ∀ r, ∀ j, 0 ≤ ynn u r j ∧ ynn u r j ≤ ybd r
  | 0 => hu
  | r + 1 => (yn_bd (by have := ybd_ge r; omega) (ynn_bd hu r)).1
theorem ynn_mod (u : Nat → Int) : ∀ r, lsum (ynn u r) 17 % PO = lsum u 17 % PO
  | 0 => rfl
  | r + 1 => by
    rw [← ynn_mod u r, ← yn_val (ynn u r), ynn, Int.add_mul_emod_self_left]
theorem ynn_end {u : Nat → Int} (hu : ∀ j, 0 ≤ u j ∧ u j ≤ 12111920640) : lsum (yf (ynn u 3)) 17 = lsum (ynn u 3) 17 := by
  have h1 := yr_sum (ynn u 3) 17
  have h2 := (yn_bd (by have := ybd_ge 2; omega) (ynn_bd hu 2)).2
  have h3 := lsum_bd (a := yf (ynn u 3)) 17 (fun j _ => yf_bd _ j)
  have h4 := yr_bd (M := ybd 3) (by have := ybd_ge 3; omega) (ynn_bd hu 3) 17
  have h5 := ybd_le 2 (by omega)
  have h6 : lsum (ynn u 3) 17 < 256 ^ 16 * 4 + 5 * ybd 2 := h2
  simp only [show (256 : Int) ^ 17 = 87112285931760246646623899502532662132736 by decide, show (256 : Int) ^ 16 = 340282366920938463463374607431768211456 by decide] at *
  generalize lsum (ynn u 3) 17 = X at *
  generalize lsum (yf (ynn u 3)) 17 = A at *
  generalize yr (ynn u 3) 17 = c at *
  have : c = 0 := by omega
  omega
def yc (c : Nat → Int) (j : Nat) : Int := c j + 320 * c (j + 17)
theorem yc_mod (c : Nat → Int) : lsum (yc c) 17 % PO = lsum c 34 % PO := by
  have h1 := lsum_lin c (fun j => c (17 + j)) 320 17
  have h2 := lsum_split c 17 17
  have h3 : lsum (yc c) 17 = lsum c 17 + 320 * lsum (fun j => c (17 + j)) 17 := by
    rw [← h1]
    exact lsum_congr 17 (fun j _ => by unfold yc; rw [Nat.add_comm j 17])
  have h4 : lsum c 34 = lsum c 17 + 256 ^ 17 * lsum (fun j => c (17 + j)) 17 := h2
  rw [h3, h4]
  generalize lsum (fun j => c (17 + j)) 17 = H
  have e : (256 : Int) ^ 17 * H = 320 * H + PO * (64 * H) := by
    show (256 : Int) ^ 17 * H = 320 * H + 1361129467683753853853498429727072845819 * (64 * H)
    have : (256 : Int) ^ 17 = 87112285931760246646623899502532662132736 := by decide
    rw [this]
    omega
  rw [e, ← Int.add_assoc, Int.add_mul_emod_self_left]
structure Col (a b : Nat → Int) (cs : List Int) (i j : Nat) : Prop where
  len : cs.length = 34
  bd : ∀ t, 0 ≤ cs.getD t 0 ∧ cs.getD t 0 ≤ (17 * i + j : Nat) * 130560
  val : lsum (fun t => cs.getD t 0) 34 = lsum a i * lsum b 17 + a i * 256 ^ i * lsum b j
theorem Col.zero (a b : Nat → Int) : Col a b (List.replicate 34 0) 0 0 := by
  refine ⟨by simp, fun t => ?_, ?_⟩
  · rw [List.getD_eq_getElem?_getD, List.getElem?_replicate]; split <;> simp
  · have : lsum (fun t => (List.replicate 34 (0 : Int)).getD t 0) 34 = 0 := by decide +kernel
    rw [this]
    simp [lsum]
theorem Col.step {a b : Nat → Int} {cs : List Int} {i j : Nat} (h : Col a b cs i j) (hi : i < 17) (hj : j < 17) (hp : 0 ≤ a i * b j ∧ a i * b j ≤ 130560) : Col a b (cs.set (i + j) (cs.getD (i + j) 0 + a i * b j)) i (j + 1) := by
  refine ⟨by rw [List.length_set]; exact h.len, fun t => ?_, ?_⟩
  · by_cases e : i + j = t
    · subst e
      rw [getD_set_self _ _ _ (by rw [h.len]; omega)]
      have := h.bd (i + j)
      omega
    · rw [getD_set_ne _ _ _ _ e]
      have := h.bd t
      omega
  · rw [lsum_set 34 (by rw [h.len]; omega), h.val, if_pos (by omega), lsum.eq_2 b j, Int.pow_add]
    generalize lsum a i * lsum b 17 = X
    generalize cs.getD (i + j) 0 = c
    have e1 : (c + a i * b j - c) = a i * b j := by omega
    rw [e1, Int.mul_add]
    have e2 : a i * b j * (256 ^ i * 256 ^ j) = a i * 256 ^ i * (b j * 256 ^ j) := by
      rw [Int.mul_assoc, Int.mul_assoc, Int.mul_left_comm (b j)]
    rw [e2]
    omega
theorem Col.next {a b : Nat → Int} {cs : List Int} {i : Nat} (h : Col a b cs i 17) : Col a b cs (i + 1) 0 := by
  refine ⟨h.len, fun t => ?_, ?_⟩
  · have := h.bd t; omega
  · rw [h.val, lsum.eq_2 a i, Int.add_mul, lsum.eq_1 b, Int.mul_zero, Int.add_zero]
def UpN (n : Nat) (f u : Nat → Int) (ys : List Int) (k : Nat) : Prop := ys.length = n ∧ (∀ j, j < k → ys.getD j 0 = f j) ∧ ∀ j, k ≤ j → j < n → ys.getD j 0 = u j
theorem UpN.step {n : Nat} {f u : Nat → Int} {ys : List Int} {k : Nat} (h : UpN n f u ys k) (hk : k < n) : UpN n f u (ys.set k (f k)) (k + 1) := by
  refine ⟨by simpa using h.1, fun j hj => ?_, fun j hj hj5 => ?_⟩
  · by_cases e : k = j
    · subst e
      rw [getD_set_self _ _ _ (by rw [h.1]; exact hk)]
    · rw [getD_set_ne _ _ _ _ e]
      exact h.2.1 j (by omega)
  · rw [getD_set_ne _ _ _ _ (by omega)]
    exact h.2.2 j (by omega) hj5
theorem UpN.start (n : Nat) (f u : Nat → Int) : UpN n f u (fill u n) 0 := ⟨fill_len _ _, fun j h => absurd h (by omega), fun j _ h => fill_get _ _ _ h⟩
theorem UpN.all {n : Nat} {f u : Nat → Int} {ys : List Int} (h : UpN n f u ys n) : ys = fill f n :=
  eq_of_getD (by rw [h.1, fill_len]) (fun i hi => by rw [h.1] at hi; rw [h.2.1 i hi, fill_get _ _ _ hi])
theorem UpN.yn {u : Nat → Int} {ys : List Int} (h : UpN 17 (yf u) u ys 16) : (ys.set 16 (ytp u % 4)).set 0 (yf u 0 + 5 * (ytp u / 4)) = fill (Go.Proofs.YtjfggcefdobooaaGreatDoor.yn u) 17 := by
  refine eq_of_getD (by simp [h.1, fill_len]) (fun i hi => ?_)
  have hl := h.1
  rw [List.length_set, List.length_set, hl] at hi
  rw [fill_get _ _ _ hi]
  unfold Go.Proofs.YtjfggcefdobooaaGreatDoor.yn
  by_cases e0 : 0 = i
  · subst e0
    rw [getD_set_self _ _ _ (by rw [List.length_set, hl]; omega), if_pos rfl]
  · rw [getD_set_ne _ _ _ _ e0, if_neg (by omega)]
    by_cases e1 : 16 = i
    · subst e1
      rw [getD_set_self _ _ _ (by rw [hl]; omega), if_pos rfl]
    · rw [getD_set_ne _ _ _ _ e1, if_neg (by omega), if_pos (by omega), h.2.1 i (by omega)]
theorem blk_i17 (w : World) (t : TypeId) : Blk (w.alloc (.cells #[.int .i64 0, .int .i64 0, .int .i64 0, .int .i64 0, .int .i64 0, .int .i64 0, .int .i64 0, .int .i64 0, .int .i64 0, .int .i64 0, .int .i64 0, .int .i64 0, .int .i64 0, .int .i64 0, .int .i64 0, .int .i64 0, .int .i64 0] t)) w.heap.size .i64 (List.replicate 17 0) := ⟨t, by show (w.heap.push _)[w.heap.size]? = _; rw [Array.getElem?_push_size]; rfl⟩
theorem blk_i34 (w : World) (t : TypeId) : Blk (w.alloc (.cells #[.int .i64 0, .int .i64 0, .int .i64 0, .int .i64 0, .int .i64 0, .int .i64 0, .int .i64 0, .int .i64 0, .int .i64 0, .int .i64 0, .int .i64 0, .int .i64 0, .int .i64 0, .int .i64 0, .int .i64 0, .int .i64 0, .int .i64 0, .int .i64 0, .int .i64 0, .int .i64 0, .int .i64 0, .int .i64 0, .int .i64 0, .int .i64 0, .int .i64 0, .int .i64 0, .int .i64 0, .int .i64 0, .int .i64 0, .int .i64 0, .int .i64 0, .int .i64 0, .int .i64 0, .int .i64 0] t)) w.heap.size .i64 (List.replicate 34 0) := ⟨t, by show (w.heap.push _)[w.heap.size]? = _; rw [Array.getElem?_push_size]; rfl⟩
theorem infoL : (Tryz.prog.info? 129).map (·.size) = some 17 := by kernel_rfl
theorem undL : Tryz.prog.underlying 129 = some (.array 17 2) := by kernel_rfl
set_option maxRecDepth 100000 in
set_option maxHeartbeats 16000000 in
theorem l8Times_any (w : World) (xs ys : List Int) (al : xs.length = 17) (bl : ys.length = 17) (ab : ∀ j, 0 ≤ xs.getD j 0 ∧ xs.getD j 0 ≤ 512) (bb : Byt ys) :
    Calls Tryz.prog 75 #[ag .i64 xs, ag .i64 ys] w fun e w' => ∃ rs, e = .returned (ag .i64 rs) ∧ (rs.length = 17 ∧ Byt rs ∧ lsum (fun j => rs.getD j 0) 17 % PO = lsum (fun j => xs.getD j 0) 17 * lsum (fun j => ys.getD j 0) 17 % PO) ∧ Below w.heap.size w w' := by
  have AL := hide al
  have BL := hide bl
  have B0 := blk_alloc w .i64 129 xs
  have n0 : Below w.heap.size w (w.alloc (.cells (xs.map (Value.int .i64)).toArray 129)) := (Below.refl _ _).alloc (Nat.le_refl _) _
  have z0 : (w.alloc (.cells (xs.map (Value.int .i64)).toArray 129)).heap.size = w.heap.size + 1 := by simp
  have VA : Hid (ag .i64 xs = Value.agg (xs.map (Value.int .i64)).toArray) := rfl
  have VB : Hid (ag .i64 ys = Value.agg (ys.map (Value.int .i64)).toArray) := rfl
  rw [VA.out, VB.out]
  have B1f := fun W => blk_alloc W .i64 129 ys
  obtain ⟨va, hva⟩ : ∃ v, v = xs.map (Value.int .i64) := ⟨_, rfl⟩
  obtain ⟨vb, hvb⟩ : ∃ v, v = ys.map (Value.int .i64) := ⟨_, rfl⟩
  rw [← hva] at B0 n0 z0 ⊢
  rw [← hvb]
  simp only [← hvb] at B1f
  clear hva hvb VA VB al bl
  go_enter Tryz.func75, Tryz.ntmps75
  go_upto_region 1 with fail
  generalize w.alloc (.cells va.toArray 129) = wa at *
  have B1 := B1f wa
  have n1 : Below wa.heap.size wa (wa.alloc (.cells vb.toArray 129)) := (Below.refl _ _).alloc (Nat.le_refl _) _
  have z1 : (wa.alloc (.cells vb.toArray 129)).heap.size = w.heap.size + 1 + 1 := by simp [z0]
  generalize wa.alloc (.cells vb.toArray 129) = wb at *
  rw [z0] at B1
  have B2 := blk_i17 wb 129
  have n2 : Below wb.heap.size wb (wb.alloc (.cells #[.int .i64 0, .int .i64 0, .int .i64 0, .int .i64 0, .int .i64 0, .int .i64 0, .int .i64 0, .int .i64 0, .int .i64 0, .int .i64 0, .int .i64 0, .int .i64 0, .int .i64 0, .int .i64 0, .int .i64 0, .int .i64 0, .int .i64 0] 129)) := (Below.refl _ _).alloc (Nat.le_refl _) _
  have z2 : (wb.alloc (.cells #[.int .i64 0, .int .i64 0, .int .i64 0, .int .i64 0, .int .i64 0, .int .i64 0, .int .i64 0, .int .i64 0, .int .i64 0, .int .i64 0, .int .i64 0, .int .i64 0, .int .i64 0, .int .i64 0, .int .i64 0, .int .i64 0, .int .i64 0] 129)).heap.size = w.heap.size + 1 + 1 + 1 := by simp [z1]
  generalize wb.alloc (.cells #[.int .i64 0, .int .i64 0, .int .i64 0, .int .i64 0, .int .i64 0, .int .i64 0, .int .i64 0, .int .i64 0, .int .i64 0, .int .i64 0, .int .i64 0, .int .i64 0, .int .i64 0, .int .i64 0, .int .i64 0, .int .i64 0, .int .i64 0] 129) = wc at *
  rw [z1] at B2
  have B3 := blk_i34 wc 152
  have n3 : Below wc.heap.size wc (wc.alloc (.cells #[.int .i64 0, .int .i64 0, .int .i64 0, .int .i64 0, .int .i64 0, .int .i64 0, .int .i64 0, .int .i64 0, .int .i64 0, .int .i64 0, .int .i64 0, .int .i64 0, .int .i64 0, .int .i64 0, .int .i64 0, .int .i64 0, .int .i64 0, .int .i64 0, .int .i64 0, .int .i64 0, .int .i64 0, .int .i64 0, .int .i64 0, .int .i64 0, .int .i64 0, .int .i64 0, .int .i64 0, .int .i64 0, .int .i64 0, .int .i64 0, .int .i64 0, .int .i64 0, .int .i64 0, .int .i64 0] 152)) := (Below.refl _ _).alloc (Nat.le_refl _) _
  have z3 : (wc.alloc (.cells #[.int .i64 0, .int .i64 0, .int .i64 0, .int .i64 0, .int .i64 0, .int .i64 0, .int .i64 0, .int .i64 0, .int .i64 0, .int .i64 0, .int .i64 0, .int .i64 0, .int .i64 0, .int .i64 0, .int .i64 0, .int .i64 0, .int .i64 0, .int .i64 0, .int .i64 0, .int .i64 0, .int .i64 0, .int .i64 0, .int .i64 0, .int .i64 0, .int .i64 0, .int .i64 0, .int .i64 0, .int .i64 0, .int .i64 0, .int .i64 0, .int .i64 0, .int .i64 0, .int .i64 0, .int .i64 0] 152)).heap.size = w.heap.size + 1 + 1 + 1 + 1 := by simp [z2]
  go_upto_region 2 with fail
  generalize wc.alloc (.cells #[.int .i64 0, .int .i64 0, .int .i64 0, .int .i64 0, .int .i64 0, .int .i64 0, .int .i64 0, .int .i64 0, .int .i64 0, .int .i64 0, .int .i64 0, .int .i64 0, .int .i64 0, .int .i64 0, .int .i64 0, .int .i64 0, .int .i64 0, .int .i64 0, .int .i64 0, .int .i64 0, .int .i64 0, .int .i64 0, .int .i64 0, .int .i64 0, .int .i64 0, .int .i64 0, .int .i64 0, .int .i64 0, .int .i64 0, .int .i64 0, .int .i64 0, .int .i64 0, .int .i64 0, .int .i64 0] 152) = wd at *
  rw [z2] at B3
  have B0 := ((B0.up n1).up n2).up n3
  have B1 := (B1.up n2).up n3
  have B2 := B2.up n3
  have N3 := nxt (nxt (nxt n0 n1) n2) n3
  clear n0 n1 n2 n3 z0 z1 z2 B1f
  have AB := hide ab
  have BB := hide bb
  clear ab bb
  have C0 := Col.zero (fun j => xs.getD j 0) (fun j => ys.getD j 0)
  go_wp2
  go_loopw [6] (fun v wr => ∃ (i : Nat) (cs : List Int), i ≤ 17 ∧ v = .int .i64 i ∧ Hid (Col (fun j => xs.getD j 0) (fun j => ys.getD j 0) cs i 0) ∧ Blk wr (w.heap.size + 1 + 1 + 1) .i64 cs ∧ Blk wr w.heap.size .i64 xs ∧ Blk wr (w.heap.size + 1) .i64 ys ∧ Blk wr (w.heap.size + 1 + 1) .i64 (List.replicate 17 0) ∧ wr.heap.size = w.heap.size + 1 + 1 + 1 + 1 ∧ Below w.heap.size w wr) (fun v _ => 17 - (intOf v).toNat)
  case atStart => exact ⟨0, _, by omega, rfl, C0, B3, B0, B1, B2, z3, N3⟩
  case round =>
    clear B0 B1 B2 B3 N3 C0 z3
    obtain ⟨i, cs, hi, rfl, hC, hB3, hB0, hB1, hB2, hz, hN⟩ := hrel
    by_cases hlt : i < 17
    · have i17 : (i : Int) < 17 := by omega
      go_wp2
      go_loopw [7] (fun v wr => ∃ (j : Nat) (cs : List Int), j ≤ 17 ∧ v = .int .i64 j ∧ Hid (Col (fun j => xs.getD j 0) (fun j => ys.getD j 0) cs i j) ∧ Blk wr (w.heap.size + 1 + 1 + 1) .i64 cs ∧ Blk wr w.heap.size .i64 xs ∧ Blk wr (w.heap.size + 1) .i64 ys ∧ Blk wr (w.heap.size + 1 + 1) .i64 (List.replicate 17 0) ∧ wr.heap.size = w.heap.size + 1 + 1 + 1 + 1 ∧ Below w.heap.size w wr) (fun v _ => 17 - (intOf v).toNat)
      case atStart => exact ⟨0, cs, by omega, rfl, hC, hB3, hB0, hB1, hB2, hz, hN⟩
      case round =>
        clear hB0 hB1 hB2 hB3 hN hC hz cs
        obtain ⟨j, cs, hj, rfl, hC, hB3, hB0, hB1, hB2, hz, hN⟩ := hrel
        by_cases jlt : j < 17
        · have xb := AB.out i
          have yb := BB.out j
          have pb := mulk_bd (A := 512) (B := 255) xb ⟨yb.1, by omega⟩
          have cb := hC.out.bd (i + j)
          have R := hide (hC.out.step hlt jlt ⟨pb.1, by omega⟩)
          have cx := hB0.cell (i := i) (by rw [AL.out]; exact hlt)
          have cy := hB1.cell (i := j) (by rw [BL.out]; exact jlt)
          have cc := hB3.cell (i := i + j) (by rw [hC.out.len]; omega)
          have fc := hB3.free (i + j)
          have S3 := hB3.store (i + j) (cs.getD (i + j) 0 + xs.getD i 0 * ys.getD j 0)
          have O := Only.setCell wr (w.heap.size + 1 + 1 + 1) (i + j) (.int .i64 (cs.getD (i + j) 0 + xs.getD i 0 * ys.getD j 0))
          have S0 := hB0.of_block (O.block _ (by omega))
          have S1 := hB1.of_block (O.block _ (by omega))
          have S2 := hB2.of_block (O.block _ (by omega))
          have Sz := O.size.trans hz
          have Sn := hN.trans (O.below (B := w.heap.size) (by omega))
          have cb2 : 0 ≤ cs.getD (i + j) 0 ∧ cs.getD (i + j) 0 ≤ 37731840 := ⟨cb.1, by have := cb.2; omega⟩
          have d1 : (i : Int) + (j : Int) = ((i + j : Nat) : Int) := by omega
          have d2 : ((i + j : Nat) : Int) < 34 := by omega
          have j17 : (j : Int) < 17 := by omega
          obtain ⟨pr, hpr⟩ : ∃ p, p = xs.getD i 0 * ys.getD j 0 := ⟨_, rfl⟩
          simp only [← hpr] at R S3 O S0 S1 S2 Sz Sn pb
          have w1 : IntKind.i64.wrap (xs.getD i 0 * ys.getD j 0) = pr := by rw [← hpr, IntKind.wrap_i64]; omega
          have w2 : IntKind.i64.wrap (cs.getD (i + j) 0 + pr) = cs.getD (i + j) 0 + pr := by rw [IntKind.wrap_i64]; omega
          clear hC hB3 hB0 hB1 hB2 hz hN cb xb yb hpr O pb cb2
          generalize xs.getD i 0 = x at *
          generalize ys.getD j 0 = y at *
          generalize cs.getD (i + j) 0 = c at *
          generalize cs.set (i + j) (c + pr) = cs' at *
          generalize i + j = ij at *
          go_wp2
          go_region
          all_goals
            go_wp2
            go_roundw
            case rel => exact ⟨j + 1, cs', by omega, by go_num, R, S3.drew, S0.drew, S1.drew, S2.drew, Sz, Sn.drew⟩
            case measure => simp [intOf]; omega
        · obtain rfl : j = 17 := by omega
          have R := hide hC.out.next
          clear hC
          go_wp2
          go_roundw
          case rel => exact ⟨i + 1, cs, by omega, by go_num, R, hB3, hB0, hB1, hB2, hz, hN⟩
          case measure => simp [intOf]; omega
    · obtain rfl : i = 17 := by omega
      have VL : Hid (lsum (fun t => cs.getD t 0) 34 = lsum (fun j => xs.getD j 0) 17 * lsum (fun j => ys.getD j 0) 17) := by
        show _ = _
        rw [hC.out.val]
        simp [lsum]
      have cbd := hC.out.bd
      have cl := hC.out.len
      obtain ⟨c, hc⟩ : ∃ c : Nat → Int, c = fun t => cs.getD t 0 := ⟨_, rfl⟩
      have cbd2 : ∀ t, 0 ≤ c t ∧ c t ≤ 37731840 := fun t => by rw [hc]; have := cbd t; exact ⟨this.1, by have := this.2; show cs.getD t 0 ≤ _; omega⟩
      have cg : ∀ t, t < 34 → wr.cell? ⟨w.heap.size + 1 + 1 + 1, t, none⟩ = some (.int .i64 (c t)) := fun t ht => by rw [hc]; exact hB3.cell (by rw [cl]; exact ht)
      have HC : Hid (∀ t, cs.getD t 0 = c t) := fun t => by rw [hc]
      rw [← hc] at VL
      have UB : ∀ j, 0 ≤ yc c j ∧ yc c j ≤ 12111920640 := fun j => by have := cbd2 j; have := cbd2 (j + 17); unfold yc; omega
      have MD := hide (yc_mod c)
      clear hC cbd hc
      have B4 := blk_i17 wr 129
      have n4 : Below wr.heap.size wr (wr.alloc (.cells #[.int .i64 0, .int .i64 0, .int .i64 0, .int .i64 0, .int .i64 0, .int .i64 0, .int .i64 0, .int .i64 0, .int .i64 0, .int .i64 0, .int .i64 0, .int .i64 0, .int .i64 0, .int .i64 0, .int .i64 0, .int .i64 0, .int .i64 0] 129)) := (Below.refl _ _).alloc (Nat.le_refl _) _
      rw [hz] at B4
      have B3' := hB3.up n4
      have B2' := hB2.up n4
      have N4 := hN.trans (n4.mono hN.size)
      clear hB3 hB0 hB1 hB2 hN cg hlt hi
      go_wp2
      try rw [hz]
      generalize wr.alloc (.cells #[.int .i64 0, .int .i64 0, .int .i64 0, .int .i64 0, .int .i64 0, .int .i64 0, .int .i64 0, .int .i64 0, .int .i64 0, .int .i64 0, .int .i64 0, .int .i64 0, .int .i64 0, .int .i64 0, .int .i64 0, .int .i64 0, .int .i64 0] 129) = we at *
      clear n4 hz
      have CL := hide cl
      have CB := hide cbd2
      clear cl cbd2
      have F0 : FillTo (yc c) (List.replicate 17 0) 17 0 := ⟨by simp, fun j h => absurd h (by omega)⟩
      go_loopw [9] (fun v wr => ∃ (k : Nat) (zs : List Int), k ≤ 17 ∧ v = .int .i64 k ∧ Hid (FillTo (yc c) zs 17 k) ∧ Blk wr (w.heap.size + 1 + 1 + 1 + 1) .i64 zs ∧ Blk wr (w.heap.size + 1 + 1 + 1) .i64 cs ∧ Blk wr (w.heap.size + 1 + 1) .i64 (List.replicate 17 0) ∧ Below w.heap.size w wr) (fun v _ => 17 - (intOf v).toNat)
      case atStart => exact ⟨0, _, by omega, rfl, F0, B4, B3', B2', N4⟩
      case round =>
        clear B4 B3' B2' N4 F0
        obtain ⟨k, zs, hk, rfl, hF, hB4, hB3, hB2, hN⟩ := hrel
        by_cases hlt : k < 17
        · have R := hide (hF.out.step hlt)
          have c1 := hB3.cell (i := k) (by rw [CL.out]; omega)
          have c2 := hB3.cell (i := k + 17) (by rw [CL.out]; omega)
          rw [HC.out] at c1 c2
          have b1 := CB.out k
          have b2 := CB.out (k + 17)
          have cz := hB4.cell (i := k) (by rw [hF.out.1]; exact hlt)
          have fz := hB4.free k
          have S4 := hB4.store k (yc c k)
          have O := Only.setCell wr (w.heap.size + 1 + 1 + 1 + 1) k (.int .i64 (yc c k))
          have S3 := hB3.of_block (O.block _ (by omega))
          have S2 := hB2.of_block (O.block _ (by omega))
          have Sn := hN.trans (O.below (B := w.heap.size) (by omega))
          have E : Hid (yc c k = c k + 320 * c (k + 17)) := rfl
          rw [E.out] at R S4 S3 S2 Sn
          have d1 : (k : Int) + 17 = ((k + 17 : Nat) : Int) := by omega
          have d2 : ((k + 17 : Nat) : Int) < 34 := by omega
          have d3 : (k : Int) < 34 := by omega
          have d4 : (k : Int) < 17 := by omega
          clear hF hB4 hB3 hB2 hN O E CL CB HC UB
          generalize c k = x at *
          generalize c (k + 17) = y at *
          generalize zs.getD k 0 = z0 at *
          generalize zs.set k (x + 320 * y) = zs' at *
          generalize k + 17 = k17 at *
          go_wp2
          go_region
          all_goals
            go_wp2
            go_roundw
            case rel => exact ⟨k + 1, zs', by omega, by go_num, R, S4.drew, S3.drew, S2.drew, Sn.drew⟩
            case measure => simp [intOf]; omega
        · obtain rfl : k = 17 := by omega
          obtain rfl := hF.out.all
          clear hF hB3 CL CB HC hlt hk
          have YB := fun r => ynn_bd UB r
          have E3 := hide (ynn_end UB)
          have M3 := hide (ynn_mod (yc c) 3)
          have B4 : Blk wr (w.heap.size + 1 + 1 + 1 + 1) .i64 (fill (ynn (yc c) 0) 17) := hB4
          clear hB4 UB
          go_wp2
          go_loopw [10] (fun v wr => ∃ (r : Nat), r ≤ 3 ∧ v = .int .i64 r ∧ Blk wr (w.heap.size + 1 + 1 + 1 + 1) .i64 (fill (ynn (yc c) r) 17) ∧ Blk wr (w.heap.size + 1 + 1) .i64 (List.replicate 17 0) ∧ Below w.heap.size w wr) (fun v _ => 3 - (intOf v).toNat)
          case atStart => exact ⟨0, by omega, rfl, B4, hB2, hN⟩
          case round =>
            clear B4 hB2 hN
            obtain ⟨r, hr, rfl, hB4, hB2, hN⟩ := hrel
            by_cases rlt : r < 3
            · have yb := YB r
              have g1 := ybd_le r (by omega)
              have g2 := ybd_ge r
              have EY : Hid (ynn (yc c) (r + 1) = yn (ynn (yc c) r)) := rfl
              generalize ynn (yc c) r = u at *
              have yrb := yr_bd (M := ybd r) (by omega) yb
              generalize ybd r = M at *
              have U0 := UpN.start 17 (yf u) u
              have r3 : (r : Int) < 3 := by omega
              go_wp2
              go_loopw [11, 12] (fun cv v wr => ∃ (k : Nat) (zs : List Int), k ≤ 16 ∧ v = .int .i64 k ∧ cv = .int .i64 (yr u k) ∧ Hid (UpN 17 (yf u) u zs k) ∧ Blk wr (w.heap.size + 1 + 1 + 1 + 1) .i64 zs ∧ Blk wr (w.heap.size + 1 + 1) .i64 (List.replicate 17 0) ∧ Below w.heap.size w wr) (fun _ v _ => 16 - (intOf v).toNat)
              case atStart => exact ⟨0, _, by omega, rfl, rfl, U0, hB4, hB2, hN⟩
              case round =>
                clear hB4 hB2 hN U0
                obtain ⟨k, zs, hk, rfl, rfl, hU, hB4, hB2, hN⟩ := hrel
                by_cases hlt : k < 16
                · have R := hide (hU.out.step (show k < 17 by omega))
                  have c1 := hB4.cell (i := k) (by rw [hU.out.1]; omega)
                  rw [hU.out.2.2 k (Nat.le_refl _) (by omega)] at c1
                  have f1 := hB4.free k
                  have b1 := yb k
                  have b2 := yrb k
                  have S4 := hB4.store k (yf u k)
                  have O := Only.setCell wr (w.heap.size + 1 + 1 + 1 + 1) k (.int .i64 (yf u k))
                  have S2 := hB2.of_block (O.block _ (by omega))
                  have Sn := hN.trans (O.below (B := w.heap.size) (by omega))
                  have E : Hid (yf u k = (u k + yr u k) % 256) := rfl
                  have F : Hid (yr u (k + 1) = (u k + yr u k) / 256) := rfl
                  rw [E.out] at R S4 S2 Sn
                  have d3 : (k : Int) < 16 := by omega
                  have d4 : (k : Int) < 17 := by omega
                  clear hU hB4 hB2 hN O E yb yrb YB
                  generalize u k = x at *
                  generalize yr u k = y at *
                  have m1 : IntKind.i64.wrap (x + y) = x + y := by rw [IntKind.wrap_i64]; omega
                  have t1 : (x + y).tmod 256 = (x + y) % 256 := Int.tmod_eq_emod_of_nonneg (by omega)
                  have t2 : (x + y).tdiv 256 = (x + y) / 256 := Int.tdiv_eq_ediv_of_nonneg (by omega)
                  generalize zs.set k ((x + y) % 256) = zs' at *
                  go_wp2
                  go_roundw
                  case rel => exact ⟨k + 1, zs', by omega, by go_num, by rw [F.out], R, S4, S2, Sn⟩
                  case measure => simp [intOf]; omega
                · obtain rfl : k = 16 := by omega
                  have YN := hide hU.out.yn
                  have c16 := hB4.cell (i := 16) (by rw [hU.out.1]; omega)
                  rw [hU.out.2.2 16 (Nat.le_refl _) (by omega)] at c16
                  have f16 := hB4.free 16
                  have S16 := hB4.store 16 (ytp u % 4)
                  have c0 := S16.cell (i := 0) (by rw [List.length_set, hU.out.1]; omega)
                  rw [getD_set_ne _ _ _ _ (by omega), hU.out.2.1 0 (by omega)] at c0
                  have f0 := S16.free 0
                  have S0 := S16.store 0 (yf u 0 + 5 * (ytp u / 4))
                  rw [YN.out] at S0
                  have O1 := Only.setCell wr (w.heap.size + 1 + 1 + 1 + 1) 16 (.int .i64 (ytp u % 4))
                  have O2 := O1.trans (Only.setCell _ (w.heap.size + 1 + 1 + 1 + 1) 0 (.int .i64 (yf u 0 + 5 * (ytp u / 4))))
                  have S2 := hB2.of_block (O2.block _ (by omega))
                  have Sn := hN.trans (O2.below (B := w.heap.size) (by omega))
                  have b1 := yb 16
                  have b2 := yrb 16
                  have b3 := yf_bd u 0
                  have E : Hid (ytp u = u 16 + yr u 16) := rfl
                  rw [E.out] at S0 S2 Sn c0 f0
                  rw [← EY.out] at S0
                  clear hU hB4 hB2 hN O1 O2 S16 E EY YN yb yrb YB
                  generalize u 16 = x at *
                  generalize yr u 16 = y at *
                  generalize yf u 0 = z at *
                  have m1 : IntKind.i64.wrap (x + y) = x + y := by rw [IntKind.wrap_i64]; omega
                  have t1 : (x + y).tmod 4 = (x + y) % 4 := Int.tmod_eq_emod_of_nonneg (by omega)
                  have t2 : (x + y).tdiv 4 = (x + y) / 4 := Int.tdiv_eq_ediv_of_nonneg (by omega)
                  go_wp2
                  go_roundw
                  case rel => exact ⟨r + 1, by omega, by go_num, S0, S2, Sn⟩
                  case measure => simp [intOf]; omega
            · obtain rfl : r = 3 := by omega
              have yb := YB 3
              have g1 := ybd_le 3 (by omega)
              have g2 := ybd_ge 3
              generalize ynn (yc c) 3 = u at *
              have yrb := yr_bd (M := ybd 3) (by omega) yb
              generalize ybd 3 = M at *
              have U0 := UpN.start 17 (yf u) u
              clear rlt hr YB
              go_wp2
              go_loopw [15, 16] (fun cv v wr => ∃ (k : Nat) (zs : List Int), k ≤ 17 ∧ v = .int .i64 k ∧ cv = .int .i64 (yr u k) ∧ Hid (UpN 17 (yf u) u zs k) ∧ Blk wr (w.heap.size + 1 + 1 + 1 + 1) .i64 zs ∧ Blk wr (w.heap.size + 1 + 1) .i64 (List.replicate 17 0) ∧ Below w.heap.size w wr) (fun _ v _ => 17 - (intOf v).toNat)
              case atStart => exact ⟨0, _, by omega, rfl, rfl, U0, hB4, hB2, hN⟩
              case round =>
                clear hB4 hB2 hN U0
                obtain ⟨k, zs, hk, rfl, rfl, hU, hB4, hB2, hN⟩ := hrel
                by_cases hlt : k < 17
                · have R := hide (hU.out.step hlt)
                  have c1 := hB4.cell (i := k) (by rw [hU.out.1]; omega)
                  rw [hU.out.2.2 k (Nat.le_refl _) (by omega)] at c1
                  have f1 := hB4.free k
                  have b1 := yb k
                  have b2 := yrb k
                  have S4 := hB4.store k (yf u k)
                  have O := Only.setCell wr (w.heap.size + 1 + 1 + 1 + 1) k (.int .i64 (yf u k))
                  have S2 := hB2.of_block (O.block _ (by omega))
                  have Sn := hN.trans (O.below (B := w.heap.size) (by omega))
                  have E : Hid (yf u k = (u k + yr u k) % 256) := rfl
                  have F : Hid (yr u (k + 1) = (u k + yr u k) / 256) := rfl
                  rw [E.out] at R S4 S2 Sn
                  have d4 : (k : Int) < 17 := by omega
                  clear hU hB4 hB2 hN O E yb yrb
                  generalize u k = x at *
                  generalize yr u k = y at *
                  have m1 : IntKind.i64.wrap (x + y) = x + y := by rw [IntKind.wrap_i64]; omega
                  have t1 : (x + y).tmod 256 = (x + y) % 256 := Int.tmod_eq_emod_of_nonneg (by omega)
                  have t2 : (x + y).tdiv 256 = (x + y) / 256 := Int.tdiv_eq_ediv_of_nonneg (by omega)
                  generalize zs.set k ((x + y) % 256) = zs' at *
                  go_wp2
                  go_roundw
                  case rel => exact ⟨k + 1, zs', by omega, by go_num, by rw [F.out], R, S4, S2, Sn⟩
                  case measure => simp [intOf]; omega
                · obtain rfl : k = 17 := by omega
                  obtain rfl := hU.out.all
                  have FIN : Hid ((fill (yf u) 17).length = 17 ∧ Byt (fill (yf u) 17) ∧ lsum (fun j => (fill (yf u) 17).getD j 0) 17 % PO = lsum (fun j => xs.getD j 0) 17 * lsum (fun j => ys.getD j 0) 17 % PO) := by
                    refine ⟨fill_len _ _, fun i => ?_, ?_⟩
                    · by_cases hi : i < 17
                      · rw [fill_get _ _ _ hi]; exact yf_bd u i
                      · rw [List.getD_eq_getElem?_getD, List.getElem?_eq_none (by rw [fill_len]; omega)]; decide
                    · rw [lsum_congr 17 (fun j hj => fill_get (yf u) 17 j hj), E3.out, M3.out, MD.out, VL.out]
                  clear hU yb yrb E3 M3 MD VL
                  have RG := (Seg.blk hB4).range
                  have L : Hid (((fill (yf u) 17).map (Value.int .i64)).length = 17) := by show _ = _; rw [List.length_map, fill_len]
                  have O := one_ints .i64 (fill (yf u) 17)
                  obtain ⟨t0, H0⟩ := hB2
                  have SR := setRow_heap wr (w.heap.size + 1 + 1) _ ((fill (yf u) 17).map (Value.int .i64)).toArray _ _ H0
                  have SN : Below w.heap.size w (wr.setRow (w.heap.size + 1 + 1) ((fill (yf u) 17).map (Value.int .i64)).toArray) := hN.trans ((only_setRow wr (w.heap.size + 1 + 1) _).below (by omega))
                  have V : Hid (ag .i64 (fill (yf u) 17) = Value.agg ((fill (yf u) 17).map (Value.int .i64)).toArray) := rfl
                  generalize fill (yf u) 17 = rs at *
                  obtain ⟨vs', hv⟩ : ∃ v, v = rs.map (Value.int .i64) := ⟨_, rfl⟩
                  rw [← hv] at RG L O SR SN V
                  clear hv hB4 hN
                  go_wp2_with (first
                    | (refine wpList_load_mid rfl 129 (.tmp 8) rfl (w.heap.size + 1 + 1 + 1 + 1) 0 rfl vs' (.array 17 2) RG undL rfl (by rw [L.out]; exact infoL) ?_)
                    | (refine wpList_store_row rfl 129 (.tmp 4) (.tmp 106) rfl (w.heap.size + 1 + 1) vs'.toArray rfl rfl t0 _ H0 (by rw [List.size_toArray, L.out]; exact infoL) (by rw [List.size_toArray, List.size_toArray, L.out]; rfl) O ?_))
                  exact bodyPost_ret (v := .agg vs'.toArray) (results_cell_row Tryz.results75 _ _ (w.heap.size + 1 + 1) t0 vs'.toArray (0, 0) (.array 17 2) rfl SR undL rfl (by rw [List.size_toArray, L.out]; exact infoL)) rfl ⟨rs, by rw [V.out], FIN.out, SN⟩
end Go.Proofs.YtjfggcefdobooaaGreatDoor
