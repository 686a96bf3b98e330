import Derived.Test.YtbhmhkimddjhaaaDoorGS21
import Derived.Test.YtbhmhkimddjhaaaDoorGS20
import Derived.Deep.RegionWith
import Derived.Deep.DeepCutAuto
import Derived.Test.YtbhmhkimddjhaaaDoorGS15
/-
  The product of elements, with its value.
-/
namespace Go.Proofs.YtbhmhkimddjhaaaDoor
set_option maxRecDepth 100000
open Go.RowKit
theorem mulE_any (w : World) (e f : Nat → Int) (he : Lm e) (hf : Lm f) :
    Calls Tryd.prog 78 #[ag5 e, ag5 f] w fun r w' => ∃ t, r = .returned (ag5 t) ∧ Lm t ∧ sv t 5 = (sv e 5 * sv f 5) % PP ∧ Below w.heap.size w w' := by
  refine (mul_any w e f he hf).mono ?_
  rintro r w' ⟨rfl, n⟩
  obtain ⟨_, h2, h3⟩ := mul_ok he hf
  exact ⟨_, rfl, h3, h2, n⟩
end Go.Proofs.YtbhmhkimddjhaaaDoor
/-
  What FieldReduce wants: two elements laid into variables in whatever order; sixty-four bytes as two halves.
-/
namespace Go.Proofs.YtbhmhkimddjhaaaDoor
set_option maxRecDepth 100000
open Go.RowKit

/-- What both answer. -/
def fred (xs : List Int) : List Int := if 1 ≤ xs.length ∧ xs.length ≤ 64 then fill (byt (num xs % PP)) 32 else []
theorem fred_len (xs : List Int) : (fred xs).length ≤ 32 := by
  unfold fred
  split
  · rw [fill_len]; omega
  · simp
/-- Bytes, zeros behind them. -/
def padn (xs : List Int) : List Int := xs ++ (List.replicate 64 0).drop xs.length
/-- Five zeros, in a new block. -/
abbrev z5 (W : World) : World := W.alloc (.cells #[.int .u64 0, .int .u64 0, .int .u64 0, .int .u64 0, .int .u64 0] 76)
theorem bl1 (W : World) : Below W.heap.size W (z5 W) := (Below.refl _ _).alloc (Nat.le_refl _) _
theorem bl2 (W : World) : Below W.heap.size W (z5 (z5 W)) := nxt (bl1 W) (bl1 _)
theorem zb1 (W : World) : Blk (z5 W) W.heap.size .u64 [0, 0, 0, 0, 0] := blk_box W .u64 76 0 0 0 0 0
theorem zb2a (W : World) : Blk (z5 (z5 W)) W.heap.size .u64 [0, 0, 0, 0, 0] := (zb1 W).up (bl1 _)
theorem zb2b (W : World) : Blk (z5 (z5 W)) (W.heap.size + 1) .u64 [0, 0, 0, 0, 0] := by
  have h := zb1 (z5 W)
  have e : (z5 W).heap.size = W.heap.size + 1 := by simp [z5]
  rw [e] at h
  exact h

abbrev set5 (W : World) (p : Nat) (u : Nat → Int) : World := ((((W.setCell ⟨p, 0, none⟩ (.int .u64 (u 0))).setCell ⟨p, 1, none⟩ (.int .u64 (u 1))).setCell ⟨p, 2, none⟩ (.int .u64 (u 2))).setCell ⟨p, 3, none⟩ (.int .u64 (u 3))).setCell ⟨p, 4, none⟩ (.int .u64 (u 4))
abbrev c5 (u : Nat → Int) : Obj := .cells #[.int .u64 (u 0), .int .u64 (u 1), .int .u64 (u 2), .int .u64 (u 3), .int .u64 (u 4)] 76
abbrev l5 (u : Nat → Int) : List Int := [u 0, u 1, u 2, u 3, u 4]
theorem set5_same {W : World} {p : Nat} {u : Nat → Int} (h : Blk W p .u64 [0, 0, 0, 0, 0]) : Blk (set5 W p u) p .u64 (l5 u) :=
  ((((h.store 0 _).store 1 _).store 2 _).store 3 _).store 4 _
theorem set5_keep {W : World} {p q : Nat} {k : IntKind} {ys : List Int} {u : Nat → Int} (h : Blk W q k ys) (hne : q ≠ p) : Blk (set5 W p u) q k ys :=
  ((((h.keep hne).keep hne).keep hne).keep hne).keep hne
theorem set5_size (W : World) (p : Nat) (u : Nat → Int) : (set5 W p u).heap.size = W.heap.size := by simp [World.setCell]
/-- Two elements in blocks of their own, in a world that KP. -/
def TwoEl (KP : World → Prop) (el eh : Nat → Int) (v v' : Value) (wc : World) : Prop :=
  ∃ p q, v = .pointer (some ⟨p, 0, none⟩) ∧ v' = .pointer (some ⟨q, 0, none⟩) ∧ Blk wc p .u64 (l5 el) ∧ Blk wc q .u64 (l5 eh) ∧ KP wc
/-- What is asked of KP. -/
structure Kept (N : Nat) (KP : World → Prop) : Prop where
  up : ∀ W W', KP W → Below W.heap.size W W' → KP W'
  set : ∀ W p i v, KP W → N < p → KP (W.setCell ⟨p, i, none⟩ v)
theorem Kept.set5 {N : Nat} {KP : World → Prop} (K : Kept N KP) {W : World} {p : Nat} {u : Nat → Int} (h : KP W) (hp : N < p) : KP (set5 W p u) :=
  K.set _ _ _ _ (K.set _ _ _ _ (K.set _ _ _ _ (K.set _ _ _ _ (K.set _ _ _ _ h hp) hp) hp) hp) hp
theorem blk_c5 (W : World) (u : Nat → Int) : Blk (W.alloc (c5 u)) W.heap.size .u64 (l5 u) := blk_box W .u64 76 (u 0) (u 1) (u 2) (u 3) (u 4)
theorem bl_c5 (W : World) (u : Nat → Int) : Below W.heap.size W (W.alloc (c5 u)) := (Below.refl _ _).alloc (Nat.le_refl _) _
theorem fin1 {N : Nat} {KP : World → Prop} (K : Kept N KP) {W : World} (h : KP W) (el eh : Nat → Int) : TwoEl KP el eh (.pointer (some ⟨W.heap.size, 0, none⟩)) (.pointer (some ⟨W.heap.size + 1, 0, none⟩)) ((W.alloc (c5 el)).alloc (c5 eh)) := by
  have e : (W.alloc (c5 el)).heap.size = W.heap.size + 1 := by simp
  have b := blk_c5 (W.alloc (c5 el)) eh
  rw [e] at b
  exact ⟨_, _, rfl, rfl, (blk_c5 W el).up (bl_c5 _ _), b, K.up _ _ (K.up _ _ h (bl_c5 _ _)) (bl_c5 _ _)⟩
theorem fin1' {N : Nat} {KP : World → Prop} (K : Kept N KP) {W : World} (h : KP W) (el eh : Nat → Int) : TwoEl KP el eh (.pointer (some ⟨W.heap.size + 1, 0, none⟩)) (.pointer (some ⟨W.heap.size, 0, none⟩)) ((W.alloc (c5 eh)).alloc (c5 el)) := by
  have e : (W.alloc (c5 eh)).heap.size = W.heap.size + 1 := by simp
  have b := blk_c5 (W.alloc (c5 eh)) el
  rw [e] at b
  exact ⟨_, _, rfl, rfl, b, (blk_c5 W eh).up (bl_c5 _ _), K.up _ _ (K.up _ _ h (bl_c5 _ _)) (bl_c5 _ _)⟩
theorem fin2r {N : Nat} {KP : World → Prop} (K : Kept N KP) {W : World} (h : KP W) (el eh : Nat → Int) {p : Nat} (b : Blk W p .u64 [0, 0, 0, 0, 0]) (hp : N < p) : TwoEl KP el eh (.pointer (some ⟨p, 0, none⟩)) (.pointer (some ⟨W.heap.size, 0, none⟩)) ((set5 W p el).alloc (c5 eh)) := by
  have c := blk_c5 (set5 W p el) eh
  rw [set5_size] at c
  exact ⟨_, _, rfl, rfl, (set5_same b).up (bl_c5 _ _), c, K.up _ _ (K.set5 h hp) (bl_c5 _ _)⟩
theorem fin2r' {N : Nat} {KP : World → Prop} (K : Kept N KP) {W : World} (h : KP W) (el eh : Nat → Int) {p : Nat} (b : Blk W p .u64 [0, 0, 0, 0, 0]) (hp : N < p) : TwoEl KP el eh (.pointer (some ⟨W.heap.size, 0, none⟩)) (.pointer (some ⟨p, 0, none⟩)) ((set5 W p eh).alloc (c5 el)) := by
  have c := blk_c5 (set5 W p eh) el
  rw [set5_size] at c
  exact ⟨_, _, rfl, rfl, c, (set5_same b).up (bl_c5 _ _), K.up _ _ (K.set5 h hp) (bl_c5 _ _)⟩
theorem fin3 {N : Nat} {KP : World → Prop} (K : Kept N KP) {W : World} (h : KP W) (el eh : Nat → Int) {p q : Nat} (b : Blk W p .u64 [0, 0, 0, 0, 0]) (c : Blk W q .u64 [0, 0, 0, 0, 0]) (hne : p ≠ q) (hp : N < p) (hq : N < q) :
    TwoEl KP el eh (.pointer (some ⟨p, 0, none⟩)) (.pointer (some ⟨q, 0, none⟩)) (set5 (set5 W p el) q eh) :=
  ⟨_, _, rfl, rfl, set5_keep (set5_same b) hne, set5_same (set5_keep c hne.symm), K.set5 (K.set5 h hp) hq⟩

theorem lsum_split (a : Nat → Int) (m : Nat) : ∀ n, lsum a (m + n) = lsum a m + 256 ^ m * lsum (fun j => a (m + j)) n
  | 0 => by simp [lsum]
  | n + 1 => by
    rw [← Nat.add_assoc, lsum, lsum_split a m n, lsum, Int.pow_add, Int.mul_add, Int.mul_left_comm, Int.add_assoc]
theorem lsum_congr {a b : Nat → Int} : ∀ n, (∀ j, j < n → a j = b j) → lsum a n = lsum b n
  | 0, _ => rfl
  | n + 1, h => by rw [lsum, lsum, lsum_congr n (fun j hj => h j (by omega)), h n (by omega)]
theorem lsum_zeros {a : Nat → Int} : ∀ n, (∀ j, j < n → a j = 0) → lsum a n = 0
  | 0, _ => rfl
  | n + 1, h => by rw [lsum, lsum_zeros n (fun j hj => h j (by omega)), h n (by omega)]; simp
theorem padn_len {xs : List Int} (h : xs.length ≤ 64) : (padn xs).length = 64 := by simp [padn]; omega
theorem padn_at (xs : List Int) (j : Nat) : (padn xs).getD j 0 = xs.getD j 0 := by
  unfold padn
  by_cases h : j < xs.length
  · simp [List.getElem?_append, h]
  · rw [List.getD_eq_getElem?_getD, List.getElem?_append, if_neg h, List.getD_eq_getElem?_getD, List.getElem?_eq_none (l := xs) (by omega), List.getElem?_drop]
    by_cases k : xs.length + (j - xs.length) < 64
    · rw [List.getElem?_replicate, if_pos k]; rfl
    · rw [List.getElem?_eq_none (by simp; omega)]
theorem byt_take {xs : List Int} (h : Byt xs) (n : Nat) : Byt (xs.take n) := fun i => by
  by_cases e : i < n
  · have := h i
    simpa [List.getElem?_take, e] using this
  · simp [List.getElem?_take, e]
theorem padn_byt {xs : List Int} (h : Byt xs) : Byt (padn xs) := fun j => by rw [padn_at]; exact h j
theorem padn_num {xs : List Int} (h : xs.length ≤ 64) : num xs = num ((padn xs).take 32) + 115792089237316195423570985008687907853269984665640564039457584007913129639936 * num ((padn xs).drop 32) := by
  have l1 : ((padn xs).take 32).length = 32 := by rw [List.length_take, padn_len h]; rfl
  have l2 : ((padn xs).drop 32).length = 32 := by rw [List.length_drop, padn_len h]
  have e1 : num ((padn xs).take 32) = lsum (fun j => xs.getD j 0) 32 := by
    unfold num
    rw [l1]
    refine lsum_congr _ (fun j hj => ?_)
    show ((padn xs).take 32).getD j 0 = xs.getD j 0
    rw [← padn_at xs j]
    simp [hj]
  have e2 : num ((padn xs).drop 32) = lsum (fun j => xs.getD (32 + j) 0) 32 := by
    unfold num
    rw [l2]
    refine lsum_congr _ (fun j hj => ?_)
    show ((padn xs).drop 32).getD j 0 = xs.getD (32 + j) 0
    rw [← padn_at xs (32 + j)]
    simp [List.getElem?_drop]
  have e3 : lsum (fun j => xs.getD j 0) 64 = num xs := by
    have := lsum_split (fun j => xs.getD j 0) xs.length (64 - xs.length)
    rw [show xs.length + (64 - xs.length) = 64 by omega, lsum_zeros (a := fun j => xs.getD (xs.length + j) 0) _ (fun j _ => by simp)] at this
    rw [this]; unfold num; omega
  have e4 := lsum_split (fun j => xs.getD j 0) 32 32
  have e5 : (256 : Int) ^ 32 = 115792089237316195423570985008687907853269984665640564039457584007913129639936 := by decide
  rw [e5, ← e2, ← e1] at e4
  rw [← e3]
  exact e4
/-- 38, as limbs. -/
def c38 (j : Nat) : Int := if j = 0 then 38 else 0
theorem c38_lm : Lm c38 := fun j _ => by unfold c38; split <;> omega
theorem c38_sv : sv c38 5 = 38 := by simp [sv, c38]

end Go.Proofs.YtbhmhkimddjhaaaDoor
/-
  Numbers told as thirty-two bytes; the drawn thirty-two.
-/
namespace Go.Proofs.YtbhmhkimddjhaaaDoor
set_option maxRecDepth 100000
open Go.RowKit

/-! ### numbers told as thirty-two bytes -/
theorem lsum_byt (v : Int) (h0 : 0 ≤ v) : ∀ n, lsum (byt v) n = v % 256 ^ n
  | 0 => by simp [lsum]
  | n + 1 => by
    have ih := lsum_byt v h0 n
    have hp := p256_pos n
    rw [lsum, ih, byt, Int.pow_succ]
    have e1 := Int.emod_add_mul_ediv v (256 ^ n)
    have e2 := Int.emod_add_mul_ediv v (256 ^ n * 256)
    rw [← Int.ediv_ediv_of_nonneg (Int.le_of_lt hp)] at e2
    have e3 := Int.emod_add_mul_ediv (v / 256 ^ n) 256
    generalize v / 256 ^ n = q at *
    generalize v % 256 ^ n = r at *
    generalize v % (256 ^ n * 256) = s at *
    generalize (256 : Int) ^ n = p at *
    generalize q / 256 = a at *
    generalize q % 256 = b at *
    subst e3
    have : (b + 256 * a) * p = b * p + 256 * a * p := Int.add_mul _ _ _
    have h1 : p * (b + 256 * a) = b * p + 256 * a * p := by rw [Int.mul_comm, this]
    have h2 : p * 256 * a = 256 * a * p := by rw [Int.mul_assoc, Int.mul_comm]
    omega
theorem num_fill {v : Int} (h0 : 0 ≤ v) (h1 : v < PP) : num (fill (byt v) 32) = v := by
  unfold num
  rw [fill_len, lsum_congr (b := byt v) 32 (fun j hj => fill_get _ _ _ hj), lsum_byt v h0, Int.emod_eq_of_lt h0 (Int.lt_trans h1 (by decide))]
theorem byt_bytes (v : Int) (n : Nat) : Byt (fill (byt v) n) := byt_fill (fun i => by unfold byt; omega) n
theorem fill_zero : fill (byt 0) 32 = List.replicate 32 0 := by decide +kernel
theorem fill_one : fill (byt 1) 32 = (List.replicate 32 0).set 0 1 := by decide +kernel
theorem fill_ne {v : Int} (h0 : 0 < v) (h1 : v < PP) : fill (byt v) 32 ≠ List.replicate 32 0 := by
  intro h
  rw [← fill_zero] at h
  have a := num_fill (v := v) (by omega) h1
  have b := num_fill (v := 0) (by decide) (by decide)
  rw [h, b] at a
  omega
theorem lw32L_any (w : World) (g : Nat) (a : Option Addr) (c : Nat) (xs : List Int) (ha : Rd w g a .u8 xs) :
    Calls Tryd.prog 24 #[.slice a xs.length c] w fun e w' => e = .returned (.slice (some ⟨w.heap.size, 0, none⟩) (to32 xs).length 32) ∧ Blk w' w.heap.size .u8 (to32 xs) ∧ Below w.heap.size w w' := by
  rw [to32_len]
  exact lw32_any w g a c xs ha

end Go.Proofs.YtbhmhkimddjhaaaDoor
