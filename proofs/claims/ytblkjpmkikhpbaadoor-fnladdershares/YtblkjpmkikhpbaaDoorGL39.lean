import Derived.Test.YtblkjpmkikhpbaaDoorGL13
import Derived.Test.YtblkjpmkikhpbaaDoorGL38
import Derived.Deep.RegionWith
import Derived.Deep.DeepCutAuto
import Derived.Test.YtblkjpmkikhpbaaDoorGL4

/-
  What FieldReduce wants: two elements laid into variables in whatever order; sixty-four bytes as two halves.
-/
namespace Go.Proofs.YtblkjpmkikhpbaaDoor
set_option maxRecDepth 100000
open Go.RowKit

/-- What both answer. -/
def fred (xs : List Int) : List Int := if 1 ≤ xs.length ∧ xs.length ≤ 64 then fill (byt (num xs % PP)) 32 else []
theorem fred_len (xs : List Int) : (fred xs).length ≤ 32 := by
  unfold fred
  split
  · rw [fill_len]; omega
  · simp
/-- Bytes, zeros behind them. -/
def padn (xs : List Int) : List Int := xs ++ (List.replicate 64 0).drop xs.length
/-- Five zeros, in a new block. -/
abbrev z5 (W : World) : World := W.alloc (.cells #[.int .u64 0, .int .u64 0, .int .u64 0, .int .u64 0, .int .u64 0] 49)
theorem bl1 (W : World) : Below W.heap.size W (z5 W) := (Below.refl _ _).alloc (Nat.le_refl _) _
theorem bl2 (W : World) : Below W.heap.size W (z5 (z5 W)) := nxt (bl1 W) (bl1 _)
theorem zb1 (W : World) : Blk (z5 W) W.heap.size .u64 [0, 0, 0, 0, 0] := blk_box W .u64 49 0 0 0 0 0
theorem zb2a (W : World) : Blk (z5 (z5 W)) W.heap.size .u64 [0, 0, 0, 0, 0] := (zb1 W).up (bl1 _)
theorem zb2b (W : World) : Blk (z5 (z5 W)) (W.heap.size + 1) .u64 [0, 0, 0, 0, 0] := by
  have h := zb1 (z5 W)
  have e : (z5 W).heap.size = W.heap.size + 1 := by simp [z5]
  rw [e] at h
  exact h

abbrev set5 (W : World) (p : Nat) (u : Nat → Int) : World := ((((W.setCell ⟨p, 0, none⟩ (.int .u64 (u 0))).setCell ⟨p, 1, none⟩ (.int .u64 (u 1))).setCell ⟨p, 2, none⟩ (.int .u64 (u 2))).setCell ⟨p, 3, none⟩ (.int .u64 (u 3))).setCell ⟨p, 4, none⟩ (.int .u64 (u 4))
abbrev c5 (u : Nat → Int) : Obj := .cells #[.int .u64 (u 0), .int .u64 (u 1), .int .u64 (u 2), .int .u64 (u 3), .int .u64 (u 4)] 49
abbrev l5 (u : Nat → Int) : List Int := [u 0, u 1, u 2, u 3, u 4]
theorem set5_same {W : World} {p : Nat} {u : Nat → Int} (h : Blk W p .u64 [0, 0, 0, 0, 0]) : Blk (set5 W p u) p .u64 (l5 u) :=
  ((((h.store 0 _).store 1 _).store 2 _).store 3 _).store 4 _
theorem set5_keep {W : World} {p q : Nat} {k : IntKind} {ys : List Int} {u : Nat → Int} (h : Blk W q k ys) (hne : q ≠ p) : Blk (set5 W p u) q k ys :=
  ((((h.keep hne).keep hne).keep hne).keep hne).keep hne
theorem set5_size (W : World) (p : Nat) (u : Nat → Int) : (set5 W p u).heap.size = W.heap.size := by simp [World.setCell]
/-- Two elements in blocks of their own, in a world that KP. -/
def TwoEl (KP : World → Prop) (el eh : Nat → Int) (v v' : Value) (wc : World) : Prop :=
  ∃ p q, v = .pointer (some ⟨p, 0, none⟩) ∧ v' = .pointer (some ⟨q, 0, none⟩) ∧ Blk wc p .u64 (l5 el) ∧ Blk wc q .u64 (l5 eh) ∧ KP wc
/-- What is asked of KP. -/
structure Kept (N : Nat) (KP : World → Prop) : Prop where
  up : ∀ W W', KP W → Below W.heap.size W W' → KP W'
  set : ∀ W p i v, KP W → N < p → KP (W.setCell ⟨p, i, none⟩ v)
theorem Kept.set5 {N : Nat} {KP : World → Prop} (K : Kept N KP) {W : World} {p : Nat} {u : Nat → Int} (h : KP W) (hp : N < p) : KP (set5 W p u) :=
  K.set _ _ _ _ (K.set _ _ _ _ (K.set _ _ _ _ (K.set _ _ _ _ (K.set _ _ _ _ h hp) hp) hp) hp) hp
theorem blk_c5 (W : World) (u : Nat → Int) : Blk (W.alloc (c5 u)) W.heap.size .u64 (l5 u) := blk_box W .u64 49 (u 0) (u 1) (u 2) (u 3) (u 4)
theorem bl_c5 (W : World) (u : Nat → Int) : Below W.heap.size W (W.alloc (c5 u)) := (Below.refl _ _).alloc (Nat.le_refl _) _
theorem fin1 {N : Nat} {KP : World → Prop} (K : Kept N KP) {W : World} (h : KP W) (el eh : Nat → Int) : TwoEl KP el eh (.pointer (some ⟨W.heap.size, 0, none⟩)) (.pointer (some ⟨W.heap.size + 1, 0, none⟩)) ((W.alloc (c5 el)).alloc (c5 eh)) := by
  have e : (W.alloc (c5 el)).heap.size = W.heap.size + 1 := by simp
  have b := blk_c5 (W.alloc (c5 el)) eh
  rw [e] at b
  exact ⟨_, _, rfl, rfl, (blk_c5 W el).up (bl_c5 _ _), b, K.up _ _ (K.up _ _ h (bl_c5 _ _)) (bl_c5 _ _)⟩
theorem fin1' {N : Nat} {KP : World → Prop} (K : Kept N KP) {W : World} (h : KP W) (el eh : Nat → Int) : TwoEl KP el eh (.pointer (some ⟨W.heap.size + 1, 0, none⟩)) (.pointer (some ⟨W.heap.size, 0, none⟩)) ((W.alloc (c5 eh)).alloc (c5 el)) := by
  have e : (W.alloc (c5 eh)).heap.size = W.heap.size + 1 := by simp
  have b := blk_c5 (W.alloc (c5 eh)) el
  rw [e] at b
  exact ⟨_, _, rfl, rfl, b, (blk_c5 W eh).up (bl_c5 _ _), K.up _ _ (K.up _ _ h (bl_c5 _ _)) (bl_c5 _ _)⟩
theorem fin2r {N : Nat} {KP : World → Prop} (K : Kept N KP) {W : World} (h : KP W) (el eh : Nat → Int) {p : Nat} (b : Blk W p .u64 [0, 0, 0, 0, 0]) (hp : N < p) : TwoEl KP el eh (.pointer (some ⟨p, 0, none⟩)) (.pointer (some ⟨W.heap.size, 0, none⟩)) ((set5 W p el).alloc (c5 eh)) := by
  have c := blk_c5 (set5 W p el) eh
  rw [set5_size] at c
  exact ⟨_, _, rfl, rfl, (set5_same b).up (bl_c5 _ _), c, K.up _ _ (K.set5 h hp) (bl_c5 _ _)⟩
theorem fin2r' {N : Nat} {KP : World → Prop} (K : Kept N KP) {W : World} (h : KP W) (el eh : Nat → Int) {p : Nat} (b : Blk W p .u64 [0, 0, 0, 0, 0]) (hp : N < p) : TwoEl KP el eh (.pointer (some ⟨W.heap.size, 0, none⟩)) (.pointer (some ⟨p, 0, none⟩)) ((set5 W p eh).alloc (c5 el)) := by
  have c := blk_c5 (set5 W p eh) el
  rw [set5_size] at c
  exact ⟨_, _, rfl, rfl, c, (set5_same b).up (bl_c5 _ _), K.up _ _ (K.set5 h hp) (bl_c5 _ _)⟩
theorem fin3 {N : Nat} {KP : World → Prop} (K : Kept N KP) {W : World} (h : KP W) (el eh : Nat → Int) {p q : Nat} (b : Blk W p .u64 [0, 0, 0, 0, 0]) (c : Blk W q .u64 [0, 0, 0, 0, 0]) (hne : p ≠ q) (hp : N < p) (hq : N < q) :
    TwoEl KP el eh (.pointer (some ⟨p, 0, none⟩)) (.pointer (some ⟨q, 0, none⟩)) (set5 (set5 W p el) q eh) :=
  ⟨_, _, rfl, rfl, set5_keep (set5_same b) hne, set5_same (set5_keep c hne.symm), K.set5 (K.set5 h hp) hq⟩

theorem lsum_split (a : Nat → Int) (m : Nat) : ∀ n, lsum a (m + n) = lsum a m + 256 ^ m * lsum (fun j => a (m + j)) n
  | 0 => by simp [lsum]
  | n + 1 => by
    rw [← Nat.add_assoc, lsum, lsum_split a m n, lsum, Int.pow_add, Int.mul_add, Int.mul_left_comm, Int.add_assoc]
theorem lsum_congrR {a b : Nat → Int} : ∀ n, (∀ j, j < n → a j = b j) → lsum a n = lsum b n
  | 0, _ => rfl
  | n + 1, h => by rw [lsum, lsum, lsum_congrR n (fun j hj => h j (by omega)), h n (by omega)]
theorem lsum_zeros {a : Nat → Int} : ∀ n, (∀ j, j < n → a j = 0) → lsum a n = 0
  | 0, _ => rfl
  | n + 1, h => by rw [lsum, lsum_zeros n (fun j hj => h j (by omega)), h n (by omega)]; simp
theorem padn_len {xs : List Int} (h : xs.length ≤ 64) : (padn xs).length = 64 := by simp [padn]; omega
theorem padn_at (xs : List Int) (j : Nat) : (padn xs).getD j 0 = xs.getD j 0 := by
  unfold padn
  by_cases h : j < xs.length
  · simp [List.getElem?_append, h]
  · rw [List.getD_eq_getElem?_getD, List.getElem?_append, if_neg h, List.getD_eq_getElem?_getD, List.getElem?_eq_none (l := xs) (by omega), List.getElem?_drop]
    by_cases k : xs.length + (j - xs.length) < 64
    · rw [List.getElem?_replicate, if_pos k]; rfl
    · rw [List.getElem?_eq_none (by simp; omega)]
theorem byt_take {xs : List Int} (h : Byt xs) (n : Nat) : Byt (xs.take n) := fun i => by
  by_cases e : i < n
  · have := h i
    simpa [List.getElem?_take, e] using this
  · simp [List.getElem?_take, e]
theorem padn_byt {xs : List Int} (h : Byt xs) : Byt (padn xs) := fun j => by rw [padn_at]; exact h j
theorem padn_num {xs : List Int} (h : xs.length ≤ 64) : num xs = num ((padn xs).take 32) + 115792089237316195423570985008687907853269984665640564039457584007913129639936 * num ((padn xs).drop 32) := by
  have l1 : ((padn xs).take 32).length = 32 := by rw [List.length_take, padn_len h]; rfl
  have l2 : ((padn xs).drop 32).length = 32 := by rw [List.length_drop, padn_len h]
  have e1 : num ((padn xs).take 32) = lsum (fun j => xs.getD j 0) 32 := by
    unfold num
    rw [l1]
    refine lsum_congrR _ (fun j hj => ?_)
    show ((padn xs).take 32).getD j 0 = xs.getD j 0
    rw [← padn_at xs j]
    simp [hj]
  have e2 : num ((padn xs).drop 32) = lsum (fun j => xs.getD (32 + j) 0) 32 := by
    unfold num
    rw [l2]
    refine lsum_congrR _ (fun j hj => ?_)
    show ((padn xs).drop 32).getD j 0 = xs.getD (32 + j) 0
    rw [← padn_at xs (32 + j)]
    simp [List.getElem?_drop]
  have e3 : lsum (fun j => xs.getD j 0) 64 = num xs := by
    have := lsum_split (fun j => xs.getD j 0) xs.length (64 - xs.length)
    rw [show xs.length + (64 - xs.length) = 64 by omega, lsum_zeros (a := fun j => xs.getD (xs.length + j) 0) _ (fun j _ => by simp)] at this
    rw [this]; unfold num; omega
  have e4 := lsum_split (fun j => xs.getD j 0) 32 32
  have e5 : (256 : Int) ^ 32 = 115792089237316195423570985008687907853269984665640564039457584007913129639936 := by decide
  rw [e5, ← e2, ← e1] at e4
  rw [← e3]
  exact e4
/-- 38, as limbs. -/
def c38 (j : Nat) : Int := if j = 0 then 38 else 0
theorem c38_lm : Lm c38 := fun j _ => by unfold c38; split <;> omega
theorem c38_sv : sv c38 5 = 38 := by simp [sv, c38]

end Go.Proofs.YtblkjpmkikhpbaaDoor

/-
  FieldReduce, the program's.
-/
namespace Go.Proofs.YtblkjpmkikhpbaaDoor
set_option maxRecDepth 100000
open Go.RowKit

end Go.Proofs.YtblkjpmkikhpbaaDoor

/-
  FieldReduce, the model's.
-/
namespace Go.Proofs.YtblkjpmkikhpbaaDoor
set_option maxRecDepth 100000
open Go.RowKit

theorem num_lt {xs : List Int} (hb : Byt xs) (h : xs.length ≤ 64) : num xs < 256 ^ 64 := by
  have : ∀ n, lsum (fun j => xs.getD j 0) n < 256 ^ n := by
    intro n
    induction n with
    | zero => simp [lsum]
    | succ n ih =>
      have h1 := hb n
      have hp := p256_pos n
      have : xs.getD n 0 * 256 ^ n ≤ 255 * 256 ^ n := Int.mul_le_mul_of_nonneg_right (by omega) (by omega)
      rw [lsum, Int.pow_succ]
      omega
  exact Int.lt_of_lt_of_le (this xs.length) (p256_le h)

set_option maxHeartbeats 2000000 in
theorem specFieldReduce_any (w : World) (g : Nat) (a : Option Addr) (c : Nat) (xs : List Int) (hr : Rd w g a .u8 xs) (hb : Byt xs) :
    Calls Tryd.prog 28 #[.slice a xs.length c] w fun e w' => NewRow w.heap.size w' e .u8 (fred xs) ∧ Below w.heap.size w w' := by
  have hal : Below w.heap.size w (w.alloc (.cells #[] 5)) := (Below.refl _ _).alloc (Nat.le_refl _) _
  by_cases h1 : xs.length < 1
  · have t1 : decide ((xs.length : Int) < 1) = true := by simp; omega
    have K : Hid (fred xs = []) := by show _ = _; unfold fred; rw [if_neg (by omega)]
    clear h1
    go_enter Tryd.func28, Tryd.ntmps28
    go_wp2
    go_ret
    rw [K.out]
    exact ⟨newRow_lit _ _, hal⟩
  · by_cases h2 : 64 < xs.length
    · have t1 : decide ((xs.length : Int) < 1) = false := by simp; omega
      have t2 : decide ((64 : Int) < (xs.length : Int)) = true := by simp; omega
      have K : Hid (fred xs = []) := by show _ = _; unfold fred; rw [if_neg (by omega)]
      clear h1 h2
      go_enter Tryd.func28, Tryd.ntmps28
      go_wp2
      go_ret
      rw [K.out]
      exact ⟨newRow_lit _ _, hal⟩
    · have t1 : decide ((xs.length : Int) < 1) = false := by simp; omega
      have t2 : decide ((64 : Int) < (xs.length : Int)) = false := by simp; omega
      have K : Hid (fred xs = fill (byt (num xs % PP)) 32) := by show _ = _; unfold fred; rw [if_pos (by omega)]
      have NL := num_lt hb (by omega)
      have R := l2Num_any w g a c xs hr hb (by omega)
      clear h1 h2 hal
      go_enter Tryd.func28, Tryd.ntmps28
      go_wp2_with fail
      refine R.mono ?_
      rintro e w1 ⟨y1, C1, l1, ⟨a1, c1, g1, rfl, o1, p1, q1, r1⟩, n1⟩
      have L1 : y1.length ≤ 4096 := by have := C1.len NL; omega
      have K' : Hid (fred xs = fill (byt (bval y1 % PP)) 32) := by show _ = _; rw [K.out, C1.2.1]
      go_wp2_with fail
      refine (l2Tell_any w1 g1 a1 c1 y1 o1.rd C1.1 L1).mono ?_
      rintro e w2 ⟨⟨a2, c2, g2, rfl, o2, p2, q2, r2⟩, n2⟩
      have N2 := nxt n1 n2
      have z := n1.size
      clear R C1
      go_wp2
      go_ret
      refine ⟨?_, N2⟩
      rw [K'.out]
      exact ⟨a2, c2, g2, rfl, o2, p2, q2, by omega⟩
end Go.Proofs.YtblkjpmkikhpbaaDoor

/-
  The model's LadderClamp.
-/
namespace Go.Proofs.YtblkjpmkikhpbaaDoor
set_option maxRecDepth 100000
open Go.RowKit

def clampA (xs : List Int) : List Int := if xs.length = 32 then clampL xs else []

set_option maxHeartbeats 4000000 in
theorem specClamp_any (w : World) (g : Nat) (a : Option Addr) (c : Nat) (xs : List Int) (hr : Rd w g a .u8 xs) (hb : Byt xs) (hc : a = none → c = 0) :
    Calls Tryd.prog 25 #[.slice a xs.length c] w fun e w' => NewRow w.heap.size w' e .u8 (clampA xs) ∧ Below w.heap.size w w' := by
  by_cases hl : xs.length = 32
  · have CP := fun w' n => l1Copy_any w' g a c xs (hr.up n) hc (by omega)
    have b0 := hb 0
    have b31 := hb 31
    have KH : Hid (clampA xs = (xs.set 0 (xs.getD 0 0 - xs.getD 0 0 % 8)).set 31 (xs.getD 31 0 % 64 + 64)) := by show _ = _; unfold clampA clampL; rw [if_pos hl]
    rw [hl] at CP ⊢
    have LH := hide hl
    clear hl
    go_enter Tryd.func25, Tryd.ntmps25
    go_wp2_with fail
    refine (CP w (Below.refl _ _)).mono ?_
    rintro r w1 ⟨⟨a1, c1, g1, rfl, o1, p1, q1, r1⟩, n1⟩
    clear CP
    rw [LH.out] at q1 ⊢
    obtain ⟨off, rfl, oc⟩ := id o1 (by rw [LH.out]; decide)
    have x0 := (oc 0 (by rw [LH.out]; decide)).1
    have f0 := (oc 0 (by rw [LH.out]; decide)).2
    have x31 := (oc 31 (by rw [LH.out]; decide)).1
    have f31 := (oc 31 (by rw [LH.out]; decide)).2
    rw [Nat.add_zero] at x0 f0
    have S1 := o1.store 0 (by rw [LH.out]; decide) (xs.getD 0 0 - xs.getD 0 0 % 8)
    rw [Nat.add_zero] at S1
    have N1 : Below w.heap.size w (w1.setCell ⟨g1, off, none⟩ (.int .u8 (xs.getD 0 0 - xs.getD 0 0 % 8))) := n1.setCell r1 _
    have x31' : (w1.setCell ⟨g1, off, none⟩ (.int .u8 (xs.getD 0 0 - xs.getD 0 0 % 8))).cell? ⟨g1, off + 31, none⟩ = some (.int .u8 (xs.getD 31 0)) := by
      rw [World.cell?_setCell_other (h := fun h => by simp only [Addr.mk.injEq, true_and, and_true] at h; omega)]
      exact x31
    have S2 := S1.store 31 (by rw [List.length_set, LH.out]; decide) (xs.getD 31 0 % 64 + 64)
    have N2 : Below w.heap.size w ((w1.setCell ⟨g1, off, none⟩ (.int .u8 (xs.getD 0 0 - xs.getD 0 0 % 8))).setCell ⟨g1, off + 31, none⟩ (.int .u8 (xs.getD 31 0 % 64 + 64))) := N1.setCell r1 _
    have PK : Hid (Own ((w1.setCell ⟨g1, off, none⟩ (.int .u8 (xs.getD 0 0 - xs.getD 0 0 % 8))).setCell ⟨g1, off + 31, none⟩ (.int .u8 (xs.getD 31 0 % 64 + 64))).drew g1 (some ⟨g1, off, none⟩) .u8 (clampA xs)) := by
      show Own _ _ _ _ _
      rw [KH.out]
      exact S2
    have KL : Hid ((clampA xs).length = 32) := by show _ = _; rw [KH.out, List.length_set, List.length_set, LH.out]
    clear oc o1 S1 S2 KH LH N1 hr hb x31
    generalize xs.getD 0 0 = y0 at *
    generalize xs.getD 31 0 = y31 at *
    go_wp2
    go_region
    go_wp2
    go_ret
    exact ⟨⟨_, c1, g1, by rw [KL.out]; rfl, PK.out, by simp, by rw [KL.out]; exact q1, r1⟩, N2.drew⟩
  · have t : ((xs.length : Int) != 32) = true := by simp; omega
    have hal : Below w.heap.size w (w.alloc (.cells #[] 5)) := (Below.refl _ _).alloc (Nat.le_refl _) _
    have K : Hid (clampA xs = []) := by show _ = _; unfold clampA; rw [if_neg hl]
    clear hl
    go_enter Tryd.func25, Tryd.ntmps25
    go_wp2
    go_ret
    rw [K.out]
    exact ⟨newRow_lit _ _, hal⟩
end Go.Proofs.YtblkjpmkikhpbaaDoor
