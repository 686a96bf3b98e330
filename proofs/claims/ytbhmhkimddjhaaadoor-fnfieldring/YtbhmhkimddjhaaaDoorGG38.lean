import Derived.Test.YtbhmhkimddjhaaaDoorGG37
import Derived.Test.YtbhmhkimddjhaaaDoorGG32
import Derived.Deep.RegionWith
import Derived.Deep.DeepCutAuto
import Derived.Test.YtbhmhkimddjhaaaDoorGG20
import Derived.Test.YtbhmhkimddjhaaaDoorGG12
import Derived.Test.YtbhmhkimddjhaaaDoorGG6
/-
  What FieldReduce wants: two elements laid into variables in whatever order; sixty-four bytes as two halves.
-/
namespace Go.Proofs.YtbhmhkimddjhaaaDoor
set_option maxRecDepth 100000
open Go.RowKit

/-- What both answer. -/
def fred (xs : List Int) : List Int := if 1 ≤ xs.length ∧ xs.length ≤ 64 then fill (byt (num xs % PP)) 32 else []
theorem fred_len (xs : List Int) : (fred xs).length ≤ 32 := by
  unfold fred
  split
  · rw [fill_len]; omega
  · simp
/-- Bytes, zeros behind them. -/
def padn (xs : List Int) : List Int := xs ++ (List.replicate 64 0).drop xs.length
/-- Five zeros, in a new block. -/
abbrev z5 (W : World) : World := W.alloc (.cells #[.int .u64 0, .int .u64 0, .int .u64 0, .int .u64 0, .int .u64 0] 76)
theorem bl1 (W : World) : Below W.heap.size W (z5 W) := (Below.refl _ _).alloc (Nat.le_refl _) _
theorem bl2 (W : World) : Below W.heap.size W (z5 (z5 W)) := nxt (bl1 W) (bl1 _)
theorem zb1 (W : World) : Blk (z5 W) W.heap.size .u64 [0, 0, 0, 0, 0] := blk_box W .u64 76 0 0 0 0 0
theorem zb2a (W : World) : Blk (z5 (z5 W)) W.heap.size .u64 [0, 0, 0, 0, 0] := (zb1 W).up (bl1 _)
theorem zb2b (W : World) : Blk (z5 (z5 W)) (W.heap.size + 1) .u64 [0, 0, 0, 0, 0] := by
  have h := zb1 (z5 W)
  have e : (z5 W).heap.size = W.heap.size + 1 := by simp [z5]
  rw [e] at h
  exact h

abbrev set5 (W : World) (p : Nat) (u : Nat → Int) : World := ((((W.setCell ⟨p, 0, none⟩ (.int .u64 (u 0))).setCell ⟨p, 1, none⟩ (.int .u64 (u 1))).setCell ⟨p, 2, none⟩ (.int .u64 (u 2))).setCell ⟨p, 3, none⟩ (.int .u64 (u 3))).setCell ⟨p, 4, none⟩ (.int .u64 (u 4))
abbrev c5 (u : Nat → Int) : Obj := .cells #[.int .u64 (u 0), .int .u64 (u 1), .int .u64 (u 2), .int .u64 (u 3), .int .u64 (u 4)] 76
abbrev l5 (u : Nat → Int) : List Int := [u 0, u 1, u 2, u 3, u 4]
theorem set5_same {W : World} {p : Nat} {u : Nat → Int} (h : Blk W p .u64 [0, 0, 0, 0, 0]) : Blk (set5 W p u) p .u64 (l5 u) :=
  ((((h.store 0 _).store 1 _).store 2 _).store 3 _).store 4 _
theorem set5_keep {W : World} {p q : Nat} {k : IntKind} {ys : List Int} {u : Nat → Int} (h : Blk W q k ys) (hne : q ≠ p) : Blk (set5 W p u) q k ys :=
  ((((h.keep hne).keep hne).keep hne).keep hne).keep hne
theorem set5_size (W : World) (p : Nat) (u : Nat → Int) : (set5 W p u).heap.size = W.heap.size := by simp [World.setCell]
/-- Two elements in blocks of their own, in a world that KP. -/
def TwoEl (KP : World → Prop) (el eh : Nat → Int) (v v' : Value) (wc : World) : Prop :=
  ∃ p q, v = .pointer (some ⟨p, 0, none⟩) ∧ v' = .pointer (some ⟨q, 0, none⟩) ∧ Blk wc p .u64 (l5 el) ∧ Blk wc q .u64 (l5 eh) ∧ KP wc
/-- What is asked of KP. -/
structure Kept (N : Nat) (KP : World → Prop) : Prop where
  up : ∀ W W', KP W → Below W.heap.size W W' → KP W'
  set : ∀ W p i v, KP W → N < p → KP (W.setCell ⟨p, i, none⟩ v)
theorem Kept.set5 {N : Nat} {KP : World → Prop} (K : Kept N KP) {W : World} {p : Nat} {u : Nat → Int} (h : KP W) (hp : N < p) : KP (set5 W p u) :=
  K.set _ _ _ _ (K.set _ _ _ _ (K.set _ _ _ _ (K.set _ _ _ _ (K.set _ _ _ _ h hp) hp) hp) hp) hp
theorem blk_c5 (W : World) (u : Nat → Int) : Blk (W.alloc (c5 u)) W.heap.size .u64 (l5 u) := blk_box W .u64 76 (u 0) (u 1) (u 2) (u 3) (u 4)
theorem bl_c5 (W : World) (u : Nat → Int) : Below W.heap.size W (W.alloc (c5 u)) := (Below.refl _ _).alloc (Nat.le_refl _) _
theorem fin1 {N : Nat} {KP : World → Prop} (K : Kept N KP) {W : World} (h : KP W) (el eh : Nat → Int) : TwoEl KP el eh (.pointer (some ⟨W.heap.size, 0, none⟩)) (.pointer (some ⟨W.heap.size + 1, 0, none⟩)) ((W.alloc (c5 el)).alloc (c5 eh)) := by
  have e : (W.alloc (c5 el)).heap.size = W.heap.size + 1 := by simp
  have b := blk_c5 (W.alloc (c5 el)) eh
  rw [e] at b
  exact ⟨_, _, rfl, rfl, (blk_c5 W el).up (bl_c5 _ _), b, K.up _ _ (K.up _ _ h (bl_c5 _ _)) (bl_c5 _ _)⟩
theorem fin1' {N : Nat} {KP : World → Prop} (K : Kept N KP) {W : World} (h : KP W) (el eh : Nat → Int) : TwoEl KP el eh (.pointer (some ⟨W.heap.size + 1, 0, none⟩)) (.pointer (some ⟨W.heap.size, 0, none⟩)) ((W.alloc (c5 eh)).alloc (c5 el)) := by
  have e : (W.alloc (c5 eh)).heap.size = W.heap.size + 1 := by simp
  have b := blk_c5 (W.alloc (c5 eh)) el
  rw [e] at b
  exact ⟨_, _, rfl, rfl, b, (blk_c5 W eh).up (bl_c5 _ _), K.up _ _ (K.up _ _ h (bl_c5 _ _)) (bl_c5 _ _)⟩
theorem fin2r {N : Nat} {KP : World → Prop} (K : Kept N KP) {W : World} (h : KP W) (el eh : Nat → Int) {p : Nat} (b : Blk W p .u64 [0, 0, 0, 0, 0]) (hp : N < p) : TwoEl KP el eh (.pointer (some ⟨p, 0, none⟩)) (.pointer (some ⟨W.heap.size, 0, none⟩)) ((set5 W p el).alloc (c5 eh)) := by
  have c := blk_c5 (set5 W p el) eh
  rw [set5_size] at c
  exact ⟨_, _, rfl, rfl, (set5_same b).up (bl_c5 _ _), c, K.up _ _ (K.set5 h hp) (bl_c5 _ _)⟩
theorem fin2r' {N : Nat} {KP : World → Prop} (K : Kept N KP) {W : World} (h : KP W) (el eh : Nat → Int) {p : Nat} (b : Blk W p .u64 [0, 0, 0, 0, 0]) (hp : N < p) : TwoEl KP el eh (.pointer (some ⟨W.heap.size, 0, none⟩)) (.pointer (some ⟨p, 0, none⟩)) ((set5 W p eh).alloc (c5 el)) := by
  have c := blk_c5 (set5 W p eh) el
  rw [set5_size] at c
  exact ⟨_, _, rfl, rfl, c, (set5_same b).up (bl_c5 _ _), K.up _ _ (K.set5 h hp) (bl_c5 _ _)⟩
theorem fin3 {N : Nat} {KP : World → Prop} (K : Kept N KP) {W : World} (h : KP W) (el eh : Nat → Int) {p q : Nat} (b : Blk W p .u64 [0, 0, 0, 0, 0]) (c : Blk W q .u64 [0, 0, 0, 0, 0]) (hne : p ≠ q) (hp : N < p) (hq : N < q) :
    TwoEl KP el eh (.pointer (some ⟨p, 0, none⟩)) (.pointer (some ⟨q, 0, none⟩)) (set5 (set5 W p el) q eh) :=
  ⟨_, _, rfl, rfl, set5_keep (set5_same b) hne, set5_same (set5_keep c hne.symm), K.set5 (K.set5 h hp) hq⟩

theorem lsum_split (a : Nat → Int) (m : Nat) : ∀ n, lsum a (m + n) = lsum a m + 256 ^ m * lsum (fun j => a (m + j)) n
  | 0 => by simp [lsum]
  | n + 1 => by
    rw [← Nat.add_assoc, lsum, lsum_split a m n, lsum, Int.pow_add, Int.mul_add, Int.mul_left_comm, Int.add_assoc]
theorem lsum_congrR {a b : Nat → Int} : ∀ n, (∀ j, j < n → a j = b j) → lsum a n = lsum b n
  | 0, _ => rfl
  | n + 1, h => by rw [lsum, lsum, lsum_congrR n (fun j hj => h j (by omega)), h n (by omega)]
theorem lsum_zeros {a : Nat → Int} : ∀ n, (∀ j, j < n → a j = 0) → lsum a n = 0
  | 0, _ => rfl
  | n + 1, h => by rw [lsum, lsum_zeros n (fun j hj => h j (by omega)), h n (by omega)]; simp
theorem padn_len {xs : List Int} (h : xs.length ≤ 64) : (padn xs).length = 64 := by simp [padn]; omega
theorem padn_at (xs : List Int) (j : Nat) : (padn xs).getD j 0 = xs.getD j 0 := by
  unfold padn
  by_cases h : j < xs.length
  · simp [List.getElem?_append, h]
  · rw [List.getD_eq_getElem?_getD, List.getElem?_append, if_neg h, List.getD_eq_getElem?_getD, List.getElem?_eq_none (l := xs) (by omega), List.getElem?_drop]
    by_cases k : xs.length + (j - xs.length) < 64
    · rw [List.getElem?_replicate, if_pos k]; rfl
    · rw [List.getElem?_eq_none (by simp; omega)]
theorem byt_take {xs : List Int} (h : Byt xs) (n : Nat) : Byt (xs.take n) := fun i => by
  by_cases e : i < n
  · have := h i
    simpa [List.getElem?_take, e] using this
  · simp [List.getElem?_take, e]
theorem padn_byt {xs : List Int} (h : Byt xs) : Byt (padn xs) := fun j => by rw [padn_at]; exact h j
theorem padn_num {xs : List Int} (h : xs.length ≤ 64) : num xs = num ((padn xs).take 32) + 115792089237316195423570985008687907853269984665640564039457584007913129639936 * num ((padn xs).drop 32) := by
  have l1 : ((padn xs).take 32).length = 32 := by rw [List.length_take, padn_len h]; rfl
  have l2 : ((padn xs).drop 32).length = 32 := by rw [List.length_drop, padn_len h]
  have e1 : num ((padn xs).take 32) = lsum (fun j => xs.getD j 0) 32 := by
    unfold num
    rw [l1]
    refine lsum_congrR _ (fun j hj => ?_)
    show ((padn xs).take 32).getD j 0 = xs.getD j 0
    rw [← padn_at xs j]
    simp [hj]
  have e2 : num ((padn xs).drop 32) = lsum (fun j => xs.getD (32 + j) 0) 32 := by
    unfold num
    rw [l2]
    refine lsum_congrR _ (fun j hj => ?_)
    show ((padn xs).drop 32).getD j 0 = xs.getD (32 + j) 0
    rw [← padn_at xs (32 + j)]
    simp [List.getElem?_drop]
  have e3 : lsum (fun j => xs.getD j 0) 64 = num xs := by
    have := lsum_split (fun j => xs.getD j 0) xs.length (64 - xs.length)
    rw [show xs.length + (64 - xs.length) = 64 by omega, lsum_zeros (a := fun j => xs.getD (xs.length + j) 0) _ (fun j _ => by simp)] at this
    rw [this]; unfold num; omega
  have e4 := lsum_split (fun j => xs.getD j 0) 32 32
  have e5 : (256 : Int) ^ 32 = 115792089237316195423570985008687907853269984665640564039457584007913129639936 := by decide
  rw [e5, ← e2, ← e1] at e4
  rw [← e3]
  exact e4
/-- 38, as limbs. -/
def c38 (j : Nat) : Int := if j = 0 then 38 else 0
theorem c38_lm : Lm c38 := fun j _ => by unfold c38; split <;> omega
theorem c38_sv : sv c38 5 = 38 := by simp [sv, c38]

end Go.Proofs.YtbhmhkimddjhaaaDoor
/-
  FieldMul, the program's and the model's.
-/
namespace Go.Proofs.YtbhmhkimddjhaaaDoor
set_option maxRecDepth 100000
open Go.RowKit

/-- What both answer. -/
def fmul (xs ys : List Int) : List Int := if xs.length = 32 ∧ ys.length = 32 then fill (byt ((num xs * num ys) % PP)) 32 else []
theorem fmul_len (xs ys : List Int) : (fmul xs ys).length ≤ 32 := by
  unfold fmul
  split
  · rw [fill_len]; omega
  · simp

set_option maxHeartbeats 2000000 in
theorem implFieldMul_any (w : World) (g g' : Nat) (a b : Option Addr) (ca cb : Nat) (xs ys : List Int) (ha : Rd w g a .u8 xs) (hb : Rd w g' b .u8 ys) (hx : Byt xs) (hy : Byt ys) :
    Calls Tryd.prog 38 #[.slice a xs.length ca, .slice b ys.length cb] w fun e w' => NewRow w.heap.size w' e .u8 (fmul xs ys) ∧ Below w.heap.size w w' := by
  have T1 := isFieldSize_any w a ca xs.length
  by_cases h1 : xs.length = 32
  · have T2 := fun w' => isFieldSize_any w' b cb ys.length
    rw [decide_eq_true h1] at T1
    by_cases h2 : ys.length = 32
    · simp only [decide_eq_true h2] at T2
      have E1 := elt_ok hx h1
      have E2 := elt_ok hy h2
      have R1 := fun w' n => readElement_any w' g a ca xs (ha.up n) hx h1
      have R2 := fun w' n => readElement_any w' g' b cb ys (hb.up n) hy h2
      have K : Hid (fmul xs ys = fill (byt ((num xs * num ys) % PP)) 32) := by show _ = _; simp [fmul, h1, h2]
      rw [h1] at T1 ⊢
      simp only [h2] at T2 ⊢
      clear h1 h2 ha hb
      go_enter Tryd.func38, Tryd.ntmps38
      go_wp2_with fail
      refine T1.mono ?_
      rintro e w0 ⟨rfl, rfl⟩
      go_wp2_with fail
      refine (T2 w0).mono ?_
      rintro e w0' ⟨rfl, rfl⟩
      clear T1 T2
      go_wp2_with fail
      refine (R1 w0' (Below.refl _ _)).mono ?_
      rintro e w1 ⟨rfl, n1⟩
      go_wp2_with fail
      refine (R2 w1 n1).mono ?_
      rintro e w2 ⟨rfl, n2⟩
      have N2 := nxt n1 n2
      clear R1 R2
      go_wp2_with fail
      refine (mulE_any w2 (elt xs) (elt ys) E1.1 E2.1).mono ?_
      rintro e w3 ⟨t, rfl, L, V, n3⟩
      have N3 := nxt N2 n3
      go_wp2_with fail
      refine (bytes_any w3 t L).mono ?_
      rintro e w4 ⟨⟨a4, c4, g4, rfl, o4, p4, q4, r4⟩, n4⟩
      have N4 := nxt N3 n4
      have z := N3.size
      have K' : Hid (fmul xs ys = fill (byt (sv t 5)) 32) := by show _ = _; rw [K.out, V, E1.2, E2.2, ← Int.mul_emod]
      clear E1 E2 V
      go_wp2
      go_ret
      refine ⟨?_, N4⟩
      rw [K'.out]
      exact ⟨a4, c4, g4, rfl, o4, p4, q4, by omega⟩
    · simp only [decide_eq_false h2] at T2
      have K : Hid (fmul xs ys = []) := by show _ = _; simp [fmul, h2]
      clear h1 h2 ha hb
      go_enter Tryd.func38, Tryd.ntmps38
      go_wp2_with fail
      refine T1.mono ?_
      rintro e w0 ⟨rfl, rfl⟩
      go_wp2_with fail
      refine (T2 w0).mono ?_
      rintro e w0' ⟨rfl, rfl⟩
      go_wp2
      go_ret
      rw [K.out]
      exact ⟨newRow_nil _ _, Below.refl _ _⟩
  · rw [decide_eq_false h1] at T1
    have K : Hid (fmul xs ys = []) := by show _ = _; simp [fmul, h1]
    clear h1 ha hb
    go_enter Tryd.func38, Tryd.ntmps38
    go_wp2_with fail
    refine T1.mono ?_
    rintro e w0 ⟨rfl, rfl⟩
    go_wp2
    go_ret
    rw [K.out]
    exact ⟨newRow_nil _ _, Below.refl _ _⟩

set_option maxHeartbeats 2000000 in
theorem specFieldMul_any (w : World) (g g' : Nat) (a b : Option Addr) (ca cb : Nat) (xs ys : List Int) (ha : Rd w g a .u8 xs) (hb : Rd w g' b .u8 ys) (hx : Byt xs) (hy : Byt ys) :
    Calls Tryd.prog 40 #[.slice a xs.length ca, .slice b ys.length cb] w fun e w' => NewRow w.heap.size w' e .u8 (fmul xs ys) ∧ Below w.heap.size w w' := by
  have T := l2Two_any w a b ca cb xs.length ys.length
  by_cases h : xs.length = 32 ∧ ys.length = 32
  · have R1 := fun w' n => l2Num_any w' g a ca xs (ha.up n) hx (by omega)
    have R2 := fun w' n => l2Num_any w' g' b cb ys (hb.up n) hy (by omega)
    have K : Hid (fmul xs ys = fill (byt ((num xs * num ys) % PP)) 32) := by show _ = _; simp [fmul, h]
    rw [decide_eq_true h] at T
    have H1 := hide h.1
    have H2 := hide h.2
    clear h ha hb
    go_enter Tryd.func40, Tryd.ntmps40
    go_wp2_with fail
    refine T.mono ?_
    rintro e w0 ⟨rfl, rfl⟩
    clear T
    go_wp2_with fail
    refine (R1 w0 (Below.refl _ _)).mono ?_
    rintro e w1 ⟨y1, C1, l1, ⟨a1, c1, g1, rfl, o1, p1, q1, r1⟩, n1⟩
    go_wp2_with fail
    refine (R2 w1 n1).mono ?_
    rintro e w2 ⟨y2, C2, l2, ⟨a2, c2, g2, rfl, o2, p2, q2, r2⟩, n2⟩
    have N2 := nxt n1 n2
    have L1 : y1.length ≤ 32 := by have := H1.out; omega
    have L2 : y2.length ≤ 32 := by have := H2.out; omega
    clear R1 R2
    go_wp2_with fail
    refine (l1Mul_any w2 g1 g2 a1 a2 c1 c2 y1 y2 (o1.up n2).rd o2.rd C1.1 C2.1 (by omega) (by omega)).mono ?_
    rintro e w3 ⟨y3, C3, ⟨a3, c3, g3, rfl, o3, p3, q3, r3⟩, n3⟩
    have N3 := nxt N2 n3
    have L3 : y3.length ≤ 4096 := by
      have := C3.len (n := 64) (by have h1 := bval_lt32 C1.1 L1; have h2 := bval_lt32 C2.1 L2; exact mul_lt64 h1 h2 (bval_nonneg C1.1) (bval_nonneg C2.1))
      omega
    have K' : Hid (fmul xs ys = fill (byt (bval y3 % PP)) 32) := by show _ = _; rw [K.out, C3.2.1, C1.2.1, C2.2.1]
    go_wp2_with fail
    refine (l2Tell_any w3 g3 a3 c3 y3 o3.rd C3.1 L3).mono ?_
    rintro e w4 ⟨⟨a4, c4, g4, rfl, o4, p4, q4, r4⟩, n4⟩
    have N4 := nxt N3 n4
    have z := N3.size
    clear C1 C2 C3
    go_wp2
    go_ret
    refine ⟨?_, N4⟩
    rw [K'.out]
    exact ⟨a4, c4, g4, rfl, o4, p4, q4, by omega⟩
  · have K : Hid (fmul xs ys = []) := by show _ = _; simp [fmul, h]
    have hal : Below w.heap.size w (w.alloc (.cells #[] 5)) := (Below.refl _ _).alloc (Nat.le_refl _) _
    rw [decide_eq_false h] at T
    clear h ha hb
    go_enter Tryd.func40, Tryd.ntmps40
    go_wp2_with fail
    refine T.mono ?_
    rintro e w0 ⟨rfl, rfl⟩
    go_wp2
    go_ret
    rw [K.out]
    exact ⟨newRow_lit _ _, hal⟩
end Go.Proofs.YtbhmhkimddjhaaaDoor
/-
  FieldAdd, the program's and the model's.
-/
namespace Go.Proofs.YtbhmhkimddjhaaaDoor
set_option maxRecDepth 100000
open Go.RowKit

/-- What both answer. -/
def fadd (xs ys : List Int) : List Int := if xs.length = 32 ∧ ys.length = 32 then fill (byt ((num xs + num ys) % PP)) 32 else []
theorem fadd_len (xs ys : List Int) : (fadd xs ys).length ≤ 32 := by
  unfold fadd
  split
  · rw [fill_len]; omega
  · simp

set_option maxHeartbeats 2000000 in
theorem implFieldAdd_any (w : World) (g g' : Nat) (a b : Option Addr) (ca cb : Nat) (xs ys : List Int) (ha : Rd w g a .u8 xs) (hb : Rd w g' b .u8 ys) (hx : Byt xs) (hy : Byt ys) :
    Calls Tryd.prog 42 #[.slice a xs.length ca, .slice b ys.length cb] w fun e w' => NewRow w.heap.size w' e .u8 (fadd xs ys) ∧ Below w.heap.size w w' := by
  have T1 := isFieldSize_any w a ca xs.length
  by_cases h1 : xs.length = 32
  · have T2 := fun w' => isFieldSize_any w' b cb ys.length
    rw [decide_eq_true h1] at T1
    by_cases h2 : ys.length = 32
    · simp only [decide_eq_true h2] at T2
      have E1 := elt_ok hx h1
      have E2 := elt_ok hy h2
      have R1 := fun w' n => readElement_any w' g a ca xs (ha.up n) hx h1
      have R2 := fun w' n => readElement_any w' g' b cb ys (hb.up n) hy h2
      have K : Hid (fadd xs ys = fill (byt ((num xs + num ys) % PP)) 32) := by show _ = _; simp [fadd, h1, h2]
      rw [h1] at T1 ⊢
      simp only [h2] at T2 ⊢
      clear h1 h2 ha hb
      go_enter Tryd.func42, Tryd.ntmps42
      go_wp2_with fail
      refine T1.mono ?_
      rintro e w0 ⟨rfl, rfl⟩
      go_wp2_with fail
      refine (T2 w0).mono ?_
      rintro e w0' ⟨rfl, rfl⟩
      clear T1 T2
      go_wp2_with fail
      refine (R1 w0' (Below.refl _ _)).mono ?_
      rintro e w1 ⟨rfl, n1⟩
      go_wp2_with fail
      refine (R2 w1 n1).mono ?_
      rintro e w2 ⟨rfl, n2⟩
      have N2 := nxt n1 n2
      clear R1 R2
      go_wp2_with fail
      refine (addE_any w2 (elt xs) (elt ys) E1.1 E2.1).mono ?_
      rintro e w3 ⟨t, rfl, L, V, n3⟩
      have N3 := nxt N2 n3
      go_wp2_with fail
      refine (bytes_any w3 t L).mono ?_
      rintro e w4 ⟨⟨a4, c4, g4, rfl, o4, p4, q4, r4⟩, n4⟩
      have N4 := nxt N3 n4
      have z := N3.size
      have K' : Hid (fadd xs ys = fill (byt (sv t 5)) 32) := by show _ = _; rw [K.out, V, E1.2, E2.2, ← Int.add_emod]
      clear E1 E2 V
      go_wp2
      go_ret
      refine ⟨?_, N4⟩
      rw [K'.out]
      exact ⟨a4, c4, g4, rfl, o4, p4, q4, by omega⟩
    · simp only [decide_eq_false h2] at T2
      have K : Hid (fadd xs ys = []) := by show _ = _; simp [fadd, h2]
      clear h1 h2 ha hb
      go_enter Tryd.func42, Tryd.ntmps42
      go_wp2_with fail
      refine T1.mono ?_
      rintro e w0 ⟨rfl, rfl⟩
      go_wp2_with fail
      refine (T2 w0).mono ?_
      rintro e w0' ⟨rfl, rfl⟩
      go_wp2
      go_ret
      rw [K.out]
      exact ⟨newRow_nil _ _, Below.refl _ _⟩
  · rw [decide_eq_false h1] at T1
    have K : Hid (fadd xs ys = []) := by show _ = _; simp [fadd, h1]
    clear h1 ha hb
    go_enter Tryd.func42, Tryd.ntmps42
    go_wp2_with fail
    refine T1.mono ?_
    rintro e w0 ⟨rfl, rfl⟩
    go_wp2
    go_ret
    rw [K.out]
    exact ⟨newRow_nil _ _, Below.refl _ _⟩

set_option maxHeartbeats 2000000 in
theorem specFieldAdd_any (w : World) (g g' : Nat) (a b : Option Addr) (ca cb : Nat) (xs ys : List Int) (ha : Rd w g a .u8 xs) (hb : Rd w g' b .u8 ys) (hx : Byt xs) (hy : Byt ys) :
    Calls Tryd.prog 46 #[.slice a xs.length ca, .slice b ys.length cb] w fun e w' => NewRow w.heap.size w' e .u8 (fadd xs ys) ∧ Below w.heap.size w w' := by
  have T := l2Two_any w a b ca cb xs.length ys.length
  by_cases h : xs.length = 32 ∧ ys.length = 32
  · have R1 := fun w' n => l2Num_any w' g a ca xs (ha.up n) hx (by omega)
    have R2 := fun w' n => l2Num_any w' g' b cb ys (hb.up n) hy (by omega)
    have K : Hid (fadd xs ys = fill (byt ((num xs + num ys) % PP)) 32) := by show _ = _; simp [fadd, h]
    rw [decide_eq_true h] at T
    have H1 := hide h.1
    have H2 := hide h.2
    clear h ha hb
    go_enter Tryd.func46, Tryd.ntmps46
    go_wp2_with fail
    refine T.mono ?_
    rintro e w0 ⟨rfl, rfl⟩
    clear T
    go_wp2_with fail
    refine (R1 w0 (Below.refl _ _)).mono ?_
    rintro e w1 ⟨y1, C1, l1, ⟨a1, c1, g1, rfl, o1, p1, q1, r1⟩, n1⟩
    go_wp2_with fail
    refine (R2 w1 n1).mono ?_
    rintro e w2 ⟨y2, C2, l2, ⟨a2, c2, g2, rfl, o2, p2, q2, r2⟩, n2⟩
    have N2 := nxt n1 n2
    have L1 : y1.length ≤ 32 := by have := H1.out; omega
    have L2 : y2.length ≤ 32 := by have := H2.out; omega
    clear R1 R2
    go_wp2_with fail
    refine (l1Add_any w2 g1 g2 a1 a2 c1 c2 y1 y2 (o1.up n2).rd o2.rd C1.1 C2.1 (by omega) (by omega)).mono ?_
    rintro e w3 ⟨y3, C3, ⟨a3, c3, g3, rfl, o3, p3, q3, r3⟩, n3⟩
    have N3 := nxt N2 n3
    have L3 : y3.length ≤ 4096 := by
      have := C3.len (n := 64) (add_lt64 (bval_lt32 C1.1 L1) (bval_lt32 C2.1 L2))
      omega
    have K' : Hid (fadd xs ys = fill (byt (bval y3 % PP)) 32) := by show _ = _; rw [K.out, C3.2.1, C1.2.1, C2.2.1]
    go_wp2_with fail
    refine (l2Tell_any w3 g3 a3 c3 y3 o3.rd C3.1 L3).mono ?_
    rintro e w4 ⟨⟨a4, c4, g4, rfl, o4, p4, q4, r4⟩, n4⟩
    have N4 := nxt N3 n4
    have z := N3.size
    clear C1 C2 C3
    go_wp2
    go_ret
    refine ⟨?_, N4⟩
    rw [K'.out]
    exact ⟨a4, c4, g4, rfl, o4, p4, q4, by omega⟩
  · have K : Hid (fadd xs ys = []) := by show _ = _; simp [fadd, h]
    have hal : Below w.heap.size w (w.alloc (.cells #[] 5)) := (Below.refl _ _).alloc (Nat.le_refl _) _
    rw [decide_eq_false h] at T
    clear h ha hb
    go_enter Tryd.func46, Tryd.ntmps46
    go_wp2_with fail
    refine T.mono ?_
    rintro e w0 ⟨rfl, rfl⟩
    go_wp2
    go_ret
    rw [K.out]
    exact ⟨newRow_lit _ _, hal⟩
end Go.Proofs.YtbhmhkimddjhaaaDoor
