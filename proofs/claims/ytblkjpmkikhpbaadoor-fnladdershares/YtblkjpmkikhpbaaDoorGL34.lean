import Derived.Test.YtblkjpmkikhpbaaDoorGL33
import Derived.Deep.RegionHeld3
import Derived.Laws.Bits64
import Derived.Laws.Bits64b

/-
  The program's exchange of two elements by a mask, and of two pairs.
-/
namespace Go.Proofs.YtblkjpmkikhpbaaDoor
set_option maxRecDepth 100000
open Go Go.RowKit

/-- Block q holds ten words that may be written. -/
def Tens (W : World) (q : Nat) (f : Nat → Int) : Prop := ∀ j, j < 10 → W.cell? ⟨q, j, none⟩ = some (.int .u64 (f j)) ∧ W.frozen? ⟨q, j, none⟩ = false
/-- Words o .. o + k - 1 are g's if b, the others f's. -/
def mixT (b : Bool) (o k : Nat) (f g : Nat → Int) (j : Nat) : Int := if b = true ∧ o ≤ j ∧ j < o + k then g j else f j
theorem mixT_zero (b : Bool) (o : Nat) (f g : Nat → Int) : mixT b o 0 f g = f := by
  funext j
  unfold mixT
  rw [if_neg (by omega)]
theorem mixT_at (b : Bool) (o k : Nat) (f g : Nat → Int) : mixT b o k f g (o + k) = f (o + k) := by
  unfold mixT
  rw [if_neg (by omega)]
theorem Tens.lt {W : World} {q : Nat} {f : Nat → Int} (h : Tens W q f) : q < W.heap.size := block_lt_of_cell (h 0 (by omega)).1
theorem Tens.of_block {W W' : World} {q : Nat} {f : Nat → Int} (h : Tens W q f) (hb : W'.heap[q]? = W.heap[q]?) : Tens W' q f := fun j hj => ⟨(World.cell?_of_block (a := ⟨q, j, none⟩) hb).trans (h j hj).1, (World.frozen?_of_block (a := ⟨q, j, none⟩) hb).trans (h j hj).2⟩
theorem Tens.store {W : World} {q : Nat} {b : Bool} {o k : Nat} {f g : Nat → Int} (h : Tens W q (mixT b o k f g)) (z : Int) (hz : z = if b = true then g (o + k) else f (o + k)) : Tens (W.setCell ⟨q, o + k, none⟩ (.int .u64 z)) q (mixT b o (k + 1) f g) := by
  intro j hj
  refine ⟨?_, by rw [World.frozen?_setCell]; exact (h j hj).2⟩
  by_cases e : j = o + k
  · subst e
    rw [World.cell?_setCell_same _ _ _ (h (o + k) hj).1, hz]
    unfold mixT
    by_cases hb : b = true
    · rw [if_pos hb, if_pos ⟨hb, by omega, by omega⟩]
    · rw [if_neg hb, if_neg (fun h => hb h.1)]
  · have hne : (⟨q, o + k, none⟩ : Addr) ≠ ⟨q, j, none⟩ := fun h => e (by simp only [Addr.mk.injEq, true_and, and_true] at h; omega)
    rw [World.cell?_setCell_other (h := hne), (h j hj).1]
    unfold mixT
    congr 2
    by_cases c : b = true ∧ o ≤ j ∧ j < o + k
    · rw [if_pos c, if_pos ⟨c.1, c.2.1, by omega⟩]
    · rw [if_neg c, if_neg (fun h => c ⟨h.1, h.2.1, by omega⟩)]
/-- The mask. -/
def mask (b : Bool) : Int := if b = true then 18446744073709551615 else 0
def chg (b : Bool) (x y : Int) : Int := bits BinOp.and IntKind.u64 (bits BinOp.xor IntKind.u64 x y) (mask b)
theorem chg_ok (b : Bool) (x y : Int) (hx : 0 ≤ x ∧ x < 18446744073709551616) (hy : 0 ≤ y ∧ y < 18446744073709551616) :
    bits BinOp.xor IntKind.u64 x (chg b x y) = (if b = true then y else x) ∧ bits BinOp.xor IntKind.u64 y (chg b x y) = (if b = true then x else y) := by
  obtain ⟨m, rfl⟩ := Int.eq_ofNat_of_zero_le hx.1
  obtain ⟨n, rfl⟩ := Int.eq_ofNat_of_zero_le hy.1
  have hm : m < 18446744073709551616 := by omega
  have hn : n < 18446744073709551616 := by omega
  have hX : m ^^^ n < 18446744073709551616 := Nat.xor_lt_two_pow (n := 64) hm hn
  cases b
  · have e : chg false (m : Int) (n : Int) = ((0 : Nat) : Int) := by
      unfold chg mask
      rw [bits_xor_u64_nat m n hm hn, if_neg (by simp), show (0 : Int) = ((0 : Nat) : Int) from rfl, bits_and_u64_nat _ 0 hX (by omega), Nat.and_zero]
    rw [e, bits_xor_u64_nat m 0 hm (by omega), bits_xor_u64_nat n 0 hn (by omega), Nat.xor_zero, Nat.xor_zero]
    simp
  · have e : chg true (m : Int) (n : Int) = ((m ^^^ n : Nat) : Int) := by
      unfold chg mask
      rw [bits_xor_u64_nat m n hm hn, if_pos rfl, show (18446744073709551615 : Int) = ((18446744073709551615 : Nat) : Int) from rfl, bits_and_u64_nat _ _ hX (by omega)]
      congr 1
      rw [show (18446744073709551615 : Nat) = 2 ^ 64 - 1 from rfl, Nat.and_two_pow_sub_one_eq_mod, Nat.mod_eq_of_lt hX]
    rw [e, bits_xor_u64_nat m _ hm hX, bits_xor_u64_nat n _ hn hX]
    have e1 : m ^^^ (m ^^^ n) = n := by rw [← Nat.xor_assoc, Nat.xor_self, Nat.zero_xor]
    have e2 : n ^^^ (m ^^^ n) = m := by rw [Nat.xor_comm m n, ← Nat.xor_assoc, Nat.xor_self, Nat.zero_xor]
    rw [e1, e2]
    simp

set_option maxHeartbeats 4000000 in
theorem exchange5_any (w : World) (q1 q2 o : Nat) (b : Bool) (f g : Nat → Int) (ho : o = 0 ∨ o = 5) (hne : q1 ≠ q2) (h1 : Tens w q1 f) (h2 : Tens w q2 g) (hf : ∀ j, j < 10 → 0 ≤ f j ∧ f j < 18446744073709551616) (hg : ∀ j, j < 10 → 0 ≤ g j ∧ g j < 18446744073709551616) :
    Calls Tryd.prog 75 #[.pointer (some ⟨q1, o, none⟩), .pointer (some ⟨q2, o, none⟩), .int .u64 (mask b)] w fun r w' => r = .returned (.tuple #[]) ∧ Tens w' q1 (mixT b o 5 f g) ∧ Tens w' q2 (mixT b o 5 g f) ∧ But2 q1 q2 w w' ∧ w'.heap.size = w.heap.size := by
  go_enter Tryd.func75, Tryd.ntmps75
  go_wp2
  go_loopw [8] (fun i wr => ∃ k : Nat, k ≤ 5 ∧ i = .int .i64 k ∧ Tens wr q1 (mixT b o k f g) ∧ Tens wr q2 (mixT b o k g f) ∧ But2 q1 q2 w wr ∧ wr.heap.size = w.heap.size) (fun i _ => 5 - (intOf i).toNat)
  case atStart => exact ⟨0, by omega, rfl, by rw [mixT_zero]; exact h1, by rw [mixT_zero]; exact h2, ⟨fun _ _ _ _ => rfl, Nat.le_refl _, fun _ _ h _ _ _ => h⟩, rfl⟩
  case round =>
    clear h1 h2
    obtain ⟨k, hk, rfl, H1, H2, HB, HS⟩ := hrel
    by_cases hlt : k < 5
    · have k5 : (k : Int) < 5 := by omega
      have c1 := (H1 (o + k) (by omega)).1
      have c2 := (H2 (o + k) (by omega)).1
      have f1 := (H1 (o + k) (by omega)).2
      have f2 := (H2 (o + k) (by omega)).2
      rw [mixT_at] at c1 c2
      have X := chg_ok b (f (o + k)) (g (o + k)) (hf _ (by omega)) (hg _ (by omega))
      obtain ⟨z1, hz1⟩ : ∃ z, z = if b = true then g (o + k) else f (o + k) := ⟨_, rfl⟩
      obtain ⟨z2, hz2⟩ : ∃ z, z = if b = true then f (o + k) else g (o + k) := ⟨_, rfl⟩
      rw [← hz1, ← hz2] at X
      unfold chg at X
      obtain ⟨X1, X2⟩ := X
      have c2' : (wr.setCell ⟨q1, o + k, none⟩ (.int .u64 z1)).cell? ⟨q2, o + k, none⟩ = some (.int .u64 (g (o + k))) := (World.cell?_setCell_far wr ⟨q1, o + k, none⟩ ⟨q2, o + k, none⟩ _ hne).trans c2
      have PK : Hid (∀ n, Tens (((wr.drewN n).setCell ⟨q1, o + k, none⟩ (.int .u64 z1)).setCell ⟨q2, o + k, none⟩ (.int .u64 z2)).drew q1 (mixT b o (k + 1) f g) ∧ Tens (((wr.drewN n).setCell ⟨q1, o + k, none⟩ (.int .u64 z1)).setCell ⟨q2, o + k, none⟩ (.int .u64 z2)).drew q2 (mixT b o (k + 1) g f)
          ∧ But2 q1 q2 w (((wr.drewN n).setCell ⟨q1, o + k, none⟩ (.int .u64 z1)).setCell ⟨q2, o + k, none⟩ (.int .u64 z2)).drew ∧ (((wr.drewN n).setCell ⟨q1, o + k, none⟩ (.int .u64 z1)).setCell ⟨q2, o + k, none⟩ (.int .u64 z2)).drew.heap.size = w.heap.size) := by
        intro n
        have G1 : Tens (wr.drewN n) q1 (mixT b o k f g) := H1
        have G2 : Tens (wr.drewN n) q2 (mixT b o k g f) := H2
        have S1 := G1.store z1 hz1
        have S2 := (G2.of_block (W' := (wr.drewN n).setCell ⟨q1, o + k, none⟩ (.int .u64 z1)) (heap_setCell_other _ ⟨q1, o + k, none⟩ q2 _ (Ne.symm hne))).store z2 hz2
        replace S1 := S1.of_block (W' := ((wr.drewN n).setCell ⟨q1, o + k, none⟩ (.int .u64 z1)).setCell ⟨q2, o + k, none⟩ (.int .u64 z2)) (heap_setCell_other _ ⟨q2, o + k, none⟩ q1 _ hne)
        refine ⟨S1, S2, ⟨fun t t1 t2 ht => ?_, ?_, fun w1 B hb k1 k2 k3 => ?_⟩, ?_⟩
        · have e1 := heap_setCell_other ((wr.drewN n).setCell ⟨q1, o + k, none⟩ (.int .u64 z1)) ⟨q2, o + k, none⟩ t (.int .u64 z2) t2
          have e2 := heap_setCell_other (wr.drewN n) ⟨q1, o + k, none⟩ t (.int .u64 z1) t1
          exact e1.trans (e2.trans (HB.1 t t1 t2 ht))
        · have e1 : (((wr.drewN n).setCell ⟨q1, o + k, none⟩ (.int .u64 z1)).setCell ⟨q2, o + k, none⟩ (.int .u64 z2)).drew.heap.size = wr.heap.size := by
            show (((wr.drewN n).setCell ⟨q1, o + k, none⟩ (.int .u64 z1)).setCell ⟨q2, o + k, none⟩ (.int .u64 z2)).heap.size = wr.heap.size
            simp [World.setCell, World.drewN]
          rw [e1]
          exact HB.2.1
        · exact (((below_drewN (HB.2.2 w1 B hb k1 k2 k3) n).setCell k1 _).setCell k2 _).drew
        · show (((wr.drewN n).setCell ⟨q1, o + k, none⟩ (.int .u64 z1)).setCell ⟨q2, o + k, none⟩ (.int .u64 z2)).heap.size = w.heap.size
          rw [← HS]
          simp [World.setCell, World.drewN]
      clear H1 H2 HB HS hf hg hz1 hz2
      generalize f (o + k) = x at *
      generalize g (o + k) = y at *
      generalize mask b = m at *
      go_wp2
      go_quiet (fail)
      go_wp2
      go_region
      go_wp2
      go_region
      go_wp2
      obtain ⟨p1, p2, p3, p4⟩ := PK.out (nq + 1)
      exact ⟨⟨k + 1, by omega, by go_num, p1, p2, p3, p4⟩, by simp [intOf]; omega⟩
    · obtain rfl : k = 5 := by omega
      go_wp2
      go_end0
      exact ⟨rfl, H1, H2, HB, HS⟩

theorem Rat.tens {W : World} {q : Nat} {A B : Int} (h : Rat W q A B) : ∃ f : Nat → Int, Tens W q f ∧ (∀ j, j < 10 → 0 ≤ f j ∧ f j < 18446744073709551616) ∧ Is5 f A ∧ Is5 (fun j => f (5 + j)) B := by
  obtain ⟨e, f, r, t, ⟨he, hA⟩, hf, hB⟩ := h
  refine ⟨fun j => if j < 5 then e j else f (j - 5), fun j hj => ⟨?_, ?_⟩, fun j hj => ?_, ⟨fun j hj => ?_, ?_⟩, ⟨fun j hj => ?_, ?_⟩⟩
  · have q := r j (.int .u64 (if j < 5 then e j else f (j - 5))) (by
      obtain rfl | rfl | rfl | rfl | rfl | rfl | rfl | rfl | rfl | rfl : j = 0 ∨ j = 1 ∨ j = 2 ∨ j = 3 ∨ j = 4 ∨ j = 5 ∨ j = 6 ∨ j = 7 ∨ j = 8 ∨ j = 9 := by omega
      all_goals rfl)
    simpa using q
  · have q := (t j hj).2
    simpa using q
  · show 0 ≤ (if j < 5 then e j else f (j - 5)) ∧ (if j < 5 then e j else f (j - 5)) < 18446744073709551616
    by_cases c : j < 5
    · rw [if_pos c]
      have := he j c
      omega
    · rw [if_neg c]
      have := hf (j - 5) (by omega)
      omega
  · show 0 ≤ (if j < 5 then e j else f (j - 5)) ∧ (if j < 5 then e j else f (j - 5)) < 2251799813685248
    rw [if_pos hj]
    exact he j hj
  · rw [← hA]
    rfl
  · show 0 ≤ (if 5 + j < 5 then e (5 + j) else f (5 + j - 5)) ∧ (if 5 + j < 5 then e (5 + j) else f (5 + j - 5)) < 2251799813685248
    rw [if_neg (by omega), show 5 + j - 5 = j by omega]
    exact hf j hj
  · rw [← hB]
    rfl
theorem Tens.rat {W : World} {q : Nat} {f : Nat → Int} {A B : Int} (h : Tens W q f) (hA : Is5 f A) (hB : Is5 (fun j => f (5 + j)) B) : Rat W q A B := by
  refine ⟨f, fun j => f (5 + j), fun j v hv => ?_, fun j hj => ⟨?_, ?_⟩, hA, hB⟩
  · have hj : j < 10 := (List.getElem?_eq_some_iff.1 hv).1
    have q := (h j hj).1
    rw [Nat.zero_add]
    rw [q, ← hv]
    obtain rfl | rfl | rfl | rfl | rfl | rfl | rfl | rfl | rfl | rfl : j = 0 ∨ j = 1 ∨ j = 2 ∨ j = 3 ∨ j = 4 ∨ j = 5 ∨ j = 6 ∨ j = 7 ∨ j = 8 ∨ j = 9 := by omega
    all_goals rfl
  · rw [Nat.zero_add, (h j hj).1]
    rfl
  · rw [Nat.zero_add]
    exact (h j hj).2
/-- Both words exchanged. -/
theorem mix_all (b : Bool) (f g : Nat → Int) : ∀ j, j < 10 → mixT b 5 5 (mixT b 0 5 f g) (mixT b 0 5 g f) j = if b = true then g j else f j := by
  intro j hj
  unfold mixT
  cases b
  · simp
  · by_cases c : j < 5
    · rw [if_neg (by omega), if_pos ⟨rfl, by omega, by omega⟩, if_pos rfl]
    · rw [if_pos ⟨rfl, by omega, by omega⟩, if_neg (by omega), if_pos rfl]
theorem Tens.congr {W : World} {q : Nat} {f g : Nat → Int} (h : Tens W q f) (e : ∀ j, j < 10 → f j = g j) : Tens W q g := fun j hj => ⟨by rw [← e j hj]; exact (h j hj).1, (h j hj).2⟩
theorem mixT_bd (b : Bool) (o k : Nat) {f g : Nat → Int} (hf : ∀ j, j < 10 → 0 ≤ f j ∧ f j < 18446744073709551616) (hg : ∀ j, j < 10 → 0 ≤ g j ∧ g j < 18446744073709551616) : ∀ j, j < 10 → 0 ≤ mixT b o k f g j ∧ mixT b o k f g j < 18446744073709551616 := by
  intro j hj
  unfold mixT
  split
  · exact hg j hj
  · exact hf j hj
theorem But2.trans {q1 q2 : Nat} {a b c : World} (h : But2 q1 q2 a b) (k : But2 q1 q2 b c) : But2 q1 q2 a c :=
  ⟨fun g h1 h2 h3 => (k.1 g h1 h2 (Nat.lt_of_lt_of_le h3 h.2.1)).trans (h.1 g h1 h2 h3), Nat.le_trans h.2.1 k.2.1, fun w1 B hb k1 k2 k3 => k.2.2 w1 B (h.2.2 w1 B hb k1 k2 k3) k1 k2 (Nat.le_trans k3 h.2.1)⟩
theorem But2.drewN {q1 q2 : Nat} {a b : World} (h : But2 q1 q2 a b) (n : Nat) : But2 q1 q2 a (b.drewN n) := ⟨h.1, h.2.1, fun w1 B hb k1 k2 k3 => below_drewN (h.2.2 w1 B hb k1 k2 k3) n⟩

/-- One of two numbers. -/
def pick (b : Bool) (x y : Int) : Int := if b = true then x else y
set_option maxHeartbeats 4000000 in
theorem exchange_any (w : World) (q1 q2 : Nat) (b : Bool) (A B C D : Int) (hne : q1 ≠ q2) (h1 : Rat w q1 A B) (h2 : Rat w q2 C D) :
    Calls Tryd.prog 57 #[.pointer (some ⟨q1, 0, none⟩), .pointer (some ⟨q2, 0, none⟩), .int .u64 (pick b 1 0)] w fun r w' => r = .returned (.tuple #[]) ∧
      Rat w' q1 (pick b C A) (pick b D B) ∧ Rat w' q2 (pick b A C) (pick b B D) ∧ But2 q1 q2 w w' := by
  obtain ⟨f, T1, bf, fA, fB⟩ := h1.tens
  obtain ⟨g, T2, bg, gC, gD⟩ := h2.tens
  clear h1 h2
  have M : IntKind.u64.wrap (-(pick b 1 0)) = mask b := by cases b <;> decide
  generalize pick b 1 0 = bi at *
  go_enter Tryd.func57, Tryd.ntmps57
  go_wp2
  have EX := exchange5_any w.drew q1 q2 0 b f g (Or.inl rfl) hne T1 T2 bf bg
  go_region_with (refine EX.mono ?_; rintro r w1 ⟨rfl, S1, S2, SB, SZ⟩)
  clear EX
  have e1 := mixT_bd b 0 5 bf bg
  have e2 := mixT_bd b 0 5 bg bf
  have EX := exchange5_any w1.drew q1 q2 5 b _ _ (Or.inr rfl) hne S1 S2 e1 e2
  clear e1 e2
  go_wp2
  go_region_with (refine EX.mono ?_; rintro r w2 ⟨rfl, S3, S4, SB2, SZ2⟩)
  clear EX
  have BB : But2 q1 q2 w w2 := ⟨fun g g1 g2 g3 => (SB2.1 g g1 g2 (by show g < w1.heap.size; rw [SZ]; exact g3)).trans (SB.1 g g1 g2 g3), by rw [SZ2]; show w.heap.size ≤ w1.heap.size; rw [SZ]; exact Nat.le_refl _,
    fun w0 B' hb k1 k2 k3 => SB2.2.2 w0 B' (SB.2.2 w0 B' hb.drew k1 k2 k3).drew k1 k2 (by show B' ≤ w1.heap.size; rw [SZ]; exact k3)⟩
  have T3 := S3.congr (mix_all b f g)
  have T4 := S4.congr (mix_all b g f)
  have PK : Hid (Rat w2 q1 (pick b C A) (pick b D B) ∧ Rat w2 q2 (pick b A C) (pick b B D) ∧ But2 q1 q2 w w2) := by
    cases b
    · exact ⟨T3.rat fA fB, T4.rat gC gD, BB⟩
    · exact ⟨T3.rat gC gD, T4.rat fA fB, BB⟩
  clear T1 T2 T3 T4 S1 S2 S3 S4 SB SB2 SZ SZ2 BB fA fB gC gD bf bg
  go_wp2
  go_end0
  exact ⟨rfl, PK.out⟩
end Go.Proofs.YtblkjpmkikhpbaaDoor

/-
  The program's ladder: its bits, its rounds, its end.
-/
namespace Go.Proofs.YtblkjpmkikhpbaaDoor
set_option maxRecDepth 100000
open Go Go.RowKit

/-- The two pairs of a ladder. -/
structure Two4 where
  a : Int
  b : Int
  c : Int
  d : Int
/-- One round; bit: which of the two is doubled. -/
def lrnd (x : Int) (bit : Bool) (s : Two4) : Two4 :=
  ⟨pick bit (sU s.a s.b s.c s.d) (dU s.a s.b), pick bit (sV x s.a s.b s.c s.d) (dV s.a s.b), pick bit (dU s.c s.d) (sU s.a s.b s.c s.d), pick bit (dV s.c s.d) (sV x s.a s.b s.c s.d)⟩
/-- The pairs behind n rounds. -/
def lrnds (x : Int) (bit : Nat → Bool) : Nat → Two4
  | 0 => ⟨1, 0, x, 1⟩
  | n + 1 => lrnd x (bit n) (lrnds x bit n)
/-- Bit n of four words. -/
def wbit (W : Nat → Int) (n : Nat) : Bool := decide (W (n / 64) / 2 ^ (n % 64) % 2 = 1)

theorem and1_64 (x : Int) (h0 : 0 ≤ x) (h1 : x < 18446744073709551616) : bits BinOp.and IntKind.u64 x 1 = x % 2 := bits_mask .u64 64 (by decide) wraps_u64 1 (by decide) x h0 h1

set_option maxHeartbeats 4000000 in
theorem bit_any (w : World) (W : Nat → Int) (hW : W4 W) (n : Nat) (hn : n < 256) :
    Calls Tryd.prog 56 #[ag4 W, .int .i64 n] w fun r w' => r = .returned (.int .u64 (pick (wbit W n) 1 0)) ∧ Below w.heap.size w w' := by
  have B0 := blk_box4 w .u64 51 (W 0) (W 1) (W 2) (W 3)
  have n0 : Below w.heap.size w (w.alloc (.cells #[.int .u64 (W 0), .int .u64 (W 1), .int .u64 (W 2), .int .u64 (W 3)] 51)) := (Below.refl _ _).alloc (Nat.le_refl _) _
  obtain ⟨j, hj⟩ : ∃ j : Nat, n / 64 = j := ⟨_, rfl⟩
  obtain ⟨m, hm⟩ : ∃ m : Nat, n % 64 = m := ⟨_, rfl⟩
  have j4 : j < 4 := by omega
  have m64 : m < 64 := by omega
  have p1 : (n : Int) / 64 = (j : Int) := by omega
  have p2 : (n : Int) % 64 = (m : Int) := by omega
  have cj := B0.cell (i := j) (by simpa using j4)
  have gj : [W 0, W 1, W 2, W 3].getD j 0 = W j := by
    obtain rfl | rfl | rfl | rfl : j = 0 ∨ j = 1 ∨ j = 2 ∨ j = 3 := by omega
    all_goals rfl
  rw [gj] at cj
  have wb := hW j j4
  have pm : (0 : Int) < 2 ^ m := Int.pow_pos (by decide)
  have v0 : 0 ≤ W j / 2 ^ m := Int.ediv_nonneg wb.1 (Int.le_of_lt pm)
  have v1 : W j / 2 ^ m < 18446744073709551616 := Int.lt_of_le_of_lt (Int.ediv_le_self _ wb.1) wb.2
  have e1 := and1_64 _ v0 v1
  have E : Hid (pick (wbit W n) 1 0 = W j / 2 ^ m % 2) := by
    show _ = _
    unfold wbit pick
    rw [hj, hm]
    rcases (show W j / 2 ^ m % 2 = 0 ∨ W j / 2 ^ m % 2 = 1 by omega) with h | h
    · rw [h]; rfl
    · rw [h]; rfl
  clear hj hm gj
  simp only [ag4]
  go_enter Tryd.func56, Tryd.ntmps56
  go_wp2_with fail
  generalize w.alloc (.cells #[.int .u64 (W 0), .int .u64 (W 1), .int .u64 (W 2), .int .u64 (W 3)] 51) = wa at *
  clear B0 hW
  generalize W j = z at *
  go_wp2
  go_ret
  exact ⟨by rw [E.out]; rfl, n0⟩
end Go.Proofs.YtblkjpmkikhpbaaDoor
