import Derived.Test.YtpjgedbemblnhaaDoorGZ6
import Derived.Test.YtpjgedbemblnhaaDoorGZ4
import Derived.Lib.Mul64
import Derived.Laws.Bits64b
import Derived.Laws.Externs
import Derived.Deep.RegionWith
import Derived.Deep.RegionHeld3
import Derived.Deep.MidRow
import Derived.Deep.DeepCutAuto
import Derived.Test.YtpjgedbemblnhaaDoorGZ2

/-
  Three rows of sixteen limbs side by side: the model's wide points. Regions that leave sixteen or forty-eight limbs in memory.
-/
namespace Go.Proofs.YtpjgedbemblnhaaDoor
set_option maxRecDepth 100000
open Go Go.RowKit

def c48 (a b c : Nat → Int) : List Value := (a16 a).toList ++ ((a16 b).toList ++ (a16 c).toList)
def ag48 (a b c : Nat → Int) : Value := .agg (c48 a b c).toArray
theorem a16_len (t : Nat → Int) : (a16 t).toList.length = 16 := by simp [ls16]
theorem c48_len (a b c : Nat → Int) : (c48 a b c).length = 48 := by
  unfold c48
  rw [List.length_append, List.length_append, a16_len, a16_len, a16_len]
theorem c48_one (a b c : Nat → Int) : (c48 a b c).toArray.all (·.oneCell') = true := by
  refine all_oneCell_toArray fun v hv => ?_
  have h : ∀ t, ∀ v ∈ (a16 t).toList, v.oneCell' = true := fun t v hv => Array.all_eq_true_iff_forall_mem.1 (a16_one t) v (by simpa using hv)
  rcases List.mem_append.1 hv with h1 | h1
  · exact h a v h1
  · rcases List.mem_append.1 h1 with h2 | h2
    · exact h b v h2
    · exact h c v h2
/-- Three elements as one value. -/
def E3 (A B C : Int) : Fact := ⟨fun v _ => ∃ a b c, v = ag48 a b c ∧ (L16 a ∧ s16 a 16 % PP = A % PP) ∧ (L16 b ∧ s16 b 16 % PP = B % PP) ∧ L16 c ∧ s16 c 16 % PP = C % PP, fun _ h => h⟩
/-- The same in memory. -/
def Elt3 (W : World) (q : Nat) (A B C : Int) : Prop := ∃ a b c, W.rangeAt q 0 (c48 a b c) ∧ q < W.heap.size ∧ (L16 a ∧ s16 a 16 % PP = A % PP) ∧ (L16 b ∧ s16 b 16 % PP = B % PP) ∧ L16 c ∧ s16 c 16 % PP = C % PP
theorem Elt3.x {W : World} {q : Nat} {A B C : Int} (h : Elt3 W q A B C) : Elt W q 0 A := by
  obtain ⟨a, b, c, r, l, ha, _, _⟩ := h
  refine ⟨a, fun j v hv => r j v ?_, l, ha⟩
  have hj : j < 16 := by have := (List.getElem?_eq_some_iff.1 hv).1; rw [a16_len] at this; exact this
  unfold c48
  rw [List.getElem?_append_left (by rw [a16_len]; exact hj)]
  exact hv
theorem Elt3.y {W : World} {q : Nat} {A B C : Int} (h : Elt3 W q A B C) : Elt W q 16 B := by
  obtain ⟨a, b, c, r, l, _, hb, _⟩ := h
  refine ⟨b, fun j v hv => ?_, l, hb⟩
  have hj : j < 16 := by have := (List.getElem?_eq_some_iff.1 hv).1; rw [a16_len] at this; exact this
  have q := r (16 + j) v (by
    unfold c48
    rw [List.getElem?_append_right (by rw [a16_len]; omega), a16_len, List.getElem?_append_left (by rw [a16_len]; omega), show 16 + j - 16 = j by omega]
    exact hv)
  simpa using q
theorem Elt3.z {W : World} {q : Nat} {A B C : Int} (h : Elt3 W q A B C) : Elt W q 32 C := by
  obtain ⟨a, b, c, r, l, _, _, hc⟩ := h
  refine ⟨c, fun j v hv => ?_, l, hc⟩
  have hj : j < 16 := by have := (List.getElem?_eq_some_iff.1 hv).1; rw [a16_len] at this; exact this
  have q := r (32 + j) v (by
    unfold c48
    rw [List.getElem?_append_right (by rw [a16_len]; omega), a16_len, List.getElem?_append_right (by rw [a16_len]; omega), a16_len, show 32 + j - 16 - 16 = j by omega]
    exact hv)
  simpa using q
theorem Elt3.up {W W' : World} {q : Nat} {A B C : Int} (h : Elt3 W q A B C) (n : Below W.heap.size W W') : Elt3 W' q A B C := by
  obtain ⟨a, b, c, r, l, h⟩ := h
  exact ⟨a, b, c, fun j v hv => (World.cell?_of_block (a := ⟨q, 0 + j, none⟩) (n.block q l)).trans (r j v hv), Nat.lt_of_lt_of_le l n.size, h⟩
/-- Room for n cells, that may be written. -/
theorem there_up {W W' : World} {q n : Nat} (hn : 0 < n) (h : W.there q 0 n) (k : Below W.heap.size W W') : W'.there q 0 n := by
  have h0 := (h 0 hn).1
  rw [Option.isSome_iff_exists] at h0
  obtain ⟨v, hv⟩ := h0
  have hb := k.block q (block_lt_of_cell hv)
  exact fun j hj => ⟨by rw [World.cell?_of_block (a := ⟨q, 0 + j, none⟩) hb]; exact (h j hj).1, by rw [World.frozen?_of_block (a := ⟨q, 0 + j, none⟩) hb]; exact (h j hj).2⟩
theorem there_lt {W : World} {q n : Nat} (hn : 0 < n) (h : W.there q 0 n) : q < W.heap.size := by
  have h0 := (h 0 hn).1
  rw [Option.isSome_iff_exists] at h0
  obtain ⟨v, hv⟩ := h0
  exact block_lt_of_cell hv
theorem there_new (W : World) (cs : List Value) (t : TypeId) : (W.alloc (.cells cs.toArray t)).there W.heap.size 0 cs.length := fun j hj => by
  have e : (W.alloc (.cells cs.toArray t)).heap[W.heap.size]? = some (.cells cs.toArray t) := heap_alloc_last _ _
  constructor
  · unfold World.cell?
    simp only
    rw [e]
    simp [hj]
  · unfold World.frozen?
    simp only
    rw [e]
    simp
/-- A block of n cells made in the region. -/
def NB (w0 : World) (n : Nat) : Fact := ⟨fun v w => 0 < n ∧ ∃ q, v = .pointer (some ⟨q, 0, none⟩) ∧ w.there q 0 n ∧ w0.heap.size ≤ q, fun k h => by
  obtain ⟨hn, q, e, t, l⟩ := h
  exact ⟨hn, q, e, there_up hn t k, l⟩⟩

theorem heap_size_setCells (b : Nat) : ∀ (vs : List Value) (o : Nat) (w : World), (w.setCells b o vs).heap.size = w.heap.size
  | [], _, _ => rfl
  | v :: vs, o, w => by
    rw [World.setCells, heap_size_setCells b vs (o + 1)]
    simp [World.setCell]
theorem set_elt {W : World} {q : Nat} {t : Nat → Int} {A : Int} (th : W.there q 0 16) (L : L16 t) (V : s16 t 16 % PP = A % PP) : Elt (W.setCells q 0 (a16 t).toList) q 0 A :=
  ⟨t, World.rangeAt_setCells_same W q 0 _ (by rw [a16_len]; exact th), by rw [heap_size_setCells]; exact there_lt (by omega) th, L, V⟩
theorem set_elt3 {W : World} {q : Nat} {a b c : Nat → Int} {A B C : Int} (th : W.there q 0 48) (ha : L16 a ∧ s16 a 16 % PP = A % PP) (hb : L16 b ∧ s16 b 16 % PP = B % PP) (hc : L16 c ∧ s16 c 16 % PP = C % PP) : Elt3 (W.setCells q 0 (c48 a b c)) q A B C :=
  ⟨a, b, c, World.rangeAt_setCells_same W q 0 _ (by rw [c48_len]; exact th), by rw [heap_size_setCells]; exact there_lt (by omega) th, ha, hb, hc⟩
/-- All blocks but q are as they were. -/
def ButQ (q : Nat) (W W' : World) : Prop := (∀ g, g ≠ q → g < W.heap.size → W'.heap[g]? = W.heap[g]?) ∧ W.heap.size ≤ W'.heap.size
theorem Elt.but {W W' : World} {g o q : Nat} {A : Int} (h : Elt W g o A) (k : ButQ q W W') (hne : g ≠ q) : Elt W' g o A := by
  obtain ⟨t, r, l, h⟩ := h
  exact ⟨t, fun j v hv => (World.cell?_of_block (a := ⟨g, o + j, none⟩) (k.1 g hne l)).trans (r j v hv), Nat.lt_of_lt_of_le l k.2, h⟩
theorem Elt3.but {W W' : World} {g q : Nat} {A B C : Int} (h : Elt3 W g A B C) (k : ButQ q W W') (hne : g ≠ q) : Elt3 W' g A B C := by
  obtain ⟨a, b, c, r, l, h⟩ := h
  exact ⟨a, b, c, fun j v hv => (World.cell?_of_block (a := ⟨g, 0 + j, none⟩) (k.1 g hne l)).trans (r j v hv), Nat.lt_of_lt_of_le l k.2, h⟩
theorem there_but {W W' : World} {g q n : Nat} (hn : 0 < n) (h : W.there g 0 n) (k : ButQ q W W') (hne : g ≠ q) : W'.there g 0 n := by
  have hb := k.1 g hne (there_lt hn h)
  exact fun j hj => ⟨by rw [World.cell?_of_block (a := ⟨g, 0 + j, none⟩) hb]; exact (h j hj).1, by rw [World.frozen?_of_block (a := ⟨g, 0 + j, none⟩) hb]; exact (h j hj).2⟩
theorem but_set {W W' : World} {q : Nat} (n : Below W.heap.size W W') (vs : List Value)   : ButQ q W (W'.setCells q 0 vs) :=
  ⟨fun g hg hl => (setCells_other hg vs 0 W').trans (n.block g hl), by rw [heap_size_setCells]; exact n.size⟩

section
variable {ops : Array Oper} {Q : Exit → Act → World → Prop} {a0 : Act} {w : World} {id : Nat} {draw : Bool}
/-- A region that makes a row of sixteen limbs and lays an element into it. -/
theorem region_new16 (k jA jV pA pV : Nat) (o : Oper) (F : Nat → Fact) (A : Int) (hT : textOk .any ops a0.tmps.size k = true) (hk : ops[k]? = some o) (hd : o.dst = none) (hop : o.op = .store 31 (.tmp pA) (.tmp pV))
    (wA : writes ops jA pA = true) (wV : writes ops jV pV = true) (FA : F jA = NB w 16) (FV : F jV = EL A) (steps : ∀ i, i < k → StepOk Tryd.prog .any ops Q F a0 w i)
    (fin : ∀ (vs : Nat → Value) (q : Nat) (W : World), vs pA = .pointer (some ⟨q, 0, none⟩) → w.heap.size ≤ q → Below w.heap.size w W → Elt W q 0 A → W.there q 0 16 → Q .normal (puts vs a0 ops.toList) W) :
    (Code.region id ops draw).wp Tryd.prog Q a0 w := by
  refine region_store k o F (by kernel_rfl) hT hk hd steps fun a W hb hw hF => ?_
  have h1 := hF jA pA wA
  have h2 := hF jV pV wV
  rw [FA] at h1
  rw [FV] at h2
  obtain ⟨_, q, eq, th, hq⟩ := h1
  obtain ⟨t, ev, L, V⟩ := h2
  refine wp_store_mid 31 (.tmp pA) (.tmp pV) hop q 0 (a16 t) eq ev (by rw [a16_size]; exact th) (by rw [a16_size]; exact i50) (a16_one t) ?_
  obtain ⟨vs, hvs⟩ : ∃ vs : Nat → Value, ∀ d, a.tmps.getD d undef = vs d := ⟨_, fun _ => rfl⟩
  rw [hd]
  show Q .normal a _
  rw [puts_of hT rfl hb vs hvs]
  exact fin vs q _ ((hvs pA).symm.trans eq) hq (below_setCells hq _ _ _ hw) (set_elt th L V) (World.there_setCells th _ _ _)
/-- A region that lays an element into a row that was there. -/
theorem region_put16 (k jV pD pV : Nat) (o : Oper) (F : Nat → Fact) (A : Int) (q : Nat) (hT : textOk .any ops a0.tmps.size k = true) (hk : ops[k]? = some o) (hd : o.dst = none) (hop : o.op = .store 31 (.tmp pD) (.tmp pV))
    (hp : apart ops pD = true) (h0 : a0.tmps.getD pD undef = .pointer (some ⟨q, 0, none⟩)) (ht : w.there q 0 16) (wV : writes ops jV pV = true) (FV : F jV = EL A) (steps : ∀ i, i < k → StepOk Tryd.prog .any ops Q F a0 w i)
    (fin : ∀ (vs : Nat → Value) (W W' : World), Below w.heap.size w W → ButQ q w W' → Elt W' q 0 A → W'.there q 0 16 → (∀ (w1 : World) (B : Nat), Below B w1 W → B ≤ q → Below B w1 W') → Q .normal (puts vs a0 ops.toList) W') :
    (Code.region id ops draw).wp Tryd.prog Q a0 w := by
  refine region_store k o F (by kernel_rfl) hT hk hd steps fun a W hb hw hF => ?_
  have h2 := hF jV pV wV
  rw [FV] at h2
  obtain ⟨t, ev, L, V⟩ := h2
  have th := there_up (by omega) ht hw
  refine wp_store_mid 31 (.tmp pD) (.tmp pV) hop q 0 (a16 t) ((based_at hb pD hp).trans h0) ev (by rw [a16_size]; exact th) (by rw [a16_size]; exact i50) (a16_one t) ?_
  obtain ⟨vs, hvs⟩ : ∃ vs : Nat → Value, ∀ d, a.tmps.getD d undef = vs d := ⟨_, fun _ => rfl⟩
  rw [hd]
  show Q .normal a _
  rw [puts_of hT rfl hb vs hvs]
  exact fin vs W _ hw (but_set hw _) (set_elt th L V) (World.there_setCells th _ _ _) (fun w1 B n hB => below_setCells hB _ _ _ n)
end

section
variable {ops : Array Oper} {Q : Exit → Act → World → Prop} {md : Region.Mode} {F : Nat → Fact} {a0 : Act} {w0 : World} {i : Nat} {o : Oper} {ts : Array TypeId}
/-- Sixteen zeros are made. -/
theorem step_new16 (hi : ops[i]? = some o) (hop : o.op = .alloc 31) (hF : F i = NB w0 16) : StepOk Tryd.prog md ops Q F a0 w0 i := by
  refine step_grow hi fun a w _ hw _ => ⟨.pointer (some ⟨w.heap.size, 0, none⟩), w.alloc zObj, ?_, (Below.refl _ _).alloc (Nat.le_refl _) _, ?_⟩
  · simp only [execOp, hop]
    kernel_rfl
  · rw [hF]
    exact ⟨by omega, _, rfl, there_new w _ _, hw.size⟩
/-- The inverse. -/
def iv (A : Int) : Int := A ^ eIv
end
end Go.Proofs.YtpjgedbemblnhaaDoor

/-
  The program's addProduct: a sum of 128 bits and a product of two words; math/bits.Mul64 and Add64.
-/
namespace Go.Proofs.YtpjgedbemblnhaaDoor
set_option maxRecDepth 100000
open Go.RowKit

theorem maskN (a : Nat) (ha : a < 18446744073709551616) : bits .and .u64 (a : Int) 4294967295 = ((a % 4294967296 : Nat) : Int) := by
  have h := bits_and_u64_nat a 4294967295 ha (by omega)
  have e : a &&& 4294967295 = a % 4294967296 := Nat.and_two_pow_sub_one_eq_mod a 32
  rw [e] at h
  exact h
theorem divN (a : Nat) : (a : Int) / 4294967296 = ((a / 4294967296 : Nat) : Int) := by omega
theorem mulN (a b : Nat) : (a : Int) * (b : Int) = ((a * b : Nat) : Int) := (Int.natCast_mul a b).symm
theorem addN (a b : Nat) : (a : Int) + (b : Int) = ((a + b : Nat) : Int) := (Int.natCast_add a b).symm
theorem wrapN (a : Nat) (ha : a < 18446744073709551616) : IntKind.u64.wrap (a : Int) = (a : Int) := by rw [IntKind.wrap_u64]; omega
theorem wrapM (a : Nat) : IntKind.u64.wrap (a : Int) = ((a % 18446744073709551616 : Nat) : Int) := by rw [IntKind.wrap_u64]; omega

/-- A sum of 128 bits as the value of a struct. -/
def ag2 (h l : Int) : Value := .agg #[.int .u64 h, .int .u64 l]
end Go.Proofs.YtpjgedbemblnhaaDoor

/-
  The program's product of two elements.
-/
namespace Go.Proofs.YtpjgedbemblnhaaDoor
set_option maxRecDepth 100000
open Go.RowKit

theorem or64c (z x : Int) (i m : Nat) (hm : m = 2 ^ i) (z0 : 0 ≤ z) (z1 : z < (m : Int)) (x0 : 0 ≤ x) (x1 : x * (m : Int) < 18446744073709551616) (m1 : m ≤ 18446744073709551616) :
    bits BinOp.or IntKind.u64 (x * (m : Int)) z = z + x * (m : Int) := by
  rw [← or64 z x i m hm z0 z1 x0 x1 m1]
  obtain ⟨a, rfl⟩ := Int.eq_ofNat_of_zero_le z0
  obtain ⟨b, rfl⟩ := Int.eq_ofNat_of_zero_le x0
  have e : (b : Int) * (m : Int) = ((b * m : Nat) : Int) := by simp
  rw [e] at x1 ⊢
  rw [bits_or_u64_nat a (b * m) (by omega) (by omega), bits_or_u64_nat (b * m) a (by omega) (by omega), Nat.or_comm]
theorem blk_box2 (w : World) (k : IntKind) (t : TypeId) (a b : Int) : Blk (w.alloc (.cells #[.int k a, .int k b] t)) w.heap.size k [a, b] :=
  ⟨t, by rw [heap_alloc_last]; rfl⟩
theorem blk_box9 (w : World) (k : IntKind) (t : TypeId) (a b c d e f g h i : Int) : Blk (w.alloc (.cells #[.int k a, .int k b, .int k c, .int k d, .int k e, .int k f, .int k g, .int k h, .int k i] t)) w.heap.size k [a, b, c, d, e, f, g, h, i] :=
  ⟨t, by rw [heap_alloc_last]; rfl⟩
/-- What stands through the product's loops. -/
structure MulS (w : World) (N : Nat) (e f : Nat → Int) (wr : World) : Prop where
  E : Blk wr N .u64 [e 0, e 1, e 2, e 3, e 4]
  R : Blk wr (N + 1 + 1) .u64 [0, 0, 0, 0, 0]
  F : Blk wr (N + 1 + 1 + 1) .u64 (fill (rnd f) 9)
  B : Below N w wr
theorem MulS.up {w wr wq : World} {N : Nat} {e f : Nat → Int} (h : MulS w N e f wr) (n : Below wr.heap.size wr wq) (hN : N ≤ wr.heap.size) : MulS w N e f wq :=
  ⟨h.E.up n, h.R.up n, h.F.up n, h.B.trans (n.mono hN)⟩
theorem MulS.set {w wr : World} {N g i : Nat} {e f : Nat → Int} (h : MulS w N e f wr) (hg : N + 1 + 1 + 1 < g) (v : Value) : MulS w N e f (wr.setCell ⟨g, i, none⟩ v) :=
  ⟨h.E.keep (by omega), h.R.keep (by omega), h.F.keep (by omega), h.B.setCell (by show N ≤ g; omega) v⟩
theorem MulS.drew {w wr : World} {N : Nat} {e f : Nat → Int} (h : MulS w N e f wr) : MulS w N e f wr.drew := ⟨h.E.drew, h.R.drew, h.F.drew, h.B.drew⟩

end Go.Proofs.YtpjgedbemblnhaaDoor

/-
  The product of elements, with its value.
-/
namespace Go.Proofs.YtpjgedbemblnhaaDoor
set_option maxRecDepth 100000
open Go.RowKit
end Go.Proofs.YtpjgedbemblnhaaDoor

/-
  The program's squares: square, squareTimes.
-/
namespace Go.Proofs.YtpjgedbemblnhaaDoor
set_option maxRecDepth 100000
open Go.RowKit

/-- An element: five limbs in their bounds, of a number below the prime. -/
def Elm (e : Nat → Int) : Prop := Lm e ∧ sv e 5 < PP
theorem Elm.nonneg {e : Nat → Int} (h : Elm e) : 0 ≤ sv e 5 := h.1.bd.1
theorem Elm.of {e : Nat → Int} {v : Int} (h : Lm e) (hv : sv e 5 = v % PP) : Elm e := ⟨h, by rw [hv]; exact Int.emod_lt_of_pos _ (by decide)⟩
theorem Elm.mod {e : Nat → Int} (h : Elm e) : sv e 5 % PP = sv e 5 := Int.emod_eq_of_lt h.nonneg h.2
theorem sq_pow (x : Int) (k : Nat) : (x ^ 2 ^ k % PP) * (x ^ 2 ^ k % PP) % PP = x ^ 2 ^ (k + 1) % PP := by
  rw [← Int.mul_emod, ← Int.pow_add, Nat.pow_succ, Nat.mul_comm, Nat.two_mul]

end Go.Proofs.YtpjgedbemblnhaaDoor

/-
  The program's chain of powers.
-/
namespace Go.Proofs.YtpjgedbemblnhaaDoor
set_option maxRecDepth 100000
open Go.RowKit

/-- The steps of the chain, three numbers each. -/
def stL : List Int := [1, 1, 0, 2, 2, 1, 3, 0, 2, 4, 1, 3, 5, 5, 5, 6, 10, 6, 7, 20, 7, 8, 10, 6, 9, 50, 9, 10, 100, 10, 11, 50, 9]
def HasSt (w : World) (g : Nat) : Prop := ∀ i, i < 33 → w.cell? ⟨g, i, none⟩ = some (.int .i64 (stL.getD i 0))
theorem HasSt.lt {w : World} {g : Nat} (h : HasSt w g) : g < w.heap.size := block_lt_of_cell (h 0 (by omega))
theorem HasSt.up {w w' : World} {g : Nat} (h : HasSt w g) (n : Below w.heap.size w w') : HasSt w' g := fun i hi => (World.cell?_of_block (a := ⟨g, i, none⟩) (n.block g h.lt)).trans (h i hi)

/-- The steps, as cells. -/
def stA : Array Value := (stL.map (Value.int .i64)).toArray
theorem HasSt.range {W : World} {g : Nat} (h : HasSt W g) : W.rangeAt g 0 stA.toList := by
  intro j v hv
  have hj : j < 33 := by
    have := (List.getElem?_eq_some_iff.1 hv).1
    simpa [stA, stL] using this
  have e : stA.toList[j]? = some (Value.int .i64 (stL.getD j 0)) := by
    have hl : j < stL.length := hj
    simp [stA, hl]
  rw [Nat.zero_add, h j hj, ← e]; exact hv
/-- The table of powers at its beginning: 1, the element, zeros. -/
def pw0 (e : Nat → Int) : List Int := [1, 0, 0, 0, 0, e 0, e 1, e 2, e 3, e 4] ++ List.replicate 55 0
theorem blk_box3 (w : World) (k : IntKind) (t : TypeId) (a b c : Int) : Blk (w.alloc (.cells #[.int k a, .int k b, .int k c] t)) w.heap.size k [a, b, c] :=
  ⟨t, by rw [heap_alloc_last]; rfl⟩
/-- The exponents of the table. -/
def exL : List Nat := [0, 1, 2, 9, 11, 31, 1023, 1048575, 1099511627775, 1125899906842623, 1267650600228229401496703205375, 1606938044258990275541962092341162602522202993782792835301375, 1809251394333065553493296640760748560207343510400633813116524750123642650623]
/-- The first m powers stand in the table. -/
def PwTo (e : Nat → Int) (ys : List Int) (m : Nat) : Prop := ys.length = 65 ∧ ∀ j, j < m → ∃ t, (Lm t ∧ sv t 5 = sv e 5 ^ exL.getD j 0 % PP) ∧ ∀ i, i < 5 → ys.getD (5 * j + i) 0 = t i
theorem PwTo.zero {e : Nat → Int} (he : Elm e) : PwTo e (pw0 e) (0 + 2) := by
  refine ⟨rfl, fun j hj => ?_⟩
  obtain rfl | rfl : j = 0 ∨ j = 1 := by omega
  · refine ⟨fun i => if i = 0 then 1 else 0, ⟨fun i _ => by dsimp only; split <;> omega, ?_⟩, fun i hi => ?_⟩
    · show _ = sv e 5 ^ 0 % PP
      rw [Int.pow_zero]
      decide
    · obtain rfl | rfl | rfl | rfl | rfl : i = 0 ∨ i = 1 ∨ i = 2 ∨ i = 3 ∨ i = 4 := by omega
      all_goals rfl
  · refine ⟨e, ⟨he.1, ?_⟩, fun i hi => ?_⟩
    · show _ = sv e 5 ^ 1 % PP
      rw [Int.pow_one, he.mod]
    · obtain rfl | rfl | rfl | rfl | rfl : i = 0 ∨ i = 1 ∨ i = 2 ∨ i = 3 ∨ i = 4 := by omega
      all_goals rfl

/-- Five cells of a block, from place o on. -/
theorem Blk.mid5 {w : World} {g : Nat} {k : IntKind} {ys : List Int} (h : Blk w g k ys) (o : Nat) (ho : o + 5 ≤ ys.length) :
    (w.cell? ⟨g, o, none⟩ = some (.int k (ys.getD o 0)) ∧ w.cell? ⟨g, o + 1, none⟩ = some (.int k (ys.getD (o + 1) 0)) ∧ w.cell? ⟨g, o + 2, none⟩ = some (.int k (ys.getD (o + 2) 0)) ∧ w.cell? ⟨g, o + 3, none⟩ = some (.int k (ys.getD (o + 3) 0)) ∧ w.cell? ⟨g, o + 4, none⟩ = some (.int k (ys.getD (o + 4) 0))) ∧
    (w.frozen? ⟨g, o, none⟩ = false ∧ w.frozen? ⟨g, o + 1, none⟩ = false ∧ w.frozen? ⟨g, o + 2, none⟩ = false ∧ w.frozen? ⟨g, o + 3, none⟩ = false ∧ w.frozen? ⟨g, o + 4, none⟩ = false) :=
  ⟨⟨h.cell (by omega), h.cell (by omega), h.cell (by omega), h.cell (by omega), h.cell (by omega)⟩, h.free _, h.free _, h.free _, h.free _, h.free _⟩
theorem Blk.at5o {w : World} {g : Nat} {ys : List Int} {t : Nat → Int} {a : Nat} (h : Blk w g .u64 ys) (ha : a * 5 + 5 ≤ ys.length) (hy : ∀ i, i < 5 → ys.getD (5 * a + i) 0 = t i) :
    w.cell? ⟨g, a * 5, none⟩ = some (.int .u64 (t 0)) ∧ w.cell? ⟨g, a * 5 + 1, none⟩ = some (.int .u64 (t 1)) ∧ w.cell? ⟨g, a * 5 + 2, none⟩ = some (.int .u64 (t 2)) ∧ w.cell? ⟨g, a * 5 + 3, none⟩ = some (.int .u64 (t 3)) ∧ w.cell? ⟨g, a * 5 + 4, none⟩ = some (.int .u64 (t 4)) := by
  obtain ⟨h0, h1, h2, h3, h4⟩ := (h.mid5 (a * 5) ha).1
  rw [Nat.mul_comm a 5] at *
  rw [h0, h1, h2, h3, h4, ← hy 0 (by omega), ← hy 1 (by omega), ← hy 2 (by omega), ← hy 3 (by omega), ← hy 4 (by omega)]
  exact ⟨rfl, rfl, rfl, rfl, rfl⟩

/-- Five limbs laid at place o. -/
def sety (ys : List Int) (o : Nat) (u : Nat → Int) : List Int := ((((ys.set o (u 0)).set (o + 1) (u 1)).set (o + 2) (u 2)).set (o + 3) (u 3)).set (o + 4) (u 4)
theorem sety_other (ys : List Int) (o : Nat) (u : Nat → Int) (j : Nat) (h : j < o ∨ o + 5 ≤ j) : (sety ys o u).getD j 0 = ys.getD j 0 := by
  unfold sety
  rw [getD_set_ne _ _ _ _ (by omega), getD_set_ne _ _ _ _ (by omega), getD_set_ne _ _ _ _ (by omega), getD_set_ne _ _ _ _ (by omega), getD_set_ne _ _ _ _ (by omega)]
theorem sety_same (ys : List Int) (o : Nat) (u : Nat → Int) (ho : o + 5 ≤ ys.length) : ∀ i, i < 5 → (sety ys o u).getD (o + i) 0 = u i := by
  intro i hi
  unfold sety
  obtain rfl | rfl | rfl | rfl | rfl : i = 0 ∨ i = 1 ∨ i = 2 ∨ i = 3 ∨ i = 4 := by omega
  · rw [getD_set_ne _ _ _ _ (by omega), getD_set_ne _ _ _ _ (by omega), getD_set_ne _ _ _ _ (by omega), getD_set_ne _ _ _ _ (by omega), Nat.add_zero, getD_set_self _ _ _ (by omega)]
  · rw [getD_set_ne _ _ _ _ (by omega), getD_set_ne _ _ _ _ (by omega), getD_set_ne _ _ _ _ (by omega), getD_set_self _ _ _ (by simp; omega)]
  · rw [getD_set_ne _ _ _ _ (by omega), getD_set_ne _ _ _ _ (by omega), getD_set_self _ _ _ (by simp; omega)]
  · rw [getD_set_ne _ _ _ _ (by omega), getD_set_self _ _ _ (by simp; omega)]
  · rw [getD_set_self _ _ _ (by simp; omega)]
theorem emod_pow (x P : Int) : ∀ n : Nat, (x % P) ^ n % P = x ^ n % P
  | 0 => by rw [Int.pow_zero, Int.pow_zero]
  | n + 1 => by rw [Int.pow_succ, Int.pow_succ, Int.mul_emod, emod_pow x P n, Int.emod_emod, ← Int.mul_emod]
theorem pow_step {x : Int} {ea eb ec : Nat} {p q t : Int} (h : q = p ^ 2 ^ eb % PP) (hp : p = x ^ ea % PP) (ht : t = x ^ ec % PP) : q * t % PP = x ^ (ea * 2 ^ eb + ec) % PP := by
  rw [h, ht, hp, emod_pow, ← Int.mul_emod, ← Int.pow_mul, ← Int.pow_add]
theorem PwTo.set {e : Nat → Int} {ys : List Int} {k a b c : Nat} {ta tc u : Nat → Int} {q : Int} (h : PwTo e ys (k + 2)) (_ : a < k + 2) (_ : b ≤ 100) (_ : c < k + 2) (hx : exL.getD (k + 2) 0 = exL.getD a 0 * 2 ^ b + exL.getD c 0)
    (Va : sv ta 5 = sv e 5 ^ exL.getD a 0 % PP) (Vc : sv tc 5 = sv e 5 ^ exL.getD c 0 % PP) (hq : q = sv ta 5 ^ 2 ^ b % PP) (hu : Lm u ∧ sv u 5 = q * sv tc 5 % PP) (hk : k < 11) : PwTo e (sety ys ((k + 2) * 5) u) (k + 1 + 2) := by
  refine ⟨by simp [sety, h.1], fun j hj => ?_⟩
  by_cases ej : j < k + 2
  · obtain ⟨t, ht, hy⟩ := h.2 j ej
    exact ⟨t, ht, fun i hi => by rw [sety_other _ _ _ _ (by omega)]; exact hy i hi⟩
  · obtain rfl : j = k + 2 := by omega
    refine ⟨u, ⟨hu.1, ?_⟩, fun i hi => ?_⟩
    · rw [hu.2, pow_step hq Va Vc, hx]
    · rw [Nat.mul_comm 5]; exact sety_same ys _ u (by rw [h.1]; omega) i hi

end Go.Proofs.YtpjgedbemblnhaaDoor

/-
  FieldInvert, the program's and the model's.
-/
namespace Go.Proofs.YtpjgedbemblnhaaDoor
set_option maxRecDepth 100000
open Go.RowKit

/-- Block g holds these three numbers. -/
def Has3 (w : World) (g : Nat) (a b c : Int) : Prop := w.cell? ⟨g, 0, none⟩ = some (.int .i64 a) ∧ w.cell? ⟨g, 1, none⟩ = some (.int .i64 b) ∧ w.cell? ⟨g, 2, none⟩ = some (.int .i64 c)
theorem Has3.lt {w : World} {g : Nat} {a b c : Int} (h : Has3 w g a b c) : g < w.heap.size := block_lt_of_cell h.1
theorem Has3.up {w w' : World} {g : Nat} {a b c : Int} (h : Has3 w g a b c) (n : Below w.heap.size w w') : Has3 w' g a b c :=
  ⟨(World.cell?_of_block (a := ⟨g, 0, none⟩) (n.block g h.lt)).trans h.1, (World.cell?_of_block (a := ⟨g, 1, none⟩) (n.block g h.lt)).trans h.2.1, (World.cell?_of_block (a := ⟨g, 2, none⟩) (n.block g h.lt)).trans h.2.2⟩

/-- The exponent of the inverse. -/
def eInv : Nat := 57896044618658097711785492504343953926634992332820282019728792003956564819947
theorem eInv_ok : exL.getD 12 0 * 2 ^ 5 + exL.getD 4 0 = eInv := by decide +kernel
theorem eInv_P : eInv + 1 = P25519 - 1 := by decide +kernel

end Go.Proofs.YtpjgedbemblnhaaDoor

/-
  The program's difference of two elements.
-/
namespace Go.Proofs.YtpjgedbemblnhaaDoor
set_option maxRecDepth 100000
open Go.RowKit

/-- Twice the prime, in limbs. -/
def twP (j : Nat) : Int := if j = 0 then 4503599627370458 else 4503599627370494
/-- Limbs of a difference. -/
def subU (e f : Nat → Int) (j : Nat) : Int := if j < 5 then e j + twP j - f j else 0
theorem sub_ok {e f : Nat → Int} (he : Lm e) (hf : Lm f) : (∀ j, 0 ≤ subU e f j ∧ subU e f j < 9223372036854775808) ∧ sv (stl (subU e f)) 5 = (sv e 5 - sv f 5) % PP ∧ Lm (stl (subU e f)) := by
  have b : ∀ j, 0 ≤ subU e f j ∧ subU e f j < 9223372036854775808 := fun j => by
    unfold subU twP
    split
    · have := he j (by omega); have := hf j (by omega)
      split <;> omega
    · omega
  obtain ⟨h1, h2⟩ := stl_ok b
  refine ⟨b, ?_, h1⟩
  rw [h2]
  have e1 : sv (subU e f) 5 = sv e 5 - sv f 5 + 57896044618658097711785492504343953926634992332820282019728792003956564819949 * 2 := by
    simp [sv, subU, twP]
    omega
  rw [e1]
  exact Int.add_mul_emod_self_left _ _ _

/-- Block g holds the package's twice-the-prime. -/
def HasTw (w : World) (g : Nat) : Prop := ∀ k, k < 5 → w.cell? ⟨g, k, none⟩ = some (.int .u64 (twP k))
theorem HasTw.of_block {w w' : World} {g : Nat} (h : HasTw w g) (hb : w'.heap[g]? = w.heap[g]?) : HasTw w' g := fun k hk => (World.cell?_of_block (a := ⟨g, k, none⟩) hb).trans (h k hk)
theorem HasTw.lt {w : World} {g : Nat} (h : HasTw w g) : g < w.heap.size := block_lt_of_cell (h 0 (by omega))
theorem HasTw.up {w w' : World} {g : Nat} (h : HasTw w g) (n : Below w.heap.size w w') : HasTw w' g := h.of_block (n.block g h.lt)

end Go.Proofs.YtpjgedbemblnhaaDoor

/-
  The program's elements in regions by facts: five limbs as a value and in memory, pairs of elements, the calls on them.
-/
namespace Go.Proofs.YtpjgedbemblnhaaDoor
set_option maxRecDepth 100000
open Go Go.RowKit

def cl5 (e : Nat → Int) : List Value := [.int .u64 (e 0), .int .u64 (e 1), .int .u64 (e 2), .int .u64 (e 3), .int .u64 (e 4)]
def cl10 (e f : Nat → Int) : List Value := [.int .u64 (e 0), .int .u64 (e 1), .int .u64 (e 2), .int .u64 (e 3), .int .u64 (e 4), .int .u64 (f 0), .int .u64 (f 1), .int .u64 (f 2), .int .u64 (f 3), .int .u64 (f 4)]
def ag10 (e f : Nat → Int) : Value := .agg (cl10 e f).toArray
/-- Five limbs of A modulo P. -/
def Is5 (e : Nat → Int) (A : Int) : Prop := Lm e ∧ sv e 5 = A % PP
def EM (A : Int) : Fact := ⟨fun v _ => ∃ e, v = ag5 e ∧ Is5 e A, fun _ h => h⟩
/-- Two of them. -/
def E2 (A B : Int) : Fact := ⟨fun v _ => ∃ e f, v = ag10 e f ∧ Is5 e A ∧ Is5 f B, fun _ h => h⟩
def Em5 (W : World) (q o : Nat) (A : Int) : Prop := ∃ e, W.rangeAt q o (cl5 e) ∧ q < W.heap.size ∧ Is5 e A
def Rat (W : World) (q : Nat) (A B : Int) : Prop := ∃ e f, W.rangeAt q 0 (cl10 e f) ∧ W.there q 0 10 ∧ Is5 e A ∧ Is5 f B
theorem Em5.up {W W' : World} {q o : Nat} {A : Int} (h : Em5 W q o A) (n : Below W.heap.size W W') : Em5 W' q o A := by
  obtain ⟨t, r, l, h⟩ := h
  exact ⟨t, fun j v hv => (World.cell?_of_block (a := ⟨q, o + j, none⟩) (n.block q l)).trans (r j v hv), Nat.lt_of_lt_of_le l n.size, h⟩
theorem Em5.but {W W' : World} {g o q : Nat} {A : Int} (h : Em5 W g o A) (k : ButQ q W W') (hne : g ≠ q) : Em5 W' g o A := by
  obtain ⟨t, r, l, h⟩ := h
  exact ⟨t, fun j v hv => (World.cell?_of_block (a := ⟨g, o + j, none⟩) (k.1 g hne l)).trans (r j v hv), Nat.lt_of_lt_of_le l k.2, h⟩
theorem Em5.lt {W : World} {q o : Nat} {A : Int} (h : Em5 W q o A) : q < W.heap.size := by
  obtain ⟨_, _, l, _⟩ := h
  exact l
theorem Rat.lt {W : World} {q : Nat} {A B : Int} (h : Rat W q A B) : q < W.heap.size := by
  obtain ⟨_, _, _, t, _⟩ := h
  exact there_lt (by omega) t
theorem Rat.up {W W' : World} {q : Nat} {A B : Int} (h : Rat W q A B) (n : Below W.heap.size W W') : Rat W' q A B := by
  have l := h.lt
  obtain ⟨e, f, r, t, h⟩ := h
  exact ⟨e, f, fun j v hv => (World.cell?_of_block (a := ⟨q, 0 + j, none⟩) (n.block q l)).trans (r j v hv), there_up (by omega) t n, h⟩
theorem Rat.but {W W' : World} {g q : Nat} {A B : Int} (h : Rat W g A B) (k : ButQ q W W') (hne : g ≠ q) : Rat W' g A B := by
  have l := h.lt
  obtain ⟨e, f, r, t, h⟩ := h
  exact ⟨e, f, fun j v hv => (World.cell?_of_block (a := ⟨g, 0 + j, none⟩) (k.1 g hne l)).trans (r j v hv), there_but (by omega) t k hne, h⟩
theorem Rat.x {W : World} {q : Nat} {A B : Int} (h : Rat W q A B) : Em5 W q 0 A := by
  have l := h.lt
  obtain ⟨e, f, r, t, h⟩ := h
  refine ⟨e, fun j v hv => r j v ?_, l, h.1⟩
  have hj : j < 5 := (List.getElem?_eq_some_iff.1 hv).1
  obtain rfl | rfl | rfl | rfl | rfl : j = 0 ∨ j = 1 ∨ j = 2 ∨ j = 3 ∨ j = 4 := by omega
  all_goals exact hv
theorem Rat.y {W : World} {q : Nat} {A B : Int} (h : Rat W q A B) : Em5 W q 5 B := by
  have l := h.lt
  obtain ⟨e, f, r, t, h⟩ := h
  refine ⟨f, fun j v hv => ?_, l, h.2⟩
  have hj : j < 5 := (List.getElem?_eq_some_iff.1 hv).1
  have q := r (5 + j) v (by
    obtain rfl | rfl | rfl | rfl | rfl : j = 0 ∨ j = 1 ∨ j = 2 ∨ j = 3 ∨ j = 4 := by omega
    all_goals exact hv)
  simpa using q
theorem cl5_one (e : Nat → Int) : (cl5 e).toArray.all (·.oneCell') = true := by simp [cl5, Value.oneCell']
theorem cl10_one (e f : Nat → Int) : (cl10 e f).toArray.all (·.oneCell') = true := by simp [cl10, Value.oneCell']
theorem u5 : Tryd.prog.underlying 35 = some (.array 5 33) := Tryd.underlying35
theorem i5 : (Tryd.prog.info? 35).map (·.size) = some 5 := by kernel_rfl
/-- A small number as an element. -/
def sm5 (n : Int) (j : Nat) : Int := if j = 0 then n else 0
theorem sm5_ok {n : Int} (h0 : 0 ≤ n) (h1 : n < 1000000) : Is5 (sm5 n) n := by
  refine ⟨fun j _ => ?_, ?_⟩
  · unfold sm5
    split <;> omega
  · simp only [sv, sm5]
    rw [Int.emod_eq_of_lt h0 (Int.lt_trans h1 (by decide))]
    simp
theorem bu5 (n : Int) (w : World) : (Instr.build 35 #[(0, .int .u64 n)]).run Tryd.prog w = .ok (ag5 (sm5 n)) w := by kernel_rfl
section
variable {P : Program} {ops : Array Oper} {Q : Exit → Act → World → Prop} {md : Region.Mode} {F : Nat → Fact} {a0 : Act} {w0 : World} {i : Nat} {o : Oper} {ts : Array TypeId}
theorem step_mv (hi : ops[i]? = some o) (p : Nat) (hop : o.op = .move (.tmp p)) (hp : apart ops p = true) {v : Value} (h0 : a0.tmps.getD p undef = v) (hF : F i = Fact.eq v) : StepOk P md ops Q F a0 w0 i := by
  refine step_pure hi fun b w hb hw _ => ⟨v, ?_, by rw [hF]; exact rfl⟩
  have e := (based_at hb p hp).trans h0
  simp [execOp, hop, e]
theorem step_nil (hi : ops[i]? = some o) (p j : Nat) (hop : o.op = .nilCheck (.tmp p)) (hj : waits md ops i j p = true) {q off : Nat} (hFj : F j = Fact.eq (.pointer (some ⟨q, off, none⟩))) (hF : F i = Fact.eq (.pointer (some ⟨q, off, none⟩))) : StepOk P md ops Q F a0 w0 i := by
  refine step_pure hi fun a w hb hw hf => ⟨.pointer (some ⟨q, off, none⟩), ?_, by rw [hF]; exact rfl⟩
  have e := hf j p hj
  rw [hFj] at e
  have e' : a.eval (.tmp p) = .pointer (some ⟨q, off, none⟩) := e
  simp [execOp, hop, e']
/-- A field's address, the place made in the region. -/
theorem step_fldf (hi : ops[i]? = some o) (ty : TypeId) (p f j : Nat) (hop : o.op = .fieldAddr ty (.tmp p) f) (hj : waits md ops i j p = true) (q off : Nat) (hFj : F j = Fact.eq (.pointer (some ⟨q, 0, none⟩)))
    (hr : ∀ w, (Instr.fieldAt ty (.pointer (some ⟨q, 0, none⟩)) f).run P w = .ok (.pointer (some ⟨q, off, none⟩)) w) (hF : F i = Fact.eq (.pointer (some ⟨q, off, none⟩))) : StepOk P md ops Q F a0 w0 i := by
  refine step_pure hi fun a w hb _ hf => ⟨_, ?_, by rw [hF]; exact rfl⟩
  have e := hf j p hj
  rw [hFj] at e
  have e' : a.eval (.tmp p) = .pointer (some ⟨q, 0, none⟩) := e
  simp [execOp, hop, e', hr]
end
section
variable {ops : Array Oper} {Q : Exit → Act → World → Prop} {md : Region.Mode} {F : Nat → Fact} {a0 : Act} {w0 : World} {i : Nat} {o : Oper} {ts : Array TypeId}
theorem step_e5 (hi : ops[i]? = some o) (p : Nat) (hop : o.op = .load 35 (.tmp p)) (hp : apart ops p = true) (q off : Nat) (h0 : a0.tmps.getD p undef = .pointer (some ⟨q, off, none⟩)) (A : Int) (hE : Em5 w0 q off A) (hF : F i = EM A) : StepOk Tryd.prog md ops Q F a0 w0 i := by
  refine step_load hi _ _ hop _ 5 u5 rfl i5 fun a w hb hw _ => ?_
  obtain ⟨t, r, _, h⟩ := hE.up hw
  exact ⟨q, off, _, (based_at hb p hp).trans h0, r, rfl, by rw [hF]; exact ⟨t, rfl, h⟩⟩
theorem step_e5f (hi : ops[i]? = some o) (p j : Nat) (hop : o.op = .load 35 (.tmp p)) (hj : waits md ops i j p = true) (q off : Nat) (hFj : F j = Fact.eq (.pointer (some ⟨q, off, none⟩))) (A : Int) (hE : Em5 w0 q off A) (hF : F i = EM A) : StepOk Tryd.prog md ops Q F a0 w0 i := by
  refine step_load hi _ _ hop _ 5 u5 rfl i5 fun a w _ hw hf => ?_
  obtain ⟨t, r, _, h⟩ := hE.up hw
  have e := hf j p hj
  rw [hFj] at e
  exact ⟨q, off, _, e, r, rfl, by rw [hF]; exact ⟨t, rfl, h⟩⟩
theorem step_b5 (hi : ops[i]? = some o) (n : Int) (h0 : 0 ≤ n ∧ n < 1000000) (hop : o.op = .build 35 #[(0, .const (.int .u64 n))]) (hF : F i = EM n) : StepOk Tryd.prog md ops Q F a0 w0 i := by
  refine step_pure hi fun a w _ _ _ => ⟨ag5 (sm5 n), ?_, by rw [hF]; exact ⟨_, rfl, sm5_ok h0.1 h0.2⟩⟩
  simp only [execOp, hop]
  have g : (#[(0, Operand.const (.int .u64 n))].map fun (n, x) => (n, a.eval x)) = #[(0, .int .u64 n)] := by simp [Act.eval]
  rw [g, Sem.run_bind, bu5]
  rfl
theorem step_two5 (hi : ops[i]? = some o) (n : FuncId) (p q : Nat) (hop : o.op = .call { callee := .value (.func n), args := #[.tmp p, .tmp q], argTypes := ts }) (he : enters Tryd.prog n = true)
    (f : Int → Int → Int) (law : ∀ (w : World) (a b : Nat → Int), Below w0.heap.size w0 w → Lm a → Lm b → Calls Tryd.prog n #[ag5 a, ag5 b] w fun r w' => ∃ t, r = .returned (ag5 t) ∧ Lm t ∧ sv t 5 = f (sv a 5) (sv b 5) % PP ∧ Below w.heap.size w w')
    (hf : ∀ a b A B : Int, a % PP = A % PP → b % PP = B % PP → f a b % PP = f A B % PP)
    (j k : Nat) (A B : Int) (hj : waits md ops i j p = true) (hk : waits md ops i k q = true) (hFj : F j = EM A) (hFk : F k = EM B) (hFi : F i = EM (f A B)) : StepOk Tryd.prog md ops Q F a0 w0 i := by
  refine step_call hi n _ ts hop he fun a w _ hw hF => ?_
  have ea := hF j p hj
  have eb := hF k q hk
  rw [hFj] at ea
  rw [hFk] at eb
  obtain ⟨t, e1, L1, V1⟩ := ea
  obtain ⟨u, e2, L2, V2⟩ := eb
  show Calls Tryd.prog n #[a.tmps.getD p undef, a.tmps.getD q undef] w _
  rw [e1, e2]
  refine (law w t u hw L1 L2).mono ?_
  rintro r w' ⟨s, rfl, L, V, hn⟩
  rw [hFi]
  refine ⟨_, rfl, hn, s, rfl, L, ?_⟩
  rw [V]
  exact hf _ _ _ _ (by rw [V1, Int.emod_emod_of_dvd _ (Int.dvd_refl _)]) (by rw [V2, Int.emod_emod_of_dvd _ (Int.dvd_refl _)])
theorem step_one5 (hi : ops[i]? = some o) (n : FuncId) (p : Nat) (hop : o.op = .call { callee := .value (.func n), args := #[.tmp p], argTypes := ts }) (he : enters Tryd.prog n = true)
    (f : Int → Int) (law : ∀ (w : World) (a : Nat → Int), Below w0.heap.size w0 w → Elm a → Calls Tryd.prog n #[ag5 a] w fun r w' => ∃ t, r = .returned (ag5 t) ∧ Lm t ∧ sv t 5 = f (sv a 5) % PP ∧ Below w.heap.size w w')
    (hf : ∀ a A : Int, a % PP = A % PP → f a % PP = f A % PP)
    (j : Nat) (A : Int) (hj : waits md ops i j p = true) (hFj : F j = EM A) (hFi : F i = EM (f A)) : StepOk Tryd.prog md ops Q F a0 w0 i := by
  refine step_call hi n _ ts hop he fun a w _ hw hF => ?_
  have ea := hF j p hj
  rw [hFj] at ea
  obtain ⟨t, e1, L1, V1⟩ := ea
  show Calls Tryd.prog n #[a.tmps.getD p undef] w _
  rw [e1]
  refine (law w t hw (Elm.of L1 V1)).mono ?_
  rintro r w' ⟨s, rfl, L, V, hn⟩
  rw [hFi]
  refine ⟨_, rfl, hn, s, rfl, L, ?_⟩
  rw [V]
  exact hf _ _ (by rw [V1, Int.emod_emod_of_dvd _ (Int.dvd_refl _)])
abbrev zObj5 : Obj := .cells #[.int .u64 0, .int .u64 0, .int .u64 0, .int .u64 0, .int .u64 0] 35
theorem fresh_grow (hi : ops[i]? = some o) (ob : Obj)
    (G : ∀ (a : Act) (w : World), Below w0.heap.size w0 w → (execOp a.eval o).run Tryd.prog w = .ok (.value (.pointer (some ⟨w.heap.size, 0, none⟩))) (w.alloc ob) ∧ (F i).p (.pointer (some ⟨w.heap.size, 0, none⟩)) (w.alloc ob)) : FreshOk Tryd.prog md ops Q F a0 w0 i := by
  intro o' ho' a w hb hw hf K hK
  obtain rfl := Option.some.inj (hi.symm.trans ho')
  obtain ⟨hr, hv⟩ := G a w hw
  unfold Oper.wp
  rw [hr]
  exact hK _ _ ((Below.refl _ _).alloc (Nat.le_refl _) _) hv rfl (by simp)
theorem fresh_new5 (hi : ops[i]? = some o) (hop : o.op = .alloc 35) (hF : F i = NB w0 5) : FreshOk Tryd.prog md ops Q F a0 w0 i := by
  refine fresh_grow hi zObj5 fun a w hw => ⟨?_, ?_⟩
  · simp only [execOp, hop]
    kernel_rfl
  · rw [hF]
    exact ⟨by omega, _, rfl, there_new w _ _, hw.size⟩
theorem step_new5 (hi : ops[i]? = some o) (hop : o.op = .alloc 35) (hF : F i = NB w0 5) : StepOk Tryd.prog md ops Q F a0 w0 i := (fresh_new5 hi hop hF).step
end
theorem set_em {W : World} {q : Nat} {t : Nat → Int} {A : Int} (th : W.there q 0 5) (h : Is5 t A) : Em5 (W.setCells q 0 (cl5 t)) q 0 A :=
  ⟨t, World.rangeAt_setCells_same W q 0 _ th, by rw [heap_size_setCells]; exact there_lt (by omega) th, h⟩
theorem set_rat {W : World} {q : Nat} {e f : Nat → Int} {A B : Int} (th : W.there q 0 10) (h : Is5 e A) (h' : Is5 f B) : Rat (W.setCells q 0 (cl10 e f)) q A B :=
  ⟨e, f, World.rangeAt_setCells_same W q 0 _ th, World.there_setCells th _ _ _, h, h'⟩
section
variable {ops : Array Oper} {Q : Exit → Act → World → Prop} {a0 : Act} {w : World} {id : Nat} {draw : Bool}
/-- A region that makes an element's block and lays one there. -/
theorem region_new5 (k jA jV pA pV : Nat) (o : Oper) (F : Nat → Fact) (A : Int) (hT : textOk .any ops a0.tmps.size k = true) (hk : ops[k]? = some o) (hd : o.dst = none) (hop : o.op = .store 35 (.tmp pA) (.tmp pV))
    (wA : writes ops jA pA = true) (wV : writes ops jV pV = true) (FA : F jA = NB w 5) (FV : F jV = EM A) (steps : ∀ i, i < k → StepOk Tryd.prog .any ops Q F a0 w i)
    (fin : ∀ (vs : Nat → Value) (q : Nat) (W : World), vs pA = .pointer (some ⟨q, 0, none⟩) → w.heap.size ≤ q → Below w.heap.size w W → Em5 W q 0 A → Q .normal (puts vs a0 ops.toList) W) :
    (Code.region id ops draw).wp Tryd.prog Q a0 w := by
  refine region_store k o F (by kernel_rfl) hT hk hd steps fun a W hb hw hF => ?_
  have h1 := hF jA pA wA
  have h2 := hF jV pV wV
  rw [FA] at h1
  rw [FV] at h2
  obtain ⟨_, q, eq, th, hq⟩ := h1
  obtain ⟨t, ev, V⟩ := h2
  refine wp_store_mid 35 (.tmp pA) (.tmp pV) hop q 0 (cl5 t).toArray eq ev th i5 (cl5_one t) ?_
  obtain ⟨vs, hvs⟩ : ∃ vs : Nat → Value, ∀ d, a.tmps.getD d undef = vs d := ⟨_, fun _ => rfl⟩
  rw [hd]
  show Q .normal a _
  rw [puts_of hT rfl hb vs hvs]
  exact fin vs q _ ((hvs pA).symm.trans eq) hq (below_setCells hq _ _ _ hw) (set_em th V)
/-- Two at once. -/
theorem region_new55 (k jA jV pA pV jB jU pB pU : Nat) (o1 o2 : Oper) (F : Nat → Fact) (A B : Int) (hT : textTwo .any ops a0.tmps.size k = true) (hk1 : ops[k]? = some o1) (hk2 : ops[k + 1]? = some o2) (hd1 : o1.dst = none) (hd2 : o2.dst = none)
    (hop1 : o1.op = .store 35 (.tmp pA) (.tmp pV)) (hop2 : o2.op = .store 35 (.tmp pB) (.tmp pU))
    (wA : writes ops jA pA = true) (wV : writes ops jV pV = true) (wB : writes ops jB pB = true) (wU : writes ops jU pU = true) (FA : F jA = NB w 5) (FV : F jV = EM A) (FB : F jB = NB w 5) (FU : F jU = EM B)
    (qA : jA < k) (qB : jB < k) (hne : jA ≠ jB) (fA : FreshOk Tryd.prog .any ops Q F a0 w jA) (fB : FreshOk Tryd.prog .any ops Q F a0 w jB) (steps : ∀ i, i < k → StepOk Tryd.prog .any ops Q F a0 w i)
    (fin : ∀ (vs : Nat → Value) (q q' : Nat) (W : World), vs pA = .pointer (some ⟨q, 0, none⟩) → vs pB = .pointer (some ⟨q', 0, none⟩) → w.heap.size ≤ q → w.heap.size ≤ q' → q ≠ q' → Below w.heap.size w W → Em5 W q 0 A → Em5 W q' 0 B → Q .normal (puts vs a0 ops.toList) W) :
    (Code.region id ops true).wp Tryd.prog Q a0 w := by
  refine region_two k o1 o2 F (by kernel_rfl) hT hk1 hk2 steps jA jB pA pB qA qB hne wA wB fA fB fun a W hb hw hF hn => ?_
  have h1 := hF jA pA wA
  have h2 := hF jV pV wV
  have h3 := hF jB pB wB
  have h4 := hF jU pU wU
  rw [FA] at h1
  rw [FV] at h2
  rw [FB] at h3
  rw [FU] at h4
  obtain ⟨_, q, eq, th, hq⟩ := h1
  obtain ⟨t, ev, V⟩ := h2
  obtain ⟨_, q', eq', th', hq'⟩ := h3
  obtain ⟨u, eu, U⟩ := h4
  rw [eq, eq'] at hn
  have hqq : q ≠ q' := fun e => hn (by rw [e])
  refine wp_store_mid 35 (.tmp pA) (.tmp pV) hop1 q 0 (cl5 t).toArray eq ev th i5 (cl5_one t) ?_
  rw [hd1]
  show o2.wp _ a _ _ _
  have b1 : ButQ q W (W.setCells q 0 (cl5 t)) := but_set (Below.refl _ _) _
  have n1 := below_setCells hq (cl5 t) 0 _ hw
  refine wp_store_mid 35 (.tmp pB) (.tmp pU) hop2 q' 0 (cl5 u).toArray eq' eu (there_but (n := 5) (by decide) th' b1 (Ne.symm hqq)) i5 (cl5_one u) ?_
  obtain ⟨vs, hvs⟩ : ∃ vs : Nat → Value, ∀ d, a.tmps.getD d undef = vs d := ⟨_, fun _ => rfl⟩
  rw [hd2]
  show Q .normal a _
  rw [puts_two hT rfl hb vs hvs]
  exact fin vs q q' _ ((hvs pA).symm.trans eq) ((hvs pB).symm.trans eq') hq hq' hqq (below_setCells hq' _ _ _ n1) ((set_em th V).but (but_set (q := q') (Below.refl _ _) _) hqq) (set_em (there_but (by decide) th' b1 (Ne.symm hqq)) U)
/-- A region that lays an element into a block that was there. -/
theorem region_put5 (k jV pD pV : Nat) (o : Oper) (F : Nat → Fact) (A : Int) (q : Nat) (hT : textOk .any ops a0.tmps.size k = true) (hk : ops[k]? = some o) (hd : o.dst = none) (hop : o.op = .store 35 (.tmp pD) (.tmp pV))
    (hp : apart ops pD = true) (h0 : a0.tmps.getD pD undef = .pointer (some ⟨q, 0, none⟩)) (ht : w.there q 0 5) (wV : writes ops jV pV = true) (FV : F jV = EM A) (steps : ∀ i, i < k → StepOk Tryd.prog .any ops Q F a0 w i)
    (fin : ∀ (vs : Nat → Value) (W W' : World), Below w.heap.size w W → ButQ q w W' → Em5 W' q 0 A → (∀ (w1 : World) (B : Nat), Below B w1 W → B ≤ q → Below B w1 W') → Q .normal (puts vs a0 ops.toList) W') :
    (Code.region id ops draw).wp Tryd.prog Q a0 w := by
  refine region_store k o F (by kernel_rfl) hT hk hd steps fun a W hb hw hF => ?_
  have h2 := hF jV pV wV
  rw [FV] at h2
  obtain ⟨t, ev, V⟩ := h2
  have th := there_up (by omega) ht hw
  refine wp_store_mid 35 (.tmp pD) (.tmp pV) hop q 0 (cl5 t).toArray ((based_at hb pD hp).trans h0) ev th i5 (cl5_one t) ?_
  obtain ⟨vs, hvs⟩ : ∃ vs : Nat → Value, ∀ d, a.tmps.getD d undef = vs d := ⟨_, fun _ => rfl⟩
  rw [hd]
  show Q .normal a _
  rw [puts_of hT rfl hb vs hvs]
  exact fin vs W _ hw (but_set hw _) (set_em th V) (fun w1 B n hB => below_setCells hB _ _ _ n)
end
end Go.Proofs.YtpjgedbemblnhaaDoor

/-
  Rows of elements, as the program holds its points: as values and in memory.
-/
namespace Go.Proofs.YtpjgedbemblnhaaDoor
set_option maxRecDepth 100000
open Go Go.RowKit

def clN : List (Nat → Int) → List Value
  | [] => []
  | e :: es => cl5 e ++ clN es
def agN (es : List (Nat → Int)) : Value := .agg (clN es).toArray
/-- Each of these is five limbs of the number at its place. -/
def IsN : List (Nat → Int) → List Int → Prop
  | [], [] => True
  | e :: es, A :: As => Is5 e A ∧ IsN es As
  | _, _ => False
def EN (As : List Int) : Fact := ⟨fun v _ => ∃ es, v = agN es ∧ IsN es As, fun _ h => h⟩
def RowN (W : World) (q o : Nat) (As : List Int) : Prop := ∃ es, W.rangeAt q o (clN es) ∧ q < W.heap.size ∧ IsN es As
theorem clN_len : ∀ {es : List (Nat → Int)} {As : List Int}, IsN es As → (clN es).length = 5 * As.length
  | [], [], _ => rfl
  | e :: es, A :: As, h => by
    have := clN_len h.2
    simp only [clN, List.length_append, List.length_cons, this]
    simp [cl5]
    omega
  | [], _ :: _, h => h.elim
  | _ :: _, [], h => h.elim
theorem clN_one : ∀ (es : List (Nat → Int)), (clN es).toArray.all (·.oneCell') = true := by
  intro es
  refine all_oneCell_toArray fun v hv => ?_
  induction es with
  | nil => cases hv
  | cons e es ih =>
    rcases List.mem_append.1 hv with h | h
    · exact Array.all_eq_true_iff_forall_mem.1 (cl5_one e) v (by simpa using h)
    · exact ih h
theorem RowN.up {W W' : World} {q o : Nat} {As : List Int} (h : RowN W q o As) (n : Below W.heap.size W W') : RowN W' q o As := by
  obtain ⟨t, r, l, h⟩ := h
  exact ⟨t, fun j v hv => (World.cell?_of_block (a := ⟨q, o + j, none⟩) (n.block q l)).trans (r j v hv), Nat.lt_of_lt_of_le l n.size, h⟩
theorem RowN.but {W W' : World} {g o q : Nat} {As : List Int} (h : RowN W g o As) (k : ButQ q W W') (hne : g ≠ q) : RowN W' g o As := by
  obtain ⟨t, r, l, h⟩ := h
  exact ⟨t, fun j v hv => (World.cell?_of_block (a := ⟨g, o + j, none⟩) (k.1 g hne l)).trans (r j v hv), Nat.lt_of_lt_of_le l k.2, h⟩
theorem RowN.lt {W : World} {q o : Nat} {As : List Int} (h : RowN W q o As) : q < W.heap.size := by
  obtain ⟨_, _, l, _⟩ := h
  exact l
theorem RowN.at0 {W : World} {q o : Nat} {A : Int} {As : List Int} (h : RowN W q o (A :: As)) : Em5 W q o A := by
  obtain ⟨es, r, l, h⟩ := h
  cases es with
  | nil => exact h.elim
  | cons e es =>
    refine ⟨e, fun j v hv => r j v ?_, l, h.1⟩
    show (cl5 e ++ clN es)[j]? = some v
    rw [List.getElem?_append_left (List.getElem?_eq_some_iff.1 hv).1]
    exact hv
theorem RowN.tail {W : World} {q o : Nat} {A : Int} {As : List Int} (h : RowN W q o (A :: As)) : RowN W q (o + 5) As := by
  obtain ⟨es, r, l, h⟩ := h
  cases es with
  | nil => exact h.elim
  | cons e es =>
    refine ⟨es, fun j v hv => ?_, l, h.2⟩
    have q := r (5 + j) v (by
      show (cl5 e ++ clN es)[5 + j]? = some v
      rw [List.getElem?_append_right (by show 5 ≤ _; omega)]
      show (clN es)[5 + j - 5]? = some v
      rw [show 5 + j - 5 = j by omega]
      exact hv)
    rw [show o + 5 + j = o + (5 + j) by omega]
    exact q
theorem RowN.init {W : World} {q o : Nat} {A B C : Int} {As : List Int} (h : RowN W q o (A :: B :: C :: As)) : RowN W q o [A, B, C] := by
  obtain ⟨es, r, l, h⟩ := h
  match es, h with
  | e :: f :: g :: es, h =>
    refine ⟨[e, f, g], fun j v hv => r j v ?_, l, h.1, h.2.1, h.2.2.1, trivial⟩
    have hj : j < 15 := (List.getElem?_eq_some_iff.1 hv).1
    show (cl5 e ++ (cl5 f ++ (cl5 g ++ clN es)))[j]? = some v
    have e1 : cl5 e ++ (cl5 f ++ (cl5 g ++ clN es)) = clN [e, f, g] ++ clN es := by simp [clN]
    rw [e1, List.getElem?_append_left (by show j < 15; exact hj)]
    exact hv
  | [], h => exact h.elim
  | [_], h => exact h.2.elim
  | [_, _], h => exact h.2.2.elim
theorem rowN_new (W : World) (t : TypeId) {es : List (Nat → Int)} {As : List Int} (h : IsN es As) : RowN (W.alloc (.cells (clN es).toArray t)) W.heap.size 0 As := by
  have e : (W.alloc (.cells (clN es).toArray t)).heap[W.heap.size]? = some (.cells (clN es).toArray t) := heap_alloc_last _ _
  refine ⟨es, fun j v hv => ?_, by simp, h⟩
  unfold World.cell?
  simp only
  rw [e]
  simpa using hv
theorem set_rowN {W : World} {q : Nat} {es : List (Nat → Int)} {As : List Int} (th : W.there q 0 (5 * As.length)) (ha : 0 < As.length) (h : IsN es As) : RowN (W.setCells q 0 (clN es)) q 0 As :=
  ⟨es, World.rangeAt_setCells_same W q 0 _ (by rw [clN_len h]; exact th), by rw [heap_size_setCells]; exact there_lt (by omega) th, h⟩
theorem IsN.cg : ∀ {es : List (Nat → Int)} {As Bs : List Int}, IsN es As → As.map (· % PP) = Bs.map (· % PP) → IsN es Bs
  | [], [], [], _, _ => trivial
  | e :: es, A :: As, B :: Bs, h, k => by
    simp only [List.map_cons, List.cons.injEq] at k
    exact ⟨⟨h.1.1, h.1.2.trans k.1⟩, IsN.cg h.2 k.2⟩
  | [], [], _ :: _, _, k => by simp at k
  | _ :: _, _ :: _, [], _, k => by simp at k
  | [], _ :: _, _, h, _ => h.elim
  | _ :: _, [], _, h, _ => h.elim

theorem isN3 {es : List (Nat → Int)} {A B C : Int} (h : IsN es [A, B, C]) : ∃ x y z, es = [x, y, z] ∧ Is5 x A ∧ Is5 y B ∧ Is5 z C := by
  match es, h with
  | [x, y, z], h => exact ⟨x, y, z, rfl, h.1, h.2.1, h.2.2.1⟩
  | [], h => exact h.elim
  | [_], h => exact h.2.elim
  | [_, _], h => exact h.2.2.elim
  | _ :: _ :: _ :: _ :: _, h => exact h.2.2.2.elim
theorem isN2 {es : List (Nat → Int)} {A B : Int} (h : IsN es [A, B]) : ∃ x y, es = [x, y] ∧ Is5 x A ∧ Is5 y B := by
  match es, h with
  | [x, y], h => exact ⟨x, y, rfl, h.1, h.2.1⟩
  | [], h => exact h.elim
  | [_], h => exact h.2.elim
  | _ :: _ :: _ :: _, h => exact h.2.2.elim
theorem isN4 {es : List (Nat → Int)} {A B C D : Int} (h : IsN es [A, B, C, D]) : ∃ x y z t, es = [x, y, z, t] ∧ Is5 x A ∧ Is5 y B ∧ Is5 z C ∧ Is5 t D := by
  match es, h with
  | [x, y, z, t], h => exact ⟨x, y, z, t, rfl, h.1, h.2.1, h.2.2.1, h.2.2.2.1⟩
  | [], h => exact h.elim
  | [_], h => exact h.2.elim
  | [_, _], h => exact h.2.2.elim
  | [_, _, _], h => exact h.2.2.2.elim
  | _ :: _ :: _ :: _ :: _ :: _, h => exact h.2.2.2.2.elim
theorem buA (e f : Nat → Int) (w : World) : (Instr.build 37 #[(0, ag5 e), (1, ag5 f)]).run Tryd.prog w = .ok (agN [e, f]) w := by kernel_rfl
theorem fxA (q : Nat) (w : World) : (Instr.fieldAt 37 (.pointer (some ⟨q, 0, none⟩)) 0).run Tryd.prog w = .ok (.pointer (some ⟨q, 0, none⟩)) w := by kernel_rfl
theorem fyA (q : Nat) (w : World) : (Instr.fieldAt 37 (.pointer (some ⟨q, 0, none⟩)) 1).run Tryd.prog w = .ok (.pointer (some ⟨q, 5, none⟩)) w := by kernel_rfl
theorem iA : (Tryd.prog.info? 37).map (·.size) = some 10 := by kernel_rfl
theorem uA : ∃ fs, Tryd.prog.underlying 37 = some (.struct fs) := ⟨_, Tryd.underlying37⟩
section
variable {ops : Array Oper} {Q : Exit → Act → World → Prop} {md : Region.Mode} {F : Nat → Fact} {a0 : Act} {w0 : World} {i : Nat} {o : Oper} {ts : Array TypeId}
/-- A row of elements is read, at a known place. -/
theorem step_en (ty : TypeId) (d : TypeDesc) (n : Nat) (hu : Tryd.prog.underlying ty = some d) (hd : d.isRow = true) (hs : (Tryd.prog.info? ty).map (·.size) = some n) (hi : ops[i]? = some o) (p : Nat) (hop : o.op = .load ty (.tmp p)) (hp : apart ops p = true) (q off : Nat) (h0 : a0.tmps.getD p undef = .pointer (some ⟨q, off, none⟩)) (As : List Int) (hn : 5 * As.length = n) (hE : RowN w0 q off As) (hF : F i = EN As) : StepOk Tryd.prog md ops Q F a0 w0 i := by
  refine step_load hi _ _ hop d n hu hd hs fun a w hb hw _ => ?_
  obtain ⟨t, r, _, h⟩ := hE.up hw
  exact ⟨q, off, _, (based_at hb p hp).trans h0, r, (clN_len h).trans hn, by rw [hF]; exact ⟨t, rfl, h⟩⟩
theorem step_enf (ty : TypeId) (d : TypeDesc) (n : Nat) (hu : Tryd.prog.underlying ty = some d) (hd : d.isRow = true) (hs : (Tryd.prog.info? ty).map (·.size) = some n) (hi : ops[i]? = some o) (p j : Nat) (hop : o.op = .load ty (.tmp p)) (hj : waits md ops i j p = true) (q off : Nat) (hFj : F j = Fact.eq (.pointer (some ⟨q, off, none⟩))) (As : List Int) (hn : 5 * As.length = n) (hE : RowN w0 q off As) (hF : F i = EN As) : StepOk Tryd.prog md ops Q F a0 w0 i := by
  refine step_load hi _ _ hop d n hu hd hs fun a w _ hw hf => ?_
  obtain ⟨t, r, _, h⟩ := hE.up hw
  have e := hf j p hj
  rw [hFj] at e
  exact ⟨q, off, _, e, r, (clN_len h).trans hn, by rw [hF]; exact ⟨t, rfl, h⟩⟩
theorem EM_EN {A : Int} {v : Value} {w : World} : (EM A).p v w ↔ (EN [A]).p v w := by
  constructor
  · rintro ⟨e, rfl, h⟩
    exact ⟨[e], by simp [agN, clN, ag5, cl5], h, trivial⟩
  · rintro ⟨es, rfl, h⟩
    match es, h with
    | [e], h => exact ⟨e, by simp [agN, clN, ag5, cl5], h.1⟩
    | _ :: _ :: _, h => exact h.2.elim
theorem step_bA (hi : ops[i]? = some o) (p q j k : Nat) (A B : Int) (hop : o.op = .build 37 #[(0, .tmp p), (1, .tmp q)])
    (hj : waits md ops i j p = true) (hk : waits md ops i k q = true) (hFj : F j = EM A) (hFk : F k = EM B) (hFi : F i = EN [A, B]) : StepOk Tryd.prog md ops Q F a0 w0 i := by
  refine step_pure hi fun a w _ _ hf => ?_
  have h1 := hf j p hj
  have h2 := hf k q hk
  rw [hFj] at h1
  rw [hFk] at h2
  obtain ⟨x, e1, X⟩ := h1
  obtain ⟨y, e2, Y⟩ := h2
  refine ⟨agN [x, y], ?_, by rw [hFi]; exact ⟨[x, y], rfl, X, Y, trivial⟩⟩
  have g1 : a.eval (.tmp p) = ag5 x := e1
  have g2 : a.eval (.tmp q) = ag5 y := e2
  have g : (#[(0, Operand.tmp p), (1, Operand.tmp q)].map fun (n, x) => (n, a.eval x)) = #[(0, ag5 x), (1, ag5 y)] := by simp [g1, g2]
  simp only [execOp, hop, g]
  rw [Sem.run_bind, buA]
  rfl
theorem step_oneN (hi : ops[i]? = some o) (n : FuncId) (p : Nat) (hop : o.op = .call { callee := .value (.func n), args := #[.tmp p], argTypes := ts }) (he : enters Tryd.prog n = true)
    (j : Nat) (As Bs : List Int) (law : ∀ (w : World) (es : List (Nat → Int)), Below w0.heap.size w0 w → IsN es As → Calls Tryd.prog n #[agN es] w fun r w' => ∃ t, r = .returned (agN t) ∧ IsN t Bs ∧ Below w.heap.size w w')
    (hj : waits md ops i j p = true) (hFj : F j = EN As) (hFi : F i = EN Bs) : StepOk Tryd.prog md ops Q F a0 w0 i := by
  refine step_call hi n _ ts hop he fun a w _ hw hF => ?_
  have ea := hF j p hj
  rw [hFj] at ea
  obtain ⟨t, e1, L1⟩ := ea
  show Calls Tryd.prog n #[a.tmps.getD p undef] w _
  rw [e1]
  refine (law w t hw L1).mono ?_
  rintro r w' ⟨s, rfl, L, hn⟩
  rw [hFi]
  exact ⟨_, rfl, hn, s, rfl, L⟩
theorem step_twoN (hi : ops[i]? = some o) (n : FuncId) (p q : Nat) (hop : o.op = .call { callee := .value (.func n), args := #[.tmp p, .tmp q], argTypes := ts }) (he : enters Tryd.prog n = true)
    (j k : Nat) (As Bs Cs : List Int) (law : ∀ (w : World) (es fs : List (Nat → Int)), Below w0.heap.size w0 w → IsN es As → IsN fs Bs → Calls Tryd.prog n #[agN es, agN fs] w fun r w' => ∃ t, r = .returned (agN t) ∧ IsN t Cs ∧ Below w.heap.size w w')
    (hj : waits md ops i j p = true) (hk : waits md ops i k q = true) (hFj : F j = EN As) (hFk : F k = EN Bs) (hFi : F i = EN Cs) : StepOk Tryd.prog md ops Q F a0 w0 i := by
  refine step_call hi n _ ts hop he fun a w _ hw hF => ?_
  have ea := hF j p hj
  have eb := hF k q hk
  rw [hFj] at ea
  rw [hFk] at eb
  obtain ⟨t, e1, L1⟩ := ea
  obtain ⟨u, e2, L2⟩ := eb
  show Calls Tryd.prog n #[a.tmps.getD p undef, a.tmps.getD q undef] w _
  rw [e1, e2]
  refine (law w t u hw L1 L2).mono ?_
  rintro r w' ⟨s, rfl, L, hn⟩
  rw [hFi]
  exact ⟨_, rfl, hn, s, rfl, L⟩
end
section
variable {ops : Array Oper} {Q : Exit → Act → World → Prop} {a0 : Act} {w : World} {id : Nat} {draw : Bool}
/-- A region that lays a row of elements into a block that was there. -/
theorem region_putN (ty : TypeId) (k jV pD pV : Nat) (o : Oper) (F : Nat → Fact) (As : List Int) (q : Nat) (hT : textOk .any ops a0.tmps.size k = true) (hk : ops[k]? = some o) (hd : o.dst = none) (hop : o.op = .store ty (.tmp pD) (.tmp pV)) (hs : (Tryd.prog.info? ty).map (·.size) = some (5 * As.length)) (ha : 0 < As.length)
    (hp : apart ops pD = true) (h0 : a0.tmps.getD pD undef = .pointer (some ⟨q, 0, none⟩)) (ht : w.there q 0 (5 * As.length)) (wV : writes ops jV pV = true) (FV : F jV = EN As) (steps : ∀ i, i < k → StepOk Tryd.prog .any ops Q F a0 w i)
    (fin : ∀ (vs : Nat → Value) (W W' : World), Below w.heap.size w W → ButQ q w W' → RowN W' q 0 As → (∀ (w1 : World) (B : Nat), Below B w1 W → B ≤ q → Below B w1 W') → W'.there q 0 (5 * As.length) → Q .normal (puts vs a0 ops.toList) W') :
    (Code.region id ops draw).wp Tryd.prog Q a0 w := by
  refine region_store k o F (by kernel_rfl) hT hk hd steps fun a W hb hw hF => ?_
  have h2 := hF jV pV wV
  rw [FV] at h2
  obtain ⟨es, ev, V⟩ := h2
  have th := there_up (by omega) ht hw
  refine wp_store_mid ty (.tmp pD) (.tmp pV) hop q 0 (clN es).toArray ((based_at hb pD hp).trans h0) ev (by show W.there q 0 (clN es).length; rw [clN_len V]; exact th) (by show _ = some (clN es).length; rw [clN_len V]; exact hs) (clN_one es) ?_
  obtain ⟨vs, hvs⟩ : ∃ vs : Nat → Value, ∀ d, a.tmps.getD d undef = vs d := ⟨_, fun _ => rfl⟩
  rw [hd]
  show Q .normal a _
  rw [puts_of hT rfl hb vs hvs]
  exact fin vs W _ hw (but_set hw _) (set_rowN th ha V) (fun w1 B n hB => below_setCells hB _ _ _ n) (World.there_setCells th _ _ _)
/-- A region that makes a block and lays a row of elements there. -/
theorem region_newN (ty : TypeId) (k jA jV pA pV : Nat) (o : Oper) (F : Nat → Fact) (As : List Int) (hT : textOk .any ops a0.tmps.size k = true) (hk : ops[k]? = some o) (hd : o.dst = none) (hop : o.op = .store ty (.tmp pA) (.tmp pV)) (hs : (Tryd.prog.info? ty).map (·.size) = some (5 * As.length)) (ha : 0 < As.length)
    (wA : writes ops jA pA = true) (wV : writes ops jV pV = true) (FA : F jA = NB w (5 * As.length)) (FV : F jV = EN As) (steps : ∀ i, i < k → StepOk Tryd.prog .any ops Q F a0 w i)
    (fin : ∀ (vs : Nat → Value) (q : Nat) (W : World), vs pA = .pointer (some ⟨q, 0, none⟩) → w.heap.size ≤ q → Below w.heap.size w W → RowN W q 0 As → W.there q 0 (5 * As.length) → Q .normal (puts vs a0 ops.toList) W) :
    (Code.region id ops draw).wp Tryd.prog Q a0 w := by
  refine region_store k o F (by kernel_rfl) hT hk hd steps fun a W hb hw hF => ?_
  have h1 := hF jA pA wA
  have h2 := hF jV pV wV
  rw [FA] at h1
  rw [FV] at h2
  obtain ⟨_, q, eq, th, hq⟩ := h1
  obtain ⟨es, ev, V⟩ := h2
  refine wp_store_mid ty (.tmp pA) (.tmp pV) hop q 0 (clN es).toArray eq ev (by show W.there q 0 (clN es).length; rw [clN_len V]; exact th) (by show _ = some (clN es).length; rw [clN_len V]; exact hs) (clN_one es) ?_
  obtain ⟨vs, hvs⟩ : ∃ vs : Nat → Value, ∀ d, a.tmps.getD d undef = vs d := ⟨_, fun _ => rfl⟩
  rw [hd]
  show Q .normal a _
  rw [puts_of hT rfl hb vs hvs]
  exact fin vs q _ ((hvs pA).symm.trans eq) hq (below_setCells hq _ _ _ hw) (set_rowN th ha V) (World.there_setCells th _ _ _)
end
end Go.Proofs.YtpjgedbemblnhaaDoor
