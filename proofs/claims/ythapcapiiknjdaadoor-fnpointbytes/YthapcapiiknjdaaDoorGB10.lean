import Derived.Test.YthapcapiiknjdaaDoorGB9
import Derived.Test.YthapcapiiknjdaaDoorGB4
import Derived.Test.YthapcapiiknjdaaDoorGB1
import Derived.Test.YthapcapiiknjdaaDoorGB6
import Derived.Laws.BitsLemmas
import Derived.Laws.Rows
import Derived.Laws.Tables
import Derived.Deep.MidRow
import Derived.Deep.DeepCutAuto

/-
  The law by facts for a region that ends with two stores, one behind the other. No program in sight.
-/
namespace Go.Proofs.YthapcapiiknjdaaDoor
set_option maxRecDepth 100000
open Go Go.RowKit

section
variable {P : Program} {ops : Array Oper} {Q : Exit → Act → World → Prop} {md : Region.Mode} {F : Nat → Fact} {a0 : Act} {w0 : World}




/-- One operation that makes a block and hands back its place. -/
def FreshOk (P : Program) (md : Region.Mode) (ops : Array Oper) (Q : Exit → Act → World → Prop) (F : Nat → Fact) (a0 : Act) (w0 : World) (i : Nat) : Prop :=
  ∀ o, ops[i]? = some o → ∀ a w, Based ops a0 a → Below w0.heap.size w0 w → (∀ j d, waits md ops i j d = true → (F j).p (a.tmps.getD d undef) w) →
    ∀ K : Act → World → Prop, (∀ v w', Below w.heap.size w w' → (F i).p v w' → v = .pointer (some ⟨w.heap.size, 0, none⟩) → w.heap.size < w'.heap.size → K (a.put o.dst v) w') → o.wp P a w K Q
theorem FreshOk.step {i : Nat} (h : FreshOk P md ops Q F a0 w0 i) : StepOk P md ops Q F a0 w0 i :=
  fun o ho a w hb hw hf K hK => h o ho a w hb hw hf K (fun v w' hn hv _ _ => hK v w' hn hv)
/-- Two that make a block are apart. -/
structure Sep (i1 i2 d1 d2 : Nat) (listed : Array Bool) (a : Act) (w : World) : Prop where
  l : listed.getD i1 false = true → ∃ q, a.tmps.getD d1 undef = .pointer (some ⟨q, 0, none⟩) ∧ q < w.heap.size
  r : listed.getD i2 false = true → ∃ q, a.tmps.getD d2 undef = .pointer (some ⟨q, 0, none⟩) ∧ q < w.heap.size
  n : listed.getD i1 false = true → listed.getD i2 false = true → a.tmps.getD d1 undef ≠ a.tmps.getD d2 undef
theorem Sep.other {i1 i2 d1 d2 : Nat} {listed : Array Bool} {a : Act} {w w' : World} (h : Sep i1 i2 d1 d2 listed a w) {i : Nat} {dst : Option Tmp} {v : Value} (h1 : i ≠ i1) (h2 : i ≠ i2) (e1 : dst ≠ some d1) (e2 : dst ≠ some d2) (hw : w.heap.size ≤ w'.heap.size) : Sep i1 i2 d1 d2 (listed.setIfInBounds i true) (a.put dst v) w' := by
  refine ⟨fun g => ?_, fun g => ?_, fun g g' => ?_⟩
  · rw [getD_off h1] at g
    obtain ⟨q, hq, hl⟩ := h.l g
    exact ⟨q, by rw [put_off e1]; exact hq, by omega⟩
  · rw [getD_off h2] at g
    obtain ⟨q, hq, hl⟩ := h.r g
    exact ⟨q, by rw [put_off e2]; exact hq, by omega⟩
  · rw [getD_off h1] at g
    rw [getD_off h2] at g'
    rw [put_off e1, put_off e2]
    exact h.n g g'
theorem Sep.this {i1 i2 d1 d2 : Nat} {listed : Array Bool} {a : Act} {w w' : World} (h : Sep i1 i2 d1 d2 listed a w) {v : Value} (hne : i1 ≠ i2) (hd : d1 ≠ d2) (hs : d1 < a.tmps.size) (hv : v = .pointer (some ⟨w.heap.size, 0, none⟩)) (hw : w.heap.size < w'.heap.size) :
    Sep i1 i2 d1 d2 (listed.setIfInBounds i1 true) (a.put (some d1) v) w' := by
  have e2 : (some d1 : Option Tmp) ≠ some d2 := by simpa using hd
  refine ⟨fun _ => ⟨w.heap.size, by rw [put_at hs, hv], hw⟩, fun g => ?_, fun _ g' => ?_⟩
  · rw [getD_off hne] at g
    obtain ⟨q, hq, hl⟩ := h.r g
    exact ⟨q, by rw [put_off e2]; exact hq, by omega⟩
  · rw [getD_off hne] at g'
    obtain ⟨q, hq, hl⟩ := h.r g'
    rw [put_at hs, put_off e2, hq, hv]
    intro x
    simp only [Value.pointer.injEq, Option.some.injEq, Addr.mk.injEq, and_true] at x
    omega

theorem writes_is {i d : Nat} (h : writes ops i d = true) : ∃ o, ops[i]? = some o ∧ o.dst = some d := by
  unfold writes at h
  cases ho : ops[i]? with
  | none => rw [ho] at h; simp at h
  | some o =>
    rw [ho] at h
    exact ⟨o, rfl, by simpa using h⟩

end
end Go.Proofs.YthapcapiiknjdaaDoor

/-
  The model's sixteen limbs of 16 bits, signed, and what its carrying makes of them: numbers alone.
-/
namespace Go.Proofs.YthapcapiiknjdaaDoor
set_option maxRecDepth 100000

/-- What is carried into place k. -/
def c16 (f : Nat → Int) : Nat → Int
  | 0 => 0
  | k + 1 => (c16 f k + f k) / 65536
/-- What is left at place k. -/
def l16 (f : Nat → Int) (k : Nat) : Int := (c16 f k + f k) % 65536
/-- The number of the first k limbs. -/
def s16 (f : Nat → Int) : Nat → Int
  | 0 => 0
  | k + 1 => s16 f k + f k * 65536 ^ k
theorem c16_sum (f : Nat → Int) : ∀ k, s16 (l16 f) k + c16 f k * 65536 ^ k = s16 f k
  | 0 => by simp [s16, c16]
  | k + 1 => by
    have ih := c16_sum f k
    have h : c16 f k + f k = l16 f k + 65536 * c16 f (k + 1) := by
      rw [l16, c16]; omega
    have h2 : (c16 f k + f k) * 65536 ^ k = (l16 f k + 65536 * c16 f (k + 1)) * 65536 ^ k := by rw [h]
    rw [Int.add_mul, Int.add_mul] at h2
    rw [s16, s16, Int.pow_succ]
    have h3 : c16 f (k + 1) * (65536 ^ k * 65536) = 65536 * c16 f (k + 1) * 65536 ^ k := by
      rw [Int.mul_comm (65536 ^ k) 65536, ← Int.mul_assoc, Int.mul_comm (c16 f (k + 1))]
    rw [h3]
    omega
theorem l16_bd (f : Nat → Int) (k : Nat) : 0 ≤ l16 f k ∧ l16 f k < 65536 := by
  unfold l16; omega
theorem c16_bd {f : Nat → Int} {M : Int} (hM : 1 ≤ M) (hf : ∀ j, -(65535 * M) ≤ f j ∧ f j ≤ 65535 * M) : ∀ k, -M ≤ c16 f k ∧ c16 f k ≤ M
  | 0 => by simp [c16]; omega
  | k + 1 => by
    have ih := c16_bd hM hf k
    have := hf k
    rw [c16]
    omega
/-- Sixteen limbs in their bounds. -/
def L16 (f : Nat → Int) : Prop := ∀ j, j < 16 → 0 ≤ f j ∧ f j < 65536
/-- 2^256 -/
abbrev W256 : Int := 115792089237316195423570985008687907853269984665640564039457584007913129639936
theorem L16.bd {f : Nat → Int} (h : L16 f) : 0 ≤ s16 f 16 ∧ s16 f 16 < W256 := by
  have h0 := h 0 (by omega); have h1 := h 1 (by omega); have h2 := h 2 (by omega); have h3 := h 3 (by omega)
  have h4 := h 4 (by omega); have h5 := h 5 (by omega); have h6 := h 6 (by omega); have h7 := h 7 (by omega)
  have h8 := h 8 (by omega); have h9 := h 9 (by omega); have ha := h 10 (by omega); have hb := h 11 (by omega)
  have hc := h 12 (by omega); have hd := h 13 (by omega); have he := h 14 (by omega); have hf := h 15 (by omega)
  simp only [s16]
  show _ ∧ _ < 115792089237316195423570985008687907853269984665640564039457584007913129639936
  omega
/-- One round of carrying. -/
def r16 (f : Nat → Int) (j : Nat) : Int := if j = 0 then l16 f 0 + 38 * c16 f 16 else l16 f j
theorem r16_val (f : Nat → Int) : s16 (r16 f) 16 = s16 (l16 f) 16 + 38 * c16 f 16 := by
  simp [s16, r16]; omega
theorem r16_sum (f : Nat → Int) : ∃ c, c = c16 f 16 ∧ s16 (r16 f) 16 = s16 f 16 - 115792089237316195423570985008687907853269984665640564039457584007913129639936 * c + 38 * c ∧ 0 ≤ s16 f 16 - 115792089237316195423570985008687907853269984665640564039457584007913129639936 * c ∧ s16 f 16 - 115792089237316195423570985008687907853269984665640564039457584007913129639936 * c < 115792089237316195423570985008687907853269984665640564039457584007913129639936 := by
  have h1 := c16_sum f 16
  have h2 := L16.bd (f := l16 f) (fun j _ => l16_bd f j)
  have h3 := r16_val f
  have e : (65536 : Int) ^ 16 = 115792089237316195423570985008687907853269984665640564039457584007913129639936 := by decide
  rw [e] at h1
  refine ⟨_, rfl, ?_⟩
  generalize s16 (l16 f) 16 = A at *
  generalize c16 f 16 = c at *
  generalize s16 (r16 f) 16 = B at *
  generalize s16 f 16 = U at *
  have h2' : 0 ≤ A ∧ A < 115792089237316195423570985008687907853269984665640564039457584007913129639936 := h2
  omega
/-- Three rounds. -/
def cry (f : Nat → Int) : Nat → Int := r16 (r16 (r16 f))
theorem r16_bd {f : Nat → Int} {M : Int} (hM : 1 ≤ M) (hf : ∀ j, -(65535 * M) ≤ f j ∧ f j ≤ 65535 * M) : ∀ j, -(38 * M) ≤ r16 f j ∧ r16 f j ≤ 65535 + 38 * M := by
  intro j
  have h1 := c16_bd hM hf 16
  have h2 := l16_bd f j
  have h3 := l16_bd f 0
  unfold r16
  split <;> omega
theorem cry_ok {f : Nat → Int} (hf : ∀ j, -1152921504606846976 ≤ f j ∧ f j ≤ 1152921504606846976) : L16 (cry f) ∧ s16 (cry f) 16 % PP = s16 f 16 % PP := by
  have b1 := r16_bd (f := f) (M := 17592454500000) (by omega) (fun j => by have := hf j; omega)
  obtain ⟨c1, _, v1, lo1, hi1⟩ := r16_sum f
  obtain ⟨c2, _, v2, lo2, hi2⟩ := r16_sum (r16 f)
  obtain ⟨c3, hc3, v3, lo3, hi3⟩ := r16_sum (r16 (r16 f))
  have hc1 : -17592454500000 ≤ c1 ∧ c1 ≤ 17592454500000 := by
    have := c16_bd (f := f) (M := 17592454500000) (by omega) (fun j => by have := hf j; omega) 16
    omega
  have e3 : c3 = 0 := by
    generalize s16 (r16 f) 16 = S1 at *
    generalize s16 (r16 (r16 f)) 16 = S2 at *
    generalize s16 f 16 = U at *
    have h2 : c2 = 0 ∨ c2 = 1 ∨ c2 = -1 := by omega
    omega
  refine ⟨?_, ?_⟩
  · intro j _
    have h0 := l16_bd (r16 (r16 f)) j
    unfold cry
    show 0 ≤ r16 (r16 (r16 f)) j ∧ r16 (r16 (r16 f)) j < 65536
    rw [r16, ← hc3, e3]
    split
    · rename_i e; subst e; omega
    · exact h0
  · show s16 (r16 (r16 (r16 f))) 16 % 57896044618658097711785492504343953926634992332820282019728792003956564819949 = s16 f 16 % 57896044618658097711785492504343953926634992332820282019728792003956564819949
    omega
end Go.Proofs.YthapcapiiknjdaaDoor

/-
  The model's l2Carry.
-/
namespace Go.Proofs.YthapcapiiknjdaaDoor
set_option maxRecDepth 100000
open Go.RowKit

theorem and65535 (n : Int) : bits .and .i64 n 65535 = n % 65536 := by
  have h127 : (BitVec.ofInt 64 65535).toNat = 2 ^ 16 - 1 := by decide
  have key : (BitVec.ofInt 64 n &&& BitVec.ofInt 64 65535).toNat = (n % ((2 ^ 64 : Nat) : Int)).toNat % 2 ^ 16 := by
    rw [BitVec.toNat_and, BitVec.toNat_ofInt, h127, Nat.and_two_pow_sub_one_eq_mod]
  show IntKind.i64.wrap ((BitVec.ofInt 64 n &&& BitVec.ofInt 64 65535).toNat : Nat) = n % 65536
  rw [key, IntKind.wrap_i64]
  omega
/-- Sixteen limbs, as a list. -/
def ls16 (f : Nat → Int) : List Int := (List.range 16).map f
theorem ls16_len (f : Nat → Int) : (ls16 f).length = 16 := by simp [ls16]
theorem ls16_get (f : Nat → Int) {j : Nat} (h : j < 16) : (ls16 f).getD j 0 = f j := by simp [ls16, h]
/-- Sixteen limbs as the value of an array. -/
def ag16 (f : Nat → Int) : Value := .agg ((ls16 f).map (Value.int .i64)).toArray
theorem blk16 (w : World) (t : TypeId) (f : Nat → Int) : Blk (w.alloc (.cells ((ls16 f).map (Value.int .i64)).toArray t)) w.heap.size .i64 (ls16 f) := ⟨t, by rw [heap_alloc_last]⟩

/-- The first k of sixteen are p's, the others q's. -/
def Up16 (p q : Nat → Int) (ys : List Int) (k : Nat) : Prop := ys.length = 16 ∧ (∀ j, j < k → ys.getD j 0 = p j) ∧ ∀ j, k ≤ j → j < 16 → ys.getD j 0 = q j
theorem Up16.step {p q : Nat → Int} {ys : List Int} {k : Nat} (h : Up16 p q ys k) (hk : k < 16) : Up16 p q (ys.set k (p k)) (k + 1) := by
  refine ⟨by simpa using h.1, fun j hj => ?_, fun j hj hj5 => ?_⟩
  · by_cases e : k = j
    · subst e
      rw [getD_set_self _ _ _ (by rw [h.1]; exact hk)]
    · rw [getD_set_ne _ _ _ _ e]
      exact h.2.1 j (by omega)
  · rw [getD_set_ne _ _ _ _ (by omega)]
    exact h.2.2 j (by omega) hj5
theorem Up16.all {p q : Nat → Int} {ys : List Int} (h : Up16 p q ys 16) : ys = ls16 p :=
  eq_of_getD (by rw [h.1, ls16_len]) (fun i hi => by rw [h.1] at hi; rw [h.2.1 i hi, ls16_get p hi])
theorem Up16.zero (p q : Nat → Int) : Up16 p q (ls16 q) 0 := ⟨ls16_len q, fun j hj => absurd hj (by omega), fun j _ hj => ls16_get q hj⟩
theorem ls16_set (p : Nat → Int) (v : Int) : (ls16 p).set 0 v = ls16 (fun j => if j = 0 then v else p j) := by
  refine eq_of_getD (by simp [ls16]) (fun i hi => ?_)
  have hi' : i < 16 := by simpa [ls16] using hi
  rw [ls16_get _ hi']
  by_cases e : i = 0
  · subst e
    rw [getD_set_self _ _ _ (by rw [ls16_len]; omega)]; rfl
  · rw [getD_set_ne _ _ _ _ (by omega), ls16_get _ hi', if_neg e]
/-- Rounds of carrying. -/
def it16 (f : Nat → Int) : Nat → Nat → Int
  | 0 => f
  | k + 1 => r16 (it16 f k)
def In60 (f : Nat → Int) : Prop := ∀ j, -1152921504606846976 ≤ f j ∧ f j ≤ 1152921504606846976
theorem it16_in {f : Nat → Int} (hf : In60 f) : ∀ k, In60 (it16 f k)
  | 0 => hf
  | k + 1 => fun j => by
    have := r16_bd (f := it16 f k) (M := 17592454500000) (by omega) (fun j => by have := it16_in hf k j; omega) j
    show _ ≤ r16 (it16 f k) j ∧ r16 (it16 f k) j ≤ _
    omega
abbrev a16 (f : Nat → Int) : Array Value := ((ls16 f).map (Value.int .i64)).toArray
theorem a16_size (f : Nat → Int) : (a16 f).size = 16 := by simp [a16, ls16]
theorem a16_one (f : Nat → Int) : (a16 f).all (·.oneCell') = true := all_oneCell_toArray (oneCells _ _)
theorem z16 : (#[.int .i64 0, .int .i64 0, .int .i64 0, .int .i64 0, .int .i64 0, .int .i64 0, .int .i64 0, .int .i64 0, .int .i64 0, .int .i64 0, .int .i64 0, .int .i64 0, .int .i64 0, .int .i64 0, .int .i64 0, .int .i64 0] : Array Value) = a16 (fun _ => 0) := rfl
theorem u50 : Tryd.prog.underlying 52 = some (.array 16 2) := by kernel_rfl
theorem i50 : (Tryd.prog.info? 52).map (·.size) = some 16 := by kernel_rfl

set_option maxHeartbeats 2000000 in
theorem l2Carry_any (w : World) (f : Nat → Int) (hf : In60 f) :
    Calls Tryd.prog 91 #[ag16 f] w fun r w' => r = .returned (ag16 (cry f)) ∧ Below w.heap.size w w' := by
  show Calls Tryd.prog 91 #[.agg (a16 f)] w fun r w' => r = .returned (.agg (a16 (it16 f 3))) ∧ Below w.heap.size w w'
  have B0 := blk16 w 52 f
  have n0 : Below w.heap.size w (w.alloc (.cells (a16 f) 52)) := (Below.refl _ _).alloc (Nat.le_refl _) _
  have s0 : (w.alloc (.cells (a16 f) 52)).heap.size = w.heap.size + 1 := by simp
  obtain ⟨A, hA⟩ : ∃ A, A = a16 f := ⟨_, rfl⟩
  change Blk (w.alloc (.cells (a16 f) 52)) _ _ _ at B0
  rw [← hA] at B0 n0 s0 ⊢
  clear hA
  go_enter Tryd.func91, Tryd.ntmps91
  go_wp2
  generalize w.alloc (.cells A 52) = wa at *
  rw [z16]
  have B1 := blk16 wa 52 (fun _ => 0)
  have n1 : Below wa.heap.size wa (wa.alloc (.cells (a16 (fun _ => 0)) 52)) := (Below.refl _ _).alloc (Nat.le_refl _) _
  rw [s0] at B1
  change Blk (wa.alloc (.cells (a16 (fun _ => 0)) 52)) _ _ _ at B1
  generalize wa.alloc (.cells (a16 (fun _ => 0)) 52) = wb at *
  have E0 := B0.up n1
  have N1 := nxt n0 n1
  clear B0 n0 n1 s0
  go_loopw [3] (fun i wr => ∃ (k : Nat), k ≤ 3 ∧ i = .int .i64 k ∧ Blk wr w.heap.size .i64 (ls16 (it16 f k)) ∧ Blk wr (w.heap.size + 1) .i64 (ls16 (fun _ => 0)) ∧ Below w.heap.size w wr) (fun i _ => 3 - (intOf i).toNat)
  case atStart => exact ⟨0, by omega, rfl, E0, B1, N1⟩
  case round =>
    clear E0 B1 N1
    obtain ⟨k, hk, rfl, hB, hR, hN⟩ := hrel
    by_cases hlt : k < 3
    · have k2 : decide ((k : Int) < 3) = true := by simp; omega
      have hin := it16_in hf k
      obtain ⟨q, hq⟩ : ∃ q, q = it16 f k := ⟨_, rfl⟩
      have hq' : Hid (it16 f (k + 1) = r16 q) := by show _ = _; rw [hq]; rfl
      rw [← hq] at hB hin
      clear hq
      have cb := fun j => c16_bd (f := q) (M := 17592454500000) (by omega) (fun j => by have := hin j; omega) j
      go_wp2
      go_loopw [4, 5] (fun c i wq => ∃ (j : Nat) (ys : List Int), j ≤ 16 ∧ i = .int .i64 j ∧ c = .int .i64 (c16 q j) ∧ Up16 (l16 q) q ys j ∧ Blk wq w.heap.size .i64 ys ∧ Blk wq (w.heap.size + 1) .i64 (ls16 (fun _ => 0)) ∧ Below w.heap.size w wq) (fun _ i _ => 16 - (intOf i).toNat)
      case atStart => exact ⟨0, _, by omega, rfl, rfl, Up16.zero _ q, hB, hR, hN⟩
      case round =>
        clear hB hR hN
        obtain ⟨j, ys, hj, rfl, rfl, hU, hB, hR, hN⟩ := hrel
        by_cases hjt : j < 16
        · have R := hU.step hjt
          have hcy := hB.cell (i := j) (by rw [hU.1]; exact hjt)
          rw [hU.2.2 j (Nat.le_refl _) hjt] at hcy
          have hfy := hB.free j
          have j2 : (j : Int) < 16 := by omega
          have cj := cb j
          have qj := hin j
          have S := hB.store j (l16 q j)
          have S1 := hR.keep (g' := w.heap.size) (k := j) (v := .int .i64 (l16 q j)) (by omega)
          have Sn : Below w.heap.size w (wr.setCell ⟨w.heap.size, j, none⟩ (.int .i64 (l16 q j))) := hN.setCell (Nat.le_refl _) _
          have E1 : l16 q j = (q j + c16 q j) % 65536 := by unfold l16; rw [Int.add_comm]
          have F : Hid (c16 q (j + 1) = (q j + c16 q j) / 65536) := by show _ = _; rw [c16, Int.add_comm]
          rw [E1] at R S S1 Sn
          have m1 := and65535 (q j + c16 q j)
          clear hU hB hR hN cb hin E1 hf
          generalize q j = z at *
          generalize c16 q j = c at *
          go_wp2
          go_roundw
          case rel => exact ⟨j + 1, _, by omega, by go_num, by rw [F.out], R, S, S1, Sn⟩
          case measure => simp [intOf]; omega
        · obtain rfl : j = 16 := by omega
          have hy := hU.all
          subst hy
          have c0 : wr.cell? ⟨w.heap.size, 0, none⟩ = some (.int .i64 (l16 q 0)) := by rw [hB.cell (i := 0) (by rw [ls16_len]; omega), ls16_get _ (by omega)]
          have f0 := hB.free 0
          have l0 := l16_bd q 0
          have c5 := cb 16
          have S := hB.store 0 (l16 q 0 + 38 * c16 q 16)
          have S1 := hR.keep (g' := w.heap.size) (k := 0) (v := .int .i64 (l16 q 0 + 38 * c16 q 16)) (by omega)
          have Sn : Below w.heap.size w (wr.setCell ⟨w.heap.size, 0, none⟩ (.int .i64 (l16 q 0 + 38 * c16 q 16))) := hN.setCell (Nat.le_refl _) _
          rw [ls16_set] at S
          have S' : Blk (wr.setCell ⟨w.heap.size, 0, none⟩ (.int .i64 (l16 q 0 + 38 * c16 q 16))) w.heap.size .i64 (ls16 (r16 q)) := S
          clear hU hB hR hN cb hin S hf
          generalize l16 q 0 = l at *
          generalize c16 q 16 = c at *
          go_wp2
          go_roundw
          case rel => exact ⟨k + 1, by omega, by go_num, by rw [hq'.out]; exact S', S1, Sn⟩
          case measure => simp [intOf]; omega
    · obtain rfl : k = 3 := by omega
      obtain ⟨t, hB⟩ := hB
      obtain ⟨t2, hR⟩ := hR
      have hne : w.heap.size + 1 ≠ w.heap.size := by omega
      have SR : ((wr.setRow (w.heap.size + 1) (a16 (it16 f 3))).heap[w.heap.size + 1]?) = some (.cells (a16 (it16 f 3)) t2 (0, 0)) := setRow_heap _ _ _ _ _ _ hR
      have SN : Below w.heap.size w (wr.setRow (w.heap.size + 1) (a16 (it16 f 3))) := hN.trans ⟨rfl, rfl, rfl, by simp, fun i hi => setRow_other wr _ i _ (by omega)⟩
      go_upto_region 12 with fail
      go_wp2_with (first | (refine wpList_load_row rfl 52 (.tmp 1) rfl w.heap.size rfl t (a16 (it16 f 3)) (0, 0) (.array 16 2) hB u50 rfl (by rw [a16_size]; exact i50) ?_) | (refine wpList_store_row rfl 52 (.tmp 2) (.tmp 32) rfl (w.heap.size + 1) (a16 (it16 f 3)) rfl rfl t2 (a16 (fun _ => 0)) hR (by rw [a16_size]; exact i50) (by rw [a16_size, a16_size]) (a16_one _) ?_))
      exact bodyPost_ret (v := .agg (a16 (it16 f 3))) (results_cell_row Tryd.results91 _ _ (w.heap.size + 1) t2 (a16 (it16 f 3)) (0, 0) (.array 16 2) rfl SR u50 rfl (by rw [a16_size]; exact i50)) rfl ⟨rfl, SN⟩
end Go.Proofs.YthapcapiiknjdaaDoor
