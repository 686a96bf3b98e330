import Derived.Test.YthapcapiiknjdaaDoorGB11
import Derived.Test.YthapcapiiknjdaaDoorGB5
import Derived.Test.YthapcapiiknjdaaDoorGB3
import Derived.Test.YthapcapiiknjdaaDoorGB2

/-
  The model's l2Of.
-/
namespace Go.Proofs.YthapcapiiknjdaaDoor
set_option maxRecDepth 100000
open Go.RowKit

/-- Limbs of bytes. -/
def of16 (a : Nat → Int) (i : Nat) : Int := a (2 * i) + 256 * a (2 * i + 1)
theorem of16_val (a : Nat → Int) : ∀ k, s16 (of16 a) k = lsum a (2 * k)
  | 0 => rfl
  | k + 1 => by
    have e : (65536 : Int) ^ k = 256 ^ (2 * k) := by rw [Int.pow_mul]; rfl
    rw [s16, of16_val a k, show 2 * (k + 1) = 2 * k + 1 + 1 by omega, lsum, lsum, of16, e, Int.pow_succ]
    generalize (256 : Int) ^ (2 * k) = p
    grind
theorem of16_ok {a : Nat → Int} (h : Bt a) : L16 (of16 a) := fun j _ => by
  have := h (2 * j)
  have := h (2 * j + 1)
  unfold of16
  omega

set_option maxHeartbeats 4000000 in
theorem l2Of_any (w : World) (g : Nat) (a : Option Addr) (cap : Nat) (xs : List Int) (hr : Rd w g a .u8 xs) (hb : Byt xs) (hl : xs.length = 32) :
    Calls Tryd.prog 54 #[.slice a 32 cap] w fun r w' => r = .returned (ag16 (of16 (fun j => xs.getD j 0))) ∧ Below w.heap.size w w' := by
  show Calls Tryd.prog 54 #[.slice a 32 cap] w fun r w' => r = .returned (.agg (a16 (of16 (fun j => xs.getD j 0)))) ∧ Below w.heap.size w w'
  obtain ⟨off, rfl, hc⟩ := hr (by omega)
  have hg := hr.lt (by omega)
  have B0 : Blk (w.alloc (.cells (a16 (fun _ => 0)) 52)) w.heap.size .i64 (ls16 (fun _ => 0)) := blk16 w 52 (fun _ => 0)
  have n0 : Below w.heap.size w (w.alloc (.cells (a16 (fun _ => 0)) 52)) := (Below.refl _ _).alloc (Nat.le_refl _) _
  have s0 : (w.alloc (.cells (a16 (fun _ => 0)) 52)).heap.size = w.heap.size + 1 := by simp
  obtain ⟨q, hq⟩ : ∃ q, q = of16 (fun j => xs.getD j 0) := ⟨_, rfl⟩
  rw [← hq]
  go_enter Tryd.func54, Tryd.ntmps54
  go_upto_region 1 with fail
  rw [z16]
  generalize w.alloc (.cells (a16 (fun _ => 0)) 52) = wa at *
  have B1 : Blk (wa.alloc (.cells (a16 (fun _ => 0)) 52)) wa.heap.size .i64 (ls16 (fun _ => 0)) := blk16 wa 52 (fun _ => 0)
  have n1 : Below wa.heap.size wa (wa.alloc (.cells (a16 (fun _ => 0)) 52)) := (Below.refl _ _).alloc (Nat.le_refl _) _
  rw [s0] at B1
  have E0 := B0.up n1
  have N := nxt n0 n1
  go_upto_region 2 with fail
  rw [z16]
  generalize wa.alloc (.cells (a16 (fun _ => 0)) 52) = wb at *
  clear B0 n0 n1
  go_wp2
  go_loopw [4] (fun i wr => ∃ (k : Nat) (ys : List Int), k ≤ 16 ∧ i = .int .i64 k ∧ Up16 q (fun _ => 0) ys k ∧ Blk wr w.heap.size .i64 (ls16 (fun _ => 0)) ∧ Blk wr (w.heap.size + 1) .i64 ys ∧ Below w.heap.size w wr) (fun i _ => 16 - (intOf i).toNat)
  case atStart => exact ⟨0, _, by omega, rfl, Up16.zero _ _, E0, B1, N⟩
  case round =>
    clear E0 B1 N
    obtain ⟨j, ys, hj, rfl, hU, hR, hF, hN⟩ := hrel
    by_cases hjt : j < 16
    · have j2 : (j : Int) < 16 := by omega
      have cf := hF.cell (i := j) (by rw [hU.1]; exact hjt)
      have ff := hF.free j
      have R := hU.step hjt
      have E : q j = xs.getD (2 * j) 0 + 256 * xs.getD (2 * j + 1) 0 := by rw [hq]; rfl
      rw [E] at R
      have c1 : wr.cell? ⟨g, off + 2 * j, none⟩ = some (.int .u8 (xs.getD (2 * j) 0)) := (hN.cell (p := ⟨g, off + 2 * j, none⟩) hg).trans (hc (2 * j) (by omega))
      have c2 : wr.cell? ⟨g, off + (2 * j + 1), none⟩ = some (.int .u8 (xs.getD (2 * j + 1) 0)) := (hN.cell (p := ⟨g, off + (2 * j + 1), none⟩) hg).trans (hc (2 * j + 1) (by omega))
      have w1 := hb (2 * j)
      have w2 := hb (2 * j + 1)
      obtain ⟨m, hm⟩ : ∃ m : Nat, 2 * j + 1 = m := ⟨_, rfl⟩
      obtain ⟨p, hp⟩ : ∃ p : Nat, 2 * j = p := ⟨_, rfl⟩
      rw [hm] at c2 w2 R
      rw [hp] at c1 w1 R
      have p1 : 2 * (j : Int) = (p : Int) := by omega
      have p2 : IntKind.i64.wrap (p : Int) = (p : Int) := by rw [IntKind.wrap_i64]; omega
      have p3 : (p : Int) < 32 := by omega
      have m1 : (p : Int) + 1 = (m : Int) := by omega
      have m2 : IntKind.i64.wrap (m : Int) = (m : Int) := by rw [IntKind.wrap_i64]; omega
      have m3 : (m : Int) < 32 := by omega
      have S := fun v => hF.store j v
      have SR := fun v => hide (hR.keep (g' := w.heap.size + 1) (k := j) (v := v) (by omega))
      have Sn : ∀ v, Below w.heap.size w (wr.setCell ⟨w.heap.size + 1, j, none⟩ v) := fun v => hN.setCell (by show w.heap.size ≤ w.heap.size + 1; omega) v
      generalize ys.getD j 0 = f0 at cf
      have R' := hide R
      clear hU hR hF hN R E hc hb hr hg hm hp hl hq
      generalize xs.getD p 0 = d at *
      generalize xs.getD m 0 = e at *
      go_wp2
      go_region
      go_wp2
      go_roundw
      case rel => exact ⟨j + 1, _, by omega, by go_num, R'.out, (SR _).out.drew, (S _).drew, (Sn _).drew⟩
      case measure => simp [intOf]; omega
    · obtain rfl : j = 16 := by omega
      have hy := hU.all
      subst hy
      clear hU hq hc hr hb
      obtain ⟨t, hF⟩ := hF
      obtain ⟨t2, hR⟩ := hR
      have SR : ((wr.setRow w.heap.size (a16 q)).heap[w.heap.size]?) = some (.cells (a16 q) t2 (0, 0)) := setRow_heap _ _ _ _ _ _ hR
      have SN : Below w.heap.size w (wr.setRow w.heap.size (a16 q)) := hN.trans ⟨rfl, rfl, rfl, by simp, fun i hi => setRow_other wr _ i _ (by omega)⟩
      go_upto_region 6 with fail
      go_wp2_with (first
        | (refine wpList_load_row rfl 52 (.tmp 3) rfl (w.heap.size + 1) rfl t (a16 q) (0, 0) (.array 16 2) hF Go.Proofs.YthapcapiiknjdaaDoor.u50 rfl (by rw [a16_size]; exact i50) ?_)
        | (refine wpList_store_row rfl 52 (.tmp 2) (.tmp 26) rfl w.heap.size (a16 q) rfl rfl t2 (a16 (fun _ => 0)) hR (by rw [a16_size]; exact i50) (by rw [a16_size, a16_size]) (a16_one _) ?_))
      exact bodyPost_ret (v := .agg (a16 q)) (results_cell_row Tryd.results54 _ _ w.heap.size t2 (a16 q) (0, 0) (.array 16 2) rfl SR Go.Proofs.YthapcapiiknjdaaDoor.u50 rfl (by rw [a16_size]; exact i50)) rfl ⟨rfl, SN⟩
end Go.Proofs.YthapcapiiknjdaaDoor

/-
  What the model's l2Bytes makes of sixteen limbs: numbers alone.
-/
namespace Go.Proofs.YthapcapiiknjdaaDoor
set_option maxRecDepth 100000

/-- The highest bit taken round, before the carrying. -/
def adj (f : Nat → Int) (j : Nat) : Int := if j = 0 then f 0 + 19 * (f 15 / 32768) else if j = 15 then f 15 % 32768 else f j
def rb (f : Nat → Int) : Nat → Int := l16 (adj f)
theorem adj_val (f : Nat → Int) : s16 (adj f) 16 = s16 f 16 + (f 15 % 32768 - f 15) * 65536 ^ 15 + 19 * (f 15 / 32768) := by
  have h := s16_upd (fun k => if k = 15 then f 15 % 32768 else f k) 0 (f 0 + 19 * (f 15 / 32768)) 16
  rw [s16_upd f 15 (f 15 % 32768) 16] at h
  have e : adj f = fun k => if k = 0 then f 0 + 19 * (f 15 / 32768) else (if k = 15 then f 15 % 32768 else f k) := rfl
  rw [e, h]
  simp
  omega
theorem L15.bd {f : Nat → Int} (h : L16 f) : 0 ≤ s16 f 15 ∧ s16 f 15 < 1766847064778384329583297500742918515827483896875618958121606201292619776 := by
  have h0 := h 0 (by omega); have h1 := h 1 (by omega); have h2 := h 2 (by omega); have h3 := h 3 (by omega)
  have h4 := h 4 (by omega); have h5 := h 5 (by omega); have h6 := h 6 (by omega); have h7 := h 7 (by omega)
  have h8 := h 8 (by omega); have h9 := h 9 (by omega); have ha := h 10 (by omega); have hb := h 11 (by omega)
  have hc := h 12 (by omega); have hd := h 13 (by omega); have he := h 14 (by omega)
  simp only [s16]
  omega
theorem rb_ok {f : Nat → Int} (h : L16 f) : L16 (rb f) ∧ s16 (rb f) 16 = s16 f 16 % 57896044618658097711785492504343953926634992332820282019728792003956564819968 + 19 * (s16 f 16 / 57896044618658097711785492504343953926634992332820282019728792003956564819968) := by
  refine ⟨fun j _ => l16_bd _ j, ?_⟩
  have h1 := c16_sum (adj f) 16
  have h2 := L16.bd (f := l16 (adj f)) (fun j _ => l16_bd _ j)
  have h3 := adj_val f
  have h4 := L15.bd h
  have h5 := h 15 (by omega)
  have h6 : s16 f 16 = s16 f 15 + f 15 * 65536 ^ 15 := rfl
  have e : (65536 : Int) ^ 16 = 115792089237316195423570985008687907853269984665640564039457584007913129639936 := by decide
  have e2 : (65536 : Int) ^ 15 = 1766847064778384329583297500742918515827483896875618958121606201292619776 := by decide
  rw [e] at h1
  rw [e2] at h3 h6
  show s16 (l16 (adj f)) 16 = _
  have h2' : 0 ≤ s16 (l16 (adj f)) 16 ∧ s16 (l16 (adj f)) 16 < 115792089237316195423570985008687907853269984665640564039457584007913129639936 := h2
  generalize s16 (l16 (adj f)) 16 = S at *
  generalize c16 (adj f) 16 = c at *
  generalize s16 (adj f) 16 = U at *
  generalize s16 f 16 = V at *
  generalize s16 f 15 = T at *
  generalize f 15 = x at *
  clear h2 h e e2
  rcases (show x / 32768 = 0 ∨ x / 32768 = 1 by omega) with hx | hx
  · have hV : V / 57896044618658097711785492504343953926634992332820282019728792003956564819968 = 0 := by omega
    have hc : c = 0 := by omega
    omega
  · have hV : V / 57896044618658097711785492504343953926634992332820282019728792003956564819968 = 1 := by omega
    have hc : c = 0 := by omega
    omega
def rb2 (f : Nat → Int) : Nat → Nat → Int
  | 0 => f
  | k + 1 => rb (rb2 f k)
theorem rb2_ok {f : Nat → Int} (h : L16 f) : ∀ k, L16 (rb2 f k)
  | 0 => h
  | k + 1 => (rb_ok (rb2_ok h k)).1
theorem rb_two {f : Nat → Int} (h : L16 f) : 0 ≤ s16 (rb2 f 2) 16 ∧ s16 (rb2 f 2) 16 < 57896044618658097711785492504343953926634992332820282019728792003956564819968 ∧ s16 (rb2 f 2) 16 % PP = s16 f 16 % PP := by
  have h0 := L16.bd h
  have h1 := rb_ok h
  have h2 := rb_ok h1.1
  have b2 := L16.bd h2.1
  show 0 ≤ s16 (rb (rb f)) 16 ∧ s16 (rb (rb f)) 16 < _ ∧ s16 (rb (rb f)) 16 % 57896044618658097711785492504343953926634992332820282019728792003956564819949 = s16 f 16 % 57896044618658097711785492504343953926634992332820282019728792003956564819949
  have v1 := h1.2
  have v2 := h2.2
  have h0' : 0 ≤ s16 f 16 ∧ s16 f 16 < 115792089237316195423570985008687907853269984665640564039457584007913129639936 := h0
  generalize s16 (rb (rb f)) 16 = C at *
  generalize s16 (rb f) 16 = B at *
  generalize s16 f 16 = A at *
  clear h0 h1 h2 b2
  omega
/-- The bytes of the limbs. -/
def tb16 (f : Nat → Int) (i : Nat) : Int := if i % 2 = 0 then f (i / 2) % 256 else f (i / 2) / 256
theorem tb16_val (f : Nat → Int) (n : Nat) : s16 f n = lsum (tb16 f) (2 * n) := by
  rw [← of16_val]
  refine s16_congr n (fun j _ => ?_)
  unfold of16 tb16
  rw [if_pos (by omega), if_neg (by omega), show 2 * j / 2 = j by omega, show (2 * j + 1) / 2 = j by omega]
  omega
theorem lsum_congr {a b : Nat → Int} : ∀ n, (∀ i, i < n → a i = b i) → lsum a n = lsum b n
  | 0, _ => rfl
  | n + 1, h => by rw [lsum, lsum, lsum_congr n (fun i hi => h i (by omega)), h n (by omega)]
theorem tb16_bd {f : Nat → Int} (h : L16 f) {i : Nat} (hi : i < 32) : 0 ≤ tb16 f i ∧ tb16 f i < 256 := by
  have := h (i / 2) (by omega)
  unfold tb16
  split <;> omega
theorem tb16_byt {f : Nat → Int} (h : L16 f) : Byt (fill (tb16 f) 32) := by
  intro i
  by_cases hi : i < 32
  · rw [fill_get _ _ _ hi]; exact tb16_bd h hi
  · rw [List.getD_eq_getElem?_getD, List.getElem?_eq_none (by rw [fill_len]; omega)]; simp
theorem TurnTo.dig {xs ys : List Int} (h : TurnTo xs ys xs.length) {i : Nat} (hi : i < xs.length) : Go.Proofs.YthapcapiiknjdaaDoor.dig ys i = xs.getD i 0 := by
  unfold Go.Proofs.YthapcapiiknjdaaDoor.dig
  rw [if_pos (by rw [h.1]; exact hi), h.2 _ (by rw [h.1]; omega), h.1]
  congr 1
  omega
theorem tb16_turn {f : Nat → Int} {ys : List Int} (hT : TurnTo (fill (tb16 f) 32) ys 32) (hb : Byt ys) : bval ys = s16 f 16 ∧ fill (tb16 f) 32 = fill (byt (s16 f 16)) 32 := by
  have hT' : TurnTo (fill (tb16 f) 32) ys (fill (tb16 f) 32).length := by rw [fill_len]; exact hT
  have hv : bval ys = s16 f 16 := by
    rw [hT'.val, fill_len, tb16_val]
    exact lsum_congr 32 (fun i hi => fill_get _ _ _ hi)
  refine ⟨hv, fill_congr (fun i hi => ?_)⟩
  have := hT'.dig (i := i) (by rw [fill_len]; exact hi)
  rw [fill_get _ _ _ hi] at this
  rw [← this, dig_of hb, hv]
end Go.Proofs.YthapcapiiknjdaaDoor

/-
  Bits of numbers, and powers by squaring: plain arithmetic.
-/
namespace Go.Proofs.YthapcapiiknjdaaDoor
set_option maxRecDepth 100000

theorem div_join {h B l : Int} (l0 : 0 ≤ l) (l1 : l < B) : (l + h * B) / B = h := by
  rw [Int.add_mul_ediv_right _ _ (by omega), Int.ediv_eq_zero_of_lt l0 l1]
  omega

/-- A bit of a number out of the digit where it lies. -/
theorem bit_of {A d h l : Int} {i n k r : Nat} (hn : i = n * k + r) (hr : r < n) (hA : A = l + (d + h * 2 ^ n) * 2 ^ (n * k)) (l0 : 0 ≤ l) (l1 : l < 2 ^ (n * k)) : A / 2 ^ i % 2 = d / 2 ^ r % 2 := by
  rw [hn, Int.pow_add, ← Int.ediv_ediv_of_nonneg (show (0 : Int) ≤ 2 ^ (n * k) by have := p2pos (n * k); omega), hA, div_join l0 l1]
  obtain ⟨s, hs⟩ : ∃ s, n = r + (s + 1) := ⟨n - r - 1, by omega⟩
  have e : h * 2 ^ n = 2 * (h * 2 ^ s) * 2 ^ r := by
    rw [hs, Int.pow_add, Int.pow_succ]
    simp only [Int.mul_comm, Int.mul_left_comm]
  rw [e, Int.add_mul_ediv_right _ _ (by have := p2pos r; omega)]
  omega

theorem bbit {xs : List Int} (hx : Byt xs) (i : Nat) : bval xs / 2 ^ i % 2 = dig xs (i / 8) / 2 ^ (i % 8) % 2 := by
  have e := bval_lo xs (i / 8)
  have b := lo_bd hx (i / 8)
  rw [hi_step xs (i / 8), Int.add_comm, Int.add_comm (hi xs (i / 8 + 1) * 256)] at e
  rw [p256_2] at e b
  exact bit_of (n := 8) (k := i / 8) (h := hi xs (i / 8 + 1)) (by omega) (by omega) e b.1 b.2

/-- .. as a natural number. -/
theorem nbit {A b : Int} {E i : Nat} (hE : (E : Int) = A) (h : A / 2 ^ i % 2 = b) : ((E / 2 ^ i % 2 : Nat) : Int) = b := by
  rw [← h, ← hE]
  simp

theorem half_of (E i : Nat) : E / 2 ^ i = 2 * (E / 2 ^ (i + 1)) + E / 2 ^ i % 2 := by
  rw [Nat.pow_succ, ← Nat.div_div_eq_div_mul]
  omega

theorem pow_sq {a m : Int} {e : Nat} : (a ^ e % m) * (a ^ e % m) % m = a ^ (2 * e) % m := by
  rw [← Int.mul_emod, ← Int.pow_add, show e + e = 2 * e by omega]


end Go.Proofs.YthapcapiiknjdaaDoor

/-
  The model's l2Power.
-/
namespace Go.Proofs.YthapcapiiknjdaaDoor
set_option maxRecDepth 100000
open Go.RowKit

theorem and1u8 (x : Int) (h0 : 0 ≤ x) (h1 : x < 256) : bits BinOp.and IntKind.u8 x 1 = x % 2 :=
  bits_mask .u8 8 (by decide) (fun n a b => by rw [IntKind.wrap_u8]; omega) 1 (by decide) x h0 h1
theorem Blk.setRow {w : World} {g : Nat} {k : IntKind} {ys zs : List Int} (h : Blk w g k ys) : Blk (w.setRow g ((zs.map (Value.int k)).toArray)) g k zs := by
  obtain ⟨e, h⟩ := h
  exact ⟨e, setRow_heap _ _ _ _ _ _ h⟩
theorem Blk.row {w : World} {g g' : Nat} {k : IntKind} {ys : List Int} {cs : Array Value} (h : Blk w g k ys) (hne : g ≠ g') : Blk (w.setRow g' cs) g k ys :=
  h.of_block (setRow_other w g' g cs hne)
theorem below_row {B : Nat} {w w' : World} (h : Below B w w') {g : Nat} (cs : Array Value) (hg : B ≤ g) : Below B w (w'.setRow g cs) :=
  h.trans ⟨rfl, rfl, rfl, by simp [World.setRow], fun i hi => setRow_other w' _ i _ (by omega)⟩
theorem pw_sq {A m s t : Int} {e : Nat} (h : t % m = A ^ e % m) (hs : s % m = t * t % m) : s % m = A ^ (2 * e) % m := by
  rw [hs, Int.mul_emod, h, pow_sq]
theorem pw_on {A m s t : Int} {e : Nat} (h : t % m = A ^ e % m) (hs : s % m = t * A % m) : s % m = A ^ (e + 1) % m := by
  rw [hs, Int.mul_emod, h, ← Int.mul_emod, Int.pow_succ]
theorem pbit {es : List Int} (hb : Byt es) {E k : Nat} (hE : (E : Int) = bval es) (hk : k < 8 * es.length) : ((E / 2 ^ (8 * es.length - (k + 1)) % 2 : Nat) : Int) = es.getD (k / 8) 0 / 2 ^ (7 - k % 8) % 2 := by
  have h := nbit hE (bbit hb (8 * es.length - (k + 1)))
  rw [h, show (8 * es.length - (k + 1)) / 8 = es.length - 1 - k / 8 by omega, show (8 * es.length - (k + 1)) % 8 = 7 - k % 8 by omega]
  unfold dig
  rw [if_pos (by omega), show es.length - 1 - (es.length - 1 - k / 8) = k / 8 by omega]
theorem phalf {E k n : Nat} (hk : k < 8 * n) : E / 2 ^ (8 * n - (k + 1)) = 2 * (E / 2 ^ (8 * n - k)) + E / 2 ^ (8 * n - (k + 1)) % 2 := by
  have h := half_of E (8 * n - (k + 1))
  rw [show 8 * n - (k + 1) + 1 = 8 * n - k by omega] at h
  exact h
theorem pstep0 {es : List Int} (hb : Byt es) {E k : Nat} (hE : (E : Int) = bval es) (hk : k < 8 * es.length) (h : ¬ es.getD (k / 8) 0 / 2 ^ (7 - k % 8) % 2 = 1) : E / 2 ^ (8 * es.length - (k + 1)) = 2 * (E / 2 ^ (8 * es.length - k)) := by
  have a := pbit hb hE hk
  have b := phalf (E := E) hk
  generalize E / 2 ^ (8 * es.length - (k + 1)) = P at *
  generalize E / 2 ^ (8 * es.length - k) = Q at *
  generalize es.getD (k / 8) 0 / 2 ^ (7 - k % 8) = X at *
  omega
theorem pstep1 {es : List Int} (hb : Byt es) {E k : Nat} (hE : (E : Int) = bval es) (hk : k < 8 * es.length) (h : es.getD (k / 8) 0 / 2 ^ (7 - k % 8) % 2 = 1) : E / 2 ^ (8 * es.length - (k + 1)) = 2 * (E / 2 ^ (8 * es.length - k)) + 1 := by
  have a := pbit hb hE hk
  have b := phalf (E := E) hk
  generalize E / 2 ^ (8 * es.length - (k + 1)) = P at *
  generalize E / 2 ^ (8 * es.length - k) = Q at *
  generalize es.getD (k / 8) 0 / 2 ^ (7 - k % 8) = X at *
  omega
theorem ptop {es : List Int} (hb : Byt es) {E : Nat} (hE : (E : Int) = bval es) : E / 2 ^ (8 * es.length - 0) = 0 := by
  have := bval_lt hb
  rw [← hE, p256_2] at this
  exact Nat.div_eq_of_lt (by exact_mod_cast this)

set_option maxHeartbeats 4000000 in
theorem l2Power_any (w : World) (a : Nat → Int) (g : Nat) (b : Option Addr) (c : Nat) (es : List Int) (ha : L16 a) (hr : Rd w g b .u8 es) (hb : Byt es) (hl : es.length ≤ 4096) :
    Calls Tryd.prog 101 #[ag16 a, .slice b es.length c] w fun r w' => ∃ t, r = .returned (ag16 t) ∧ L16 t ∧ s16 t 16 % PP = s16 a 16 ^ (bval es).toNat % PP ∧ Below w.heap.size w w' := by
  show Calls Tryd.prog 101 #[.agg (a16 a), .slice b es.length c] w fun r w' => ∃ t, r = .returned (.agg (a16 t)) ∧ L16 t ∧ s16 t 16 % PP = s16 a 16 ^ (bval es).toNat % PP ∧ Below w.heap.size w w'
  have B0 : Blk (w.alloc (.cells (a16 a) 52)) w.heap.size .i64 (ls16 a) := blk16 w 52 a
  have n0 : Below w.heap.size w (w.alloc (.cells (a16 a) 52)) := (Below.refl _ _).alloc (Nat.le_refl _) _
  have s0 : (w.alloc (.cells (a16 a) 52)).heap.size = w.heap.size + 1 := by simp
  have MU := hide (fun w t (ht : L16 t) => l2Mul_any w t t ht ht)
  have MA := hide (fun w t (ht : L16 t) => l2Mul_any w t a ht ha)
  obtain ⟨A, hA⟩ : ∃ A, A = a16 a := ⟨_, rfl⟩
  have HA := hide hA
  rw [← hA] at B0 n0 s0 ⊢
  clear hA
  have hE : (((bval es).toNat : Nat) : Int) = bval es := Int.toNat_of_nonneg (bval_nonneg hb)
  obtain ⟨E, hEE⟩ : ∃ E, (bval es).toNat = E := ⟨_, rfl⟩
  rw [hEE] at hE ⊢
  have HE := hide hE
  clear hEE hE
  go_enter Tryd.func101, Tryd.ntmps101
  go_upto_region 1 with fail
  rw [z16]
  generalize w.alloc (.cells A 52) = wa at *
  have B1 : Blk (wa.alloc (.cells (a16 (fun _ => 0)) 52)) wa.heap.size .i64 (ls16 (fun _ => 0)) := blk16 wa 52 (fun _ => 0)
  have n1 : Below wa.heap.size wa (wa.alloc (.cells (a16 (fun _ => 0)) 52)) := (Below.refl _ _).alloc (Nat.le_refl _) _
  have s1 : (wa.alloc (.cells (a16 (fun _ => 0)) 52)).heap.size = w.heap.size + 1 + 1 := by simp [s0]
  rw [s0] at B1
  generalize wa.alloc (.cells (a16 (fun _ => 0)) 52) = wb at *
  have E0 := B0.up n1
  have N := nxt n0 n1
  clear B0 n0 n1 s0
  go_wp2_with fail
  refine (l2Small_any wb 1 (by omega)).mono ?_
  rintro r w1 ⟨t, rfl, LT, VT, n1⟩
  have z1 : w.heap.size + 1 < w1.heap.size := by have := n1.size; omega
  have al : Below w1.heap.size w1 (w1.alloc (.cells (a16 (fun _ => 0)) 52)) := (Below.refl _ _).alloc (Nat.le_refl _) _
  have BG : Blk (w1.alloc (.cells (a16 (fun _ => 0)) 52)) w1.heap.size .i64 (ls16 (fun _ => 0)) := blk16 w1 52 (fun _ => 0)
  have hG : (w1.alloc (.cells (a16 (fun _ => 0)) 52)).heap[w1.heap.size]? = some (.cells (a16 (fun _ => 0)) 52 (0, 0)) := by rw [heap_alloc_last]
  have F0 := (((E0.up n1).up al).row (cs := a16 t) (g' := w1.heap.size) (by omega))
  have F1 := (((B1.up n1).up al).row (cs := a16 t) (g' := w1.heap.size) (by omega))
  have FG : Blk ((w1.alloc (.cells (a16 (fun _ => 0)) 52)).setRow w1.heap.size (a16 t)) w1.heap.size .i64 (ls16 t) := BG.setRow
  have FN := below_row (nxt (nxt N n1) al) (a16 t) (g := w1.heap.size) (by omega)
  clear n1 al BG E0 B1 N s1
  go_upto_region 2 with (refine wpList_store_row rfl 52 (.tmp 5) (.tmp 7) rfl w1.heap.size (a16 t) rfl rfl 52 (a16 (fun _ => 0)) hG (by rw [a16_size]; exact i50) (by rw [a16_size, a16_size]) (a16_one _) ?_)
  clear hG
  rw [z16]
  generalize (w1.alloc (.cells (a16 (fun _ => 0)) 52)).setRow w1.heap.size (a16 t) = w2 at *
  obtain ⟨G, hG⟩ : ∃ G, G = w1.heap.size := ⟨_, rfl⟩
  rw [← hG] at z1 FG ⊢
  clear hG
  generalize ag16 t = V7
  go_wp2
  go_loopw [6] (fun i wr => ∃ (k : Nat) (t : Nat → Int), k ≤ 8 * es.length ∧ i = .int .i64 k ∧ L16 t ∧ s16 t 16 % PP = s16 a 16 ^ (E / 2 ^ (8 * es.length - k)) % PP ∧ Blk wr w.heap.size .i64 (ls16 a) ∧ Blk wr (w.heap.size + 1) .i64 (ls16 (fun _ => 0)) ∧ Blk wr G .i64 (ls16 t) ∧ Below w.heap.size w wr) (fun i _ => 8 * es.length - (intOf i).toNat)
  case atStart => exact ⟨0, t, Nat.zero_le _, rfl, LT, by rw [VT, ptop hb HE.out, Int.pow_zero], F0, F1, FG, FN⟩
  case round =>
    clear F0 F1 FG FN VT LT t
    obtain ⟨k, t, hk, rfl, LT, VT, hA, hR, hG, hN⟩ := hrel
    by_cases hlt : k < 8 * es.length
    · have k5 : (k : Int) < (es.length : Int) * 8 := by omega
      obtain ⟨off, rfl, hc⟩ := hr (by omega)
      have hg := hr.lt (by omega)
      obtain ⟨eG, hGr⟩ := id hG
      go_upto_region 6 with (first
        | (refine wpList_load_row rfl 52 (.tmp 5) rfl G rfl eG (a16 t) (0, 0) (.array 16 2) hGr Go.Proofs.YthapcapiiknjdaaDoor.u50 rfl (by rw [a16_size]; exact i50) ?_)
        | (go_at_call 55; go_must (refine (MU.out wr t LT).mono ?_; rintro r w4 ⟨u, rfl, LU, VU, n4⟩))
        | (refine wpList_store_row rfl 52 (.tmp 5) (.tmp 17) rfl G (a16 u) rfl rfl eG (a16 t) ((n4.block _ hG.lt).trans hGr) (by rw [a16_size]; exact i50) (by rw [a16_size, a16_size]) (a16_one _) ?_))
      have z4 := hN.size
      have G0 := (hA.up n4).row (cs := a16 u) (g' := G) (by omega)
      have G1 := (hR.up n4).row (cs := a16 u) (g' := G) (by omega)
      have GG : Blk (w4.setRow G (a16 u)) G .i64 (ls16 u) := (hG.up n4).setRow
      have GN := below_row (nxt hN n4) (a16 u) (g := G) (by omega)
      have VV := hide (pw_sq VT VU)
      clear hA hR hG hN hGr n4 VT VU LT z4
      generalize w4.setRow G (a16 u) = w5 at *
      have P0 := hide (pstep0 hb HE.out hlt)
      have P1 := hide (pstep1 hb HE.out hlt)
      have cx : w5.cell? ⟨g, off + k / 8, none⟩ = some (.int .u8 (es.getD (k / 8) 0)) := (GN.cell (p := ⟨g, off + k / 8, none⟩) hg).trans (hc (k / 8) (by omega))
      have x0 := hb (k / 8)
      have kx : (k : Int) / 8 = ((k / 8 : Nat) : Int) := by omega
      have kr : (k : Int) % 8 = ((k % 8 : Nat) : Int) := by omega
      have ks : 7 - ((k % 8 : Nat) : Int) = ((7 - k % 8 : Nat) : Int) := by omega
      have r7 : 7 - k % 8 ≤ 7 := by omega
      have q5 : ((k / 8 : Nat) : Int) < (es.length : Int) := by omega
      generalize es.getD (k / 8) 0 = x at *
      generalize k / 8 = p at *
      generalize k % 8 = r at *
      generalize 7 - r = s at *
      have pr := p2pos s
      have v0 : 0 ≤ x / 2 ^ s := Int.ediv_nonneg x0.1 (by omega)
      have v1 : x / 2 ^ s < 256 := Int.lt_of_le_of_lt (Int.ediv_le_self _ x0.1) (by omega)
      have e1 := and1u8 _ v0 v1
      by_cases hbit : x / 2 ^ s % 2 = 1
      · have tb1 : (x / 2 ^ s % 2 == 1) = true := by simp [hbit]
        obtain ⟨eG, hGr⟩ := id GG
        obtain ⟨eA, hAr⟩ := id G0
        go_wp2_with (first
          | (refine wpList_load_row rfl 52 (.tmp 5) rfl G rfl eG (a16 u) (0, 0) (.array 16 2) hGr Go.Proofs.YthapcapiiknjdaaDoor.u50 rfl (by rw [a16_size]; exact i50) ?_)
          | (refine wpList_load_row rfl 52 (.tmp 2) rfl w.heap.size rfl eA (a16 a) (0, 0) (.array 16 2) hAr Go.Proofs.YthapcapiiknjdaaDoor.u50 rfl (by rw [a16_size]; exact i50) ?_)
          | (go_at_call 55; go_must (refine (MA.out w5 u LU).mono ?_; rintro r w6 ⟨v, rfl, LV, VW, n6⟩))
          | (refine wpList_store_row rfl 52 (.tmp 5) (.tmp 32) rfl G (a16 v) rfl rfl eG (a16 u) ((n6.block _ GG.lt).trans hGr) (by rw [a16_size]; exact i50) (by rw [a16_size, a16_size]) (a16_one _) ?_))
        go_roundw
        case rel => exact ⟨k + 1, v, by omega, by go_num, LV, by rw [P1.out hbit]; exact pw_on VV.out VW, (G0.up n6).row (by omega), (G1.up n6).row (by omega), (GG.up n6).setRow, below_row (nxt GN n6) _ (by omega)⟩
        case measure => simp [intOf]; omega
      · have tb1 : (x / 2 ^ s % 2 == 1) = false := by simp [hbit]
        go_wp2
        go_roundw
        case rel => exact ⟨k + 1, u, by omega, by go_num, LU, by rw [P0.out hbit]; exact VV.out, G0, G1, GG, GN⟩
        case measure => simp [intOf]; omega
    · obtain rfl : k = 8 * es.length := by omega
      have VV := hide VT
      clear VT
      have k5 : decide (((8 * es.length : Nat) : Int) < (es.length : Int) * 8) = false := by simp; omega
      have HGN := below_row hN (a16 t) (g := w.heap.size + 1) (by omega)
      obtain ⟨eG, hGr⟩ := hG
      obtain ⟨t2, hRr⟩ := hR
      have SR : ((wr.setRow (w.heap.size + 1) (a16 t)).heap[w.heap.size + 1]?) = some (.cells (a16 t) t2 (0, 0)) := setRow_heap _ _ _ _ _ _ hRr
      go_upto_region 8 with fail
      go_wp2_with (first
        | (refine wpList_load_row rfl 52 (.tmp 5) rfl G rfl eG (a16 t) (0, 0) (.array 16 2) hGr Go.Proofs.YthapcapiiknjdaaDoor.u50 rfl (by rw [a16_size]; exact i50) ?_)
        | (refine wpList_store_row rfl 52 (.tmp 4) (.tmp 33) rfl (w.heap.size + 1) (a16 t) rfl rfl t2 (a16 (fun _ => 0)) hRr (by rw [a16_size]; exact i50) (by rw [a16_size, a16_size]) (a16_one _) ?_))
      exact bodyPost_ret (v := .agg (a16 t)) (results_cell_row Tryd.results101 _ _ (w.heap.size + 1) t2 (a16 t) (0, 0) (.array 16 2) rfl SR Go.Proofs.YthapcapiiknjdaaDoor.u50 rfl (by rw [a16_size]; exact i50)) rfl ⟨_, rfl, LT, by have := VV.out; rw [Nat.sub_self, Nat.pow_zero, Nat.div_one] at this; exact this, HGN⟩
end Go.Proofs.YthapcapiiknjdaaDoor

/-
  The model's difference.
-/
namespace Go.Proofs.YthapcapiiknjdaaDoor
set_option maxRecDepth 100000
open Go.RowKit

set_option maxHeartbeats 2000000 in
theorem l1Sub_any (w : World) (g g' : Nat) (a b : Option Addr) (ca cb : Nat) (xs us : List Int) (ha : Rd w g a .u8 xs) (hb : Rd w g' b .u8 us) (hx : Byt xs) (hu : Byt us)
    (hn : xs.length ≤ 4096) (hm : us.length ≤ xs.length) (hle : bval us ≤ bval xs) :
    Calls Tryd.prog 87 #[.slice a xs.length ca, .slice b us.length cb] w fun e w' => ∃ ys, Canon ys (bval xs - bval us) ∧ NewRow w.heap.size w' e .u8 ys ∧ Below w.heap.size w w' := by
  obtain ⟨i0, hi, hz0, hz1, hz2⟩ := info_parts Tryd.info5
  go_enter Tryd.func87, Tryd.ntmps87
  go_wp2_with (at_make; refine wpList_make_full _ rfl _ _ 22 rfl w.heap.size 5 i0 (.int .u8 0) 1 Tryd.underlying22 hi hz0 hz1 .i64 .i64 _ _ xs.length rfl rfl rfl rfl (by rw [hz2]; omega) (by unfold maxLen; omega) (Nat.le_refl _) ?_; intro w1 hown hgrow)
  have hB0 := Blk.of_made hown
  have hN0 : Below w.heap.size w w1 := (Below.refl _ _).grown hgrow (Nat.le_refl _) (by simp)
  clear hown hgrow
  go_loopw [7, 8] (fun q i wr => ∃ (k : Nat) (c : Int) (ys : List Int), k ≤ xs.length ∧ i = .int .i64 k ∧ q = .int .i64 c ∧ (0 ≤ c ∧ c ≤ 1) ∧ SubTo xs us ys k c ∧ Blk wr w.heap.size .u8 ys ∧ Below w.heap.size w wr) (fun _ i _ => xs.length - (intOf i).toNat)
  case atStart => exact ⟨0, 0, _, Nat.zero_le _, rfl, rfl, ⟨by omega, by omega⟩, ⟨by simp, byt_zeros _, ⟨by omega, by omega⟩, rfl⟩, hB0, hN0⟩
  case round =>
    obtain ⟨k, c, ys, hk, rfl, rfl, hc, hA, hB, hN⟩ := hrel
    by_cases hlt : k < xs.length
    · have R := hA.step hlt
      have hl : ys.length = xs.length := hA.1
      have hS := fun v => hB.store (xs.length - 1 - k) v
      have hSn : ∀ v, Below w.heap.size w (wr.setCell ⟨w.heap.size, xs.length - 1 - k, none⟩ v) := fun v => hN.setCell (Nat.le_refl _) v
      have hcy : wr.cell? ⟨w.heap.size, xs.length - 1 - k, none⟩ = some (.int .u8 (ys.getD (xs.length - 1 - k) 0)) := hB.cell (by omega)
      have hfy := hB.free (xs.length - 1 - k)
      have d1 := dig_byt hx k
      have d2 := dig_byt hu k
      obtain ⟨p, hp⟩ : ∃ p : Nat, xs.length - 1 - k = p := ⟨_, rfl⟩
      rw [hp] at hcy hfy R
      simp only [hp] at hS hSn
      have p1 : (xs.length : Int) - 1 - (k : Int) = (p : Int) := by omega
      have p2 : (p : Int) < (xs.length : Int) := by omega
      have ha' := ha.up hN
      have hb' := hb.up hN
      have R' := hide R
      clear hB hN hA hl hp R
      go_wp2_with fail
      refine (l1Digit_any wr g a ca xs _ ha' hx (by omega) (by omega) (by omega)).mono ?_
      rintro e w' ⟨rfl, rfl⟩
      rw [Int.toNat_natCast]
      go_wp2_with fail
      refine (l1Digit_any w' g' b cb us _ hb' hu (by omega) (by omega) (by omega)).mono ?_
      rintro e w'' ⟨rfl, rfl⟩
      rw [Int.toNat_natCast]
      generalize dig xs k = x at *
      generalize dig us k = y at *
      by_cases hv : x - y - c < 0
      · have tv : decide (x - y - c < 0) = true := by simp; omega
        have m1 : (x - y - c + 256) % 256 = x - y - c + 256 := by omega
        go_wp2
        go_roundw
        case rel => exact ⟨k + 1, _, _, by omega, by go_num, rfl, ⟨by omega, by omega⟩, R'.out (x - y - c + 256) 1 (by omega) (by omega) (by omega) ⟨by omega, by omega⟩, hS _, hSn _⟩
        case measure => simp [intOf]; omega
      · have tv : decide (x - y - c < 0) = false := by simp; omega
        have m1 : (x - y - c) % 256 = x - y - c := by omega
        go_wp2
        go_roundw
        case rel => exact ⟨k + 1, _, _, by omega, by go_num, rfl, ⟨by omega, by omega⟩, R'.out (x - y - c) 0 (by omega) (by omega) (by omega) ⟨by omega, by omega⟩, hS _, hSn _⟩
        case measure => simp [intOf]; omega
    · obtain rfl : k = xs.length := by omega
      have V := hide (hA.done hm hle)
      have L := hide hA.1
      have hyb := hA.2.1
      clear hA
      go_wp2_with fail
      rw [← L.out]
      refine (l1Trim_any wr _ _ _ ys hB.own0.rd hyb (by simp) (Nat.le_refl _) (by rw [L.out]; omega)).mono ?_
      rintro e w2 ⟨zs, C, _, ⟨a1, c1, g1, rfl, o1, q1, q2, q3⟩, n2⟩
      rw [V.out] at C
      go_wp2
      go_ret
      exact ⟨zs, C, ⟨_, _, _, rfl, o1, q1, q2, by have := hN.size; omega⟩, nxt hN n2⟩

end Go.Proofs.YthapcapiiknjdaaDoor
