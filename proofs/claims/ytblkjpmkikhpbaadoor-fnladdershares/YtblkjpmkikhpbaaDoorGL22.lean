import Derived.Test.YtblkjpmkikhpbaaDoorGL21
import Derived.Test.YtblkjpmkikhpbaaDoorGL10
import Derived.Test.YtblkjpmkikhpbaaDoorGL8
import Derived.Test.YtblkjpmkikhpbaaDoorGL5

/-
  The model's l2Of.
-/
namespace Go.Proofs.YtblkjpmkikhpbaaDoor
set_option maxRecDepth 100000
open Go.RowKit

/-- Limbs of bytes. -/
def of16 (a : Nat → Int) (i : Nat) : Int := a (2 * i) + 256 * a (2 * i + 1)
theorem of16_val (a : Nat → Int) : ∀ k, s16 (of16 a) k = lsum a (2 * k)
  | 0 => rfl
  | k + 1 => by
    have e : (65536 : Int) ^ k = 256 ^ (2 * k) := by rw [Int.pow_mul]; rfl
    rw [s16, of16_val a k, show 2 * (k + 1) = 2 * k + 1 + 1 by omega, lsum, lsum, of16, e, Int.pow_succ]
    generalize (256 : Int) ^ (2 * k) = p
    grind
theorem of16_ok {a : Nat → Int} (h : Bt a) : L16 (of16 a) := fun j _ => by
  have := h (2 * j)
  have := h (2 * j + 1)
  unfold of16
  omega

set_option maxHeartbeats 4000000 in
theorem l2Of_any (w : World) (g : Nat) (a : Option Addr) (cap : Nat) (xs : List Int) (hr : Rd w g a .u8 xs) (hb : Byt xs) (hl : xs.length = 32) :
    Calls Tryd.prog 27 #[.slice a 32 cap] w fun r w' => r = .returned (ag16 (of16 (fun j => xs.getD j 0))) ∧ Below w.heap.size w w' := by
  show Calls Tryd.prog 27 #[.slice a 32 cap] w fun r w' => r = .returned (.agg (a16 (of16 (fun j => xs.getD j 0)))) ∧ Below w.heap.size w w'
  obtain ⟨off, rfl, hc⟩ := hr (by omega)
  have hg := hr.lt (by omega)
  have B0 : Blk (w.alloc (.cells (a16 (fun _ => 0)) 36)) w.heap.size .i64 (ls16 (fun _ => 0)) := blk16 w 36 (fun _ => 0)
  have n0 : Below w.heap.size w (w.alloc (.cells (a16 (fun _ => 0)) 36)) := (Below.refl _ _).alloc (Nat.le_refl _) _
  have s0 : (w.alloc (.cells (a16 (fun _ => 0)) 36)).heap.size = w.heap.size + 1 := by simp
  obtain ⟨q, hq⟩ : ∃ q, q = of16 (fun j => xs.getD j 0) := ⟨_, rfl⟩
  rw [← hq]
  go_enter Tryd.func27, Tryd.ntmps27
  go_upto_region 1 with fail
  rw [z16]
  generalize w.alloc (.cells (a16 (fun _ => 0)) 36) = wa at *
  have B1 : Blk (wa.alloc (.cells (a16 (fun _ => 0)) 36)) wa.heap.size .i64 (ls16 (fun _ => 0)) := blk16 wa 36 (fun _ => 0)
  have n1 : Below wa.heap.size wa (wa.alloc (.cells (a16 (fun _ => 0)) 36)) := (Below.refl _ _).alloc (Nat.le_refl _) _
  rw [s0] at B1
  have E0 := B0.up n1
  have N := nxt n0 n1
  go_upto_region 2 with fail
  rw [z16]
  generalize wa.alloc (.cells (a16 (fun _ => 0)) 36) = wb at *
  clear B0 n0 n1
  go_wp2
  go_loopw [4] (fun i wr => ∃ (k : Nat) (ys : List Int), k ≤ 16 ∧ i = .int .i64 k ∧ Up16 q (fun _ => 0) ys k ∧ Blk wr w.heap.size .i64 (ls16 (fun _ => 0)) ∧ Blk wr (w.heap.size + 1) .i64 ys ∧ Below w.heap.size w wr) (fun i _ => 16 - (intOf i).toNat)
  case atStart => exact ⟨0, _, by omega, rfl, Up16.zero _ _, E0, B1, N⟩
  case round =>
    clear E0 B1 N
    obtain ⟨j, ys, hj, rfl, hU, hR, hF, hN⟩ := hrel
    by_cases hjt : j < 16
    · have j2 : (j : Int) < 16 := by omega
      have cf := hF.cell (i := j) (by rw [hU.1]; exact hjt)
      have ff := hF.free j
      have R := hU.step hjt
      have E : q j = xs.getD (2 * j) 0 + 256 * xs.getD (2 * j + 1) 0 := by rw [hq]; rfl
      rw [E] at R
      have c1 : wr.cell? ⟨g, off + 2 * j, none⟩ = some (.int .u8 (xs.getD (2 * j) 0)) := (hN.cell (p := ⟨g, off + 2 * j, none⟩) hg).trans (hc (2 * j) (by omega))
      have c2 : wr.cell? ⟨g, off + (2 * j + 1), none⟩ = some (.int .u8 (xs.getD (2 * j + 1) 0)) := (hN.cell (p := ⟨g, off + (2 * j + 1), none⟩) hg).trans (hc (2 * j + 1) (by omega))
      have w1 := hb (2 * j)
      have w2 := hb (2 * j + 1)
      obtain ⟨m, hm⟩ : ∃ m : Nat, 2 * j + 1 = m := ⟨_, rfl⟩
      obtain ⟨p, hp⟩ : ∃ p : Nat, 2 * j = p := ⟨_, rfl⟩
      rw [hm] at c2 w2 R
      rw [hp] at c1 w1 R
      have p1 : 2 * (j : Int) = (p : Int) := by omega
      have p2 : IntKind.i64.wrap (p : Int) = (p : Int) := by rw [IntKind.wrap_i64]; omega
      have p3 : (p : Int) < 32 := by omega
      have m1 : (p : Int) + 1 = (m : Int) := by omega
      have m2 : IntKind.i64.wrap (m : Int) = (m : Int) := by rw [IntKind.wrap_i64]; omega
      have m3 : (m : Int) < 32 := by omega
      have S := fun v => hF.store j v
      have SR := fun v => hide (hR.keep (g' := w.heap.size + 1) (k := j) (v := v) (by omega))
      have Sn : ∀ v, Below w.heap.size w (wr.setCell ⟨w.heap.size + 1, j, none⟩ v) := fun v => hN.setCell (by show w.heap.size ≤ w.heap.size + 1; omega) v
      generalize ys.getD j 0 = f0 at cf
      have R' := hide R
      clear hU hR hF hN R E hc hb hr hg hm hp hl hq
      generalize xs.getD p 0 = d at *
      generalize xs.getD m 0 = e at *
      go_wp2
      go_region
      go_wp2
      go_roundw
      case rel => exact ⟨j + 1, _, by omega, by go_num, R'.out, (SR _).out.drew, (S _).drew, (Sn _).drew⟩
      case measure => simp [intOf]; omega
    · obtain rfl : j = 16 := by omega
      have hy := hU.all
      subst hy
      clear hU hq hc hr hb
      obtain ⟨t, hF⟩ := hF
      obtain ⟨t2, hR⟩ := hR
      have SR : ((wr.setRow w.heap.size (a16 q)).heap[w.heap.size]?) = some (.cells (a16 q) t2 (0, 0)) := setRow_heap _ _ _ _ _ _ hR
      have SN : Below w.heap.size w (wr.setRow w.heap.size (a16 q)) := hN.trans ⟨rfl, rfl, rfl, by simp, fun i hi => setRow_other wr _ i _ (by omega)⟩
      go_upto_region 6 with fail
      go_wp2_with (first
        | (refine wpList_load_row rfl 36 (.tmp 3) rfl (w.heap.size + 1) rfl t (a16 q) (0, 0) (.array 16 2) hF Go.Proofs.YtblkjpmkikhpbaaDoor.u50 rfl (by rw [a16_size]; exact i50) ?_)
        | (refine wpList_store_row rfl 36 (.tmp 2) (.tmp 26) rfl w.heap.size (a16 q) rfl rfl t2 (a16 (fun _ => 0)) hR (by rw [a16_size]; exact i50) (by rw [a16_size, a16_size]) (a16_one _) ?_))
      exact bodyPost_ret (v := .agg (a16 q)) (results_cell_row Tryd.results27 _ _ w.heap.size t2 (a16 q) (0, 0) (.array 16 2) rfl SR Go.Proofs.YtblkjpmkikhpbaaDoor.u50 rfl (by rw [a16_size]; exact i50)) rfl ⟨rfl, SN⟩
end Go.Proofs.YtblkjpmkikhpbaaDoor

/-
  What the model's l2Bytes makes of sixteen limbs: numbers alone.
-/
namespace Go.Proofs.YtblkjpmkikhpbaaDoor
set_option maxRecDepth 100000

/-- The highest bit taken round, before the carrying. -/
def adj (f : Nat → Int) (j : Nat) : Int := if j = 0 then f 0 + 19 * (f 15 / 32768) else if j = 15 then f 15 % 32768 else f j
def rb (f : Nat → Int) : Nat → Int := l16 (adj f)
theorem adj_val (f : Nat → Int) : s16 (adj f) 16 = s16 f 16 + (f 15 % 32768 - f 15) * 65536 ^ 15 + 19 * (f 15 / 32768) := by
  have h := s16_upd (fun k => if k = 15 then f 15 % 32768 else f k) 0 (f 0 + 19 * (f 15 / 32768)) 16
  rw [s16_upd f 15 (f 15 % 32768) 16] at h
  have e : adj f = fun k => if k = 0 then f 0 + 19 * (f 15 / 32768) else (if k = 15 then f 15 % 32768 else f k) := rfl
  rw [e, h]
  simp
  omega
theorem L15.bd {f : Nat → Int} (h : L16 f) : 0 ≤ s16 f 15 ∧ s16 f 15 < 1766847064778384329583297500742918515827483896875618958121606201292619776 := by
  have h0 := h 0 (by omega); have h1 := h 1 (by omega); have h2 := h 2 (by omega); have h3 := h 3 (by omega)
  have h4 := h 4 (by omega); have h5 := h 5 (by omega); have h6 := h 6 (by omega); have h7 := h 7 (by omega)
  have h8 := h 8 (by omega); have h9 := h 9 (by omega); have ha := h 10 (by omega); have hb := h 11 (by omega)
  have hc := h 12 (by omega); have hd := h 13 (by omega); have he := h 14 (by omega)
  simp only [s16]
  omega
theorem rb_ok {f : Nat → Int} (h : L16 f) : L16 (rb f) ∧ s16 (rb f) 16 = s16 f 16 % 57896044618658097711785492504343953926634992332820282019728792003956564819968 + 19 * (s16 f 16 / 57896044618658097711785492504343953926634992332820282019728792003956564819968) := by
  refine ⟨fun j _ => l16_bd _ j, ?_⟩
  have h1 := c16_sum (adj f) 16
  have h2 := L16.bd (f := l16 (adj f)) (fun j _ => l16_bd _ j)
  have h3 := adj_val f
  have h4 := L15.bd h
  have h5 := h 15 (by omega)
  have h6 : s16 f 16 = s16 f 15 + f 15 * 65536 ^ 15 := rfl
  have e : (65536 : Int) ^ 16 = 115792089237316195423570985008687907853269984665640564039457584007913129639936 := by decide
  have e2 : (65536 : Int) ^ 15 = 1766847064778384329583297500742918515827483896875618958121606201292619776 := by decide
  rw [e] at h1
  rw [e2] at h3 h6
  show s16 (l16 (adj f)) 16 = _
  have h2' : 0 ≤ s16 (l16 (adj f)) 16 ∧ s16 (l16 (adj f)) 16 < 115792089237316195423570985008687907853269984665640564039457584007913129639936 := h2
  generalize s16 (l16 (adj f)) 16 = S at *
  generalize c16 (adj f) 16 = c at *
  generalize s16 (adj f) 16 = U at *
  generalize s16 f 16 = V at *
  generalize s16 f 15 = T at *
  generalize f 15 = x at *
  clear h2 h e e2
  rcases (show x / 32768 = 0 ∨ x / 32768 = 1 by omega) with hx | hx
  · have hV : V / 57896044618658097711785492504343953926634992332820282019728792003956564819968 = 0 := by omega
    have hc : c = 0 := by omega
    omega
  · have hV : V / 57896044618658097711785492504343953926634992332820282019728792003956564819968 = 1 := by omega
    have hc : c = 0 := by omega
    omega
def rb2 (f : Nat → Int) : Nat → Nat → Int
  | 0 => f
  | k + 1 => rb (rb2 f k)
theorem rb2_ok {f : Nat → Int} (h : L16 f) : ∀ k, L16 (rb2 f k)
  | 0 => h
  | k + 1 => (rb_ok (rb2_ok h k)).1
theorem rb_two {f : Nat → Int} (h : L16 f) : 0 ≤ s16 (rb2 f 2) 16 ∧ s16 (rb2 f 2) 16 < 57896044618658097711785492504343953926634992332820282019728792003956564819968 ∧ s16 (rb2 f 2) 16 % PP = s16 f 16 % PP := by
  have h0 := L16.bd h
  have h1 := rb_ok h
  have h2 := rb_ok h1.1
  have b2 := L16.bd h2.1
  show 0 ≤ s16 (rb (rb f)) 16 ∧ s16 (rb (rb f)) 16 < _ ∧ s16 (rb (rb f)) 16 % 57896044618658097711785492504343953926634992332820282019728792003956564819949 = s16 f 16 % 57896044618658097711785492504343953926634992332820282019728792003956564819949
  have v1 := h1.2
  have v2 := h2.2
  have h0' : 0 ≤ s16 f 16 ∧ s16 f 16 < 115792089237316195423570985008687907853269984665640564039457584007913129639936 := h0
  generalize s16 (rb (rb f)) 16 = C at *
  generalize s16 (rb f) 16 = B at *
  generalize s16 f 16 = A at *
  clear h0 h1 h2 b2
  omega
/-- The bytes of the limbs. -/
def tb16 (f : Nat → Int) (i : Nat) : Int := if i % 2 = 0 then f (i / 2) % 256 else f (i / 2) / 256
theorem tb16_val (f : Nat → Int) (n : Nat) : s16 f n = lsum (tb16 f) (2 * n) := by
  rw [← of16_val]
  refine s16_congr n (fun j _ => ?_)
  unfold of16 tb16
  rw [if_pos (by omega), if_neg (by omega), show 2 * j / 2 = j by omega, show (2 * j + 1) / 2 = j by omega]
  omega
theorem lsum_congr {a b : Nat → Int} : ∀ n, (∀ i, i < n → a i = b i) → lsum a n = lsum b n
  | 0, _ => rfl
  | n + 1, h => by rw [lsum, lsum, lsum_congr n (fun i hi => h i (by omega)), h n (by omega)]
theorem tb16_bd {f : Nat → Int} (h : L16 f) {i : Nat} (hi : i < 32) : 0 ≤ tb16 f i ∧ tb16 f i < 256 := by
  have := h (i / 2) (by omega)
  unfold tb16
  split <;> omega
theorem tb16_byt {f : Nat → Int} (h : L16 f) : Byt (fill (tb16 f) 32) := by
  intro i
  by_cases hi : i < 32
  · rw [fill_get _ _ _ hi]; exact tb16_bd h hi
  · rw [List.getD_eq_getElem?_getD, List.getElem?_eq_none (by rw [fill_len]; omega)]; simp
theorem TurnTo.dig {xs ys : List Int} (h : TurnTo xs ys xs.length) {i : Nat} (hi : i < xs.length) : Go.Proofs.YtblkjpmkikhpbaaDoor.dig ys i = xs.getD i 0 := by
  unfold Go.Proofs.YtblkjpmkikhpbaaDoor.dig
  rw [if_pos (by rw [h.1]; exact hi), h.2 _ (by rw [h.1]; omega), h.1]
  congr 1
  omega
theorem tb16_turn {f : Nat → Int} {ys : List Int} (hT : TurnTo (fill (tb16 f) 32) ys 32) (hb : Byt ys) : bval ys = s16 f 16 ∧ fill (tb16 f) 32 = fill (byt (s16 f 16)) 32 := by
  have hT' : TurnTo (fill (tb16 f) 32) ys (fill (tb16 f) 32).length := by rw [fill_len]; exact hT
  have hv : bval ys = s16 f 16 := by
    rw [hT'.val, fill_len, tb16_val]
    exact lsum_congr 32 (fun i hi => fill_get _ _ _ hi)
  refine ⟨hv, fill_congr (fun i hi => ?_)⟩
  have := hT'.dig (i := i) (by rw [fill_len]; exact hi)
  rw [fill_get _ _ _ hi] at this
  rw [← this, dig_of hb, hv]
end Go.Proofs.YtblkjpmkikhpbaaDoor

/-
  Bits of numbers, and powers by squaring: plain arithmetic.
-/
namespace Go.Proofs.YtblkjpmkikhpbaaDoor
set_option maxRecDepth 100000

theorem div_join {h B l : Int} (l0 : 0 ≤ l) (l1 : l < B) : (l + h * B) / B = h := by
  rw [Int.add_mul_ediv_right _ _ (by omega), Int.ediv_eq_zero_of_lt l0 l1]
  omega

/-- A bit of a number out of the digit where it lies. -/
theorem bit_of {A d h l : Int} {i n k r : Nat} (hn : i = n * k + r) (hr : r < n) (hA : A = l + (d + h * 2 ^ n) * 2 ^ (n * k)) (l0 : 0 ≤ l) (l1 : l < 2 ^ (n * k)) : A / 2 ^ i % 2 = d / 2 ^ r % 2 := by
  rw [hn, Int.pow_add, ← Int.ediv_ediv_of_nonneg (show (0 : Int) ≤ 2 ^ (n * k) by have := p2pos (n * k); omega), hA, div_join l0 l1]
  obtain ⟨s, hs⟩ : ∃ s, n = r + (s + 1) := ⟨n - r - 1, by omega⟩
  have e : h * 2 ^ n = 2 * (h * 2 ^ s) * 2 ^ r := by
    rw [hs, Int.pow_add, Int.pow_succ]
    simp only [Int.mul_comm, Int.mul_left_comm]
  rw [e, Int.add_mul_ediv_right _ _ (by have := p2pos r; omega)]
  omega

theorem bbit {xs : List Int} (hx : Byt xs) (i : Nat) : bval xs / 2 ^ i % 2 = dig xs (i / 8) / 2 ^ (i % 8) % 2 := by
  have e := bval_lo xs (i / 8)
  have b := lo_bd hx (i / 8)
  rw [hi_step xs (i / 8), Int.add_comm, Int.add_comm (hi xs (i / 8 + 1) * 256)] at e
  rw [p256_2] at e b
  exact bit_of (n := 8) (k := i / 8) (h := hi xs (i / 8 + 1)) (by omega) (by omega) e b.1 b.2

/-- .. as a natural number. -/
theorem nbit {A b : Int} {E i : Nat} (hE : (E : Int) = A) (h : A / 2 ^ i % 2 = b) : ((E / 2 ^ i % 2 : Nat) : Int) = b := by
  rw [← h, ← hE]
  simp

theorem half_of (E i : Nat) : E / 2 ^ i = 2 * (E / 2 ^ (i + 1)) + E / 2 ^ i % 2 := by
  rw [Nat.pow_succ, ← Nat.div_div_eq_div_mul]
  omega

theorem pow_sq {a m : Int} {e : Nat} : (a ^ e % m) * (a ^ e % m) % m = a ^ (2 * e) % m := by
  rw [← Int.mul_emod, ← Int.pow_add, show e + e = 2 * e by omega]

theorem pow_on {a m : Int} {e f : Nat} : (a ^ e % m) * (a ^ f % m) % m = a ^ (e + f) % m := by
  rw [← Int.mul_emod, ← Int.pow_add]

end Go.Proofs.YtblkjpmkikhpbaaDoor
