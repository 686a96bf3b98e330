import Derived.Test.YtpjgedbemblnhaaDoorGZ4
import Derived.Test.YtpjgedbemblnhaaDoorGZ3
import Derived.Laws.BytesString
import Derived.Deep.RegionWith
import Derived.Deep.RegionHeld3
import Derived.Lib.AppendZeros
import Derived.Laws.Strings
import Derived.Deep.WholeRow

/-
  The model's l2Sub, l2Small, l2Of.
-/
namespace Go.Proofs.YtpjgedbemblnhaaDoor
set_option maxRecDepth 100000
open Go.RowKit

def df (a b : Nat → Int) (i : Nat) : Int := if i < 16 then a i - b i else 0
theorem df_in {a b : Nat → Int} (ha : L16 a) (hb : L16 b) : In60 (df a b) := fun j => by
  unfold df
  by_cases h : j < 16
  · rw [if_pos h]
    have := ha j h
    have := hb j h
    omega
  · rw [if_neg h]; omega
theorem df_val (a b : Nat → Int) : s16 (df a b) 16 = s16 a 16 - s16 b 16 := by
  rw [s16_congr 16 (u := df a b) (v := fun k => a k + (-1) * b k) (fun j hj => by simp [df, hj]; omega), s16_lin]; omega

def sml (n : Int) (i : Nat) : Int := if i = 0 then n else 0
theorem sml_val (n : Int) : ∀ k, s16 (sml n) (k + 1) = n
  | 0 => by simp [s16, sml]
  | k + 1 => by rw [s16, sml_val n k]; simp [sml]
theorem ls16_sml (n : Int) : (ls16 (fun _ => 0)).set 0 n = ls16 (sml n) := ls16_set _ n

set_option maxHeartbeats 2000000 in
theorem l2Small_any (w : World) (n : Int) (hn : 0 ≤ n ∧ n < 65536) :
    Calls Tryd.prog 10 #[.int .i64 n] w fun r w' => ∃ t, r = .returned (ag16 t) ∧ L16 t ∧ s16 t 16 % PP = n % PP ∧ Below w.heap.size w w' := by
  show Calls Tryd.prog 10 #[.int .i64 n] w fun r w' => ∃ t, r = .returned (.agg (a16 t)) ∧ L16 t ∧ s16 t 16 % PP = n % PP ∧ Below w.heap.size w w'
  have B0 : Blk (w.alloc (.cells (a16 (fun _ => 0)) 31)) w.heap.size .i64 (ls16 (fun _ => 0)) := blk16 w 31 (fun _ => 0)
  have n0 : Below w.heap.size w (w.alloc (.cells (a16 (fun _ => 0)) 31)) := (Below.refl _ _).alloc (Nat.le_refl _) _
  have s0 : (w.alloc (.cells (a16 (fun _ => 0)) 31)).heap.size = w.heap.size + 1 := by simp
  go_enter Tryd.func10, Tryd.ntmps10
  go_upto_region 1 with fail
  rw [z16]
  generalize w.alloc (.cells (a16 (fun _ => 0)) 31) = wa at *
  have B1 : Blk (wa.alloc (.cells (a16 (fun _ => 0)) 31)) wa.heap.size .i64 (ls16 (fun _ => 0)) := blk16 wa 31 (fun _ => 0)
  have n1 : Below wa.heap.size wa (wa.alloc (.cells (a16 (fun _ => 0)) 31)) := (Below.refl _ _).alloc (Nat.le_refl _) _
  rw [s0] at B1
  have E0 := B0.up n1
  have N := nxt n0 n1
  go_upto_region 2 with fail
  rw [z16]
  generalize wa.alloc (.cells (a16 (fun _ => 0)) 31) = wb at *
  clear B0 n0 n1 
  have c0 : wb.cell? ⟨w.heap.size + 1, 0, none⟩ = some (.int .i64 0) := by rw [B1.cell (i := 0) (by rw [ls16_len]; omega), ls16_get _ (by omega)]
  have f0 := B1.free 0
  have S := B1.store 0 n
  rw [ls16_sml] at S
  have S1 := E0.keep (g' := w.heap.size + 1) (k := 0) (v := .int .i64 n) (by omega)
  have Sn : Below w.heap.size w (wb.setCell ⟨w.heap.size + 1, 0, none⟩ (.int .i64 n)) := N.setCell (by show w.heap.size ≤ w.heap.size + 1; omega) _
  clear B1 E0 N
  go_upto_region 3 with fail
  generalize wb.setCell ⟨w.heap.size + 1, 0, none⟩ (.int .i64 n) = wc at *
  have GI : In60 (sml n) := fun j => by unfold sml; split <;> omega
  have K := cry_ok GI
  have hl := S1.lt
  obtain ⟨t, hF⟩ := S
  obtain ⟨t2, hR⟩ := S1
  have SR : ∀ w2, Below wc.heap.size wc w2 → ((w2.setRow w.heap.size (a16 (cry (sml n)))).heap[w.heap.size]?) = some (.cells (a16 (cry (sml n))) t2 (0, 0)) := fun w2 h2 => setRow_heap _ _ _ _ _ _ ((h2.block _ hl).trans hR)
  have SN : ∀ w2, Below wc.heap.size wc w2 → Below w.heap.size w (w2.setRow w.heap.size (a16 (cry (sml n)))) := fun w2 h2 => (nxt Sn h2).trans ⟨rfl, rfl, rfl, by simp, fun i hi => setRow_other w2 _ i _ (by omega)⟩
  go_wp2_with (first
    | (refine wpList_load_row rfl 31 (.tmp 3) rfl (w.heap.size + 1) rfl t (a16 (sml n)) (0, 0) (.array 16 2) hF Go.Proofs.YtpjgedbemblnhaaDoor.u50 rfl (by rw [a16_size]; exact i50) ?_)
    | (go_at_call 15; refine (l2Carry_any _ (sml n) GI).mono ?_; rintro r w2 ⟨rfl, n2⟩)
    | (refine wpList_store_row rfl 31 (.tmp 2) (.tmp 7) rfl w.heap.size (a16 (cry (sml n))) rfl rfl t2 (a16 (fun _ => 0)) ((n2.block _ hl).trans hR) (by rw [a16_size]; exact i50) (by rw [a16_size, a16_size]) (a16_one _) ?_))
  exact bodyPost_ret (v := .agg (a16 (cry (sml n)))) (results_cell_row Tryd.results10 _ _ w.heap.size t2 (a16 (cry (sml n))) (0, 0) (.array 16 2) rfl (SR _ n2) Go.Proofs.YtpjgedbemblnhaaDoor.u50 rfl (by rw [a16_size]; exact i50)) rfl ⟨_, rfl, K.1, by rw [K.2, sml_val], SN _ n2⟩
end Go.Proofs.YtpjgedbemblnhaaDoor

/-
  The model's l2Add; l2Small for greater numbers.
-/
namespace Go.Proofs.YtpjgedbemblnhaaDoor
set_option maxRecDepth 100000
open Go.RowKit

def sf (a b : Nat → Int) (i : Nat) : Int := if i < 16 then a i + b i else 0
theorem sf_in {a b : Nat → Int} (ha : L16 a) (hb : L16 b) : In60 (sf a b) := fun j => by
  unfold sf
  by_cases h : j < 16
  · rw [if_pos h]
    have := ha j h
    have := hb j h
    omega
  · rw [if_neg h]; omega
theorem sf_val (a b : Nat → Int) : s16 (sf a b) 16 = s16 a 16 + s16 b 16 := by
  rw [s16_congr 16 (u := sf a b) (v := fun k => a k + 1 * b k) (fun j hj => by simp [sf, hj]), s16_lin]; omega

set_option maxHeartbeats 2000000 in
theorem l2SmallB_any (w : World) (n : Int) (hn : 0 ≤ n ∧ n < 1048576) :
    Calls Tryd.prog 10 #[.int .i64 n] w fun r w' => ∃ t, r = .returned (ag16 t) ∧ L16 t ∧ s16 t 16 % PP = n % PP ∧ Below w.heap.size w w' := by
  show Calls Tryd.prog 10 #[.int .i64 n] w fun r w' => ∃ t, r = .returned (.agg (a16 t)) ∧ L16 t ∧ s16 t 16 % PP = n % PP ∧ Below w.heap.size w w'
  have B0 : Blk (w.alloc (.cells (a16 (fun _ => 0)) 31)) w.heap.size .i64 (ls16 (fun _ => 0)) := blk16 w 31 (fun _ => 0)
  have n0 : Below w.heap.size w (w.alloc (.cells (a16 (fun _ => 0)) 31)) := (Below.refl _ _).alloc (Nat.le_refl _) _
  have s0 : (w.alloc (.cells (a16 (fun _ => 0)) 31)).heap.size = w.heap.size + 1 := by simp
  go_enter Tryd.func10, Tryd.ntmps10
  go_upto_region 1 with fail
  rw [z16]
  generalize w.alloc (.cells (a16 (fun _ => 0)) 31) = wa at *
  have B1 : Blk (wa.alloc (.cells (a16 (fun _ => 0)) 31)) wa.heap.size .i64 (ls16 (fun _ => 0)) := blk16 wa 31 (fun _ => 0)
  have n1 : Below wa.heap.size wa (wa.alloc (.cells (a16 (fun _ => 0)) 31)) := (Below.refl _ _).alloc (Nat.le_refl _) _
  rw [s0] at B1
  have E0 := B0.up n1
  have N := nxt n0 n1
  go_upto_region 2 with fail
  rw [z16]
  generalize wa.alloc (.cells (a16 (fun _ => 0)) 31) = wb at *
  clear B0 n0 n1 
  have c0 : wb.cell? ⟨w.heap.size + 1, 0, none⟩ = some (.int .i64 0) := by rw [B1.cell (i := 0) (by rw [ls16_len]; omega), ls16_get _ (by omega)]
  have f0 := B1.free 0
  have S := B1.store 0 n
  rw [ls16_sml] at S
  have S1 := E0.keep (g' := w.heap.size + 1) (k := 0) (v := .int .i64 n) (by omega)
  have Sn : Below w.heap.size w (wb.setCell ⟨w.heap.size + 1, 0, none⟩ (.int .i64 n)) := N.setCell (by show w.heap.size ≤ w.heap.size + 1; omega) _
  clear B1 E0 N
  go_upto_region 3 with fail
  generalize wb.setCell ⟨w.heap.size + 1, 0, none⟩ (.int .i64 n) = wc at *
  have GI : In60 (sml n) := fun j => by unfold sml; split <;> omega
  have K := cry_ok GI
  have hl := S1.lt
  obtain ⟨t, hF⟩ := S
  obtain ⟨t2, hR⟩ := S1
  have SR : ∀ w2, Below wc.heap.size wc w2 → ((w2.setRow w.heap.size (a16 (cry (sml n)))).heap[w.heap.size]?) = some (.cells (a16 (cry (sml n))) t2 (0, 0)) := fun w2 h2 => setRow_heap _ _ _ _ _ _ ((h2.block _ hl).trans hR)
  have SN : ∀ w2, Below wc.heap.size wc w2 → Below w.heap.size w (w2.setRow w.heap.size (a16 (cry (sml n)))) := fun w2 h2 => (nxt Sn h2).trans ⟨rfl, rfl, rfl, by simp, fun i hi => setRow_other w2 _ i _ (by omega)⟩
  go_wp2_with (first
    | (refine wpList_load_row rfl 31 (.tmp 3) rfl (w.heap.size + 1) rfl t (a16 (sml n)) (0, 0) (.array 16 2) hF Go.Proofs.YtpjgedbemblnhaaDoor.u50 rfl (by rw [a16_size]; exact i50) ?_)
    | (go_at_call 15; refine (l2Carry_any _ (sml n) GI).mono ?_; rintro r w2 ⟨rfl, n2⟩)
    | (refine wpList_store_row rfl 31 (.tmp 2) (.tmp 7) rfl w.heap.size (a16 (cry (sml n))) rfl rfl t2 (a16 (fun _ => 0)) ((n2.block _ hl).trans hR) (by rw [a16_size]; exact i50) (by rw [a16_size, a16_size]) (a16_one _) ?_))
  exact bodyPost_ret (v := .agg (a16 (cry (sml n)))) (results_cell_row Tryd.results10 _ _ w.heap.size t2 (a16 (cry (sml n))) (0, 0) (.array 16 2) rfl (SR _ n2) Go.Proofs.YtpjgedbemblnhaaDoor.u50 rfl (by rw [a16_size]; exact i50)) rfl ⟨_, rfl, K.1, by rw [K.2, sml_val], SN _ n2⟩
end Go.Proofs.YtpjgedbemblnhaaDoor

/-
  The model's l2Of.
-/
namespace Go.Proofs.YtpjgedbemblnhaaDoor
set_option maxRecDepth 100000
open Go.RowKit

/-- Limbs of bytes. -/
def of16 (a : Nat → Int) (i : Nat) : Int := a (2 * i) + 256 * a (2 * i + 1)
theorem of16_val (a : Nat → Int) : ∀ k, s16 (of16 a) k = lsum a (2 * k)
  | 0 => rfl
  | k + 1 => by
    have e : (65536 : Int) ^ k = 256 ^ (2 * k) := by rw [Int.pow_mul]; rfl
    rw [s16, of16_val a k, show 2 * (k + 1) = 2 * k + 1 + 1 by omega, lsum, lsum, of16, e, Int.pow_succ]
    generalize (256 : Int) ^ (2 * k) = p
    grind
theorem of16_ok {a : Nat → Int} (h : Bt a) : L16 (of16 a) := fun j _ => by
  have := h (2 * j)
  have := h (2 * j + 1)
  unfold of16
  omega

end Go.Proofs.YtpjgedbemblnhaaDoor

/-
  What the model's l2Bytes makes of sixteen limbs: numbers alone.
-/
namespace Go.Proofs.YtpjgedbemblnhaaDoor
set_option maxRecDepth 100000

/-- The highest bit taken round, before the carrying. -/
def adj (f : Nat → Int) (j : Nat) : Int := if j = 0 then f 0 + 19 * (f 15 / 32768) else if j = 15 then f 15 % 32768 else f j
def rb (f : Nat → Int) : Nat → Int := l16 (adj f)
theorem adj_val (f : Nat → Int) : s16 (adj f) 16 = s16 f 16 + (f 15 % 32768 - f 15) * 65536 ^ 15 + 19 * (f 15 / 32768) := by
  have h := s16_upd (fun k => if k = 15 then f 15 % 32768 else f k) 0 (f 0 + 19 * (f 15 / 32768)) 16
  rw [s16_upd f 15 (f 15 % 32768) 16] at h
  have e : adj f = fun k => if k = 0 then f 0 + 19 * (f 15 / 32768) else (if k = 15 then f 15 % 32768 else f k) := rfl
  rw [e, h]
  simp
  omega
theorem L15.bd {f : Nat → Int} (h : L16 f) : 0 ≤ s16 f 15 ∧ s16 f 15 < 1766847064778384329583297500742918515827483896875618958121606201292619776 := by
  have h0 := h 0 (by omega); have h1 := h 1 (by omega); have h2 := h 2 (by omega); have h3 := h 3 (by omega)
  have h4 := h 4 (by omega); have h5 := h 5 (by omega); have h6 := h 6 (by omega); have h7 := h 7 (by omega)
  have h8 := h 8 (by omega); have h9 := h 9 (by omega); have ha := h 10 (by omega); have hb := h 11 (by omega)
  have hc := h 12 (by omega); have hd := h 13 (by omega); have he := h 14 (by omega)
  simp only [s16]
  omega
theorem rb_ok {f : Nat → Int} (h : L16 f) : L16 (rb f) ∧ s16 (rb f) 16 = s16 f 16 % 57896044618658097711785492504343953926634992332820282019728792003956564819968 + 19 * (s16 f 16 / 57896044618658097711785492504343953926634992332820282019728792003956564819968) := by
  refine ⟨fun j _ => l16_bd _ j, ?_⟩
  have h1 := c16_sum (adj f) 16
  have h2 := L16.bd (f := l16 (adj f)) (fun j _ => l16_bd _ j)
  have h3 := adj_val f
  have h4 := L15.bd h
  have h5 := h 15 (by omega)
  have h6 : s16 f 16 = s16 f 15 + f 15 * 65536 ^ 15 := rfl
  have e : (65536 : Int) ^ 16 = 115792089237316195423570985008687907853269984665640564039457584007913129639936 := by decide
  have e2 : (65536 : Int) ^ 15 = 1766847064778384329583297500742918515827483896875618958121606201292619776 := by decide
  rw [e] at h1
  rw [e2] at h3 h6
  show s16 (l16 (adj f)) 16 = _
  have h2' : 0 ≤ s16 (l16 (adj f)) 16 ∧ s16 (l16 (adj f)) 16 < 115792089237316195423570985008687907853269984665640564039457584007913129639936 := h2
  generalize s16 (l16 (adj f)) 16 = S at *
  generalize c16 (adj f) 16 = c at *
  generalize s16 (adj f) 16 = U at *
  generalize s16 f 16 = V at *
  generalize s16 f 15 = T at *
  generalize f 15 = x at *
  clear h2 h e e2
  rcases (show x / 32768 = 0 ∨ x / 32768 = 1 by omega) with hx | hx
  · have hV : V / 57896044618658097711785492504343953926634992332820282019728792003956564819968 = 0 := by omega
    have hc : c = 0 := by omega
    omega
  · have hV : V / 57896044618658097711785492504343953926634992332820282019728792003956564819968 = 1 := by omega
    have hc : c = 0 := by omega
    omega
def rb2 (f : Nat → Int) : Nat → Nat → Int
  | 0 => f
  | k + 1 => rb (rb2 f k)
theorem rb2_ok {f : Nat → Int} (h : L16 f) : ∀ k, L16 (rb2 f k)
  | 0 => h
  | k + 1 => (rb_ok (rb2_ok h k)).1
theorem rb_two {f : Nat → Int} (h : L16 f) : 0 ≤ s16 (rb2 f 2) 16 ∧ s16 (rb2 f 2) 16 < 57896044618658097711785492504343953926634992332820282019728792003956564819968 ∧ s16 (rb2 f 2) 16 % PP = s16 f 16 % PP := by
  have h0 := L16.bd h
  have h1 := rb_ok h
  have h2 := rb_ok h1.1
  have b2 := L16.bd h2.1
  show 0 ≤ s16 (rb (rb f)) 16 ∧ s16 (rb (rb f)) 16 < _ ∧ s16 (rb (rb f)) 16 % 57896044618658097711785492504343953926634992332820282019728792003956564819949 = s16 f 16 % 57896044618658097711785492504343953926634992332820282019728792003956564819949
  have v1 := h1.2
  have v2 := h2.2
  have h0' : 0 ≤ s16 f 16 ∧ s16 f 16 < 115792089237316195423570985008687907853269984665640564039457584007913129639936 := h0
  generalize s16 (rb (rb f)) 16 = C at *
  generalize s16 (rb f) 16 = B at *
  generalize s16 f 16 = A at *
  clear h0 h1 h2 b2
  omega
/-- The bytes of the limbs. -/
def tb16 (f : Nat → Int) (i : Nat) : Int := if i % 2 = 0 then f (i / 2) % 256 else f (i / 2) / 256
theorem tb16_val (f : Nat → Int) (n : Nat) : s16 f n = lsum (tb16 f) (2 * n) := by
  rw [← of16_val]
  refine s16_congr n (fun j _ => ?_)
  unfold of16 tb16
  rw [if_pos (by omega), if_neg (by omega), show 2 * j / 2 = j by omega, show (2 * j + 1) / 2 = j by omega]
  omega
theorem lsum_congr {a b : Nat → Int} : ∀ n, (∀ i, i < n → a i = b i) → lsum a n = lsum b n
  | 0, _ => rfl
  | n + 1, h => by rw [lsum, lsum, lsum_congr n (fun i hi => h i (by omega)), h n (by omega)]
theorem tb16_bd {f : Nat → Int} (h : L16 f) {i : Nat} (hi : i < 32) : 0 ≤ tb16 f i ∧ tb16 f i < 256 := by
  have := h (i / 2) (by omega)
  unfold tb16
  split <;> omega
theorem tb16_byt {f : Nat → Int} (h : L16 f) : Byt (fill (tb16 f) 32) := by
  intro i
  by_cases hi : i < 32
  · rw [fill_get _ _ _ hi]; exact tb16_bd h hi
  · rw [List.getD_eq_getElem?_getD, List.getElem?_eq_none (by rw [fill_len]; omega)]; simp
theorem TurnTo.dig {xs ys : List Int} (h : TurnTo xs ys xs.length) {i : Nat} (hi : i < xs.length) : Go.Proofs.YtpjgedbemblnhaaDoor.dig ys i = xs.getD i 0 := by
  unfold Go.Proofs.YtpjgedbemblnhaaDoor.dig
  rw [if_pos (by rw [h.1]; exact hi), h.2 _ (by rw [h.1]; omega), h.1]
  congr 1
  omega
theorem tb16_turn {f : Nat → Int} {ys : List Int} (hT : TurnTo (fill (tb16 f) 32) ys 32) (hb : Byt ys) : bval ys = s16 f 16 ∧ fill (tb16 f) 32 = fill (byt (s16 f 16)) 32 := by
  have hT' : TurnTo (fill (tb16 f) 32) ys (fill (tb16 f) 32).length := by rw [fill_len]; exact hT
  have hv : bval ys = s16 f 16 := by
    rw [hT'.val, fill_len, tb16_val]
    exact lsum_congr 32 (fun i hi => fill_get _ _ _ hi)
  refine ⟨hv, fill_congr (fun i hi => ?_)⟩
  have := hT'.dig (i := i) (by rw [fill_len]; exact hi)
  rw [fill_get _ _ _ hi] at this
  rw [← this, dig_of hb, hv]
end Go.Proofs.YtpjgedbemblnhaaDoor

/-
  Bits of numbers, and powers by squaring: plain arithmetic.
-/
namespace Go.Proofs.YtpjgedbemblnhaaDoor
set_option maxRecDepth 100000

theorem div_join {h B l : Int} (l0 : 0 ≤ l) (l1 : l < B) : (l + h * B) / B = h := by
  rw [Int.add_mul_ediv_right _ _ (by omega), Int.ediv_eq_zero_of_lt l0 l1]
  omega

/-- A bit of a number out of the digit where it lies. -/
theorem bit_of {A d h l : Int} {i n k r : Nat} (hn : i = n * k + r) (hr : r < n) (hA : A = l + (d + h * 2 ^ n) * 2 ^ (n * k)) (l0 : 0 ≤ l) (l1 : l < 2 ^ (n * k)) : A / 2 ^ i % 2 = d / 2 ^ r % 2 := by
  rw [hn, Int.pow_add, ← Int.ediv_ediv_of_nonneg (show (0 : Int) ≤ 2 ^ (n * k) by have := p2pos (n * k); omega), hA, div_join l0 l1]
  obtain ⟨s, hs⟩ : ∃ s, n = r + (s + 1) := ⟨n - r - 1, by omega⟩
  have e : h * 2 ^ n = 2 * (h * 2 ^ s) * 2 ^ r := by
    rw [hs, Int.pow_add, Int.pow_succ]
    simp only [Int.mul_comm, Int.mul_left_comm]
  rw [e, Int.add_mul_ediv_right _ _ (by have := p2pos r; omega)]
  omega

theorem bbit {xs : List Int} (hx : Byt xs) (i : Nat) : bval xs / 2 ^ i % 2 = dig xs (i / 8) / 2 ^ (i % 8) % 2 := by
  have e := bval_lo xs (i / 8)
  have b := lo_bd hx (i / 8)
  rw [hi_step xs (i / 8), Int.add_comm, Int.add_comm (hi xs (i / 8 + 1) * 256)] at e
  rw [p256_2] at e b
  exact bit_of (n := 8) (k := i / 8) (h := hi xs (i / 8 + 1)) (by omega) (by omega) e b.1 b.2

/-- .. as a natural number. -/
theorem nbit {A b : Int} {E i : Nat} (hE : (E : Int) = A) (h : A / 2 ^ i % 2 = b) : ((E / 2 ^ i % 2 : Nat) : Int) = b := by
  rw [← h, ← hE]
  simp

theorem half_of (E i : Nat) : E / 2 ^ i = 2 * (E / 2 ^ (i + 1)) + E / 2 ^ i % 2 := by
  rw [Nat.pow_succ, ← Nat.div_div_eq_div_mul]
  omega

theorem pow_sq {a m : Int} {e : Nat} : (a ^ e % m) * (a ^ e % m) % m = a ^ (2 * e) % m := by
  rw [← Int.mul_emod, ← Int.pow_add, show e + e = 2 * e by omega]

theorem pow_on {a m : Int} {e f : Nat} : (a ^ e % m) * (a ^ f % m) % m = a ^ (e + f) % m := by
  rw [← Int.mul_emod, ← Int.pow_add]

end Go.Proofs.YtpjgedbemblnhaaDoor

/-
  The model's l2Power.
-/
namespace Go.Proofs.YtpjgedbemblnhaaDoor
set_option maxRecDepth 100000
open Go.RowKit

theorem and1u8 (x : Int) (h0 : 0 ≤ x) (h1 : x < 256) : bits BinOp.and IntKind.u8 x 1 = x % 2 :=
  bits_mask .u8 8 (by decide) (fun n a b => by rw [IntKind.wrap_u8]; omega) 1 (by decide) x h0 h1
theorem Blk.setRow {w : World} {g : Nat} {k : IntKind} {ys zs : List Int} (h : Blk w g k ys) : Blk (w.setRow g ((zs.map (Value.int k)).toArray)) g k zs := by
  obtain ⟨e, h⟩ := h
  exact ⟨e, setRow_heap _ _ _ _ _ _ h⟩
theorem Blk.row {w : World} {g g' : Nat} {k : IntKind} {ys : List Int} {cs : Array Value} (h : Blk w g k ys) (hne : g ≠ g') : Blk (w.setRow g' cs) g k ys :=
  h.of_block (setRow_other w g' g cs hne)
theorem below_row {B : Nat} {w w' : World} (h : Below B w w') {g : Nat} (cs : Array Value) (hg : B ≤ g) : Below B w (w'.setRow g cs) :=
  h.trans ⟨rfl, rfl, rfl, by simp [World.setRow], fun i hi => setRow_other w' _ i _ (by omega)⟩
theorem pw_sq {A m s t : Int} {e : Nat} (h : t % m = A ^ e % m) (hs : s % m = t * t % m) : s % m = A ^ (2 * e) % m := by
  rw [hs, Int.mul_emod, h, pow_sq]
theorem pw_on {A m s t : Int} {e : Nat} (h : t % m = A ^ e % m) (hs : s % m = t * A % m) : s % m = A ^ (e + 1) % m := by
  rw [hs, Int.mul_emod, h, ← Int.mul_emod, Int.pow_succ]
theorem pbit {es : List Int} (hb : Byt es) {E k : Nat} (hE : (E : Int) = bval es) (hk : k < 8 * es.length) : ((E / 2 ^ (8 * es.length - (k + 1)) % 2 : Nat) : Int) = es.getD (k / 8) 0 / 2 ^ (7 - k % 8) % 2 := by
  have h := nbit hE (bbit hb (8 * es.length - (k + 1)))
  rw [h, show (8 * es.length - (k + 1)) / 8 = es.length - 1 - k / 8 by omega, show (8 * es.length - (k + 1)) % 8 = 7 - k % 8 by omega]
  unfold dig
  rw [if_pos (by omega), show es.length - 1 - (es.length - 1 - k / 8) = k / 8 by omega]
theorem phalf {E k n : Nat} (hk : k < 8 * n) : E / 2 ^ (8 * n - (k + 1)) = 2 * (E / 2 ^ (8 * n - k)) + E / 2 ^ (8 * n - (k + 1)) % 2 := by
  have h := half_of E (8 * n - (k + 1))
  rw [show 8 * n - (k + 1) + 1 = 8 * n - k by omega] at h
  exact h
theorem pstep0 {es : List Int} (hb : Byt es) {E k : Nat} (hE : (E : Int) = bval es) (hk : k < 8 * es.length) (h : ¬ es.getD (k / 8) 0 / 2 ^ (7 - k % 8) % 2 = 1) : E / 2 ^ (8 * es.length - (k + 1)) = 2 * (E / 2 ^ (8 * es.length - k)) := by
  have a := pbit hb hE hk
  have b := phalf (E := E) hk
  generalize E / 2 ^ (8 * es.length - (k + 1)) = P at *
  generalize E / 2 ^ (8 * es.length - k) = Q at *
  generalize es.getD (k / 8) 0 / 2 ^ (7 - k % 8) = X at *
  omega
theorem pstep1 {es : List Int} (hb : Byt es) {E k : Nat} (hE : (E : Int) = bval es) (hk : k < 8 * es.length) (h : es.getD (k / 8) 0 / 2 ^ (7 - k % 8) % 2 = 1) : E / 2 ^ (8 * es.length - (k + 1)) = 2 * (E / 2 ^ (8 * es.length - k)) + 1 := by
  have a := pbit hb hE hk
  have b := phalf (E := E) hk
  generalize E / 2 ^ (8 * es.length - (k + 1)) = P at *
  generalize E / 2 ^ (8 * es.length - k) = Q at *
  generalize es.getD (k / 8) 0 / 2 ^ (7 - k % 8) = X at *
  omega
theorem ptop {es : List Int} (hb : Byt es) {E : Nat} (hE : (E : Int) = bval es) : E / 2 ^ (8 * es.length - 0) = 0 := by
  have := bval_lt hb
  rw [← hE, p256_2] at this
  exact Nat.div_eq_of_lt (by exact_mod_cast this)

end Go.Proofs.YtpjgedbemblnhaaDoor

/-
  The model's difference.
-/
namespace Go.Proofs.YtpjgedbemblnhaaDoor
set_option maxRecDepth 100000
open Go.RowKit

set_option maxHeartbeats 2000000 in
theorem l1Sub_any (w : World) (g g' : Nat) (a b : Option Addr) (ca cb : Nat) (xs us : List Int) (ha : Rd w g a .u8 xs) (hb : Rd w g' b .u8 us) (hx : Byt xs) (hu : Byt us)
    (hn : xs.length ≤ 4096) (hm : us.length ≤ xs.length) (hle : bval us ≤ bval xs) :
    Calls Tryd.prog 20 #[.slice a xs.length ca, .slice b us.length cb] w fun e w' => ∃ ys, Canon ys (bval xs - bval us) ∧ NewRow w.heap.size w' e .u8 ys ∧ Below w.heap.size w w' := by
  obtain ⟨i0, hi, hz0, hz1, hz2⟩ := info_parts Tryd.info5
  go_enter Tryd.func20, Tryd.ntmps20
  go_wp2_with (at_make; refine wpList_make_full _ rfl _ _ 22 rfl w.heap.size 5 i0 (.int .u8 0) 1 Tryd.underlying22 hi hz0 hz1 .i64 .i64 _ _ xs.length rfl rfl rfl rfl (by rw [hz2]; omega) (by unfold maxLen; omega) (Nat.le_refl _) ?_; intro w1 hown hgrow)
  have hB0 := Blk.of_made hown
  have hN0 : Below w.heap.size w w1 := (Below.refl _ _).grown hgrow (Nat.le_refl _) (by simp)
  clear hown hgrow
  go_loopw [7, 8] (fun q i wr => ∃ (k : Nat) (c : Int) (ys : List Int), k ≤ xs.length ∧ i = .int .i64 k ∧ q = .int .i64 c ∧ (0 ≤ c ∧ c ≤ 1) ∧ SubTo xs us ys k c ∧ Blk wr w.heap.size .u8 ys ∧ Below w.heap.size w wr) (fun _ i _ => xs.length - (intOf i).toNat)
  case atStart => exact ⟨0, 0, _, Nat.zero_le _, rfl, rfl, ⟨by omega, by omega⟩, ⟨by simp, byt_zeros _, ⟨by omega, by omega⟩, rfl⟩, hB0, hN0⟩
  case round =>
    obtain ⟨k, c, ys, hk, rfl, rfl, hc, hA, hB, hN⟩ := hrel
    by_cases hlt : k < xs.length
    · have R := hA.step hlt
      have hl : ys.length = xs.length := hA.1
      have hS := fun v => hB.store (xs.length - 1 - k) v
      have hSn : ∀ v, Below w.heap.size w (wr.setCell ⟨w.heap.size, xs.length - 1 - k, none⟩ v) := fun v => hN.setCell (Nat.le_refl _) v
      have hcy : wr.cell? ⟨w.heap.size, xs.length - 1 - k, none⟩ = some (.int .u8 (ys.getD (xs.length - 1 - k) 0)) := hB.cell (by omega)
      have hfy := hB.free (xs.length - 1 - k)
      have d1 := dig_byt hx k
      have d2 := dig_byt hu k
      obtain ⟨p, hp⟩ : ∃ p : Nat, xs.length - 1 - k = p := ⟨_, rfl⟩
      rw [hp] at hcy hfy R
      simp only [hp] at hS hSn
      have p1 : (xs.length : Int) - 1 - (k : Int) = (p : Int) := by omega
      have p2 : (p : Int) < (xs.length : Int) := by omega
      have ha' := ha.up hN
      have hb' := hb.up hN
      have R' := hide R
      clear hB hN hA hl hp R
      go_wp2_with fail
      refine (l1Digit_any wr g a ca xs _ ha' hx (by omega) (by omega) (by omega)).mono ?_
      rintro e w' ⟨rfl, rfl⟩
      rw [Int.toNat_natCast]
      go_wp2_with fail
      refine (l1Digit_any w' g' b cb us _ hb' hu (by omega) (by omega) (by omega)).mono ?_
      rintro e w'' ⟨rfl, rfl⟩
      rw [Int.toNat_natCast]
      generalize dig xs k = x at *
      generalize dig us k = y at *
      by_cases hv : x - y - c < 0
      · have tv : decide (x - y - c < 0) = true := by simp; omega
        have m1 : (x - y - c + 256) % 256 = x - y - c + 256 := by omega
        go_wp2
        go_roundw
        case rel => exact ⟨k + 1, _, _, by omega, by go_num, rfl, ⟨by omega, by omega⟩, R'.out (x - y - c + 256) 1 (by omega) (by omega) (by omega) ⟨by omega, by omega⟩, hS _, hSn _⟩
        case measure => simp [intOf]; omega
      · have tv : decide (x - y - c < 0) = false := by simp; omega
        have m1 : (x - y - c) % 256 = x - y - c := by omega
        go_wp2
        go_roundw
        case rel => exact ⟨k + 1, _, _, by omega, by go_num, rfl, ⟨by omega, by omega⟩, R'.out (x - y - c) 0 (by omega) (by omega) (by omega) ⟨by omega, by omega⟩, hS _, hSn _⟩
        case measure => simp [intOf]; omega
    · obtain rfl : k = xs.length := by omega
      have V := hide (hA.done hm hle)
      have L := hide hA.1
      have hyb := hA.2.1
      clear hA
      go_wp2_with fail
      rw [← L.out]
      refine (l1Trim_any wr _ _ _ ys hB.own0.rd hyb (by simp) (Nat.le_refl _) (by rw [L.out]; omega)).mono ?_
      rintro e w2 ⟨zs, C, _, ⟨a1, c1, g1, rfl, o1, q1, q2, q3⟩, n2⟩
      rw [V.out] at C
      go_wp2
      go_ret
      exact ⟨zs, C, ⟨_, _, _, rfl, o1, q1, q2, by have := hN.size; omega⟩, nxt hN n2⟩

end Go.Proofs.YtpjgedbemblnhaaDoor

/-
  The model's l2Bytes.
-/
namespace Go.Proofs.YtpjgedbemblnhaaDoor
set_option maxRecDepth 100000
open Go.RowKit

theorem and32767 (n : Int) : bits .and .i64 n 32767 = n % 32768 := by
  have h127 : (BitVec.ofInt 64 32767).toNat = 2 ^ 15 - 1 := by decide
  have key : (BitVec.ofInt 64 n &&& BitVec.ofInt 64 32767).toNat = (n % ((2 ^ 64 : Nat) : Int)).toNat % 2 ^ 15 := by
    rw [BitVec.toNat_and, BitVec.toNat_ofInt, h127, Nat.and_two_pow_sub_one_eq_mod]
  show IntKind.i64.wrap ((BitVec.ofInt 64 n &&& BitVec.ofInt 64 32767).toNat : Nat) = n % 32768
  rw [key, IntKind.wrap_i64]
  omega
theorem and255w (n : Int) : bits .and .i64 n 255 = n % 256 := by
  have h127 : (BitVec.ofInt 64 255).toNat = 2 ^ 8 - 1 := by decide
  have key : (BitVec.ofInt 64 n &&& BitVec.ofInt 64 255).toNat = (n % ((2 ^ 64 : Nat) : Int)).toNat % 2 ^ 8 := by
    rw [BitVec.toNat_and, BitVec.toNat_ofInt, h127, Nat.and_two_pow_sub_one_eq_mod]
  show IntKind.i64.wrap ((BitVec.ofInt 64 n &&& BitVec.ofInt 64 255).toNat : Nat) = n % 256
  rw [key, IntKind.wrap_i64]
  omega
/-- The sixteen alone. -/
def only (f : Nat → Int) (j : Nat) : Int := if j < 16 then f j else 0
theorem only_ls (f : Nat → Int) : ls16 f = ls16 (only f) :=
  eq_of_getD (by rw [ls16_len, ls16_len]) (fun i hi => by rw [ls16_len] at hi; rw [ls16_get _ hi, ls16_get _ hi, only, if_pos hi])
theorem only_s (f : Nat → Int) : s16 (only f) 16 = s16 f 16 := s16_congr 16 (fun _ hj => if_pos hj)
theorem only_in {f : Nat → Int} (h : L16 f) : In60 (only f) := fun j => by
  unfold only
  by_cases hj : j < 16
  · rw [if_pos hj]; have := h j hj; omega
  · rw [if_neg hj]; omega
theorem adj_in {q : Nat → Int} (h : L16 q) (hi : In60 q) : In60 (adj q) := fun j => by
  have h0 := h 0 (by omega)
  have h1 := h 15 (by omega)
  have h2 := hi j
  unfold adj
  split
  · omega
  · split <;> omega
theorem rb2_in {q : Nat → Int} (hi : In60 q) : ∀ k, In60 (rb2 q k)
  | 0 => hi
  | k + 1 => fun j => by
    have := l16_bd (adj (rb2 q k)) j
    show _ ≤ l16 (adj (rb2 q k)) j ∧ l16 (adj (rb2 q k)) j ≤ _
    omega
theorem adj_ls (q : Nat → Int) : ((ls16 q).set 15 (q 15 % 32768)).set 0 (q 0 + 19 * (q 15 / 32768)) = ls16 (adj q) := by
  refine eq_of_getD (by simp [ls16]) (fun i hi => ?_)
  have hi' : i < 16 := by simpa [ls16] using hi
  rw [ls16_get _ hi']
  unfold adj
  by_cases e : i = 0
  · subst e
    rw [getD_set_self _ _ _ (by simp [ls16]), if_pos rfl]
  · rw [getD_set_ne _ _ _ _ (by omega), if_neg e]
    by_cases e2 : i = 15
    · subst e2
      rw [getD_set_self _ _ _ (by simp [ls16]), if_pos rfl]
    · rw [getD_set_ne _ _ _ _ (by omega), ls16_get _ hi', if_neg e2]

theorem by_fin {V U : Int} (h : 0 ≤ V ∧ V < 57896044618658097711785492504343953926634992332820282019728792003956564819968 ∧ V % PP = U % PP) : (PP ≤ V → U % PP = V - PP ∧ V - PP < 57896044618658097711785492504343953926634992332820282019728792003956564819968) ∧ (V < PP → U % PP = V) := by
  obtain ⟨h1, h2, h3⟩ := h
  rw [← h3]
  show (57896044618658097711785492504343953926634992332820282019728792003956564819949 ≤ V → V % 57896044618658097711785492504343953926634992332820282019728792003956564819949 = V - 57896044618658097711785492504343953926634992332820282019728792003956564819949 ∧ V - 57896044618658097711785492504343953926634992332820282019728792003956564819949 < 57896044618658097711785492504343953926634992332820282019728792003956564819968) ∧ (V < 57896044618658097711785492504343953926634992332820282019728792003956564819949 → V % 57896044618658097711785492504343953926634992332820282019728792003956564819949 = V)
  omega
theorem turn_tb (w : World) (G : Nat) (q : Nat → Int) (hB : Blk w G .u8 (fill (tb16 q) 32)) (QL : L16 q) :
    Calls Tryd.prog 17 #[.slice (some ⟨G, 0, none⟩) 32 32] w fun e w' => ∃ ts, ts.length = 32 ∧ Byt ts ∧ bval ts = s16 q 16 ∧ fill (tb16 q) 32 = fill (byt (s16 q 16)) 32 ∧ NewRow w.heap.size w' e .u8 ts ∧ Below w.heap.size w w' := by
  have h := l1Turn_any w G (some ⟨G, 0, none⟩) 32 (fill (tb16 q) 32) hB.own0.rd (tb16_byt QL) (by rw [fill_len]; omega)
  rw [fill_len] at h
  refine h.mono ?_
  rintro e w' ⟨ts, TT, tb, nr, n⟩
  obtain ⟨tv, fe⟩ := tb16_turn TT tb
  exact ⟨ts, TT.1, tb, tv, fe, nr, n⟩
theorem sg_pos {x y : Int} (h : y ≤ x) : decide (0 ≤ sg x y) = true := by unfold sg; simp; split <;> (try split) <;> omega
theorem sg_not {x y : Int} (h : ¬ y ≤ x) : decide (0 ≤ sg x y) = false := by rw [sg_lt (by omega)]; decide

set_option maxRecDepth 100000 in
set_option maxHeartbeats 4000000 in
theorem l2Bytes_any (w : World) (f : Nat → Int) (hf : L16 f) :
    Calls Tryd.prog 9 #[ag16 f] w fun e w' => NewRow w.heap.size w' e .u8 (fill (byt (s16 f 16 % PP)) 32) ∧ Below w.heap.size w w' := by
  show Calls Tryd.prog 9 #[.agg (a16 f)] w fun e w' => NewRow w.heap.size w' e .u8 (fill (byt (s16 f 16 % PP)) 32) ∧ Below w.heap.size w w'
  rw [show a16 f = a16 (only f) by unfold a16; rw [only_ls f], ← only_s f]
  have hin := only_in hf
  have CK := cry_ok hin
  have CI : In60 (cry (only f)) := it16_in hin 3
  generalize only f = f at *
  clear hf
  obtain ⟨i0, hi, hz0, hz1, hz2⟩ := info_parts Tryd.info5
  have B0 : Blk (w.alloc (.cells (a16 f) 31)) w.heap.size .i64 (ls16 f) := blk16 w 31 f
  have n0 : Below w.heap.size w (w.alloc (.cells (a16 f) 31)) := (Below.refl _ _).alloc (Nat.le_refl _) _
  obtain ⟨A, hA⟩ : ∃ A, A = a16 f := ⟨_, rfl⟩
  have HA := hide hA
  rw [← hA] at B0 n0 ⊢
  clear hA
  go_enter Tryd.func9, Tryd.ntmps9
  go_upto_region 1 with fail
  generalize w.alloc (.cells A 31) = wa at *
  obtain ⟨t0, hB0⟩ := id B0
  go_upto_region 2 with (first
    | (refine wpList_load_row rfl 31 (.tmp 1) rfl w.heap.size rfl t0 (a16 f) (0, 0) (.array 16 2) hB0 Go.Proofs.YtpjgedbemblnhaaDoor.u50 rfl (by rw [a16_size]; exact i50) ?_)
    | (go_at_call 15; go_must (refine (l2Carry_any wa f hin).mono ?_; rintro r w2 ⟨rfl, n2⟩))
    | (refine wpList_store_row rfl 31 (.tmp 1) (.tmp 10) rfl w.heap.size (a16 (cry f)) rfl rfl t0 (a16 f) ((n2.block _ B0.lt).trans hB0) (by rw [a16_size]; exact i50) (by rw [a16_size, a16_size]) (a16_one _) ?_))
  have G0 : Blk (w2.setRow w.heap.size (a16 (cry f))) w.heap.size .i64 (ls16 (cry f)) := (B0.up n2).setRow
  have GN := below_row (nxt n0 n2) (a16 (cry f)) (g := w.heap.size) (Nat.le_refl _)
  generalize w2.setRow w.heap.size (a16 (cry f)) = w3 at *
  clear B0 n0 n2 hB0 hin HA
  have V1 := CK.2
  have V2 := rb_two CK.1
  have VV : Hid (0 ≤ s16 (rb2 (cry f) 2) 16 ∧ s16 (rb2 (cry f) 2) 16 < 57896044618658097711785492504343953926634992332820282019728792003956564819968 ∧ s16 (rb2 (cry f) 2) 16 % PP = s16 f 16 % PP) := ⟨V2.1, V2.2.1, V2.2.2.trans V1⟩
  have CL := CK.1
  clear CK V1 V2
  generalize ag16 (cry f) = V10
  generalize Value.agg (a16 f) = V9
  generalize hq0 : cry f = q0 at *
  have HP : Hid (∃ v, v = s16 f 16 % PP) := ⟨_, rfl⟩
  clear HP hq0
  go_wp2
  go_loopw [3] (fun i wr => ∃ (k : Nat), k ≤ 2 ∧ i = .int .i64 k ∧ Blk wr w.heap.size .i64 (ls16 (rb2 q0 k)) ∧ Below w.heap.size w wr) (fun i _ => 2 - (intOf i).toNat)
  case atStart => exact ⟨0, by omega, rfl, G0, GN⟩
  case round =>
    clear G0 GN
    obtain ⟨k, hk, rfl, hB, hN⟩ := hrel
    by_cases hlt : k < 2
    · have k2 : decide ((k : Int) < 2) = true := by simp; omega
      have hL := rb2_ok CL k
      have hI := rb2_in CI k
      obtain ⟨q, hq⟩ : ∃ q, q = rb2 q0 k := ⟨_, rfl⟩
      have hq' : Hid (rb2 q0 (k + 1) = rb q) := by show _ = _; rw [hq]; rfl
      rw [← hq] at hB hL hI
      clear hq
      have aI := adj_in hL hI
      have cb := fun j => c16_bd (f := adj q) (M := 17592454500000) (by omega) (fun j => by have := aI j; omega) j
      have c15 : wr.cell? ⟨w.heap.size, 15, none⟩ = some (.int .i64 (q 15)) := by rw [hB.cell (i := 15) (by rw [ls16_len]; omega), ls16_get _ (by omega)]
      have f15 := hB.free 15
      have S15 := hB.store 15 (q 15 % 32768)
      have c0 : (wr.setCell ⟨w.heap.size, 15, none⟩ (.int .i64 (q 15 % 32768))).cell? ⟨w.heap.size, 0, none⟩ = some (.int .i64 (q 0)) := by rw [S15.cell (i := 0) (by simp [ls16]), getD_set_ne _ _ _ _ (by omega), ls16_get _ (by omega)]
      have f0 := S15.free 0
      have S0 := S15.store 0 (q 0 + 19 * (q 15 / 32768))
      rw [adj_ls] at S0
      have Sn : Below w.heap.size w ((wr.setCell ⟨w.heap.size, 15, none⟩ (.int .i64 (q 15 % 32768))).setCell ⟨w.heap.size, 0, none⟩ (.int .i64 (q 0 + 19 * (q 15 / 32768)))) := (hN.setCell (Nat.le_refl _) _).setCell (Nat.le_refl _) _
      have l0 := hL 0 (by omega)
      have l15 := hL 15 (by omega)
      have m15 := and32767 (q 15)
      clear S15 hB hN hI
      have HL := hide hL
      clear hL
      obtain ⟨x0, hx0⟩ : ∃ x, x = q 0 := ⟨_, rfl⟩
      obtain ⟨x15, hx15⟩ : ∃ x, x = q 15 := ⟨_, rfl⟩
      rw [← hx0, ← hx15] at S0 Sn
      rw [← hx15] at c0 c15 l15 m15 f0
      rw [← hx0] at c0 l0
      clear hx0 hx15
      go_wp2
      generalize ((wr.setCell ⟨w.heap.size, 15, none⟩ (.int .i64 (x15 % 32768))).setCell ⟨w.heap.size, 0, none⟩ (.int .i64 (x0 + 19 * (x15 / 32768)))) = ws at *
      clear c0 c15 f0 f15 m15
      go_loopw [4, 5] (fun c i wq => ∃ (j : Nat) (ys : List Int), j ≤ 16 ∧ i = .int .i64 j ∧ c = .int .i64 (c16 (adj q) j) ∧ Up16 (l16 (adj q)) (adj q) ys j ∧ Blk wq w.heap.size .i64 ys ∧ Below w.heap.size w wq) (fun _ i _ => 16 - (intOf i).toNat)
      case atStart => exact ⟨0, _, by omega, rfl, rfl, Up16.zero _ _, S0, Sn⟩
      case round =>
        clear S0 Sn
        obtain ⟨j, ys, hj, rfl, rfl, hU, hB, hN⟩ := hrel
        by_cases hjt : j < 16
        · have R := hU.step hjt
          have hcy := hB.cell (i := j) (by rw [hU.1]; exact hjt)
          rw [hU.2.2 j (Nat.le_refl _) hjt] at hcy
          have hfy := hB.free j
          have j2 : (j : Int) < 16 := by omega
          have cj := cb j
          have qj := aI j
          have S := hB.store j (l16 (adj q) j)
          have Sn : Below w.heap.size w (wr.setCell ⟨w.heap.size, j, none⟩ (.int .i64 (l16 (adj q) j))) := hN.setCell (Nat.le_refl _) _
          have E1 : l16 (adj q) j = (adj q j + c16 (adj q) j) % 65536 := by unfold l16; rw [Int.add_comm]
          have F : Hid (c16 (adj q) (j + 1) = (adj q j + c16 (adj q) j) / 65536) := by show _ = _; rw [c16, Int.add_comm]
          rw [E1] at R S Sn
          have m1 := and65535 (adj q j + c16 (adj q) j)
          clear hU hB hN cb aI E1
          generalize adj q j = z at *
          generalize c16 (adj q) j = c at *
          go_wp2
          go_roundw
          case rel => exact ⟨j + 1, _, by omega, by go_num, by rw [F.out], R, S, Sn⟩
          case measure => simp [intOf]; omega
        · obtain rfl : j = 16 := by omega
          have hy := hU.all
          subst hy
          clear hU cb aI
          go_wp2
          go_roundw
          case rel => exact ⟨k + 1, by omega, by go_num, by rw [hq'.out]; exact hB, hN⟩
          case measure => simp [intOf]; omega
    · obtain rfl : k = 2 := by omega
      have QL := rb2_ok CL 2
      generalize rb2 q0 2 = q at *
      clear CL CI
      have hlw := hB.lt
      go_wp2_with (at_make; refine wpList_make_full _ rfl _ _ 22 rfl wr.heap.size 5 i0 (.int .u8 0) 1 Tryd.underlying22 hi hz0 hz1 .i64 .i64 _ _ 32 rfl rfl rfl rfl (by rw [hz2]; omega) (by unfold maxLen; omega) (Nat.le_refl _) ?_; intro w5 hown hgrow)
      have hB5 := Blk.of_made hown
      have n5 : Below wr.heap.size wr w5 := (Below.refl _ _).grown hgrow (Nat.le_refl _) (by simp)
      have B5 := hB.up n5
      have N5 := nxt hN n5
      clear hown hgrow hB hN n5
      obtain ⟨G, hG⟩ : ∃ G, G = wr.heap.size := ⟨_, rfl⟩
      rw [← hG] at hB5 hlw ⊢
      clear hG
      go_loopw [8] (fun i wq => ∃ (k : Nat) (ys : List Int), k ≤ 16 ∧ i = .int .i64 k ∧ FillTo (tb16 q) ys 32 (2 * k) ∧ Blk wq w.heap.size .i64 (ls16 q) ∧ Blk wq G .u8 ys ∧ Below w.heap.size w wq) (fun i _ => 16 - (intOf i).toNat)
      case atStart => exact ⟨0, _, by omega, rfl, ⟨by simp, fun j hj => absurd hj (by omega)⟩, B5, hB5, N5⟩
      case round =>
        clear B5 hB5 N5
        obtain ⟨k, ys, hk, rfl, hF, hT, hB, hN⟩ := hrel
        by_cases hlt : k < 16
        · have R := (hF.step (k := 2 * k) (by omega)).step (by omega)
          have T1 : tb16 q (2 * k) = q k % 256 := by unfold tb16; rw [if_pos (by omega), show 2 * k / 2 = k by omega]
          have T2 : tb16 q (2 * k + 1) = q k / 256 := by unfold tb16; rw [if_neg (by omega), show (2 * k + 1) / 2 = k by omega]
          rw [T1, T2] at R
          have bx := QL k hlt
          have k2 : (k : Int) < 16 := by omega
          have cq : wr.cell? ⟨w.heap.size, k, none⟩ = some (.int .i64 (q k)) := by rw [hT.cell (i := k) (by rw [ls16_len]; exact hlt), ls16_get _ hlt]
          have hT1 := hT.keep (g' := G) (k := 2 * k) (v := .int .u8 (q k % 256)) (by omega)
          have cq2 : (wr.setCell ⟨G, 2 * k, none⟩ (.int .u8 (q k % 256))).cell? ⟨w.heap.size, k, none⟩ = some (.int .i64 (q k)) := by rw [hT1.cell (i := k) (by rw [ls16_len]; exact hlt), ls16_get _ hlt]
          have cy := hB.cell (i := 2 * k) (by rw [hF.1]; omega)
          have fy := hB.free (2 * k)
          have S1 := hB.store (2 * k) (q k % 256)
          have cy2 := S1.cell (i := 2 * k + 1) (by rw [List.length_set, hF.1]; omega)
          have fy2 := S1.free (2 * k + 1)
          have S2 := hide (S1.store (2 * k + 1) (q k / 256))
          have ST := hide (hT1.keep (g' := G) (k := 2 * k + 1) (v := .int .u8 (q k / 256)) (by omega))
          have Sn := hide (show Below w.heap.size w ((wr.setCell ⟨G, 2 * k, none⟩ (.int .u8 (q k % 256))).setCell ⟨G, 2 * k + 1, none⟩ (.int .u8 (q k / 256))) from (hN.setCell (by show w.heap.size ≤ G; omega) _).setCell (by show w.heap.size ≤ G; omega) _)
          have RR := hide R
          clear R S1 hT1 hT hB hN hF T1 T2
          generalize ys.getD (2 * k) 0 = y0 at *
          generalize (ys.set (2 * k) (q k % 256)).getD (2 * k + 1) 0 = y1 at *
          generalize q k = x at *
          have m1 := and255w x
          have v1 : IntKind.u8.wrap (x % 256) = x % 256 := by rw [IntKind.wrap_u8]; omega
          have v2 : IntKind.u8.wrap (x / 256) = x / 256 := by rw [IntKind.wrap_u8]; omega
          obtain ⟨p, hp⟩ : ∃ p : Nat, p = 2 * k := ⟨_, rfl⟩
          obtain ⟨m, hm⟩ : ∃ m : Nat, m = p + 1 := ⟨_, rfl⟩
          have p1 : 2 * (k : Int) = (p : Int) := by omega
          have p2 : IntKind.i64.wrap (p : Int) = (p : Int) := by rw [IntKind.wrap_i64]; omega
          have p3 : (p : Int) < 32 := by omega
          have q1 : (p : Int) + 1 = (m : Int) := by omega
          have q2 : IntKind.i64.wrap (m : Int) = (m : Int) := by rw [IntKind.wrap_i64]; omega
          have q3 : (m : Int) < 32 := by omega
          rw [← hp] at cy fy cq2 cy2 fy2 S2 ST Sn RR
          rw [← hm] at cy2 fy2 S2 ST Sn RR
          have E : Hid (m + 1 = 2 * (k + 1)) := by show _ = _; omega
          clear hp hm
          go_wp2
          go_roundw
          case rel => exact ⟨k + 1, _, by omega, by go_num, by rw [← E.out]; exact RR.out, ST.out, S2.out, Sn.out⟩
          case measure => simp [intOf]; omega
        · obtain rfl : k = 16 := by omega
          have hy := FillTo.all (n := 32) hF
          subst hy
          clear hF hT
          have TU := hide (fun w' (n : Below wr.heap.size wr w') => turn_tb w' G q (hB.up n) QL)
          have HV := hide (by_fin VV.out)
          clear VV
          generalize s16 q 16 = X at *
          have zG : w.heap.size ≤ G := Nat.le_of_lt hlw
          go_wp2_with fail
          refine (TU.out wr (Below.refl _ _)).mono ?_
          rintro e w6 ⟨ts, tl, tb, tv, fe, ⟨a1, c1, g1, rfl, o1, _, _, _⟩, n6⟩
          have FE := hide fe
          have TV := hide tv
          have TL := hide tl
          clear fe tv tl
          go_wp2_with fail
          refine (l2Prime_any w6).mono ?_
          rintro e w7 ⟨rfl, Bp, n7⟩
          go_wp2_with fail
          refine (l1Cmp_any w7 g1 _ a1 _ c1 32 ts pbytes (o1.rd.up n7) Bp.own0.rd tb pbytes_byt (by rw [TL.out]; decide) (by decide)).mono ?_
          rintro e w8 ⟨rfl, rfl⟩
          have SP := hide (fun h : PP ≤ X => sg_pos h)
          have SM := hide (fun h : ¬ PP ≤ X => sg_not h)
          rw [← pbytes_val, ← TV.out] at SP SM
          have M := nxt n6 n7
          clear n6 n7 Bp o1 tb
          generalize sg (bval ts) (bval pbytes) = sgn at *
          by_cases hc : bval pbytes ≤ bval ts
          · have tg := SP.out hc
            rw [pbytes_val, TV.out] at hc
            have HC := hide hc
            clear hc SP SM
            go_wp2_with fail
            refine (TU.out w8 M).mono ?_
            rintro e w9 ⟨us, ul, ub, uv, _, ⟨a2, c2, g2, rfl, o2, _, _, _⟩, n9⟩
            have UV := hide uv
            have UL := hide ul
            clear uv ul
            go_wp2_with fail
            refine (l2Prime_any w9).mono ?_
            rintro e w10 ⟨rfl, Bq, n10⟩
            go_wp2_with fail
            refine (l1Sub_any w10 g2 _ a2 _ c2 32 us pbytes (o2.rd.up n10) Bq.own0.rd ub pbytes_byt (by rw [UL.out]; decide) (by rw [UL.out]; decide) (by rw [UV.out, pbytes_val]; exact HC.out)).mono ?_
            rintro e w11 ⟨ys, C, ⟨a3, c3, g3, rfl, o3, _, _, _⟩, n11⟩
            rw [UV.out, pbytes_val] at C
            have L : ys.length ≤ 32 := C.len (Int.lt_trans (HV.out.1 HC.out).2 (by decide))
            have V : Hid (fill (dig ys) 32 = fill (byt (s16 f 16 % PP)) 32) := by
              show _ = _
              refine fill_congr (fun i _ => ?_)
              rw [dig_of C.1, C.2.1, (HV.out.1 HC.out).1]
            have CB := hide C.1
            clear C
            go_wp2_with fail
            refine (l1Little_any w11 g3 a3 c3 ys 32 o3.rd CB.out (Nat.le_trans L (by decide)) (by decide)).mono ?_
            rintro e w12 ⟨rfl, B12, n12⟩
            rw [V.out] at B12
            have K := nxt (nxt (nxt (nxt (nxt hN M) n9) n10) n11) n12
            have zz := (nxt (nxt (nxt (nxt hN M) n9) n10) n11).size
            clear o2 o3 Bq
            go_wp2
            go_ret
            exact ⟨⟨_, 32, w11.heap.size, by rw [fill_len]; rfl, B12.own0, by simp, by rw [fill_len]; exact Nat.le_refl _, zz⟩, K⟩
          · have tg := SM.out hc
            rw [pbytes_val, TV.out] at hc
            have V := hide (HV.out.2 (Int.not_le.1 hc))
            clear hc SP SM
            have B8 := hB.up M
            rw [FE.out, ← V.out] at B8
            go_wp2
            go_ret
            exact ⟨⟨_, 32, G, by rw [fill_len]; rfl, B8.own0, by simp, by rw [fill_len]; exact Nat.le_refl _, zG⟩, nxt hN M⟩
end Go.Proofs.YtpjgedbemblnhaaDoor

/-
  What is drawn: the source, its answers, bytes; the laws' own small helpers (out of the stage-1 texts).
-/
namespace Go.Proofs.YtpjgedbemblnhaaDoor
set_option maxRecDepth 100000
open Go.RowKit

/-- Of what was there nothing but block g has turned. -/
structure But (g : Nat) (w w' : World) : Prop where
  os : w'.os = w.os
  tape : w'.tape = w.tape
  output : w'.output = w.output
  size : w.heap.size ≤ w'.heap.size
  block : ∀ k, k < w.heap.size → k ≠ g → w'.heap[k]? = w.heap[k]?

theorem But.of {g : Nat} {a b c : World} (h : Below a.heap.size a b) (k : Only g b c) : But g a c :=
  ⟨k.os.trans h.os, k.tape.trans h.tape, k.output.trans h.output, by rw [k.size]; exact h.size, fun i hi hne => (k.block i hne).trans (h.block i hi)⟩

theorem But.below {g B : Nat} {w w' : World} (h : But g w w') (hB : B ≤ g) (hs : B ≤ w.heap.size) : Below B w w' := ⟨h.os, h.tape, h.output, h.size, fun k hk => h.block k (by omega) (by omega)⟩

theorem Own.but {w w' : World} {g g' : Nat} {a : Option Addr} {k : IntKind} {xs : List Int} (h : Own w g a k xs) (ho : But g' w w') (hne : 0 < xs.length → g ≠ g') : Own w' g a k xs := by
  by_cases h0 : 0 < xs.length
  · exact h.of_block (ho.block g (h.rd.lt h0) (hne h0))
  · exact fun h1 => absurd h1 h0

/-- The text of bytes. -/
def str (xs : List Int) : ByteArray := xs.foldl (fun r n => r.push (UInt8.ofNat n.toNat)) ByteArray.empty

theorem conv_run (w : World) (g : Nat) (a : Option Addr) (c : Nat) (xs : List Int) (hr : Rd w g a .u8 xs) : (convert 22 9 (.slice a xs.length c)).run Tryd.prog w = .ok (.string (str xs)) w := by
  rw [run_convert_bytes_string w 22 9 5 a xs.length c Tryd.underlying22 Tryd.underlying5 Tryd.underlying9]
  cases a with
  | none =>
    obtain rfl : xs = [] := by
      by_cases h0 : 0 < xs.length
      · obtain ⟨off, h, _⟩ := hr h0
        simp at h
      · exact List.eq_nil_of_length_eq_zero (by omega)
    simp [Conv.bytesToString, str]
  | some ad =>
    have hl := run_loadCells_list (P := Tryd.prog) w ad (xs.map (Value.int .u8)) (fun j v hj => by
      have hjl : j < xs.length := by
        have := (List.getElem?_eq_some_iff.1 hj).1
        simpa using this
      obtain ⟨off, ha, hcc⟩ := hr (by omega)
      simp only [Option.some.injEq] at ha
      subst ha
      rw [add_mid, hcc j hjl]
      simpa [hjl] using hj)
    rw [List.length_map] at hl
    exact run_bytesToString w ad xs.length c xs hl

/-- The source of what is drawn: its code, and how often it was asked. -/
structure Src (w : World) (s : Nat) (a : Option Addr) (n c : Nat) (at_ : Int) : Prop where
  code : w.cell? ⟨s, 0, none⟩ = some (.slice a n c)
  at_ : w.cell? ⟨s, 1, none⟩ = some (.int .i64 at_)
  free : w.frozen? ⟨s, 1, none⟩ = false

theorem Src.lt {w : World} {s : Nat} {a : Option Addr} {n c : Nat} {t : Int} (h : Src w s a n c t) : s < w.heap.size := block_lt_of_cell h.code

theorem Src.of_block {w w' : World} {s : Nat} {a : Option Addr} {n c : Nat} {t : Int} (h : Src w s a n c t) (hb : w'.heap[s]? = w.heap[s]?) : Src w' s a n c t :=
  ⟨(World.cell?_of_block (a := ⟨s, 0, none⟩) hb).trans h.code, (World.cell?_of_block (a := ⟨s, 1, none⟩) hb).trans h.at_, (World.frozen?_of_block (a := ⟨s, 1, none⟩) hb).trans h.free⟩

theorem Src.up {w w' : World} {s : Nat} {a : Option Addr} {n c : Nat} {t : Int} (h : Src w s a n c t) (hb : Below w.heap.size w w') : Src w' s a n c t := h.of_block (hb.block s h.lt)

theorem Src.step {w : World} {s : Nat} {a : Option Addr} {n c : Nat} {t : Int} (h : Src w s a n c t) (u : Int) (m : Nat) : Src ((w.setCell ⟨s, 1, none⟩ (.int .i64 u)).drewN m) s a n c u := by
  refine ⟨?_, ?_, ?_⟩
  · rw [World.cell?_drewN, World.cell?_setCell_other (h := by simp)]; exact h.code
  · rw [World.cell?_drewN, World.cell?_setCell_same _ _ _ h.at_]
  · rw [World.frozen?_drewN, World.frozen?_setCell]; exact h.free

theorem Only.step (w : World) (s : Nat) (u : Value) (m : Nat) : Only s w ((w.setCell ⟨s, 1, none⟩ u).drewN m) := (Only.setCell w s 1 u).trans (Only.drewN _ _ _)

theorem But.refl (g : Nat) (w : World) : But g w w := ⟨rfl, rfl, rfl, Nat.le_refl _, fun _ _ _ => rfl⟩

theorem But.only {g : Nat} {a b c : World} (h : But g a b) (k : Only g b c) : But g a c :=
  ⟨k.os.trans h.os, k.tape.trans h.tape, k.output.trans h.output, by rw [k.size]; exact h.size, fun i hi hne => (k.block i hne).trans (h.block i hi hne)⟩

theorem But.grown {g : Nat} {a b c : World} {row : Option Nat} (h : But g a b) (k : b.grownBy c row) (hr : ∀ i, row = some i → a.heap.size ≤ i) : But g a c :=
  ⟨k.os.trans h.os, k.tape.trans h.tape, k.output.trans h.output, Nat.le_trans h.size k.size, fun i hi hne => (k.block i (Nat.lt_of_lt_of_le hi h.size) (fun e => by have := hr i e.symm; omega)).trans (h.block i hi hne)⟩

theorem But.trans {g : Nat} {a b c : World} (h : But g a b) (k : But g b c) : But g a c :=
  ⟨k.os.trans h.os, k.tape.trans h.tape, k.output.trans h.output, Nat.le_trans h.size k.size, fun i hi hne => (k.block i (Nat.lt_of_lt_of_le hi h.size) hne).trans (h.block i hi hne)⟩

theorem But.ofBelow {g : Nat} {a b : World} (h : Below a.heap.size a b) : But g a b := ⟨h.os, h.tape, h.output, h.size, fun i hi _ => h.block i hi⟩

theorem But.ofOnly {g : Nat} {a b : World} (h : Only g a b) : But g a b := (But.refl g a).only h

theorem Rd.but {w w' : World} {g g' : Nat} {a : Option Addr} {k : IntKind} {xs : List Int} (h : Rd w g a k xs) (ho : But g' w w') (hne : 0 < xs.length → g ≠ g') : Rd w' g a k xs := by
  by_cases h0 : 0 < xs.length
  · exact h.of_block (ho.block g (h.lt h0) (hne h0))
  · exact fun h1 => absurd h1 h0

theorem Only.grown {g : Nat} {a b : World} (h : Only g a b) : a.grownBy b (some g) := ⟨h.os, h.tape, h.output, Nat.le_of_eq h.size.symm, fun k _ hne => h.block k (fun e => hne (by rw [e]))⟩

theorem byt_snoc {ys : List Int} (h : Byt ys) (x : Int) (h0 : 0 ≤ x) (h1 : x < 256) : Byt (ys ++ [x]) := by
  intro i
  by_cases hi : i < ys.length
  · have := h i
    simpa [List.getElem?_append, hi] using this
  · by_cases e : i = ys.length
    · subst e; simp; exact ⟨h0, h1⟩
    · rw [List.getD_eq_getElem?_getD, List.getElem?_eq_none (by simp; omega)]
      decide

theorem But.setCell {g b off : Nat} {a w : World} {u : Value} (h : But g a w) (hb : a.heap.size ≤ b) : But g a (w.setCell ⟨b, off, none⟩ u) :=
  ⟨h.os, h.tape, h.output, by simpa [World.setCell] using h.size, fun k hk hne => (heap_setCell_other w ⟨b, off, none⟩ k u (by show k ≠ b; omega)).trans (h.block k hk hne)⟩

/-- A row that the call made: where it lies, and that it may be read again. -/
def Row (w : World) (g : Nat) (a : Option Addr) (c : Nat) (xs : List Int) : Prop := Own w g a .u8 xs ∧ (a = none → c = 0) ∧ xs.length ≤ c

end Go.Proofs.YtpjgedbemblnhaaDoor

/-
  The model's product.
-/
namespace Go.Proofs.YtpjgedbemblnhaaDoor
set_option maxRecDepth 100000
open Go.RowKit

theorem Tryd.info2 : (Tryd.prog.info? 2).map (fun i => (i.zero, i.size, i.bytes)) = some (some (.int .i64 0), 1, 8) := by kernel_rfl

end Go.Proofs.YtpjgedbemblnhaaDoor

/-
  Twice a number by the model's shift; thirty-two bytes of a list; two texts compared.
-/
namespace Go.Proofs.YtpjgedbemblnhaaDoor
set_option maxRecDepth 100000
open Go.RowKit

theorem append_none (w : World) (ad : Addr) (n c : Nat) (h : n ≤ c) : (Builtin.append_ #[22, 3] 22 #[.slice (some ad) n c, .int .i64 0]).run Tryd.prog w = .ok (.slice (some ad) n c) w := by
  obtain ⟨i0, hi, hz0, _, hz2⟩ := info_parts Tryd.info5
  have hw : IntKind.i64.wrap 0 = 0 := by decide
  simp [Builtin.append_, run_underlying Tryd.underlying22, run_underlying Tryd.underlying3, sizeOf, typeInfo, zeroValue, hi, hz0, hz2, asInt, asIntOf, hw, h, storeCells]
theorem str_data : ∀ (xs : List Int) (acc : ByteArray), (xs.foldl (fun r n => r.push (UInt8.ofNat n.toNat)) acc).data = acc.data ++ (xs.map (fun n => UInt8.ofNat n.toNat)).toArray
  | [], acc => by simp
  | x :: r, acc => by
    rw [List.foldl_cons, str_data r]
    simp [ByteArray.push]
theorem toList_inj {s t : ByteArray} (h : s.toList = t.toList) : s = t := by
  rw [ByteArray.toList_eq, ByteArray.toList_eq] at h
  have := Array.ext' h
  cases s; cases t; simp_all
/-- 'copy' into a block that is known whole, of as much as fits. -/
theorem copy_min {P : Program} (w : World) (ty rt e : TypeId) (hu : P.underlying ty = some (.slice e)) (hsz : (P.info? e).map (·.size) = some 1) {g : Nat} {k : IntKind} {zs : List Int} (hB : Blk w g k zs)
    (gs : Nat) (sp : Option Addr) (ys : List Int) (hr : Rd w gs sp k ys) (dc sc : Nat) :
    ∃ w2, (Builtin.copy_ #[ty, ty] rt #[.slice (some ⟨g, 0, none⟩) zs.length dc, .slice sp ys.length sc]).run P w = .ok (goInt (ys.take zs.length).length) w2 ∧ Blk w2 g k (ys.take zs.length ++ zs.drop (ys.take zs.length).length) ∧ Only g w w2 := by
  by_cases h0 : 0 < ys.length
  · obtain ⟨off, rfl, hc⟩ := hr h0
    obtain ⟨t, hB⟩ := hB
    have hrun := run_copy_row (P := P) w ty ty rt e g 0 zs.length dc ⟨gs, off, none⟩ ys.length sc _ t ((ys.take zs.length).map (Value.int k)) hu hsz hB (by simp [Nat.min_comm])
      (fun j v hj => by
        have hjl : j < (ys.take zs.length).length := by
          have := (List.getElem?_eq_some_iff.1 hj).1
          simpa using this
        have hj1 : j < ys.length := by simp at hjl; omega
        have hj2 : j < zs.length := by simp at hjl; omega
        rw [add_mid, hc j hj1]
        simpa [hj1, hj2, List.getElem?_take] using hj) (by simp; omega) (oneCells _ _)
    rw [List.length_map] at hrun
    refine ⟨_, hrun, ⟨t, ?_⟩, ⟨rfl, rfl, rfl, by simp, fun i hi => setRow_other w g i _ hi⟩⟩
    rw [setRow_heap w g _ _ t _ hB]
    simp
  · obtain rfl : ys = [] := List.eq_nil_of_length_eq_zero (by omega)
    exact ⟨w, by simpa using run_copy_none (P := P) w ty ty rt e _ _ _ _ _ _ hu hsz (by simp), by simpa using hB, Only.refl _ _⟩
theorem str_inj {xs ys : List Int} (hx : Byt xs) (hy : Byt ys) (h : str xs = str ys) : xs = ys := by
  have h1 : (xs.map (fun n => UInt8.ofNat n.toNat)) = (ys.map (fun n => UInt8.ofNat n.toNat)) := by
    have := congrArg ByteArray.data h
    unfold str at this
    rw [str_data, str_data] at this
    simpa using this
  have hl : xs.length = ys.length := by have := congrArg List.length h1; simpa using this
  refine eq_of_getD hl (fun i hi => ?_)
  have h2 : (xs.map (fun n => UInt8.ofNat n.toNat))[i]? = (ys.map (fun n => UInt8.ofNat n.toNat))[i]? := by rw [h1]
  have a := hx i
  have b := hy i
  have hi' : i < ys.length := by omega
  simp [hi, hi'] at h2 a b ⊢
  have h3 := congrArg UInt8.toNat h2
  simp at h3
  omega

/-- Thirty-two bytes of a list. -/
def to32 (xs : List Int) : List Int := xs.take 32 ++ (List.replicate 32 0).drop (xs.take 32).length
theorem to32_len (xs : List Int) : (to32 xs).length = 32 := by
  unfold to32
  rw [List.length_append, List.length_drop, List.length_replicate, List.length_take]
  omega
theorem to32_byt {xs : List Int} (h : Byt xs) : Byt (to32 xs) := by
  intro i
  unfold to32
  by_cases hi : i < (xs.take 32).length
  · have h1 := h i
    have h2 : i < 32 := by simp at hi; omega
    have e : (xs.take 32 ++ (List.replicate 32 (0 : Int)).drop (xs.take 32).length).getD i 0 = xs.getD i 0 := by
      rw [List.getD_eq_getElem?_getD, List.getElem?_append, if_pos hi, List.getElem?_take, if_pos h2, List.getD_eq_getElem?_getD]
    rw [e]; exact h1
  · rw [List.getD_eq_getElem?_getD, List.getElem?_append, if_neg hi, List.getElem?_drop, List.getElem?_replicate]
    split <;> simp

end Go.Proofs.YtpjgedbemblnhaaDoor

/-
  The model's l1Same.
-/
namespace Go.Proofs.YtpjgedbemblnhaaDoor
set_option maxRecDepth 100000
open Go.RowKit

theorem byt_inj {x y : Int} (hx : 0 ≤ x ∧ x < PP) (hy : 0 ≤ y ∧ y < PP) (h : fill (byt x) 32 = fill (byt y) 32) : x = y := by
  have hb : ∀ i, i < 32 → byt x i = byt y i := fun i hi => by
    rw [← fill_get (byt x) 32 i hi, h, fill_get _ _ _ hi]
  have key : ∀ n, n ≤ 32 → x % 256 ^ n = y % 256 ^ n := by
    intro n
    induction n with
    | zero => intro _; simp
    | succ n ih =>
      intro hn
      have h1 := ih (by omega)
      have h2 := hb n (by omega)
      unfold byt at h2
      have s : ∀ z : Int, z % 256 ^ (n + 1) = z % 256 ^ n + 256 ^ n * (z / 256 ^ n % 256) := fun z => by
        have hA : (0 : Int) ≤ 256 ^ n := Int.le_of_lt (p256_pos n)
        have e1 := Int.emod_def z (256 ^ n * 256)
        rw [← Int.ediv_ediv_of_nonneg hA] at e1
        have e2 := Int.emod_def z (256 ^ n)
        have e3 := Int.emod_def (z / 256 ^ n) 256
        rw [Int.pow_succ, e1, e2, e3]
        generalize z / 256 ^ n / 256 = u
        generalize z / 256 ^ n = v
        generalize (256 : Int) ^ n = p
        grind
      rw [s, s, h1, h2]
  have h32 := key 32 (by omega)
  have e : (256 : Int) ^ 32 = 115792089237316195423570985008687907853269984665640564039457584007913129639936 := by decide
  rw [e] at h32
  have hx' : 0 ≤ x ∧ x < 57896044618658097711785492504343953926634992332820282019728792003956564819949 := hx
  have hy' : 0 ≤ y ∧ y < 57896044618658097711785492504343953926634992332820282019728792003956564819949 := hy
  omega
end Go.Proofs.YtpjgedbemblnhaaDoor

/-
  The model's l2Same.
-/
namespace Go.Proofs.YtpjgedbemblnhaaDoor
set_option maxRecDepth 100000
open Go.RowKit

theorem rng16 {W : World} {g : Nat} {f : Nat → Int} (h : Blk W g .i64 (ls16 f)) : W.rangeAt g 0 (a16 f).toList := by
  intro j v hv
  have hj : j < 16 := by
    have := (List.getElem?_eq_some_iff.1 hv).1
    simpa [ls16] using this
  have e : (a16 f).toList[j]? = some (Value.int .i64 (f j)) := by
    simp [ls16, hj]
  rw [e] at hv
  cases hv
  rw [Nat.zero_add, h.cell (by rw [ls16_len]; exact hj), ls16_get _ hj]
theorem bytP (v : Int) : Byt (fill (byt (v % PP)) 32) := by
  intro i
  by_cases hi : i < 32
  · rw [fill_get _ _ _ hi]; unfold byt; omega
  · rw [List.getD_eq_getElem?_getD, List.getElem?_eq_none (by rw [fill_len]; omega)]; simp

end Go.Proofs.YtpjgedbemblnhaaDoor
