import Derived.Test.YtkpomobhjkikeaaGreatDoorSS47
import Derived.Test.YtkpomobhjkikeaaGreatDoorSS11
import Derived.Test.YtkpomobhjkikeaaGreatDoorSS10
import Derived.Test.YtkpomobhjkikeaaGreatDoorSS41
import Derived.Test.YtkpomobhjkikeaaGreatDoorSS45
import Derived.Test.YtkpomobhjkikeaaGreatDoorSS8
import Derived.Laws.BytesString
import Derived.Lib.AppendZeros
import Derived.Laws.Strings
import Derived.Deep.WholeRow
import Derived.Deep.RegionHeld3
namespace Go.Proofs.YtkpomobhjkikeaaGreatDoor
set_option maxRecDepth 100000
open Go.RowKit
def sf (a b : Nat → Int) (i : Nat) : Int := if i < 16 then a i + b i else 0
theorem sf_in {a b : Nat → Int} (ha : L16 a) (hb : L16 b) : In60 (sf a b) := fun j => by
  unfold sf
  by_cases h : j < 16
  · rw [if_pos h]
    have := ha j h
    have := hb j h
    omega
  · rw [if_neg h]; omega
theorem sf_val (a b : Nat → Int) : s16 (sf a b) 16 = s16 a 16 + s16 b 16 := by
  rw [s16_congr 16 (u := sf a b) (v := fun k => a k + 1 * b k) (fun j hj => by simp [sf, hj]), s16_lin]; omega
set_option maxHeartbeats 2000000 in
theorem l2Add_any (w : World) (a b : Nat → Int) (ha : L16 a) (hb : L16 b) :
    Calls Tryz.prog 76 #[ag16 a, ag16 b] w fun r w' => ∃ t, r = .returned (ag16 t) ∧ L16 t ∧ s16 t 16 % PP = (s16 a 16 + s16 b 16) % PP ∧ Below w.heap.size w w' := by
  show Calls Tryz.prog 76 #[.agg (a16 a), .agg (a16 b)] w fun r w' => ∃ t, r = .returned (.agg (a16 t)) ∧ L16 t ∧ s16 t 16 % PP = (s16 a 16 + s16 b 16) % PP ∧ Below w.heap.size w w'
  have B0 : Blk (w.alloc (.cells (a16 a) 128)) w.heap.size .i64 (ls16 a) := blk16 w 128 a
  have n0 : Below w.heap.size w (w.alloc (.cells (a16 a) 128)) := (Below.refl _ _).alloc (Nat.le_refl _) _
  have s0 : (w.alloc (.cells (a16 a) 128)).heap.size = w.heap.size + 1 := by simp
  have B1 : ∀ w : World, Blk (w.alloc (.cells (a16 b) 128)) w.heap.size .i64 (ls16 b) := fun w => blk16 w 128 b
  have n1 : ∀ w : World, Below w.heap.size w (w.alloc (.cells (a16 b) 128)) := fun w => (Below.refl _ _).alloc (Nat.le_refl _) _
  have s1 : ∀ w : World, (w.alloc (.cells (a16 b) 128)).heap.size = w.heap.size + 1 := fun w => by simp
  obtain ⟨A, hA⟩ : ∃ A, A = a16 a := ⟨_, rfl⟩
  obtain ⟨B, hB⟩ : ∃ A, A = a16 b := ⟨_, rfl⟩
  rw [← hA] at B0 n0 s0 ⊢
  simp only [← hB] at B1 n1 s1 ⊢
  clear hA hB
  go_enter Tryz.func76, Tryz.ntmps76
  go_wp2
  generalize w.alloc (.cells A 128) = wa at *
  have B1' := B1 wa
  have n1' := n1 wa
  have s1' := s1 wa
  rw [s0] at B1' s1'
  clear B1 n1 s1
  generalize wa.alloc (.cells B 128) = wb at *
  rw [z16]
  have B2 : Blk (wb.alloc (.cells (a16 (fun _ => 0)) 128)) wb.heap.size .i64 (ls16 (fun _ => 0)) := blk16 wb 128 (fun _ => 0)
  have n2 : Below wb.heap.size wb (wb.alloc (.cells (a16 (fun _ => 0)) 128)) := (Below.refl _ _).alloc (Nat.le_refl _) _
  rw [s1'] at B2
  generalize wb.alloc (.cells (a16 (fun _ => 0)) 128) = wc at *
  have E0 := (B0.up n1').up n2
  have E1 := B1'.up n2
  have N := nxt (nxt n0 n1') n2
  clear B0 B1' n0 n1' n2 s0 s1'
  go_loopw [5] (fun i wr => ∃ (k : Nat) (ys : List Int), k ≤ 16 ∧ i = .int .i64 k ∧ Up16 (sf a b) a ys k ∧ Blk wr w.heap.size .i64 ys ∧ Blk wr (w.heap.size + 1) .i64 (ls16 b) ∧ Blk wr (w.heap.size + 1 + 1) .i64 (ls16 (fun _ => 0)) ∧ Below w.heap.size w wr) (fun i _ => 16 - (intOf i).toNat)
  case atStart => exact ⟨0, _, by omega, rfl, Up16.zero _ _, E0, E1, B2, N⟩
  case round =>
    clear E0 E1 B2 N
    obtain ⟨j, ys, hj, rfl, hU, hF, hS, hR, hN⟩ := hrel
    by_cases hjt : j < 16
    · have j2 : (j : Int) < 16 := by omega
      have c1 := hF.cell (i := j) (by rw [hU.1]; exact hjt)
      have c2 := hS.cell (i := j) (by rw [ls16_len]; exact hjt)
      rw [hU.2.2 j (Nat.le_refl _) hjt] at c1
      rw [ls16_get _ hjt] at c2
      have ff := hF.free j
      have w1 := ha j hjt
      have w2 := hb j hjt
      have R := hU.step hjt
      have E : sf a b j = a j + b j := if_pos hjt
      rw [E] at R
      have S := fun v => hF.store j v
      have SR := fun v => hide (hR.keep6 (g' := w.heap.size) (k := j) (v := v) (by omega))
      have SS := fun v => hide (hS.keep6 (g' := w.heap.size) (k := j) (v := v) (by omega))
      have Sn : ∀ v, Below w.heap.size w (wr.setCell ⟨w.heap.size, j, none⟩ v) := fun v => hN.setCell (Nat.le_refl _) v
      have x2 : IntKind.i64.wrap (a j + b j) = a j + b j := by rw [IntKind.wrap_i64]; omega
      have R' := hide R
      clear hU hR hS hF hN R E
      generalize a j = d at *
      generalize b j = e at *
      go_wp2
      go_region
      go_wp2
      go_roundw
      case rel => exact ⟨j + 1, _, by omega, by go_num, R'.out, (S _).drew, (SS _).out.drew, (SR _).out.drew, (Sn _).drew⟩
      case measure => simp [intOf]; omega
    · obtain rfl : j = 16 := by omega
      have hy := hU.all
      subst hy
      clear hU hS
      have GI := sf_in ha hb
      have K := cry_ok GI
      have hl := hR.lt
      obtain ⟨t, hF⟩ := hF
      obtain ⟨t2, hR⟩ := hR
      have SR : ∀ w2, Below wr.heap.size wr w2 → ((w2.setRow (w.heap.size + 1 + 1) (a16 (cry (sf a b)))).heap[w.heap.size + 1 + 1]?) = some (.cells (a16 (cry (sf a b))) t2 (0, 0)) := fun w2 h2 => setRow_heap _ _ _ _ _ _ ((h2.block _ hl).trans hR)
      have SN : ∀ w2, Below wr.heap.size wr w2 → Below w.heap.size w (w2.setRow (w.heap.size + 1 + 1) (a16 (cry (sf a b)))) := fun w2 h2 => (nxt hN h2).trans ⟨rfl, rfl, rfl, by simp, fun i hi => setRow_other w2 _ i _ (by omega)⟩
      go_upto_region 5 with fail
      go_wp2_with (first
        | (refine wpList_load_row rfl 128 (.tmp 2) rfl w.heap.size rfl t (a16 (sf a b)) (0, 0) (.array 16 2) hF Go.Proofs.YtkpomobhjkikeaaGreatDoor.u50 rfl (by rw [a16_size]; exact i50) ?_)
        | (go_at_call 98; refine (l2Carry_any _ (sf a b) GI).mono ?_; rintro r w2 ⟨rfl, n2⟩)
        | (refine wpList_store_row rfl 128 (.tmp 4) (.tmp 20) rfl (w.heap.size + 1 + 1) (a16 (cry (sf a b))) rfl rfl t2 (a16 (fun _ => 0)) ((n2.block _ hl).trans hR) (by rw [a16_size]; exact i50) (by rw [a16_size, a16_size]) (a16_one _) ?_))
      exact bodyPost_ret (v := .agg (a16 (cry (sf a b)))) (results_cell_row Tryz.results76 _ _ (w.heap.size + 1 + 1) t2 (a16 (cry (sf a b))) (0, 0) (.array 16 2) rfl (SR _ n2) Go.Proofs.YtkpomobhjkikeaaGreatDoor.u50 rfl (by rw [a16_size]; exact i50)) rfl ⟨_, rfl, K.1, by rw [K.2, sf_val], SN _ n2⟩
set_option maxHeartbeats 2000000 in
theorem l2SmallB_any (w : World) (n : Int) (hn : 0 ≤ n ∧ n < 1048576) :
    Calls Tryz.prog 77 #[.int .i64 n] w fun r w' => ∃ t, r = .returned (ag16 t) ∧ L16 t ∧ s16 t 16 % PP = n % PP ∧ Below w.heap.size w w' := by
  show Calls Tryz.prog 77 #[.int .i64 n] w fun r w' => ∃ t, r = .returned (.agg (a16 t)) ∧ L16 t ∧ s16 t 16 % PP = n % PP ∧ Below w.heap.size w w'
  have B0 : Blk (w.alloc (.cells (a16 (fun _ => 0)) 128)) w.heap.size .i64 (ls16 (fun _ => 0)) := blk16 w 128 (fun _ => 0)
  have n0 : Below w.heap.size w (w.alloc (.cells (a16 (fun _ => 0)) 128)) := (Below.refl _ _).alloc (Nat.le_refl _) _
  have s0 : (w.alloc (.cells (a16 (fun _ => 0)) 128)).heap.size = w.heap.size + 1 := by simp
  go_enter Tryz.func77, Tryz.ntmps77
  go_upto_region 1 with fail
  rw [z16]
  generalize w.alloc (.cells (a16 (fun _ => 0)) 128) = wa at *
  have B1 : Blk (wa.alloc (.cells (a16 (fun _ => 0)) 128)) wa.heap.size .i64 (ls16 (fun _ => 0)) := blk16 wa 128 (fun _ => 0)
  have n1 : Below wa.heap.size wa (wa.alloc (.cells (a16 (fun _ => 0)) 128)) := (Below.refl _ _).alloc (Nat.le_refl _) _
  rw [s0] at B1
  have E0 := B0.up n1
  have N := nxt n0 n1
  go_upto_region 2 with fail
  rw [z16]
  generalize wa.alloc (.cells (a16 (fun _ => 0)) 128) = wb at *
  clear B0 n0 n1
  have c0 : wb.cell? ⟨w.heap.size + 1, 0, none⟩ = some (.int .i64 0) := by rw [B1.cell (i := 0) (by rw [ls16_len]; omega), ls16_get _ (by omega)]
  have f0 := B1.free 0
  have S := B1.store 0 n
  rw [ls16_sml] at S
  have S1 := E0.keep6 (g' := w.heap.size + 1) (k := 0) (v := .int .i64 n) (by omega)
  have Sn : Below w.heap.size w (wb.setCell ⟨w.heap.size + 1, 0, none⟩ (.int .i64 n)) := N.setCell (by show w.heap.size ≤ w.heap.size + 1; omega) _
  clear B1 E0 N
  go_upto_region 3 with fail
  generalize wb.setCell ⟨w.heap.size + 1, 0, none⟩ (.int .i64 n) = wc at *
  have GI : In60 (sml n) := fun j => by unfold sml; split <;> omega
  have K := cry_ok GI
  have hl := S1.lt
  obtain ⟨t, hF⟩ := S
  obtain ⟨t2, hR⟩ := S1
  have SR : ∀ w2, Below wc.heap.size wc w2 → ((w2.setRow w.heap.size (a16 (cry (sml n)))).heap[w.heap.size]?) = some (.cells (a16 (cry (sml n))) t2 (0, 0)) := fun w2 h2 => setRow_heap _ _ _ _ _ _ ((h2.block _ hl).trans hR)
  have SN : ∀ w2, Below wc.heap.size wc w2 → Below w.heap.size w (w2.setRow w.heap.size (a16 (cry (sml n)))) := fun w2 h2 => (nxt Sn h2).trans ⟨rfl, rfl, rfl, by simp, fun i hi => setRow_other w2 _ i _ (by omega)⟩
  go_wp2_with (first
    | (refine wpList_load_row rfl 128 (.tmp 3) rfl (w.heap.size + 1) rfl t (a16 (sml n)) (0, 0) (.array 16 2) hF Go.Proofs.YtkpomobhjkikeaaGreatDoor.u50 rfl (by rw [a16_size]; exact i50) ?_)
    | (go_at_call 98; refine (l2Carry_any _ (sml n) GI).mono ?_; rintro r w2 ⟨rfl, n2⟩)
    | (refine wpList_store_row rfl 128 (.tmp 2) (.tmp 7) rfl w.heap.size (a16 (cry (sml n))) rfl rfl t2 (a16 (fun _ => 0)) ((n2.block _ hl).trans hR) (by rw [a16_size]; exact i50) (by rw [a16_size, a16_size]) (a16_one _) ?_))
  exact bodyPost_ret (v := .agg (a16 (cry (sml n)))) (results_cell_row Tryz.results77 _ _ w.heap.size t2 (a16 (cry (sml n))) (0, 0) (.array 16 2) rfl (SR _ n2) Go.Proofs.YtkpomobhjkikeaaGreatDoor.u50 rfl (by rw [a16_size]; exact i50)) rfl ⟨_, rfl, K.1, by rw [K.2, sml_val], SN _ n2⟩
end Go.Proofs.YtkpomobhjkikeaaGreatDoor
namespace Go.Proofs.YtkpomobhjkikeaaGreatDoor
set_option maxRecDepth 100000
open Go.RowKit
def of16 (a : Nat → Int) (i : Nat) : Int := a (2 * i) + 256 * a (2 * i + 1)
theorem of16_val (a : Nat → Int) : ∀ k, s16 (of16 a) k = lsum a (2 * k)
  | 0 => rfl
  | k + 1 => by
    have e : (65536 : Int) ^ k = 256 ^ (2 * k) := by rw [Int.pow_mul]; rfl
    rw [s16, of16_val a k, show 2 * (k + 1) = 2 * k + 1 + 1 by omega, lsum, lsum, of16, e, Int.pow_succ]
    generalize (256 : Int) ^ (2 * k) = p
    grind
theorem of16_ok {a : Nat → Int} (h : Bt a) : L16 (of16 a) := fun j _ => by
  have := h (2 * j)
  have := h (2 * j + 1)
  unfold of16
  omega
set_option maxHeartbeats 4000000 in
theorem l2Of_any (w : World) (g : Nat) (a : Option Addr) (cap : Nat) (xs : List Int) (hr : Rd w g a .u8 xs) (hb : Byt xs) (hl : xs.length = 32) :
    Calls Tryz.prog 73 #[.slice a 32 cap] w fun r w' => r = .returned (ag16 (of16 (fun j => xs.getD j 0))) ∧ Below w.heap.size w w' := by
  show Calls Tryz.prog 73 #[.slice a 32 cap] w fun r w' => r = .returned (.agg (a16 (of16 (fun j => xs.getD j 0)))) ∧ Below w.heap.size w w'
  obtain ⟨off, rfl, hc⟩ := hr (by omega)
  have hg := hr.lt (by omega)
  have B0 : Blk (w.alloc (.cells (a16 (fun _ => 0)) 128)) w.heap.size .i64 (ls16 (fun _ => 0)) := blk16 w 128 (fun _ => 0)
  have n0 : Below w.heap.size w (w.alloc (.cells (a16 (fun _ => 0)) 128)) := (Below.refl _ _).alloc (Nat.le_refl _) _
  have s0 : (w.alloc (.cells (a16 (fun _ => 0)) 128)).heap.size = w.heap.size + 1 := by simp
  obtain ⟨q, hq⟩ : ∃ q, q = of16 (fun j => xs.getD j 0) := ⟨_, rfl⟩
  rw [← hq]
  go_enter Tryz.func73, Tryz.ntmps73
  go_upto_region 1 with fail
  rw [z16]
  generalize w.alloc (.cells (a16 (fun _ => 0)) 128) = wa at *
  have B1 : Blk (wa.alloc (.cells (a16 (fun _ => 0)) 128)) wa.heap.size .i64 (ls16 (fun _ => 0)) := blk16 wa 128 (fun _ => 0)
  have n1 : Below wa.heap.size wa (wa.alloc (.cells (a16 (fun _ => 0)) 128)) := (Below.refl _ _).alloc (Nat.le_refl _) _
  rw [s0] at B1
  have E0 := B0.up n1
  have N := nxt n0 n1
  go_upto_region 2 with fail
  rw [z16]
  generalize wa.alloc (.cells (a16 (fun _ => 0)) 128) = wb at *
  clear B0 n0 n1
  go_wp2
  go_loopw [4] (fun i wr => ∃ (k : Nat) (ys : List Int), k ≤ 16 ∧ i = .int .i64 k ∧ Up16 q (fun _ => 0) ys k ∧ Blk wr w.heap.size .i64 (ls16 (fun _ => 0)) ∧ Blk wr (w.heap.size + 1) .i64 ys ∧ Below w.heap.size w wr) (fun i _ => 16 - (intOf i).toNat)
  case atStart => exact ⟨0, _, by omega, rfl, Up16.zero _ _, E0, B1, N⟩
  case round =>
    clear E0 B1 N
    obtain ⟨j, ys, hj, rfl, hU, hR, hF, hN⟩ := hrel
    by_cases hjt : j < 16
    · have j2 : (j : Int) < 16 := by omega
      have cf := hF.cell (i := j) (by rw [hU.1]; exact hjt)
      have ff := hF.free j
      have R := hU.step hjt
      have E : q j = xs.getD (2 * j) 0 + 256 * xs.getD (2 * j + 1) 0 := by rw [hq]; rfl
      rw [E] at R
      have c1 : wr.cell? ⟨g, off + 2 * j, none⟩ = some (.int .u8 (xs.getD (2 * j) 0)) := (hN.cell (p := ⟨g, off + 2 * j, none⟩) hg).trans (hc (2 * j) (by omega))
      have c2 : wr.cell? ⟨g, off + (2 * j + 1), none⟩ = some (.int .u8 (xs.getD (2 * j + 1) 0)) := (hN.cell (p := ⟨g, off + (2 * j + 1), none⟩) hg).trans (hc (2 * j + 1) (by omega))
      have w1 := hb (2 * j)
      have w2 := hb (2 * j + 1)
      obtain ⟨m, hm⟩ : ∃ m : Nat, 2 * j + 1 = m := ⟨_, rfl⟩
      obtain ⟨p, hp⟩ : ∃ p : Nat, 2 * j = p := ⟨_, rfl⟩
      rw [hm] at c2 w2 R
      rw [hp] at c1 w1 R
      have p1 : 2 * (j : Int) = (p : Int) := by omega
      have p2 : IntKind.i64.wrap (p : Int) = (p : Int) := by rw [IntKind.wrap_i64]; omega
      have p3 : (p : Int) < 32 := by omega
      have m1 : (p : Int) + 1 = (m : Int) := by omega
      have m2 : IntKind.i64.wrap (m : Int) = (m : Int) := by rw [IntKind.wrap_i64]; omega
      have m3 : (m : Int) < 32 := by omega
      have S := fun v => hF.store j v
      have SR := fun v => hide (hR.keep6 (g' := w.heap.size + 1) (k := j) (v := v) (by omega))
      have Sn : ∀ v, Below w.heap.size w (wr.setCell ⟨w.heap.size + 1, j, none⟩ v) := fun v => hN.setCell (by show w.heap.size ≤ w.heap.size + 1; omega) v
      generalize ys.getD j 0 = f0 at cf
      have R' := hide R
      clear hU hR hF hN R E hc hb hr hg hm hp hl hq
      generalize xs.getD p 0 = d at *
      generalize xs.getD m 0 = e at *
      go_wp2
      go_region
      go_wp2
      go_roundw
      case rel => exact ⟨j + 1, _, by omega, by go_num, R'.out, (SR _).out.drew, (S _).drew, (Sn _).drew⟩
      case measure => simp [intOf]; omega
    · obtain rfl : j = 16 := by omega
      have hy := hU.all
      subst hy
      clear hU hq hc hr hb
      obtain ⟨t, hF⟩ := hF
      obtain ⟨t2, hR⟩ := hR
      have SR : ((wr.setRow w.heap.size (a16 q)).heap[w.heap.size]?) = some (.cells (a16 q) t2 (0, 0)) := setRow_heap _ _ _ _ _ _ hR
      have SN : Below w.heap.size w (wr.setRow w.heap.size (a16 q)) := hN.trans ⟨rfl, rfl, rfl, by simp, fun i hi => setRow_other wr _ i _ (by omega)⟩
      go_upto_region 6 with fail
      go_wp2_with (first
        | (refine wpList_load_row rfl 128 (.tmp 3) rfl (w.heap.size + 1) rfl t (a16 q) (0, 0) (.array 16 2) hF Go.Proofs.YtkpomobhjkikeaaGreatDoor.u50 rfl (by rw [a16_size]; exact i50) ?_)
        | (refine wpList_store_row rfl 128 (.tmp 2) (.tmp 26) rfl w.heap.size (a16 q) rfl rfl t2 (a16 (fun _ => 0)) hR (by rw [a16_size]; exact i50) (by rw [a16_size, a16_size]) (a16_one _) ?_))
      exact bodyPost_ret (v := .agg (a16 q)) (results_cell_row Tryz.results73 _ _ w.heap.size t2 (a16 q) (0, 0) (.array 16 2) rfl SR Go.Proofs.YtkpomobhjkikeaaGreatDoor.u50 rfl (by rw [a16_size]; exact i50)) rfl ⟨rfl, SN⟩
end Go.Proofs.YtkpomobhjkikeaaGreatDoor
namespace Go.Proofs.YtkpomobhjkikeaaGreatDoor
set_option maxRecDepth 100000
def adj (f : Nat → Int) (j : Nat) : Int := if j = 0 then f 0 + 19 * (f 15 / 32768) else if j = 15 then f 15 % 32768 else f j
def rb (f : Nat → Int) : Nat → Int := l16 (adj f)
theorem adj_val (f : Nat → Int) : s16 (adj f) 16 = s16 f 16 + (f 15 % 32768 - f 15) * 65536 ^ 15 + 19 * (f 15 / 32768) := by
  have h := s16_upd (fun k => if k = 15 then f 15 % 32768 else f k) 0 (f 0 + 19 * (f 15 / 32768)) 16
  rw [s16_upd f 15 (f 15 % 32768) 16] at h
  have e : adj f = fun k => if k = 0 then f 0 + 19 * (f 15 / 32768) else (if k = 15 then f 15 % 32768 else f k) := rfl
  rw [e, h]
  simp
  omega
theorem L15.bd {f : Nat → Int} (h : L16 f) : 0 ≤ s16 f 15 ∧ s16 f 15 < 1766847064778384329583297500742918515827483896875618958121606201292619776 := by
  have h0 := h 0 (by omega); have h1 := h 1 (by omega); have h2 := h 2 (by omega); have h3 := h 3 (by omega)
  have h4 := h 4 (by omega); have h5 := h 5 (by omega); have h6 := h 6 (by omega); have h7 := h 7 (by omega)
  have h8 := h 8 (by omega); have h9 := h 9 (by omega); have ha := h 10 (by omega); have hb := h 11 (by omega)
  have hc := h 12 (by omega); have hd := h 13 (by omega); have he := h 14 (by omega)
  simp only [s16]
  omega
theorem rb_ok {f : Nat → Int} (h : L16 f) : L16 (rb f) ∧ s16 (rb f) 16 = s16 f 16 % 57896044618658097711785492504343953926634992332820282019728792003956564819968 + 19 * (s16 f 16 / 57896044618658097711785492504343953926634992332820282019728792003956564819968) := by
  refine ⟨fun j _ => l16_bd _ j, ?_⟩
  have h1 := c16_sum (adj f) 16
  have h2 := L16.bd (f := l16 (adj f)) (fun j _ => l16_bd _ j)
  have h3 := adj_val f
  have h4 := L15.bd h
  have h5 := h 15 (by omega)
  have h6 : s16 f 16 = s16 f 15 + f 15 * 65536 ^ 15 := rfl
  have e : (65536 : Int) ^ 16 = 115792089237316195423570985008687907853269984665640564039457584007913129639936 := by decide
  have e2 : (65536 : Int) ^ 15 = 1766847064778384329583297500742918515827483896875618958121606201292619776 := by decide
  rw [e] at h1
  rw [e2] at h3 h6
  show s16 (l16 (adj f)) 16 = _
  have h2' : 0 ≤ s16 (l16 (adj f)) 16 ∧ s16 (l16 (adj f)) 16 < 115792089237316195423570985008687907853269984665640564039457584007913129639936 := h2
  generalize s16 (l16 (adj f)) 16 = S at *
  generalize c16 (adj f) 16 = c at *
  generalize s16 (adj f) 16 = U at *
  generalize s16 f 16 = V at *
  generalize s16 f 15 = T at *
  generalize f 15 = x at *
  clear h2 h e e2
  rcases (show x / 32768 = 0 ∨ x / 32768 = 1 by omega) with hx | hx
  · have hV : V / 57896044618658097711785492504343953926634992332820282019728792003956564819968 = 0 := by omega
    have hc : c = 0 := by omega
    omega
  · have hV : V / 57896044618658097711785492504343953926634992332820282019728792003956564819968 = 1 := by omega
    have hc : c = 0 := by omega
    omega
def rb2 (f : Nat → Int) : Nat → Nat → Int
  | 0 => f
  | k + 1 => rb (rb2 f k)
theorem rb2_ok {f : Nat → Int} (h : L16 f) : ∀ k, L16 (rb2 f k)
  | 0 => h
  | k + 1 => (rb_ok (rb2_ok h k)).1
theorem rb_two {f : Nat → Int} (h : L16 f) : 0 ≤ s16 (rb2 f 2) 16 ∧ s16 (rb2 f 2) 16 < 57896044618658097711785492504343953926634992332820282019728792003956564819968 ∧ s16 (rb2 f 2) 16 % PP = s16 f 16 % PP := by
  have h0 := L16.bd h
  have h1 := rb_ok h
  have h2 := rb_ok h1.1
  have b2 := L16.bd h2.1
  show 0 ≤ s16 (rb (rb f)) 16 ∧ s16 (rb (rb f)) 16 < _ ∧ s16 (rb (rb f)) 16 % 57896044618658097711785492504343953926634992332820282019728792003956564819949 = s16 f 16 % 57896044618658097711785492504343953926634992332820282019728792003956564819949
  have v1 := h1.2
  have v2 := h2.2
  have h0' : 0 ≤ s16 f 16 ∧ s16 f 16 < 115792089237316195423570985008687907853269984665640564039457584007913129639936 := h0
  generalize s16 (rb (rb f)) 16 = C at *
  generalize s16 (rb f) 16 = B at *
  generalize s16 f 16 = A at *
  clear h0 h1 h2 b2
  omega
def tb16 (f : Nat → Int) (i : Nat) : Int := if i % 2 = 0 then f (i / 2) % 256 else f (i / 2) / 256
theorem tb16_val (f : Nat → Int) (n : Nat) : s16 f n = lsum (tb16 f) (2 * n) := by
  rw [← of16_val]
  refine s16_congr n (fun j _ => ?_)
  unfold of16 tb16
  rw [if_pos (by omega), if_neg (by omega), show 2 * j / 2 = j by omega, show (2 * j + 1) / 2 = j by omega]
  omega
theorem lsum_congr6 {a b : Nat → Int} : ∀ n, (∀ i, i < n → a i = b i) → lsum a n = lsum b n
  | 0, _ => rfl
  | n + 1, h => by rw [lsum, lsum, lsum_congr6 n (fun i hi => h i (by omega)), h n (by omega)]
theorem tb16_bd {f : Nat → Int} (h : L16 f) {i : Nat} (hi : i < 32) : 0 ≤ tb16 f i ∧ tb16 f i < 256 := by
  have := h (i / 2) (by omega)
  unfold tb16
  split <;> omega
theorem tb16_byt {f : Nat → Int} (h : L16 f) : Byt (fill (tb16 f) 32) := by
  intro i
  by_cases hi : i < 32
  · rw [fill_get _ _ _ hi]; exact tb16_bd h hi
  · rw [List.getD_eq_getElem?_getD, List.getElem?_eq_none (by rw [fill_len]; omega)]; simp
theorem TurnTo.dig {xs ys : List Int} (h : TurnTo xs ys xs.length) {i : Nat} (hi : i < xs.length) : Go.Proofs.YtkpomobhjkikeaaGreatDoor.dig ys i = xs.getD i 0 := by
  unfold Go.Proofs.YtkpomobhjkikeaaGreatDoor.dig
  rw [if_pos (by rw [h.1]; exact hi), h.2 _ (by rw [h.1]; omega), h.1]
  congr 1
  omega
theorem tb16_turn {f : Nat → Int} {ys : List Int} (hT : TurnTo (fill (tb16 f) 32) ys 32) (hb : Byt ys) : bval ys = s16 f 16 ∧ fill (tb16 f) 32 = fill (byt (s16 f 16)) 32 := by
  have hT' : TurnTo (fill (tb16 f) 32) ys (fill (tb16 f) 32).length := by rw [fill_len]; exact hT
  have hv : bval ys = s16 f 16 := by
    rw [hT'.val, fill_len, tb16_val]
    exact lsum_congr6 32 (fun i hi => fill_get _ _ _ hi)
  refine ⟨hv, fill_congr (fun i hi => ?_)⟩
  have := hT'.dig (i := i) (by rw [fill_len]; exact hi)
  rw [fill_get _ _ _ hi] at this
  rw [← this, dig_of hb, hv]
end Go.Proofs.YtkpomobhjkikeaaGreatDoor
namespace Go.Proofs.YtkpomobhjkikeaaGreatDoor
set_option maxRecDepth 100000
theorem div_join {h B l : Int} (l0 : 0 ≤ l) (l1 : l < B) : (l + h * B) / B = h := by
  rw [Int.add_mul_ediv_right _ _ (by omega), Int.ediv_eq_zero_of_lt l0 l1]
  omega
theorem bit_of {A d h l : Int} {i n k r : Nat} (hn : i = n * k + r) (hr : r < n) (hA : A = l + (d + h * 2 ^ n) * 2 ^ (n * k)) (l0 : 0 ≤ l) (l1 : l < 2 ^ (n * k)) : A / 2 ^ i % 2 = d / 2 ^ r % 2 := by
  rw [hn, Int.pow_add, ← Int.ediv_ediv_of_nonneg (show (0 : Int) ≤ 2 ^ (n * k) by have := p2pos (n * k); omega), hA, div_join l0 l1]
  obtain ⟨s, hs⟩ : ∃ s, n = r + (s + 1) := ⟨n - r - 1, by omega⟩
  have e : h * 2 ^ n = 2 * (h * 2 ^ s) * 2 ^ r := by
    rw [hs, Int.pow_add, Int.pow_succ]
    simp only [Int.mul_comm, Int.mul_left_comm]
  rw [e, Int.add_mul_ediv_right _ _ (by have := p2pos r; omega)]
  omega
theorem bbit {xs : List Int} (hx : Byt xs) (i : Nat) : bval xs / 2 ^ i % 2 = dig xs (i / 8) / 2 ^ (i % 8) % 2 := by
  have e := bval_lo xs (i / 8)
  have b := lo_bd hx (i / 8)
  rw [hi_step xs (i / 8), Int.add_comm, Int.add_comm (hi xs (i / 8 + 1) * 256)] at e
  rw [p256_2] at e b
  exact bit_of (n := 8) (k := i / 8) (h := hi xs (i / 8 + 1)) (by omega) (by omega) e b.1 b.2
theorem nbit {A b : Int} {E i : Nat} (hE : (E : Int) = A) (h : A / 2 ^ i % 2 = b) : ((E / 2 ^ i % 2 : Nat) : Int) = b := by
  rw [← h, ← hE]
  simp
theorem half_of (E i : Nat) : E / 2 ^ i = 2 * (E / 2 ^ (i + 1)) + E / 2 ^ i % 2 := by
  rw [Nat.pow_succ, ← Nat.div_div_eq_div_mul]
  omega
theorem pow_sq {a m : Int} {e : Nat} : (a ^ e % m) * (a ^ e % m) % m = a ^ (2 * e) % m := by
  rw [← Int.mul_emod, ← Int.pow_add, show e + e = 2 * e by omega]
end Go.Proofs.YtkpomobhjkikeaaGreatDoor
namespace Go.Proofs.YtkpomobhjkikeaaGreatDoor
set_option maxRecDepth 100000
open Go.RowKit
theorem and1u8 (x : Int) (h0 : 0 ≤ x) (h1 : x < 256) : bits BinOp.and IntKind.u8 x 1 = x % 2 :=
  bits_mask .u8 8 (by decide) (fun n a b => by rw [IntKind.wrap_u8]; omega) 1 (by decide) x h0 h1
theorem Blk.setRow {w : World} {g : Nat} {k : IntKind} {ys zs : List Int} (h : Blk w g k ys) : Blk (w.setRow g ((zs.map (Value.int k)).toArray)) g k zs := by
  obtain ⟨e, h⟩ := h
  exact ⟨e, setRow_heap _ _ _ _ _ _ h⟩
theorem Blk.row {w : World} {g g' : Nat} {k : IntKind} {ys : List Int} {cs : Array Value} (h : Blk w g k ys) (hne : g ≠ g') : Blk (w.setRow g' cs) g k ys :=
  h.of_block (setRow_other w g' g cs hne)
theorem below_row {B : Nat} {w w' : World} (h : Below B w w') {g : Nat} (cs : Array Value) (hg : B ≤ g) : Below B w (w'.setRow g cs) :=
  h.trans ⟨rfl, rfl, rfl, by simp [World.setRow], fun i hi => setRow_other w' _ i _ (by omega)⟩
theorem pw_sq {A m s t : Int} {e : Nat} (h : t % m = A ^ e % m) (hs : s % m = t * t % m) : s % m = A ^ (2 * e) % m := by
  rw [hs, Int.mul_emod, h, pow_sq]
theorem pw_on {A m s t : Int} {e : Nat} (h : t % m = A ^ e % m) (hs : s % m = t * A % m) : s % m = A ^ (e + 1) % m := by
  rw [hs, Int.mul_emod, h, ← Int.mul_emod, Int.pow_succ]
theorem pbit {es : List Int} (hb : Byt es) {E k : Nat} (hE : (E : Int) = bval es) (hk : k < 8 * es.length) : ((E / 2 ^ (8 * es.length - (k + 1)) % 2 : Nat) : Int) = es.getD (k / 8) 0 / 2 ^ (7 - k % 8) % 2 := by
  have h := nbit hE (bbit hb (8 * es.length - (k + 1)))
  rw [h, show (8 * es.length - (k + 1)) / 8 = es.length - 1 - k / 8 by omega, show (8 * es.length - (k + 1)) % 8 = 7 - k % 8 by omega]
  unfold dig
  rw [if_pos (by omega), show es.length - 1 - (es.length - 1 - k / 8) = k / 8 by omega]
theorem phalf {E k n : Nat} (hk : k < 8 * n) : E / 2 ^ (8 * n - (k + 1)) = 2 * (E / 2 ^ (8 * n - k)) + E / 2 ^ (8 * n - (k + 1)) % 2 := by
  have h := half_of E (8 * n - (k + 1))
  rw [show 8 * n - (k + 1) + 1 = 8 * n - k by omega] at h
  exact h
theorem pstep0 {es : List Int} (hb : Byt es) {E k : Nat} (hE : (E : Int) = bval es) (hk : k < 8 * es.length) (h : ¬ es.getD (k / 8) 0 / 2 ^ (7 - k % 8) % 2 = 1) : E / 2 ^ (8 * es.length - (k + 1)) = 2 * (E / 2 ^ (8 * es.length - k)) := by
  have a := pbit hb hE hk
  have b := phalf (E := E) hk
  generalize E / 2 ^ (8 * es.length - (k + 1)) = P at *
  generalize E / 2 ^ (8 * es.length - k) = Q at *
  generalize es.getD (k / 8) 0 / 2 ^ (7 - k % 8) = X at *
  omega
theorem pstep1 {es : List Int} (hb : Byt es) {E k : Nat} (hE : (E : Int) = bval es) (hk : k < 8 * es.length) (h : es.getD (k / 8) 0 / 2 ^ (7 - k % 8) % 2 = 1) : E / 2 ^ (8 * es.length - (k + 1)) = 2 * (E / 2 ^ (8 * es.length - k)) + 1 := by
  have a := pbit hb hE hk
  have b := phalf (E := E) hk
  generalize E / 2 ^ (8 * es.length - (k + 1)) = P at *
  generalize E / 2 ^ (8 * es.length - k) = Q at *
  generalize es.getD (k / 8) 0 / 2 ^ (7 - k % 8) = X at *
  omega
theorem ptop {es : List Int} (hb : Byt es) {E : Nat} (hE : (E : Int) = bval es) : E / 2 ^ (8 * es.length - 0) = 0 := by
  have := bval_lt hb
  rw [← hE, p256_2] at this
  exact Nat.div_eq_of_lt (by exact_mod_cast this)
set_option maxHeartbeats 4000000 in
theorem l2Power_any (w : World) (a : Nat → Int) (g : Nat) (b : Option Addr) (c : Nat) (es : List Int) (ha : L16 a) (hr : Rd w g b .u8 es) (hb : Byt es) (hl : es.length ≤ 4096) :
    Calls Tryz.prog 100 #[ag16 a, .slice b es.length c] w fun r w' => ∃ t, r = .returned (ag16 t) ∧ L16 t ∧ s16 t 16 % PP = s16 a 16 ^ (bval es).toNat % PP ∧ Below w.heap.size w w' := by
  show Calls Tryz.prog 100 #[.agg (a16 a), .slice b es.length c] w fun r w' => ∃ t, r = .returned (.agg (a16 t)) ∧ L16 t ∧ s16 t 16 % PP = s16 a 16 ^ (bval es).toNat % PP ∧ Below w.heap.size w w'
  have B0 : Blk (w.alloc (.cells (a16 a) 128)) w.heap.size .i64 (ls16 a) := blk16 w 128 a
  have n0 : Below w.heap.size w (w.alloc (.cells (a16 a) 128)) := (Below.refl _ _).alloc (Nat.le_refl _) _
  have s0 : (w.alloc (.cells (a16 a) 128)).heap.size = w.heap.size + 1 := by simp
  have MU := hide (fun w t (ht : L16 t) => l2Mul_any w t t ht ht)
  have MA := hide (fun w t (ht : L16 t) => l2Mul_any w t a ht ha)
  obtain ⟨A, hA⟩ : ∃ A, A = a16 a := ⟨_, rfl⟩
  have HA := hide hA
  rw [← hA] at B0 n0 s0 ⊢
  clear hA
  have hE : (((bval es).toNat : Nat) : Int) = bval es := Int.toNat_of_nonneg (bval_nonneg hb)
  obtain ⟨E, hEE⟩ : ∃ E, (bval es).toNat = E := ⟨_, rfl⟩
  rw [hEE] at hE ⊢
  have HE := hide hE
  clear hEE hE
  go_enter Tryz.func100, Tryz.ntmps100
  go_upto_region 1 with fail
  rw [z16]
  generalize w.alloc (.cells A 128) = wa at *
  have B1 : Blk (wa.alloc (.cells (a16 (fun _ => 0)) 128)) wa.heap.size .i64 (ls16 (fun _ => 0)) := blk16 wa 128 (fun _ => 0)
  have n1 : Below wa.heap.size wa (wa.alloc (.cells (a16 (fun _ => 0)) 128)) := (Below.refl _ _).alloc (Nat.le_refl _) _
  have s1 : (wa.alloc (.cells (a16 (fun _ => 0)) 128)).heap.size = w.heap.size + 1 + 1 := by simp [s0]
  rw [s0] at B1
  generalize wa.alloc (.cells (a16 (fun _ => 0)) 128) = wb at *
  have E0 := B0.up n1
  have N := nxt n0 n1
  clear B0 n0 n1 s0
  go_wp2_with fail
  refine (l2Small_any wb 1 (by omega)).mono ?_
  rintro r w1 ⟨t, rfl, LT, VT, n1⟩
  have z1 : w.heap.size + 1 < w1.heap.size := by have := n1.size; omega
  have al : Below w1.heap.size w1 (w1.alloc (.cells (a16 (fun _ => 0)) 128)) := (Below.refl _ _).alloc (Nat.le_refl _) _
  have BG : Blk (w1.alloc (.cells (a16 (fun _ => 0)) 128)) w1.heap.size .i64 (ls16 (fun _ => 0)) := blk16 w1 128 (fun _ => 0)
  have hG : (w1.alloc (.cells (a16 (fun _ => 0)) 128)).heap[w1.heap.size]? = some (.cells (a16 (fun _ => 0)) 128 (0, 0)) := by rw [heap_alloc_last]
  have F0 := (((E0.up n1).up al).row (cs := a16 t) (g' := w1.heap.size) (by omega))
  have F1 := (((B1.up n1).up al).row (cs := a16 t) (g' := w1.heap.size) (by omega))
  have FG : Blk ((w1.alloc (.cells (a16 (fun _ => 0)) 128)).setRow w1.heap.size (a16 t)) w1.heap.size .i64 (ls16 t) := BG.setRow
  have FN := below_row (nxt (nxt N n1) al) (a16 t) (g := w1.heap.size) (by omega)
  clear n1 al BG E0 B1 N s1
  go_upto_region 2 with (refine wpList_store_row rfl 128 (.tmp 5) (.tmp 7) rfl w1.heap.size (a16 t) rfl rfl 128 (a16 (fun _ => 0)) hG (by rw [a16_size]; exact i50) (by rw [a16_size, a16_size]) (a16_one _) ?_)
  clear hG
  rw [z16]
  generalize (w1.alloc (.cells (a16 (fun _ => 0)) 128)).setRow w1.heap.size (a16 t) = w2 at *
  obtain ⟨G, hG⟩ : ∃ G, G = w1.heap.size := ⟨_, rfl⟩
  rw [← hG] at z1 FG ⊢
  clear hG
  generalize ag16 t = V7
  go_wp2
  go_loopw [6] (fun i wr => ∃ (k : Nat) (t : Nat → Int), k ≤ 8 * es.length ∧ i = .int .i64 k ∧ L16 t ∧ s16 t 16 % PP = s16 a 16 ^ (E / 2 ^ (8 * es.length - k)) % PP ∧ Blk wr w.heap.size .i64 (ls16 a) ∧ Blk wr (w.heap.size + 1) .i64 (ls16 (fun _ => 0)) ∧ Blk wr G .i64 (ls16 t) ∧ Below w.heap.size w wr) (fun i _ => 8 * es.length - (intOf i).toNat)
  case atStart => exact ⟨0, t, Nat.zero_le _, rfl, LT, by rw [VT, ptop hb HE.out, Int.pow_zero], F0, F1, FG, FN⟩
  case round =>
    clear F0 F1 FG FN VT LT t
    obtain ⟨k, t, hk, rfl, LT, VT, hA, hR, hG, hN⟩ := hrel
    by_cases hlt : k < 8 * es.length
    · have k5 : (k : Int) < (es.length : Int) * 8 := by omega
      obtain ⟨off, rfl, hc⟩ := hr (by omega)
      have hg := hr.lt (by omega)
      obtain ⟨eG, hGr⟩ := id hG
      go_upto_region 6 with (first
        | (refine wpList_load_row rfl 128 (.tmp 5) rfl G rfl eG (a16 t) (0, 0) (.array 16 2) hGr Go.Proofs.YtkpomobhjkikeaaGreatDoor.u50 rfl (by rw [a16_size]; exact i50) ?_)
        | (go_at_call 75; go_must (refine (MU.out wr t LT).mono ?_; rintro r w4 ⟨u, rfl, LU, VU, n4⟩))
        | (refine wpList_store_row rfl 128 (.tmp 5) (.tmp 17) rfl G (a16 u) rfl rfl eG (a16 t) ((n4.block _ hG.lt).trans hGr) (by rw [a16_size]; exact i50) (by rw [a16_size, a16_size]) (a16_one _) ?_))
      have z4 := hN.size
      have G0 := (hA.up n4).row (cs := a16 u) (g' := G) (by omega)
      have G1 := (hR.up n4).row (cs := a16 u) (g' := G) (by omega)
      have GG : Blk (w4.setRow G (a16 u)) G .i64 (ls16 u) := (hG.up n4).setRow
      have GN := below_row (nxt hN n4) (a16 u) (g := G) (by omega)
      have VV := hide (pw_sq VT VU)
      clear hA hR hG hN hGr n4 VT VU LT z4
      generalize w4.setRow G (a16 u) = w5 at *
      have P0 := hide (pstep0 hb HE.out hlt)
      have P1 := hide (pstep1 hb HE.out hlt)
      have cx : w5.cell? ⟨g, off + k / 8, none⟩ = some (.int .u8 (es.getD (k / 8) 0)) := (GN.cell (p := ⟨g, off + k / 8, none⟩) hg).trans (hc (k / 8) (by omega))
      have x0 := hb (k / 8)
      have kx : (k : Int) / 8 = ((k / 8 : Nat) : Int) := by omega
      have kr : (k : Int) % 8 = ((k % 8 : Nat) : Int) := by omega
      have ks : 7 - ((k % 8 : Nat) : Int) = ((7 - k % 8 : Nat) : Int) := by omega
      have r7 : 7 - k % 8 ≤ 7 := by omega
      have q5 : ((k / 8 : Nat) : Int) < (es.length : Int) := by omega
      generalize es.getD (k / 8) 0 = x at *
      generalize k / 8 = p at *
      generalize k % 8 = r at *
      generalize 7 - r = s at *
      have pr := p2pos s
      have v0 : 0 ≤ x / 2 ^ s := Int.ediv_nonneg x0.1 (by omega)
      have v1 : x / 2 ^ s < 256 := Int.lt_of_le_of_lt (Int.ediv_le_self _ x0.1) (by omega)
      have e1 := and1u8 _ v0 v1
      by_cases hbit : x / 2 ^ s % 2 = 1
      · have tb1 : (x / 2 ^ s % 2 == 1) = true := by simp [hbit]
        obtain ⟨eG, hGr⟩ := id GG
        obtain ⟨eA, hAr⟩ := id G0
        go_wp2_with (first
          | (refine wpList_load_row rfl 128 (.tmp 5) rfl G rfl eG (a16 u) (0, 0) (.array 16 2) hGr Go.Proofs.YtkpomobhjkikeaaGreatDoor.u50 rfl (by rw [a16_size]; exact i50) ?_)
          | (refine wpList_load_row rfl 128 (.tmp 2) rfl w.heap.size rfl eA (a16 a) (0, 0) (.array 16 2) hAr Go.Proofs.YtkpomobhjkikeaaGreatDoor.u50 rfl (by rw [a16_size]; exact i50) ?_)
          | (go_at_call 75; go_must (refine (MA.out w5 u LU).mono ?_; rintro r w6 ⟨v, rfl, LV, VW, n6⟩))
          | (refine wpList_store_row rfl 128 (.tmp 5) (.tmp 32) rfl G (a16 v) rfl rfl eG (a16 u) ((n6.block _ GG.lt).trans hGr) (by rw [a16_size]; exact i50) (by rw [a16_size, a16_size]) (a16_one _) ?_))
        go_roundw
        case rel => exact ⟨k + 1, v, by omega, by go_num, LV, by rw [P1.out hbit]; exact pw_on VV.out VW, (G0.up n6).row (by omega), (G1.up n6).row (by omega), (GG.up n6).setRow, below_row (nxt GN n6) _ (by omega)⟩
        case measure => simp [intOf]; omega
      · have tb1 : (x / 2 ^ s % 2 == 1) = false := by simp [hbit]
        go_wp2
        go_roundw
        case rel => exact ⟨k + 1, u, by omega, by go_num, LU, by rw [P0.out hbit]; exact VV.out, G0, G1, GG, GN⟩
        case measure => simp [intOf]; omega
    · obtain rfl : k = 8 * es.length := by omega
      have VV := hide VT
      clear VT
      have k5 : decide (((8 * es.length : Nat) : Int) < (es.length : Int) * 8) = false := by simp; omega
      have HGN := below_row hN (a16 t) (g := w.heap.size + 1) (by omega)
      obtain ⟨eG, hGr⟩ := hG
      obtain ⟨t2, hRr⟩ := hR
      have SR : ((wr.setRow (w.heap.size + 1) (a16 t)).heap[w.heap.size + 1]?) = some (.cells (a16 t) t2 (0, 0)) := setRow_heap _ _ _ _ _ _ hRr
      go_upto_region 8 with fail
      go_wp2_with (first
        | (refine wpList_load_row rfl 128 (.tmp 5) rfl G rfl eG (a16 t) (0, 0) (.array 16 2) hGr Go.Proofs.YtkpomobhjkikeaaGreatDoor.u50 rfl (by rw [a16_size]; exact i50) ?_)
        | (refine wpList_store_row rfl 128 (.tmp 4) (.tmp 33) rfl (w.heap.size + 1) (a16 t) rfl rfl t2 (a16 (fun _ => 0)) hRr (by rw [a16_size]; exact i50) (by rw [a16_size, a16_size]) (a16_one _) ?_))
      exact bodyPost_ret (v := .agg (a16 t)) (results_cell_row Tryz.results100 _ _ (w.heap.size + 1) t2 (a16 t) (0, 0) (.array 16 2) rfl SR Go.Proofs.YtkpomobhjkikeaaGreatDoor.u50 rfl (by rw [a16_size]; exact i50)) rfl ⟨_, rfl, LT, by have := VV.out; rw [Nat.sub_self, Nat.pow_zero, Nat.div_one] at this; exact this, HGN⟩
end Go.Proofs.YtkpomobhjkikeaaGreatDoor
namespace Go.Proofs.YtkpomobhjkikeaaGreatDoor
set_option maxRecDepth 100000
open Go.RowKit
theorem and32767 (n : Int) : bits .and .i64 n 32767 = n % 32768 := by
  have h127 : (BitVec.ofInt 64 32767).toNat = 2 ^ 15 - 1 := by decide
  have key : (BitVec.ofInt 64 n &&& BitVec.ofInt 64 32767).toNat = (n % ((2 ^ 64 : Nat) : Int)).toNat % 2 ^ 15 := by
    rw [BitVec.toNat_and, BitVec.toNat_ofInt, h127, Nat.and_two_pow_sub_one_eq_mod]
  show IntKind.i64.wrap ((BitVec.ofInt 64 n &&& BitVec.ofInt 64 32767).toNat : Nat) = n % 32768
  rw [key, IntKind.wrap_i64]
  omega
theorem and255w (n : Int) : bits .and .i64 n 255 = n % 256 := by
  have h127 : (BitVec.ofInt 64 255).toNat = 2 ^ 8 - 1 := by decide
  have key : (BitVec.ofInt 64 n &&& BitVec.ofInt 64 255).toNat = (n % ((2 ^ 64 : Nat) : Int)).toNat % 2 ^ 8 := by
    rw [BitVec.toNat_and, BitVec.toNat_ofInt, h127, Nat.and_two_pow_sub_one_eq_mod]
  show IntKind.i64.wrap ((BitVec.ofInt 64 n &&& BitVec.ofInt 64 255).toNat : Nat) = n % 256
  rw [key, IntKind.wrap_i64]
  omega
def only (f : Nat → Int) (j : Nat) : Int := if j < 16 then f j else 0
theorem only_ls (f : Nat → Int) : ls16 f = ls16 (only f) :=
  eq_of_getD (by rw [ls16_len, ls16_len]) (fun i hi => by rw [ls16_len] at hi; rw [ls16_get _ hi, ls16_get _ hi, only, if_pos hi])
theorem only_s (f : Nat → Int) : s16 (only f) 16 = s16 f 16 := s16_congr 16 (fun _ hj => if_pos hj)
theorem only_in {f : Nat → Int} (h : L16 f) : In60 (only f) := fun j => by
  unfold only
  by_cases hj : j < 16
  · rw [if_pos hj]; have := h j hj; omega
  · rw [if_neg hj]; omega
theorem adj_in {q : Nat → Int} (h : L16 q) (hi : In60 q) : In60 (adj q) := fun j => by
  have h0 := h 0 (by omega)
  have h1 := h 15 (by omega)
  have h2 := hi j
  unfold adj
  split
  · omega
  · split <;> omega
theorem rb2_in {q : Nat → Int} (hi : In60 q) : ∀ k, In60 (rb2 q k)
  | 0 => hi
  | k + 1 => fun j => by
    have := l16_bd (adj (rb2 q k)) j
    show _ ≤ l16 (adj (rb2 q k)) j ∧ l16 (adj (rb2 q k)) j ≤ _
    omega
theorem adj_ls (q : Nat → Int) : ((ls16 q).set 15 (q 15 % 32768)).set 0 (q 0 + 19 * (q 15 / 32768)) = ls16 (adj q) := by
  refine eq_of_getD (by simp [ls16]) (fun i hi => ?_)
  have hi' : i < 16 := by simpa [ls16] using hi
  rw [ls16_get _ hi']
  unfold adj
  by_cases e : i = 0
  · subst e
    rw [getD_set_self _ _ _ (by simp [ls16]), if_pos rfl]
  · rw [getD_set_ne _ _ _ _ (by omega), if_neg e]
    by_cases e2 : i = 15
    · subst e2
      rw [getD_set_self _ _ _ (by simp [ls16]), if_pos rfl]
    · rw [getD_set_ne _ _ _ _ (by omega), ls16_get _ hi', if_neg e2]
theorem by_fin {V U : Int} (h : 0 ≤ V ∧ V < 57896044618658097711785492504343953926634992332820282019728792003956564819968 ∧ V % PP = U % PP) : (PP ≤ V → U % PP = V - PP ∧ V - PP < 57896044618658097711785492504343953926634992332820282019728792003956564819968) ∧ (V < PP → U % PP = V) := by
  obtain ⟨h1, h2, h3⟩ := h
  rw [← h3]
  show (57896044618658097711785492504343953926634992332820282019728792003956564819949 ≤ V → V % 57896044618658097711785492504343953926634992332820282019728792003956564819949 = V - 57896044618658097711785492504343953926634992332820282019728792003956564819949 ∧ V - 57896044618658097711785492504343953926634992332820282019728792003956564819949 < 57896044618658097711785492504343953926634992332820282019728792003956564819968) ∧ (V < 57896044618658097711785492504343953926634992332820282019728792003956564819949 → V % 57896044618658097711785492504343953926634992332820282019728792003956564819949 = V)
  omega
theorem turn_tb (w : World) (G : Nat) (q : Nat → Int) (hB : Blk w G .u8 (fill (tb16 q) 32)) (QL : L16 q) :
    Calls Tryz.prog 67 #[.slice (some ⟨G, 0, none⟩) 32 32] w fun e w' => ∃ ts, ts.length = 32 ∧ Byt ts ∧ bval ts = s16 q 16 ∧ fill (tb16 q) 32 = fill (byt (s16 q 16)) 32 ∧ NewRow w.heap.size w' e .u8 ts ∧ Below w.heap.size w w' := by
  have h := l1Turn_any6 w G (some ⟨G, 0, none⟩) 32 (fill (tb16 q) 32) hB.own0.rd (tb16_byt QL) (by rw [fill_len]; omega)
  rw [fill_len] at h
  refine h.mono ?_
  rintro e w' ⟨ts, TT, tb, nr, n⟩
  obtain ⟨tv, fe⟩ := tb16_turn TT tb
  exact ⟨ts, TT.1, tb, tv, fe, nr, n⟩
theorem sg_pos {x y : Int} (h : y ≤ x) : decide (0 ≤ sg x y) = true := by unfold sg; simp; split <;> (try split) <;> omega
theorem sg_not {x y : Int} (h : ¬ y ≤ x) : decide (0 ≤ sg x y) = false := by rw [sg_lt (by omega)]; decide
set_option maxRecDepth 100000 in
set_option maxHeartbeats 4000000 in
theorem l2Bytes_any (w : World) (f : Nat → Int) (hf : L16 f) :
    Calls Tryz.prog 74 #[ag16 f] w fun e w' => NewRow w.heap.size w' e .u8 (fill (byt (s16 f 16 % PP)) 32) ∧ Below w.heap.size w w' := by
  show Calls Tryz.prog 74 #[.agg (a16 f)] w fun e w' => NewRow w.heap.size w' e .u8 (fill (byt (s16 f 16 % PP)) 32) ∧ Below w.heap.size w w'
  rw [show a16 f = a16 (only f) by unfold a16; rw [only_ls f], ← only_s f]
  have hin := only_in hf
  have CK := cry_ok hin
  have CI : In60 (cry (only f)) := it16_in hin 3
  generalize only f = f at *
  clear hf
  obtain ⟨i0, hi, hz0, hz1, hz2⟩ := info_parts Tryz.info5
  have B0 : Blk (w.alloc (.cells (a16 f) 128)) w.heap.size .i64 (ls16 f) := blk16 w 128 f
  have n0 : Below w.heap.size w (w.alloc (.cells (a16 f) 128)) := (Below.refl _ _).alloc (Nat.le_refl _) _
  obtain ⟨A, hA⟩ : ∃ A, A = a16 f := ⟨_, rfl⟩
  have HA := hide hA
  rw [← hA] at B0 n0 ⊢
  clear hA
  go_enter Tryz.func74, Tryz.ntmps74
  go_upto_region 1 with fail
  generalize w.alloc (.cells A 128) = wa at *
  obtain ⟨t0, hB0⟩ := id B0
  go_upto_region 2 with (first
    | (refine wpList_load_row rfl 128 (.tmp 1) rfl w.heap.size rfl t0 (a16 f) (0, 0) (.array 16 2) hB0 Go.Proofs.YtkpomobhjkikeaaGreatDoor.u50 rfl (by rw [a16_size]; exact i50) ?_)
    | (go_at_call 98; go_must (refine (l2Carry_any wa f hin).mono ?_; rintro r w2 ⟨rfl, n2⟩))
    | (refine wpList_store_row rfl 128 (.tmp 1) (.tmp 10) rfl w.heap.size (a16 (cry f)) rfl rfl t0 (a16 f) ((n2.block _ B0.lt).trans hB0) (by rw [a16_size]; exact i50) (by rw [a16_size, a16_size]) (a16_one _) ?_))
  have G0 : Blk (w2.setRow w.heap.size (a16 (cry f))) w.heap.size .i64 (ls16 (cry f)) := (B0.up n2).setRow
  have GN := below_row (nxt n0 n2) (a16 (cry f)) (g := w.heap.size) (Nat.le_refl _)
  generalize w2.setRow w.heap.size (a16 (cry f)) = w3 at *
  clear B0 n0 n2 hB0 hin HA
  have V1 := CK.2
  have V2 := rb_two CK.1
  have VV : Hid (0 ≤ s16 (rb2 (cry f) 2) 16 ∧ s16 (rb2 (cry f) 2) 16 < 57896044618658097711785492504343953926634992332820282019728792003956564819968 ∧ s16 (rb2 (cry f) 2) 16 % PP = s16 f 16 % PP) := ⟨V2.1, V2.2.1, V2.2.2.trans V1⟩
  have CL := CK.1
  clear CK V1 V2
  generalize ag16 (cry f) = V10
  generalize Value.agg (a16 f) = V9
  generalize hq0 : cry f = q0 at *
  have HP : Hid (∃ v, v = s16 f 16 % PP) := ⟨_, rfl⟩
  clear HP hq0
  go_wp2
  go_loopw [3] (fun i wr => ∃ (k : Nat), k ≤ 2 ∧ i = .int .i64 k ∧ Blk wr w.heap.size .i64 (ls16 (rb2 q0 k)) ∧ Below w.heap.size w wr) (fun i _ => 2 - (intOf i).toNat)
  case atStart => exact ⟨0, by omega, rfl, G0, GN⟩
  case round =>
    clear G0 GN
    obtain ⟨k, hk, rfl, hB, hN⟩ := hrel
    by_cases hlt : k < 2
    · have k2 : decide ((k : Int) < 2) = true := by simp; omega
      have hL := rb2_ok CL k
      have hI := rb2_in CI k
      obtain ⟨q, hq⟩ : ∃ q, q = rb2 q0 k := ⟨_, rfl⟩
      have hq' : Hid (rb2 q0 (k + 1) = rb q) := by show _ = _; rw [hq]; rfl
      rw [← hq] at hB hL hI
      clear hq
      have aI := adj_in hL hI
      have cb := fun j => c16_bd (f := adj q) (M := 17592454500000) (by omega) (fun j => by have := aI j; omega) j
      have c15 : wr.cell? ⟨w.heap.size, 15, none⟩ = some (.int .i64 (q 15)) := by rw [hB.cell (i := 15) (by rw [ls16_len]; omega), ls16_get _ (by omega)]
      have f15 := hB.free 15
      have S15 := hB.store 15 (q 15 % 32768)
      have c0 : (wr.setCell ⟨w.heap.size, 15, none⟩ (.int .i64 (q 15 % 32768))).cell? ⟨w.heap.size, 0, none⟩ = some (.int .i64 (q 0)) := by rw [S15.cell (i := 0) (by simp [ls16]), getD_set_ne _ _ _ _ (by omega), ls16_get _ (by omega)]
      have f0 := S15.free 0
      have S0 := S15.store 0 (q 0 + 19 * (q 15 / 32768))
      rw [adj_ls] at S0
      have Sn : Below w.heap.size w ((wr.setCell ⟨w.heap.size, 15, none⟩ (.int .i64 (q 15 % 32768))).setCell ⟨w.heap.size, 0, none⟩ (.int .i64 (q 0 + 19 * (q 15 / 32768)))) := (hN.setCell (Nat.le_refl _) _).setCell (Nat.le_refl _) _
      have l0 := hL 0 (by omega)
      have l15 := hL 15 (by omega)
      have m15 := and32767 (q 15)
      clear S15 hB hN hI
      have HL := hide hL
      clear hL
      obtain ⟨x0, hx0⟩ : ∃ x, x = q 0 := ⟨_, rfl⟩
      obtain ⟨x15, hx15⟩ : ∃ x, x = q 15 := ⟨_, rfl⟩
      rw [← hx0, ← hx15] at S0 Sn
      rw [← hx15] at c0 c15 l15 m15 f0
      rw [← hx0] at c0 l0
      clear hx0 hx15
      go_wp2
      generalize ((wr.setCell ⟨w.heap.size, 15, none⟩ (.int .i64 (x15 % 32768))).setCell ⟨w.heap.size, 0, none⟩ (.int .i64 (x0 + 19 * (x15 / 32768)))) = ws at *
      clear c0 c15 f0 f15 m15
      go_loopw [4, 5] (fun c i wq => ∃ (j : Nat) (ys : List Int), j ≤ 16 ∧ i = .int .i64 j ∧ c = .int .i64 (c16 (adj q) j) ∧ Up16 (l16 (adj q)) (adj q) ys j ∧ Blk wq w.heap.size .i64 ys ∧ Below w.heap.size w wq) (fun _ i _ => 16 - (intOf i).toNat)
      case atStart => exact ⟨0, _, by omega, rfl, rfl, Up16.zero _ _, S0, Sn⟩
      case round =>
        clear S0 Sn
        obtain ⟨j, ys, hj, rfl, rfl, hU, hB, hN⟩ := hrel
        by_cases hjt : j < 16
        · have R := hU.step hjt
          have hcy := hB.cell (i := j) (by rw [hU.1]; exact hjt)
          rw [hU.2.2 j (Nat.le_refl _) hjt] at hcy
          have hfy := hB.free j
          have j2 : (j : Int) < 16 := by omega
          have cj := cb j
          have qj := aI j
          have S := hB.store j (l16 (adj q) j)
          have Sn : Below w.heap.size w (wr.setCell ⟨w.heap.size, j, none⟩ (.int .i64 (l16 (adj q) j))) := hN.setCell (Nat.le_refl _) _
          have E1 : l16 (adj q) j = (adj q j + c16 (adj q) j) % 65536 := by unfold l16; rw [Int.add_comm]
          have F : Hid (c16 (adj q) (j + 1) = (adj q j + c16 (adj q) j) / 65536) := by show _ = _; rw [c16, Int.add_comm]
          rw [E1] at R S Sn
          have m1 := and65535 (adj q j + c16 (adj q) j)
          clear hU hB hN cb aI E1
          generalize adj q j = z at *
          generalize c16 (adj q) j = c at *
          go_wp2
          go_roundw
          case rel => exact ⟨j + 1, _, by omega, by go_num, by rw [F.out], R, S, Sn⟩
          case measure => simp [intOf]; omega
        · obtain rfl : j = 16 := by omega
          have hy := hU.all
          subst hy
          clear hU cb aI
          go_wp2
          go_roundw
          case rel => exact ⟨k + 1, by omega, by go_num, by rw [hq'.out]; exact hB, hN⟩
          case measure => simp [intOf]; omega
    · obtain rfl : k = 2 := by omega
      have QL := rb2_ok CL 2
      generalize rb2 q0 2 = q at *
      clear CL CI
      have hlw := hB.lt
      go_wp2_with (at_make; refine wpList_make_full _ rfl _ _ 22 rfl wr.heap.size 5 i0 (.int .u8 0) 1 Tryz.underlying22 hi hz0 hz1 .i64 .i64 _ _ 32 rfl rfl rfl rfl (by rw [hz2]; omega) (by unfold maxLen; omega) (Nat.le_refl _) ?_; intro w5 hown hgrow)
      have hB5 := Blk.of_made hown
      have n5 : Below wr.heap.size wr w5 := (Below.refl _ _).grown hgrow (Nat.le_refl _) (by simp)
      have B5 := hB.up n5
      have N5 := nxt hN n5
      clear hown hgrow hB hN n5
      obtain ⟨G, hG⟩ : ∃ G, G = wr.heap.size := ⟨_, rfl⟩
      rw [← hG] at hB5 hlw ⊢
      clear hG
      go_loopw [8] (fun i wq => ∃ (k : Nat) (ys : List Int), k ≤ 16 ∧ i = .int .i64 k ∧ FillTo (tb16 q) ys 32 (2 * k) ∧ Blk wq w.heap.size .i64 (ls16 q) ∧ Blk wq G .u8 ys ∧ Below w.heap.size w wq) (fun i _ => 16 - (intOf i).toNat)
      case atStart => exact ⟨0, _, by omega, rfl, ⟨by simp, fun j hj => absurd hj (by omega)⟩, B5, hB5, N5⟩
      case round =>
        clear B5 hB5 N5
        obtain ⟨k, ys, hk, rfl, hF, hT, hB, hN⟩ := hrel
        by_cases hlt : k < 16
        · have R := (hF.step (k := 2 * k) (by omega)).step (by omega)
          have T1 : tb16 q (2 * k) = q k % 256 := by unfold tb16; rw [if_pos (by omega), show 2 * k / 2 = k by omega]
          have T2 : tb16 q (2 * k + 1) = q k / 256 := by unfold tb16; rw [if_neg (by omega), show (2 * k + 1) / 2 = k by omega]
          rw [T1, T2] at R
          have bx := QL k hlt
          have k2 : (k : Int) < 16 := by omega
          have cq : wr.cell? ⟨w.heap.size, k, none⟩ = some (.int .i64 (q k)) := by rw [hT.cell (i := k) (by rw [ls16_len]; exact hlt), ls16_get _ hlt]
          have hT1 := hT.keep6 (g' := G) (k := 2 * k) (v := .int .u8 (q k % 256)) (by omega)
          have cq2 : (wr.setCell ⟨G, 2 * k, none⟩ (.int .u8 (q k % 256))).cell? ⟨w.heap.size, k, none⟩ = some (.int .i64 (q k)) := by rw [hT1.cell (i := k) (by rw [ls16_len]; exact hlt), ls16_get _ hlt]
          have cy := hB.cell (i := 2 * k) (by rw [hF.1]; omega)
          have fy := hB.free (2 * k)
          have S1 := hB.store (2 * k) (q k % 256)
          have cy2 := S1.cell (i := 2 * k + 1) (by rw [List.length_set, hF.1]; omega)
          have fy2 := S1.free (2 * k + 1)
          have S2 := hide (S1.store (2 * k + 1) (q k / 256))
          have ST := hide (hT1.keep6 (g' := G) (k := 2 * k + 1) (v := .int .u8 (q k / 256)) (by omega))
          have Sn := hide (show Below w.heap.size w ((wr.setCell ⟨G, 2 * k, none⟩ (.int .u8 (q k % 256))).setCell ⟨G, 2 * k + 1, none⟩ (.int .u8 (q k / 256))) from (hN.setCell (by show w.heap.size ≤ G; omega) _).setCell (by show w.heap.size ≤ G; omega) _)
          have RR := hide R
          clear R S1 hT1 hT hB hN hF T1 T2
          generalize ys.getD (2 * k) 0 = y0 at *
          generalize (ys.set (2 * k) (q k % 256)).getD (2 * k + 1) 0 = y1 at *
          generalize q k = x at *
          have m1 := and255w x
          have v1 : IntKind.u8.wrap (x % 256) = x % 256 := by rw [IntKind.wrap_u8]; omega
          have v2 : IntKind.u8.wrap (x / 256) = x / 256 := by rw [IntKind.wrap_u8]; omega
          obtain ⟨p, hp⟩ : ∃ p : Nat, p = 2 * k := ⟨_, rfl⟩
          obtain ⟨m, hm⟩ : ∃ m : Nat, m = p + 1 := ⟨_, rfl⟩
          have p1 : 2 * (k : Int) = (p : Int) := by omega
          have p2 : IntKind.i64.wrap (p : Int) = (p : Int) := by rw [IntKind.wrap_i64]; omega
          have p3 : (p : Int) < 32 := by omega
          have q1 : (p : Int) + 1 = (m : Int) := by omega
          have q2 : IntKind.i64.wrap (m : Int) = (m : Int) := by rw [IntKind.wrap_i64]; omega
          have q3 : (m : Int) < 32 := by omega
          rw [← hp] at cy fy cq2 cy2 fy2 S2 ST Sn RR
          rw [← hm] at cy2 fy2 S2 ST Sn RR
          have E : Hid (m + 1 = 2 * (k + 1)) := by show _ = _; omega
          clear hp hm
          go_wp2
          go_roundw
          case rel => exact ⟨k + 1, _, by omega, by go_num, by rw [← E.out]; exact RR.out, ST.out, S2.out, Sn.out⟩
          case measure => simp [intOf]; omega
        · obtain rfl : k = 16 := by omega
          have hy := FillTo.all (n := 32) hF
          subst hy
          clear hF hT
          have TU := hide (fun w' (n : Below wr.heap.size wr w') => turn_tb w' G q (hB.up n) QL)
          have HV := hide (by_fin VV.out)
          clear VV
          generalize s16 q 16 = X at *
          have zG : w.heap.size ≤ G := Nat.le_of_lt hlw
          go_wp2_with fail
          refine (TU.out wr (Below.refl _ _)).mono ?_
          rintro e w6 ⟨ts, tl, tb, tv, fe, ⟨a1, c1, g1, rfl, o1, _, _, _⟩, n6⟩
          have FE := hide fe
          have TV := hide tv
          have TL := hide tl
          clear fe tv tl
          go_wp2_with fail
          refine (l2Prime_any w6).mono ?_
          rintro e w7 ⟨rfl, Bp, n7⟩
          go_wp2_with fail
          refine (l1Cmp_any w7 g1 _ a1 _ c1 32 ts pbytes (o1.rd.up n7) Bp.own0.rd tb pbytes_byt (by rw [TL.out]; decide) (by decide)).mono ?_
          rintro e w8 ⟨rfl, rfl⟩
          have SP := hide (fun h : PP ≤ X => sg_pos h)
          have SM := hide (fun h : ¬ PP ≤ X => sg_not h)
          rw [← pbytes_val, ← TV.out] at SP SM
          have M := nxt n6 n7
          clear n6 n7 Bp o1 tb
          generalize sg (bval ts) (bval pbytes) = sgn at *
          by_cases hc : bval pbytes ≤ bval ts
          · have tg := SP.out hc
            rw [pbytes_val, TV.out] at hc
            have HC := hide hc
            clear hc SP SM
            go_wp2_with fail
            refine (TU.out w8 M).mono ?_
            rintro e w9 ⟨us, ul, ub, uv, _, ⟨a2, c2, g2, rfl, o2, _, _, _⟩, n9⟩
            have UV := hide uv
            have UL := hide ul
            clear uv ul
            go_wp2_with fail
            refine (l2Prime_any w9).mono ?_
            rintro e w10 ⟨rfl, Bq, n10⟩
            go_wp2_with fail
            refine (l1Sub_any w10 g2 _ a2 _ c2 32 us pbytes (o2.rd.up n10) Bq.own0.rd ub pbytes_byt (by rw [UL.out]; decide) (by rw [UL.out]; decide) (by rw [UV.out, pbytes_val]; exact HC.out)).mono ?_
            rintro e w11 ⟨ys, C, ⟨a3, c3, g3, rfl, o3, _, _, _⟩, n11⟩
            rw [UV.out, pbytes_val] at C
            have L : ys.length ≤ 32 := C.len (Int.lt_trans (HV.out.1 HC.out).2 (by decide))
            have V : Hid (fill (dig ys) 32 = fill (byt (s16 f 16 % PP)) 32) := by
              show _ = _
              refine fill_congr (fun i _ => ?_)
              rw [dig_of C.1, C.2.1, (HV.out.1 HC.out).1]
            have CB := hide C.1
            clear C
            go_wp2_with fail
            refine (l1Little_any w11 g3 a3 c3 ys 32 o3.rd CB.out (Nat.le_trans L (by decide)) (by decide)).mono ?_
            rintro e w12 ⟨rfl, B12, n12⟩
            rw [V.out] at B12
            have K := nxt (nxt (nxt (nxt (nxt hN M) n9) n10) n11) n12
            have zz := (nxt (nxt (nxt (nxt hN M) n9) n10) n11).size
            clear o2 o3 Bq
            go_wp2
            go_ret
            exact ⟨⟨_, 32, w11.heap.size, by rw [fill_len]; rfl, B12.own0, by simp, by rw [fill_len]; exact Nat.le_refl _, zz⟩, K⟩
          · have tg := SM.out hc
            rw [pbytes_val, TV.out] at hc
            have V := hide (HV.out.2 (Int.not_le.1 hc))
            clear hc SP SM
            have B8 := hB.up M
            rw [FE.out, ← V.out] at B8
            go_wp2
            go_ret
            exact ⟨⟨_, 32, G, by rw [fill_len]; rfl, B8.own0, by simp, by rw [fill_len]; exact Nat.le_refl _, zG⟩, nxt hN M⟩
end Go.Proofs.YtkpomobhjkikeaaGreatDoor
namespace Go.Proofs.YtkpomobhjkikeaaGreatDoor
set_option maxRecDepth 100000
open Go.RowKit
theorem conv_run6 (w : World) (g : Nat) (a : Option Addr) (c : Nat) (xs : List Int) (hr : Rd w g a .u8 xs) : (convert 22 9 (.slice a xs.length c)).run Tryz.prog w = .ok (.string (str xs)) w := by
  rw [run_convert_bytes_string w 22 9 5 a xs.length c Tryz.underlying22 Tryz.underlying5 Tryz.underlying9]
  cases a with
  | none =>
    obtain rfl : xs = [] := by
      by_cases h0 : 0 < xs.length
      · obtain ⟨off, h, _⟩ := hr h0
        simp at h
      · exact List.eq_nil_of_length_eq_zero (by omega)
    simp [Conv.bytesToString, str]
  | some ad =>
    have hl := run_loadCells_list (P := Tryz.prog) w ad (xs.map (Value.int .u8)) (fun j v hj => by
      have hjl : j < xs.length := by
        have := (List.getElem?_eq_some_iff.1 hj).1
        simpa using this
      obtain ⟨off, ha, hcc⟩ := hr (by omega)
      simp only [Option.some.injEq] at ha
      subst ha
      rw [add_mid, hcc j hjl]
      simpa [hjl] using hj)
    rw [List.length_map] at hl
    exact run_bytesToString w ad xs.length c xs hl
set_option maxHeartbeats 2000000 in
theorem l1Next_any6 (w : World) (s g : Nat) (a : Option Addr) (c : Nat) (xs : List Int) (t n : Int) (hs : Src w s a xs.length c t) (hr : Rd w g a .u8 xs) (hne : 0 < xs.length → g ≠ s) (hb : Byt xs) (hl : xs.length ≤ 1048576)
    (t0 : 0 ≤ t) (t1 : t ≤ 1048576) (n0 : 1 ≤ n) (n1 : n ≤ 1048576) :
    Calls Tryz.prog 14 #[.pointer (some ⟨s, 0, none⟩), .int .i64 n] w fun e w' => ∃ r, e = .returned (.int .i64 r) ∧ (0 ≤ r ∧ r < n) ∧ Src w' s a xs.length c (t + 1) ∧ Only s w w' := by
  have c0 := hs.code
  have c1 := hs.at_
  have f1 := hs.free
  have k1 : (w.setCell ⟨s, 1, none⟩ (.int .i64 (t + 1))).cell? ⟨s, 1, none⟩ = some (.int .i64 (t + 1)) := World.cell?_setCell_same _ _ _ hs.at_
  have k0 : (w.setCell ⟨s, 1, none⟩ (.int .i64 (t + 1))).cell? ⟨s, 0, none⟩ = some (.slice a xs.length c) := by rw [World.cell?_setCell_other (h := by simp)]; exact hs.code
  have tn : decide (n < 1) = false := by simp; omega
  by_cases h0 : xs.length = 0
  · have hk : ((xs.length : Int) == 0) = true := by simp [h0]
    have r0 := Int.emod_nonneg (t * 7) (show n ≠ 0 by omega)
    have r1 := Int.emod_lt_of_pos (t * 7) (show 0 < n by omega)
    have S := hs.step (t + 1) 0
    have O := Only.step w s (.int .i64 (t + 1)) 0
    clear h0
    go_enter Tryz.func14, Tryz.ntmps14
    go_wp2
    go_ret
    exact ⟨_, rfl, ⟨r0, r1⟩, S, O⟩
  · have hk : ((xs.length : Int) == 0) = false := beq_eq_false_iff_ne.2 (by omega)
    obtain ⟨off, rfl, hc⟩ := hr (by omega)
    have gs : g ≠ s := hne (by omega)
    obtain ⟨i1, hi1⟩ := Int.eq_ofNat_of_zero_le (Int.emod_nonneg t (show (xs.length : Int) ≠ 0 by omega))
    have li1 : (i1 : Int) < (xs.length : Int) := by rw [← hi1]; exact Int.emod_lt_of_pos _ (by omega)
    obtain ⟨i2, hi2⟩ := Int.eq_ofNat_of_zero_le (Int.emod_nonneg (t + 1) (show (xs.length : Int) ≠ 0 by omega))
    have li2 : (i2 : Int) < (xs.length : Int) := by rw [← hi2]; exact Int.emod_lt_of_pos _ (by omega)
    obtain ⟨q, hq⟩ : ∃ q, t / (xs.length : Int) = q := ⟨_, rfl⟩
    have q0 : 0 ≤ q := by rw [← hq]; exact Int.ediv_nonneg t0 (by omega)
    have q1 : q ≤ 1048576 := by rw [← hq]; exact Int.le_trans (Int.ediv_le_self _ t0) t1
    have x1 : (w.setCell ⟨s, 1, none⟩ (.int .i64 (t + 1))).cell? ⟨g, off + i1, none⟩ = some (.int .u8 (xs.getD i1 0)) := by rw [World.cell?_setCell_other (h := fun e => gs (by simpa using (congrArg Addr.block e).symm))]; exact hc i1 (by omega)
    have x2 : (w.setCell ⟨s, 1, none⟩ (.int .i64 (t + 1))).cell? ⟨g, off + i2, none⟩ = some (.int .u8 (xs.getD i2 0)) := by rw [World.cell?_setCell_other (h := fun e => gs (by simpa using (congrArg Addr.block e).symm))]; exact hc i2 (by omega)
    have b1 := hb i1
    have b2 := hb i2
    have S := fun m => hs.step (t + 1) m
    have O := fun m => Only.step w s (.int .i64 (t + 1)) m
    generalize xs.getD i1 0 = x at *
    generalize xs.getD i2 0 = y at *
    clear hc hs hr h0
    by_cases hn : n ≤ 200
    · have tn2 : decide (200 < n) = false := by simp; omega
      have r0 := Int.emod_nonneg (x + q * 37) (show n ≠ 0 by omega)
      have r1 := Int.emod_lt_of_pos (x + q * 37) (show 0 < n by omega)
      clear x2 hi2 li2 b2
      go_enter Tryz.func14, Tryz.ntmps14
      go_wp2
      go_quiet (fail)
      go_wp2
      go_ret
      exact ⟨_, rfl, ⟨r0, r1⟩, S _, O _⟩
    · have tn2 : decide (200 < n) = true := by simp; omega
      have r0 := Int.emod_nonneg ((x + q * 37) * 251 + y * 13 + t) (show n ≠ 0 by omega)
      have r1 := Int.emod_lt_of_pos ((x + q * 37) * 251 + y * 13 + t) (show 0 < n by omega)
      go_enter Tryz.func14, Tryz.ntmps14
      go_wp2
      go_quiet (fail)
      go_wp2
      go_quiet (fail)
      go_wp2
      go_ret
      exact ⟨_, rfl, ⟨r0, r1⟩, S _, O _⟩
set_option maxHeartbeats 2000000 in
theorem l1DrawBytes_any6 (w : World) (s g : Nat) (a : Option Addr) (c : Nat) (xs : List Int) (t : Int) (n : Nat) (hs : Src w s a xs.length c t) (hr : Rd w g a .u8 xs) (hne : 0 < xs.length → g ≠ s) (hb : Byt xs) (hl : xs.length ≤ 1048576)
    (t0 : 0 ≤ t) (t1 : t + (n : Int) ≤ 1048576) :
    Calls Tryz.prog 54 #[.pointer (some ⟨s, 0, none⟩), .int .i64 n] w fun e w' => ∃ ys, ys.length = n ∧ Byt ys ∧ NewRow w.heap.size w' e .u8 ys ∧ Src w' s a xs.length c (t + (n : Int)) ∧ But s w w' := by
  obtain ⟨i0, hi, hz0, hz1, hz2⟩ := info_parts Tryz.info5
  have hown0 : (w.alloc (.cells #[] 5)).ownsRow w.heap.size 5 1 (.slice (some ⟨w.heap.size, 0, none⟩) 0 0) 0 [] := World.ownsRow_lit w #[] 0 (Nat.le_refl _) (by unfold maxLen; omega) (by simp)
  have hal : Below w.heap.size w (w.alloc (.cells #[] 5)) := (Below.refl _ _).alloc (Nat.le_refl _) _
  have hsl := hs.lt
  go_enter Tryz.func54, Tryz.ntmps54
  go_wp2
  go_loopw [5, 6] (fun v i wr => ∃ (k : Nat) (ys : List Int), k ≤ n ∧ i = .int .i64 k ∧ Hid (ys.length = k) ∧ Byt ys ∧ wr.ownsRow w.heap.size 5 1 v k (ys.map (Value.int .u8)) ∧ Src wr s a xs.length c (t + (k : Int)) ∧ But s w wr) (fun _ i _ => n - (intOf i).toNat)
  case atStart => exact ⟨0, [], Nat.zero_le _, rfl, rfl, byt_nil, hown0, by simpa using hs.up hal, But.ofBelow hal⟩
  case round =>
    obtain ⟨k, ys, hk, rfl, hyl, hyb, hown, hS, hN⟩ := hrel
    have hr' := hr.but hN hne
    by_cases hlt : k < n
    · have hob := hown.lt
      go_wp2_with fail
      refine (l1Next_any6 wr s g a c xs (t + (k : Int)) 256 hS hr' hne hb hl (by omega) (by omega) (by decide) (by decide)).mono ?_
      rintro e w1 ⟨r, rfl, ⟨r0, r1⟩, S1, O1⟩
      have N1 := hN.only O1
      have hown1 := hown.kept O1.grown (by
        cases hv : Value.ownBlock _ with
        | none => exact .inl rfl
        | some q => exact .inr (fun e => by have := (hob q hv).1; simp at e; omega))
      have m1 : r % 256 = r := by omega
      have sz := N1.size
      clear hown hS hN O1 hr'
      go_wp2_with (at_builtin; refine wpList_append_own _ rfl _ _ 22 rfl w.heap.size 5 i0 (.int .u8 0) 1 1 Tryz.underlying22 hi hz0 hz1 hz2 rfl (by decide) _ k (ys.map (Value.int .u8)) rfl (hown1.alloc _) ⟨w1.heap.size, 0, none⟩ 1 1 [.int .u8 r] rfl rfl ?c1 ?c2 ?c3 ?c4 ?c5 ?_)
      case c1 =>
        intro j u hj
        match j, hj with
        | 0, hj => simp at hj; subst hj; simp [Addr.add]
      case c2 => intro u hu; simp at hu; subst hu; rfl
      case c3 => unfold maxLen; omega
      case c4 => omega
      case c5 => simp; omega
      · intro v' w2 hown2 hgrow _
        have nA : But s w (w1.alloc (.cells #[.int .u8 r] 5)) := N1.trans (But.ofBelow ((Below.refl _ _).alloc (Nat.le_refl _) _))
        have N2 := nA.grown hgrow (fun i hi => (hob i hi).1)
        have S2 : Src w2 s a xs.length c (t + ((k + 1 : Nat) : Int)) := by
          have := (S1.up ((Below.refl _ _).alloc (Nat.le_refl _) (.cells #[.int .u8 r] 5))).of_block (hgrow.block s (by simp; omega) (fun e => by have := (hob s e.symm).1; omega))
          rw [show t + ((k + 1 : Nat) : Int) = t + (k : Int) + 1 by omega]
          exact this
        have hown3 : w2.ownsRow w.heap.size 5 1 v' (k + 1) ((ys ++ [r]).map (Value.int .u8)) := by simpa using hown2
        have hl3 : Hid ((ys ++ [r]).length = k + 1) := by show _ = _; have := hyl.out; simp; omega
        have hb3 := byt_snoc hyb r r0 r1
        clear hown1 hown2 hgrow N1 S1 nA hob
        go_wp2
        go_roundw
        case rel => exact ⟨k + 1, ys ++ [r], by omega, by go_num, hl3, hb3, hown3, S2, N2⟩
        case measure => simp [intOf]; omega
    · obtain rfl : k = n := by omega
      have hown' := hown
      rw [← hyl.out] at hown'
      obtain ⟨a', c', g', hv, o1, o2, o3, o4⟩ := Own.of_ownsRow hown'
      subst hv
      clear hown hown'
      go_wp2
      go_ret
      exact ⟨ys, hyl.out, hyb, ⟨_, _, g', rfl, o1, o2, o3, o4⟩, hS, hN⟩
set_option maxHeartbeats 400000 in
theorem l1Chance_any6 (w : World) (s g : Nat) (a : Option Addr) (c : Nat) (xs : List Int) (t n : Int) (hs : Src w s a xs.length c t) (hr : Rd w g a .u8 xs) (hne : 0 < xs.length → g ≠ s) (hb : Byt xs) (hl : xs.length ≤ 1048576)
    (t0 : 0 ≤ t) (t1 : t ≤ 1048576) (n0 : 1 ≤ n) (n1 : n ≤ 1048576) :
    Calls Tryz.prog 15 #[.pointer (some ⟨s, 0, none⟩), .int .i64 n] w fun e w' => ∃ b, e = .returned (.bool b) ∧ Src w' s a xs.length c (t + 1) ∧ Only s w w' := by
  go_enter Tryz.func15, Tryz.ntmps15
  go_wp2_with fail
  refine (l1Next_any6 w s g a c xs t n hs hr hne hb hl t0 t1 n0 n1).mono ?_
  rintro e w1 ⟨r, rfl, _, S1, O1⟩
  go_wp2
  go_ret
  exact ⟨_, rfl, S1, O1⟩
set_option maxHeartbeats 2000000 in
theorem l1Int_any6 (w : World) (v : Int) (v0 : 0 ≤ v) (v1 : v ≤ 255) :
    Calls Tryz.prog 49 #[.int .i64 v] w fun e w' => ∃ ys, ys.length ≤ 1 ∧ Byt ys ∧ NewRow w.heap.size w' e .u8 ys ∧ Below w.heap.size w w' := by
  obtain ⟨i0, hi, hz0, hz1, hz2⟩ := info_parts Tryz.info5
  have hown0 : (w.alloc (.cells #[] 5)).ownsRow w.heap.size 5 1 (.slice (some ⟨w.heap.size, 0, none⟩) 0 0) 0 [] := World.ownsRow_lit w #[] 0 (Nat.le_refl _) (by unfold maxLen; omega) (by simp)
  have hal : Below w.heap.size w (w.alloc (.cells #[] 5)) := (Below.refl _ _).alloc (Nat.le_refl _) _
  go_enter Tryz.func49, Tryz.ntmps49
  go_wp2
  go_loopw [0, 3] (fun q v wr => ∃ (k : Nat) (t : Int) (ys : List Int), q = .int .i64 t ∧ 0 ≤ t ∧ t ≤ 255 ∧ k ≤ 1 ∧ (0 < t → k = 0) ∧ Hid (ys.length = k) ∧ Byt ys ∧ wr.ownsRow w.heap.size 5 1 v k (ys.map (Value.int .u8)) ∧ Below w.heap.size w wr) (fun q _ _ => (intOf q).toNat)
  case atStart => exact ⟨0, v, [], rfl, v0, v1, by omega, fun _ => rfl, rfl, byt_nil, hown0, hal⟩
  case round =>
    obtain ⟨k, t, ys, rfl, ht0, ht1, hk1, hk0, hyl, hyb, hown, hN⟩ := hrel
    have hob := hown.lt
    by_cases hlt : 0 < t
    · have hk := hk0 hlt
      subst hk
      have m1 : t % 256 = t := by omega
      have m2 : t / 256 = 0 := by omega
      clear hk0 hk1
      go_wp2_with (at_builtin; refine wpList_append_own _ rfl _ _ 22 rfl w.heap.size 5 i0 (.int .u8 0) 1 1 Tryz.underlying22 hi hz0 hz1 hz2 rfl (by decide) _ 0 (ys.map (Value.int .u8)) rfl (hown.alloc _) ⟨wr.heap.size, 0, none⟩ 1 1 [.int .u8 t] rfl rfl ?c1 ?c2 ?c3 ?c4 ?c5 ?_)
      case c1 =>
        intro j u hj
        match j, hj with
        | 0, hj => simp at hj; subst hj; simp [Addr.add]
      case c2 => intro u hu; simp at hu; subst hu; rfl
      case c3 => unfold maxLen; omega
      case c4 => omega
      case c5 => simp; have := hN.size; omega
      · intro v' w2 hown2 hgrow _
        have nA : Below w.heap.size w (wr.alloc (.cells #[.int .u8 t] 5)) := hN.alloc hN.size _
        have N2 : Below w.heap.size w w2 := nA.grown hgrow (by simp; have := hN.size; omega) (fun i hi => (hob i hi).1)
        have hown3 : w2.ownsRow w.heap.size 5 1 v' 1 ((ys ++ [t]).map (Value.int .u8)) := by simpa using hown2
        have hl3 : Hid ((ys ++ [t]).length = 1) := by show _ = _; have := hyl.out; simp; exact List.eq_nil_of_length_eq_zero this
        have hb3 := byt_snoc hyb t ht0 (by omega)
        clear hown hown2 hgrow nA hob
        go_wp2
        go_roundw
        case rel => exact ⟨1, t / 256, ys ++ [t], rfl, by omega, by omega, by omega, fun h => absurd h (by omega), hl3, hb3, hown3, N2⟩
        case measure => simp [intOf]; omega
    · obtain rfl : t = 0 := by omega
      have hown' := hown
      rw [← hyl.out] at hown'
      obtain ⟨a', c', g', hv, o1, o2, o3, o4⟩ := Own.of_ownsRow hown'
      subst hv
      have L : ys.length ≤ 1 := by rw [hyl.out]; exact hk1
      have T := l1Turn_any6 wr g' a' c' ys o1.rd hyb (by omega)
      have HT := hide T
      clear hown hown' hk0 T
      go_wp2_with fail
      refine (unhide HT).mono ?_
      rintro e w3 ⟨zs, zt, zb, ⟨a3, c3, g3, rfl, o31, o32, o33, o34⟩, n3⟩
      have zl := zt.1
      clear zt
      have N3 := nxt hN n3
      have sz := hN.size
      have ZL : zs.length ≤ 1 := by omega
      clear zl
      go_wp2
      go_ret
      exact ⟨zs, ZL, zb, ⟨_, _, g3, rfl, o31, o32, o33, by omega⟩, N3⟩
end Go.Proofs.YtkpomobhjkikeaaGreatDoor
namespace Go.Proofs.YtkpomobhjkikeaaGreatDoor
set_option maxRecDepth 100000
open Go.RowKit
theorem append_none (w : World) (ad : Addr) (n c : Nat) (h : n ≤ c) : (Builtin.append_ #[22, 3] 22 #[.slice (some ad) n c, .int .i64 0]).run Tryz.prog w = .ok (.slice (some ad) n c) w := by
  obtain ⟨i0, hi, hz0, _, hz2⟩ := info_parts Tryz.info5
  have hw : IntKind.i64.wrap 0 = 0 := by decide
  simp [Builtin.append_, run_underlying Tryz.underlying22, run_underlying Tryz.underlying3, sizeOf, typeInfo, zeroValue, hi, hz0, hz2, asInt, asIntOf, hw, h, storeCells]
set_option maxHeartbeats 1000000 in
theorem l1Shift1_any (w : World) (g : Nat) (a : Option Addr) (c : Nat) (xs : List Int) (ha : Rd w g a .u8 xs) (hb : Byt xs) (hc : a = none → c = 0) (hl : xs.length ≤ 64) (h0 : 0 < xs.length) :
    Calls Tryz.prog 53 #[.slice a xs.length c, .int .i64 1] w fun e w' => ∃ ys, Canon ys (bval xs * 2) ∧ NewRow w.heap.size w' e .u8 ys ∧ Below w.heap.size w w' := by
  go_enter Tryz.func53, Tryz.ntmps53
  go_wp2_with fail
  refine (l1Copy_any w g a c xs ha hc (by omega)).mono ?_
  rintro e w1 ⟨⟨a1, c1, g1, rfl, o1, p1, q1, r1⟩, n1⟩
  obtain ⟨off, rfl, _⟩ := o1 h0
  have hap := append_none w1 ⟨g1, off, none⟩ xs.length c1 q1
  go_wp2_with (at_builtin; refine Lib.wpList_append_run _ rfl _ _ 22 3 rfl _ _ rfl rfl _ _ hap ?_)
  have n2 : Below w1.heap.size w1 (w1.alloc (.cells #[.int .u8 2] 5)) := (Below.refl _ _).alloc (Nat.le_refl _) _
  have B2 : Blk (w1.alloc (.cells #[.int .u8 2] 5)) w1.heap.size .u8 [2] := ⟨5, by rw [heap_alloc_last]; rfl⟩
  generalize w1.alloc (.cells #[.int .u8 2] 5) = w2 at *
  have hb2 : Byt [2] := fun i => by
    match i with
    | 0 => decide
    | i + 1 => simp
  refine (l1Mul_any w2 g1 _ _ _ c1 1 xs [2] (o1.up n2).rd B2.own0.rd hb hb2 (by omega) (by decide)).mono ?_
  rintro e w3 ⟨ys, C, ⟨a3, c3, g3, rfl, o3, p3, q3, r3⟩, n3⟩
  have N3 := nxt (nxt n1 n2) n3
  have z := (nxt n1 n2).size
  clear hap
  go_wp2
  go_ret
  exact ⟨ys, C, ⟨a3, c3, g3, rfl, o3, p3, q3, by omega⟩, N3⟩
set_option maxHeartbeats 1000000 in
theorem lw32_any6 (w : World) (g : Nat) (a : Option Addr) (c : Nat) (xs : List Int) (ha : Rd w g a .u8 xs) :
    Calls Tryz.prog 19 #[.slice a xs.length c] w fun e w' => e = .returned (.slice (some ⟨w.heap.size, 0, none⟩) 32 32) ∧ Blk w' w.heap.size .u8 (to32 xs) ∧ Below w.heap.size w w' := by
  obtain ⟨i0, hi, hz0, hz1, hz2⟩ := info_parts Tryz.info5
  have hsz : (Tryz.prog.info? 5).map (·.size) = some 1 := by rw [hi]; simp [hz1]
  go_enter Tryz.func19, Tryz.ntmps19
  go_wp2_with (at_make; refine wpList_make_full _ rfl _ _ 22 rfl w.heap.size 5 i0 (.int .u8 0) 1 Tryz.underlying22 hi hz0 hz1 .i64 .i64 _ _ 32 rfl rfl rfl rfl (by rw [hz2]; omega) (by unfold maxLen; omega) (Nat.le_refl _) ?_; intro w1 hown hgrow)
  have hB := Blk.of_made hown
  have hN : Below w.heap.size w w1 := (Below.refl _ _).grown hgrow (Nat.le_refl _) (by simp)
  obtain ⟨w2, hrun, hB2, hO⟩ := copy_min (P := Tryz.prog) w1 22 3 5 Tryz.underlying22 hsz hB g a xs (ha.up hN) 32 c
  rw [List.length_replicate] at hrun
  have hN2 := hN.trans (hO.below (Nat.le_refl _))
  rw [hrun]
  clear hown hgrow hB hN hO hrun
  go_wp2
  go_ret
  exact ⟨rfl, hB2, hN2⟩
end Go.Proofs.YtkpomobhjkikeaaGreatDoor
namespace Go.Proofs.YtkpomobhjkikeaaGreatDoor
set_option maxRecDepth 100000
open Go.RowKit
set_option maxHeartbeats 400000 in
theorem l1Same_same6 (w : World) (g g' : Nat) (a b : Option Addr) (ca cb : Nat) (xs : List Int) (ha : Rd w g a .u8 xs) (hb : Rd w g' b .u8 xs) :
    Calls Tryz.prog 115 #[.slice a xs.length ca, .slice b xs.length cb] w fun e w' => e = .returned (.bool true) ∧ w' = w := by
  have h1 := conv_run6 w g a ca xs ha
  have h2 := conv_run6 w g' b cb xs hb
  generalize str xs = s at *
  go_enter Tryz.func115, Tryz.ntmps115
  go_wp2
  go_ret
  exact ⟨by simp, rfl⟩
set_option maxHeartbeats 1000000 in
theorem l1Same_diff6 (w : World) (g g' : Nat) (a b : Option Addr) (ca cb : Nat) (xs ys : List Int) (ha : Rd w g a .u8 xs) (hb : Rd w g' b .u8 ys) (hx : Byt xs) (hy : Byt ys) (hne : xs ≠ ys) :
    Calls Tryz.prog 115 #[.slice a xs.length ca, .slice b ys.length cb] w fun e w' => e = .returned (.bool false) ∧ w' = w := by
  have h1 := conv_run6 w g a ca xs ha
  have h2 := conv_run6 w g' b cb ys hb
  have h3 : str xs ≠ str ys := fun h => hne (str_inj hx hy h)
  clear hne
  generalize str xs = s at *
  generalize str ys = t at *
  have H3 := hide h3
  clear h3
  go_enter Tryz.func115, Tryz.ntmps115
  go_wp2
  go_ret
  have e : (s.toList == t.toList) = false := by
    cases h : (s.toList == t.toList)
    · rfl
    · exact absurd (toList_inj (beq_iff_eq.1 h)) H3.out
  exact ⟨by rw [← e]; rfl, rfl⟩
theorem l1Same_any6 (w : World) (g g' : Nat) (a b : Option Addr) (ca cb : Nat) (xs ys : List Int) (ha : Rd w g a .u8 xs) (hb : Rd w g' b .u8 ys) (hx : Byt xs) (hy : Byt ys) :
    Calls Tryz.prog 115 #[.slice a xs.length ca, .slice b ys.length cb] w fun e w' => e = .returned (.bool (decide (xs = ys))) ∧ w' = w := by
  by_cases h : xs = ys
  · subst h
    simpa using l1Same_same6 w g g' a b ca cb xs ha hb
  · have := l1Same_diff6 w g g' a b ca cb xs ys ha hb hx hy h
    simpa [h] using this
theorem byt_inj {x y : Int} (hx : 0 ≤ x ∧ x < PP) (hy : 0 ≤ y ∧ y < PP) (h : fill (byt x) 32 = fill (byt y) 32) : x = y := by
  have hb : ∀ i, i < 32 → byt x i = byt y i := fun i hi => by
    rw [← fill_get (byt x) 32 i hi, h, fill_get _ _ _ hi]
  have key : ∀ n, n ≤ 32 → x % 256 ^ n = y % 256 ^ n := by
    intro n
    induction n with
    | zero => intro _; simp
    | succ n ih =>
      intro hn
      have h1 := ih (by omega)
      have h2 := hb n (by omega)
      unfold byt at h2
      have s : ∀ z : Int, z % 256 ^ (n + 1) = z % 256 ^ n + 256 ^ n * (z / 256 ^ n % 256) := fun z => by
        have hA : (0 : Int) ≤ 256 ^ n := Int.le_of_lt (p256_pos n)
        have e1 := Int.emod_def z (256 ^ n * 256)
        rw [← Int.ediv_ediv_of_nonneg hA] at e1
        have e2 := Int.emod_def z (256 ^ n)
        have e3 := Int.emod_def (z / 256 ^ n) 256
        rw [Int.pow_succ, e1, e2, e3]
        generalize z / 256 ^ n / 256 = u
        generalize z / 256 ^ n = v
        generalize (256 : Int) ^ n = p
        grind
      rw [s, s, h1, h2]
  have h32 := key 32 (by omega)
  have e : (256 : Int) ^ 32 = 115792089237316195423570985008687907853269984665640564039457584007913129639936 := by decide
  rw [e] at h32
  have hx' : 0 ≤ x ∧ x < 57896044618658097711785492504343953926634992332820282019728792003956564819949 := hx
  have hy' : 0 ≤ y ∧ y < 57896044618658097711785492504343953926634992332820282019728792003956564819949 := hy
  omega
end Go.Proofs.YtkpomobhjkikeaaGreatDoor
namespace Go.Proofs.YtkpomobhjkikeaaGreatDoor
set_option maxRecDepth 100000
open Go.RowKit
theorem rng16 {W : World} {g : Nat} {f : Nat → Int} (h : Blk W g .i64 (ls16 f)) : W.rangeAt g 0 (a16 f).toList := by
  intro j v hv
  have hj : j < 16 := by
    have := (List.getElem?_eq_some_iff.1 hv).1
    simpa [ls16] using this
  have e : (a16 f).toList[j]? = some (Value.int .i64 (f j)) := by
    simp [ls16, hj]
  rw [e] at hv
  cases hv
  rw [Nat.zero_add, h.cell (by rw [ls16_len]; exact hj), ls16_get _ hj]
theorem bytP (v : Int) : Byt (fill (byt (v % PP)) 32) := by
  intro i
  by_cases hi : i < 32
  · rw [fill_get _ _ _ hi]; unfold byt; omega
  · rw [List.getD_eq_getElem?_getD, List.getElem?_eq_none (by rw [fill_len]; omega)]; simp
set_option maxHeartbeats 4000000 in
theorem l2Same_any (w : World) (f h : Nat → Int) (hf : L16 f) (hh : L16 h) :
    Calls Tryz.prog 97 #[ag16 f, ag16 h] w fun r w' => r = .returned (.bool (decide (s16 f 16 % PP = s16 h 16 % PP))) ∧ Below w.heap.size w w' := by
  show Calls Tryz.prog 97 #[.agg (a16 f), .agg (a16 h)] w fun r w' => r = .returned (.bool (decide (s16 f 16 % PP = s16 h 16 % PP))) ∧ Below w.heap.size w w'
  have B0 : Blk (w.alloc (.cells (a16 f) 128)) w.heap.size .i64 (ls16 f) := blk16 w 128 f
  have n0 : Below w.heap.size w (w.alloc (.cells (a16 f) 128)) := (Below.refl _ _).alloc (Nat.le_refl _) _
  have s0 : (w.alloc (.cells (a16 f) 128)).heap.size = w.heap.size + 1 := by simp
  have B1 : ∀ w : World, Blk (w.alloc (.cells (a16 h) 128)) w.heap.size .i64 (ls16 h) := fun w => blk16 w 128 h
  have n1 : ∀ w : World, Below w.heap.size w (w.alloc (.cells (a16 h) 128)) := fun w => (Below.refl _ _).alloc (Nat.le_refl _) _
  have u50' := Go.Proofs.YtkpomobhjkikeaaGreatDoor.u50
  have iA : (Tryz.prog.info? 128).map (·.size) = some (a16 f).toList.length := by
    have : (a16 f).toList.length = 16 := by simp [ls16]
    rw [this]; exact i50
  have iB : (Tryz.prog.info? 128).map (·.size) = some (a16 h).toList.length := by
    have : (a16 h).toList.length = 16 := by simp [ls16]
    rw [this]; exact i50
  have BYA := fun W => l2Bytes_any W f hf
  have BYB := fun W => l2Bytes_any W h hh
  have YA := bytP (s16 f 16)
  have YB := bytP (s16 h 16)
  have EQ : Hid (decide (fill (byt (s16 f 16 % PP)) 32 = fill (byt (s16 h 16 % PP)) 32) = decide (s16 f 16 % PP = s16 h 16 % PP)) := by
    show _ = _
    by_cases e : s16 f 16 % PP = s16 h 16 % PP
    · rw [e]; simp
    · rw [decide_eq_false e, decide_eq_false]
      exact fun k => e (byt_inj ⟨Int.emod_nonneg _ (by decide), Int.emod_lt_of_pos _ (by decide)⟩ ⟨Int.emod_nonneg _ (by decide), Int.emod_lt_of_pos _ (by decide)⟩ k)
  obtain ⟨db, hdb⟩ : ∃ b, b = decide (s16 f 16 % PP = s16 h 16 % PP) := ⟨_, rfl⟩
  rw [← hdb] at EQ ⊢
  clear hdb
  generalize fill (byt (s16 f 16 % PP)) 32 = xs at *
  generalize fill (byt (s16 h 16 % PP)) 32 = ys at *
  have RB := fun (W : World) (b : Blk W (w.heap.size + 1) .i64 (ls16 h)) => rng16 b
  have RA := fun (W : World) (b : Blk W w.heap.size .i64 (ls16 f)) => rng16 b
  simp only [show ag16 f = .agg (a16 f) from rfl] at BYA
  simp only [show ag16 h = .agg (a16 h) from rfl] at BYB
  generalize a16 f = A at *
  generalize a16 h = B at *
  go_enter Tryz.func97, Tryz.ntmps97
  go_upto_region 1 with fail
  generalize w.alloc (.cells A 128) = wa at *
  have B1' := B1 wa
  have n1' := n1 wa
  rw [s0] at B1'
  generalize wa.alloc (.cells B 128) = wn at *
  have E0 := B0.up n1'
  have N := nxt n0 n1'
  clear B1 n1 B0 n0 n1' s0
  have CE : Hid (∀ W, Below wn.heap.size wn W → W.rangeAt w.heap.size 0 A.toList ∧ W.rangeAt (w.heap.size + 1) 0 B.toList) := fun W n => ⟨RA W (E0.up n), RB W (B1'.up n)⟩
  have CA : Hid (∀ W, Below wn.heap.size wn W → Calls Tryz.prog 74 #[.agg A] W fun r w' => ∃ a c g, r = .returned (.slice a xs.length c) ∧ Own w' g a .u8 xs ∧ Below wn.heap.size wn w' ∧ Below W.heap.size W w') := by
    intro W n
    refine (BYA W).mono ?_
    rintro r w' ⟨⟨a, c, g, he, o, _, _, _⟩, n'⟩
    exact ⟨a, c, g, he, o, nxt n n', n'⟩
  have CB : Hid (∀ W, Below wn.heap.size wn W → Calls Tryz.prog 74 #[.agg B] W fun r w' => ∃ a c g, r = .returned (.slice a ys.length c) ∧ Own w' g a .u8 ys ∧ Below wn.heap.size wn w' ∧ Below W.heap.size W w') := by
    intro W n
    refine (BYB W).mono ?_
    rintro r w' ⟨⟨a, c, g, he, o, _, _, _⟩, n'⟩
    exact ⟨a, c, g, he, o, nxt n n', n'⟩
  have CS : Hid (∀ W g g' a b ca cb, Below wn.heap.size wn W → Own W g a .u8 xs → Own W g' b .u8 ys → Calls Tryz.prog 115 #[.slice a xs.length ca, .slice b ys.length cb] W fun r w' => r = .returned (.bool db) ∧ Below wn.heap.size wn w') := by
    intro W g g' a b ca cb n o o'
    refine (l1Same_any6 W g g' a b ca cb xs ys o.rd o'.rd YA YB).mono ?_
    rintro r w' ⟨rfl, rfl⟩
    exact ⟨by rw [EQ.out], n⟩
  have nd : Below wn.heap.size wn wn.drew := (Below.refl _ _).drew
  clear BYA BYB RA RB E0 B1'
  refine wp_region_held_drew (S := fun W => W.rangeAt w.heap.size 0 A.toList ∧ W.rangeAt (w.heap.size + 1) 0 B.toList) (by kernel_rfl) ((unhide CE) _ nd) (fun hH => ?_)
  refine wpAnyH_take (i := 0) (v := .agg A.toList.toArray) rfl (by kernel_rfl) (by kernel_rfl) (by kernel_rfl) (fun _ _ _ h => h) (yieldsIf_load_mid (by rfl) 128 (.tmp 2) rfl w.heap.size 0 rfl A.toList (.array 16 2) (fun W h => h.1) u50' rfl iA) hH ?_
  simp only [Act.put, List.setIfInBounds_toArray]
  refine wpAnyH_take (i := 2) (v := .agg B.toList.toArray) rfl (by kernel_rfl) (by kernel_rfl) (by kernel_rfl) (fun _ _ _ h => h) (yieldsIf_load_mid (by rfl) 128 (.tmp 3) rfl (w.heap.size + 1) 0 rfl B.toList (.array 16 2) (fun W h => h.2) u50' rfl iB) hH ?_
  simp only [Act.put]
  refine wpAnyH_ready (rs := [1]) (by kernel_rfl) (by simp) ?_
  refine AllReadyH.cons rfl (fun K1 hK1 => ?_) AllReadyH.nil
  go_simp
  go_at_call 74
  refine ((unhide CA) _ nd).mono ?_
  rintro r wA ⟨aA, cA, gA, rfl, oA, nA, nA'⟩
  go_wp2_with fail
  refine hK1.out _ _ ((unhide CE) _ nA) (fun hH1 => ?_)
  clear hK1
  refine wpAnyH_ready (rs := [3]) (by kernel_rfl) (by simp) ?_
  refine AllReadyH.cons rfl (fun K2 hK2 => ?_) AllReadyH.nil
  go_simp
  go_at_call 74
  refine ((unhide CB) _ nA).mono ?_
  rintro r wB ⟨aB, cB, gB, rfl, oB, nB, nB'⟩
  go_wp2_with fail
  refine hK2.out _ _ ((unhide CE) _ nB) (fun hH2 => ?_)
  clear hK2
  refine wpAnyH_ready (rs := [4]) (by kernel_rfl) (by simp) ?_
  refine AllReadyH.cons rfl (fun K3 hK3 => ?_) AllReadyH.nil
  go_simp
  go_at_call 115
  refine ((unhide CS) _ gA gB aA aB cA cB nB (oA.up nB') oB).mono ?_
  rintro r wS ⟨rfl, nS⟩
  go_wp2_with fail
  refine hK3.out _ _ ((unhide CE) _ nS) (fun hH3 => ?_)
  clear hK3
  refine wpAnyH_ready (rs := [5]) (by kernel_rfl) (by simp) ?_
  refine AllReadyH.cons rfl (fun K4 hK4 => ?_) AllReadyH.nil
  go_simp
  refine hK4.out _ _ ((unhide CE) _ nS) (fun hH4 => ?_)
  clear hK4
  refine wpAnyH_done (by kernel_rfl) ?_ _
  have NS := nxt N nS
  clear CA CB CS CE hH hH1 hH2 hH3 hH4
  go_wp2
  go_ret
  exact ⟨rfl, NS⟩
end Go.Proofs.YtkpomobhjkikeaaGreatDoor
