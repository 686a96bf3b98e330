import Derived.Test.YtbhmhkimddjhaaaDoorGG49
import Derived.Test.YtbhmhkimddjhaaaDoorGG17
/-
  Six lists of thirty-two drawn bytes.
-/
namespace Go.Proofs.YtbhmhkimddjhaaaDoor
set_option maxRecDepth 100000
open Go Go.RowKit

theorem lw32M_any (w : World) (g : Nat) (a : Option Addr) (c : Nat) (xs : List Int) (ha : Rd w g a .u8 xs) :
    Calls Tryd.prog 24 #[.slice a xs.length c] w fun e w' => e = .returned (.slice (some ⟨w.heap.size, 0, none⟩) (to32 xs).length 32) ∧ Blk w' w.heap.size .u8 (to32 xs) ∧ Below w.heap.size w w' := by
  rw [to32_len]
  exact lw32_any w g a c xs ha
theorem cell_new (w : World) (cs : Array Value) (t : TypeId) (i : Nat) (v : Value) (h : cs[i]? = some v) : (w.alloc (.cells cs t)).cell? ⟨w.heap.size, i, none⟩ = some v := by
  have e : (w.alloc (.cells cs t)).heap[w.heap.size]? = some (.cells cs t) := heap_alloc_last _ _
  unfold World.cell?
  simp only
  rw [e]
  exact h
theorem Own.al {W : World} {g : Nat} {a : Option Addr} {k : IntKind} {xs : List Int} (h : Own W g a k xs) (o : Obj) : Own (W.alloc o) g a k xs := h.up ((Below.refl _ _).alloc (Nat.le_refl _) _)
/-- The first three of them. -/
def Six (w : World) (e : Ending) (w' : World) : Prop := ∃ (q g1 g2 g3 : Nat) (X Y Z : List Int), e = .returned (.slice (some ⟨q, 0, none⟩) 6 6) ∧ w'.cell? ⟨q, 0, none⟩ = some (.slice (some ⟨g1, 0, none⟩) X.length 32) ∧ w'.cell? ⟨q, 1, none⟩ = some (.slice (some ⟨g2, 0, none⟩) Y.length 32) ∧ w'.cell? ⟨q, 2, none⟩ = some (.slice (some ⟨g3, 0, none⟩) Z.length 32) ∧
  Own w' g1 (some ⟨g1, 0, none⟩) .u8 X ∧ Own w' g2 (some ⟨g2, 0, none⟩) .u8 Y ∧ Own w' g3 (some ⟨g3, 0, none⟩) .u8 Z ∧ Hid ((Byt X ∧ X.length = 32) ∧ (Byt Y ∧ Y.length = 32) ∧ (Byt Z ∧ Z.length = 32)) ∧ Below w.heap.size w w'

set_option maxHeartbeats 4000000 in
theorem lwSix_any (w : World) (g g' : Nat) (a b : Option Addr) (ca cb : Nat) (code more : List Int) (hc : Rd w g a .u8 code) (hm : Rd w g' b .u8 more) (bc : Byt code) (bm : Byt more) (lc : code.length ≤ 1048576) (lm : more.length ≤ 1048576) :
    Calls Tryd.prog 43 #[.slice a code.length ca, .slice b more.length cb] w fun e w' => Six w e w' := by
  go_enter Tryd.func43, Tryd.ntmps43
  go_wp2_with fail
  refine (drawFieldMul_any w g a ca code hc bc lc).mono ?_
  rintro e w1 ⟨a1, a2, c1, c2, g1, g2, x1, x2, rfl, o1, o2, b1, b2, n1⟩
  go_wp2_with fail
  refine (drawFieldMul_any w1 g' b cb more (hm.up n1) bm lm).mono ?_
  rintro e w2 ⟨a3, a4, c3, c4, g3, g4, x3, x4, rfl, o3, o4, b3, b4, n2⟩
  have N2 := nxt n1 n2
  go_wp2_with fail
  refine (drawLadder_any w2 g a ca code (hc.up N2) bc lc).mono ?_
  rintro e w3 ⟨a5, a6, c5, c6, g5, g6, x5, x6, rfl, o5, o6, b5, b6, n3⟩
  have N3 := nxt N2 n3
  replace o1 := (o1.up n2).up n3
  replace o2 := (o2.up n2).up n3
  replace o3 := o3.up n3
  replace o4 := o4.up n3
  clear n1 n2 n3 N2
  go_wp2_with fail
  refine (lw32M_any w3 g1 a1 c1 x1 o1.rd).mono ?_
  rintro e w4 ⟨rfl, B4, n4⟩
  go_wp2_with fail
  refine (lw32M_any w4 g2 a2 c2 x2 (o2.up n4).rd).mono ?_
  rintro e w5 ⟨rfl, B5, n5⟩
  go_wp2_with fail
  refine (lw32M_any w5 g3 a3 c3 x3 ((o3.up n4).up n5).rd).mono ?_
  rintro e w6 ⟨rfl, B6, n6⟩
  have M6 := nxt (nxt n4 n5) n6
  have P4 := (B4.up n5).up n6
  have P5 := B5.up n6
  have N6 := nxt N3 M6
  replace o4 := o4.up M6
  replace o5 := o5.up M6
  replace o6 := o6.up M6
  have HB := hide (show (Byt (to32 x1) ∧ (to32 x1).length = 32) ∧ (Byt (to32 x2) ∧ (to32 x2).length = 32) ∧ (Byt (to32 x3) ∧ (to32 x3).length = 32) from ⟨⟨to32_byt b1, to32_len _⟩, ⟨to32_byt b2, to32_len _⟩, to32_byt b3, to32_len _⟩)
  generalize to32 x1 = X at *
  generalize to32 x2 = Y at *
  generalize to32 x3 = Z at *
  clear o1 o2 o3 b1 b2 b3 B4 B5 n4 n5 n6 M6 N3
  obtain ⟨q1, h1⟩ : ∃ q, q = w3.heap.size := ⟨_, rfl⟩
  obtain ⟨q2, h2⟩ : ∃ q, q = w4.heap.size := ⟨_, rfl⟩
  obtain ⟨q3, h3⟩ : ∃ q, q = w5.heap.size := ⟨_, rfl⟩
  rw [← h1] at P4 ⊢
  rw [← h2] at P5 ⊢
  rw [← h3] at B6 ⊢
  clear h1 h2 h3
  go_wp2_with fail
  refine (lw32M_any w6 g4 a4 c4 x4 o4.rd).mono ?_
  rintro e w7 ⟨rfl, -, n7⟩
  go_wp2_with fail
  refine (lw32M_any w7 g5 a5 c5 x5 (o5.up n7).rd).mono ?_
  rintro e w8 ⟨rfl, -, n8⟩
  go_wp2_with fail
  refine (lw32M_any w8 g6 a6 c6 x6 ((o6.up n7).up n8).rd).mono ?_
  rintro e w9 ⟨rfl, -, n9⟩
  have M9 := nxt (nxt n7 n8) n9
  have O4 := (P4.up M9).own0
  have O5 := (P5.up M9).own0
  have O6 := (B6.up M9).own0
  have N9 := nxt N6 M9
  clear P4 P5 B6 N6 M9 n7 n8 n9 o4 o5 o6
  go_wp2
  go_ret
  exact ⟨w9.heap.size, q1, q2, q3, X, Y, Z, rfl, cell_new _ _ _ 0 _ rfl, cell_new _ _ _ 1 _ rfl, cell_new _ _ _ 2 _ rfl, O4.al _, O5.al _, O6.al _, HB, N9.alloc N9.size _⟩
end Go.Proofs.YtbhmhkimddjhaaaDoor
/-
  The program's difference of two elements.
-/
namespace Go.Proofs.YtbhmhkimddjhaaaDoor
set_option maxRecDepth 100000
open Go.RowKit

/-- Twice the prime, in limbs. -/
def twP (j : Nat) : Int := if j = 0 then 4503599627370458 else 4503599627370494
/-- Limbs of a difference. -/
def subU (e f : Nat → Int) (j : Nat) : Int := if j < 5 then e j + twP j - f j else 0
theorem sub_ok {e f : Nat → Int} (he : Lm e) (hf : Lm f) : (∀ j, 0 ≤ subU e f j ∧ subU e f j < 9223372036854775808) ∧ sv (stl (subU e f)) 5 = (sv e 5 - sv f 5) % PP ∧ Lm (stl (subU e f)) := by
  have b : ∀ j, 0 ≤ subU e f j ∧ subU e f j < 9223372036854775808 := fun j => by
    unfold subU twP
    split
    · have := he j (by omega); have := hf j (by omega)
      split <;> omega
    · omega
  obtain ⟨h1, h2⟩ := stl_ok b
  refine ⟨b, ?_, h1⟩
  rw [h2]
  have e1 : sv (subU e f) 5 = sv e 5 - sv f 5 + 57896044618658097711785492504343953926634992332820282019728792003956564819949 * 2 := by
    simp [sv, subU, twP]
    omega
  rw [e1]
  exact Int.add_mul_emod_self_left _ _ _

/-- Block g holds the package's twice-the-prime. -/
def HasTw (w : World) (g : Nat) : Prop := ∀ k, k < 5 → w.cell? ⟨g, k, none⟩ = some (.int .u64 (twP k))
theorem HasTw.of_block {w w' : World} {g : Nat} (h : HasTw w g) (hb : w'.heap[g]? = w.heap[g]?) : HasTw w' g := fun k hk => (World.cell?_of_block (a := ⟨g, k, none⟩) hb).trans (h k hk)
theorem HasTw.lt {w : World} {g : Nat} (h : HasTw w g) : g < w.heap.size := block_lt_of_cell (h 0 (by omega))
theorem HasTw.up {w w' : World} {g : Nat} (h : HasTw w g) (n : Below w.heap.size w w') : HasTw w' g := h.of_block (n.block g h.lt)

set_option maxHeartbeats 4000000 in
theorem sub_any (w : World) (e f : Nat → Int) (he : Lm e) (hf : Lm f) (hT : HasTw w 5) :
    Calls Tryd.prog 86 #[ag5 e, ag5 f] w fun r w' => r = .returned (ag5 (stl (subU e f))) ∧ Below w.heap.size w w' := by
  have tl := hT.lt
  have B0 := blk_box w .u64 76 (e 0) (e 1) (e 2) (e 3) (e 4)
  have n0 : Below w.heap.size w (w.alloc (.cells #[.int .u64 (e 0), .int .u64 (e 1), .int .u64 (e 2), .int .u64 (e 3), .int .u64 (e 4)] 76)) := (Below.refl _ _).alloc (Nat.le_refl _) _
  have s0 : (w.alloc (.cells #[.int .u64 (e 0), .int .u64 (e 1), .int .u64 (e 2), .int .u64 (e 3), .int .u64 (e 4)] 76)).heap.size = w.heap.size + 1 := by simp
  simp only [ag5]
  go_enter Tryd.func86, Tryd.ntmps86
  go_wp2
  generalize w.alloc (.cells #[.int .u64 (e 0), .int .u64 (e 1), .int .u64 (e 2), .int .u64 (e 3), .int .u64 (e 4)] 76) = wa at *
  have B1 := blk_box wa .u64 76 (f 0) (f 1) (f 2) (f 3) (f 4)
  have n1 : Below wa.heap.size wa (wa.alloc (.cells #[.int .u64 (f 0), .int .u64 (f 1), .int .u64 (f 2), .int .u64 (f 3), .int .u64 (f 4)] 76)) := (Below.refl _ _).alloc (Nat.le_refl _) _
  have s1 : (wa.alloc (.cells #[.int .u64 (f 0), .int .u64 (f 1), .int .u64 (f 2), .int .u64 (f 3), .int .u64 (f 4)] 76)).heap.size = w.heap.size + 1 + 1 := by simp [s0]
  generalize wa.alloc (.cells #[.int .u64 (f 0), .int .u64 (f 1), .int .u64 (f 2), .int .u64 (f 3), .int .u64 (f 4)] 76) = wb at *
  have B2 := blk_box wb .u64 76 0 0 0 0 0
  have n2 : Below wb.heap.size wb (wb.alloc (.cells #[.int .u64 0, .int .u64 0, .int .u64 0, .int .u64 0, .int .u64 0] 76)) := (Below.refl _ _).alloc (Nat.le_refl _) _
  have s2 : (wb.alloc (.cells #[.int .u64 0, .int .u64 0, .int .u64 0, .int .u64 0, .int .u64 0] 76)).heap.size = w.heap.size + 1 + 1 + 1 := by simp [s1]
  generalize wb.alloc (.cells #[.int .u64 0, .int .u64 0, .int .u64 0, .int .u64 0, .int .u64 0] 76) = wc at *
  have B3 := blk_box wc .u64 109 0 0 0 0 0
  have n3 : Below wc.heap.size wc (wc.alloc (.cells #[.int .u64 0, .int .u64 0, .int .u64 0, .int .u64 0, .int .u64 0] 109)) := (Below.refl _ _).alloc (Nat.le_refl _) _
  generalize wc.alloc (.cells #[.int .u64 0, .int .u64 0, .int .u64 0, .int .u64 0, .int .u64 0] 109) = wd at *
  have E0 := ((B0.up n1).up n2).up n3
  have E1 := (B1.up n2).up n3
  have E2 := B2.up n3
  have N := nxt (nxt (nxt n0 n1) n2) n3
  have T0 := hT.up N
  rw [s0] at E1
  rw [s1] at E2
  rw [s2] at B3
  clear B0 B1 B2 n0 n1 n2 n3 s0 s1 s2 hT
  go_loopw [7] (fun i wr => ∃ (k : Nat) (ys : List Int), k ≤ 5 ∧ i = .int .i64 k ∧ Upd (subU e f) (fun _ => 0) ys k ∧ Blk wr w.heap.size .u64 [e 0, e 1, e 2, e 3, e 4] ∧ Blk wr (w.heap.size + 1) .u64 [f 0, f 1, f 2, f 3, f 4] ∧ Blk wr (w.heap.size + 1 + 1) .u64 [0, 0, 0, 0, 0] ∧ Blk wr (w.heap.size + 1 + 1 + 1) .u64 ys ∧ HasTw wr 5 ∧ Below w.heap.size w wr) (fun i _ => 5 - (intOf i).toNat)
  case atStart => exact ⟨0, _, by omega, rfl, Upd.zero _ (fun _ => 0), E0, E1, E2, B3, T0, N⟩
  case round =>
    clear E0 E1 E2 B3 N T0
    obtain ⟨k, ys, hk, rfl, hU, hE, hF, hR, hB, hT, hN⟩ := hrel
    by_cases hlt : k < 5
    · have R := hU.step hlt
      have ce := hE.at5 hlt
      have cf := hF.at5 hlt
      have ct := hT k hlt
      have hcy := hB.cell (i := k) (by rw [hU.1]; exact hlt)
      have hfy := hB.free k
      have eb := he k hlt
      have fb := hf k hlt
      have tb : 4503599627370458 ≤ twP k ∧ twP k ≤ 4503599627370494 := by unfold twP; split <;> omega
      have k2 : (k : Int) < 5 := by omega
      have E : subU e f k = e k + twP k - f k := by unfold subU; rw [if_pos hlt]
      have S := hB.store k (e k + twP k - f k)
      have SE := hide (hE.keep (g' := w.heap.size + 1 + 1 + 1) (k := k) (v := .int .u64 (e k + twP k - f k)) (by omega))
      have SF := hide (hF.keep (g' := w.heap.size + 1 + 1 + 1) (k := k) (v := .int .u64 (e k + twP k - f k)) (by omega))
      have SR := hR.keep (g' := w.heap.size + 1 + 1 + 1) (k := k) (v := .int .u64 (e k + twP k - f k)) (by omega)
      have ST := hide (hT.of_block (w' := wr.setCell ⟨w.heap.size + 1 + 1 + 1, k, none⟩ (.int .u64 (e k + twP k - f k))) (heap_setCell_other wr ⟨w.heap.size + 1 + 1 + 1, k, none⟩ 5 _ (by show 5 ≠ w.heap.size + 1 + 1 + 1; omega)))
      have Sn : Below w.heap.size w (wr.setCell ⟨w.heap.size + 1 + 1 + 1, k, none⟩ (.int .u64 (e k + twP k - f k))) := hN.setCell (by show w.heap.size ≤ w.heap.size + 1 + 1 + 1; omega) _
      rw [E] at R
      have x1 : IntKind.u64.wrap (e k + twP k) = e k + twP k := by rw [IntKind.wrap_u64]; omega
      have x2 : IntKind.u64.wrap (e k + twP k - f k) = e k + twP k - f k := by rw [IntKind.wrap_u64]; omega
      clear hU hE hF hR hB hN he hf E hT
      generalize e k = x at *
      generalize f k = y at *
      generalize twP k = t at *
      go_wp2
      go_region
      go_wp2
      go_roundw
      case rel => exact ⟨k + 1, _, by omega, by go_num, R, SE.out.drew, SF.out.drew, SR.drew, S.drew, ST.out, Sn.drew⟩
      case measure => simp [intOf]; omega
    · obtain rfl : k = 5 := by omega
      have hy := hU.all
      subst hy
      have A := sub_ok he hf
      obtain ⟨⟨q0, q1, q2, q3, q4⟩, _⟩ := hB.f5
      go_wp2_with fail
      refine (settle_any wr (subU e f) A.1).mono ?_
      rintro r w1 ⟨rfl, n1⟩
      obtain ⟨⟨p0, p1, p2, p3, p4⟩, ⟨g0, g1, g2, g3, g4⟩⟩ := (hR.up n1).f5
      have N1 := nxt hN n1
      obtain ⟨t, ht⟩ : ∃ t, t = stl (subU e f) := ⟨_, rfl⟩
      have hT' : Hid (t = stl (subU e f)) := ht
      rw [← ht]
      clear hU hE hF hR hB hN A n1 q0 q1 q2 q3 q4 ht hT
      simp only [ag5]
      go_wp2
      exact bodyPost_ret (v := ag5 t) (by simp [ag5, results, Tryd.results86, go_sem, p0, p1, p2, p3, p4]) rfl ⟨by rw [hT'.out]; rfl, below_set5 N1 (by omega) _ _ _ _ _⟩
theorem subE_any (w : World) (e f : Nat → Int) (he : Lm e) (hf : Lm f) (hT : HasTw w 5) :
    Calls Tryd.prog 86 #[ag5 e, ag5 f] w fun r w' => ∃ t, r = .returned (ag5 t) ∧ Lm t ∧ sv t 5 = (sv e 5 - sv f 5) % PP ∧ Below w.heap.size w w' := by
  refine (sub_any w e f he hf hT).mono ?_
  rintro r w' ⟨rfl, n⟩
  obtain ⟨_, h2, h3⟩ := sub_ok he hf
  exact ⟨_, rfl, h3, h2, n⟩
end Go.Proofs.YtbhmhkimddjhaaaDoor
