import Derived.Test.YtbhmhkimddjhaaaDoorGR18
import Derived.Test.YtbhmhkimddjhaaaDoorGR35
import Derived.Test.YtbhmhkimddjhaaaDoorGR27
import Derived.Deep.DeepCutAuto
/-
  The program's difference of two elements.
-/
namespace Go.Proofs.YtbhmhkimddjhaaaDoor
set_option maxRecDepth 100000
open Go.RowKit

/-- Twice the prime, in limbs. -/
def twP (j : Nat) : Int := if j = 0 then 4503599627370458 else 4503599627370494
/-- Limbs of a difference. -/
def subU (e f : Nat → Int) (j : Nat) : Int := if j < 5 then e j + twP j - f j else 0
theorem sub_ok {e f : Nat → Int} (he : Lm e) (hf : Lm f) : (∀ j, 0 ≤ subU e f j ∧ subU e f j < 9223372036854775808) ∧ sv (stl (subU e f)) 5 = (sv e 5 - sv f 5) % PP ∧ Lm (stl (subU e f)) := by
  have b : ∀ j, 0 ≤ subU e f j ∧ subU e f j < 9223372036854775808 := fun j => by
    unfold subU twP
    split
    · have := he j (by omega); have := hf j (by omega)
      split <;> omega
    · omega
  obtain ⟨h1, h2⟩ := stl_ok b
  refine ⟨b, ?_, h1⟩
  rw [h2]
  have e1 : sv (subU e f) 5 = sv e 5 - sv f 5 + 57896044618658097711785492504343953926634992332820282019728792003956564819949 * 2 := by
    simp [sv, subU, twP]
    omega
  rw [e1]
  exact Int.add_mul_emod_self_left _ _ _

/-- Block g holds the package's twice-the-prime. -/
def HasTw (w : World) (g : Nat) : Prop := ∀ k, k < 5 → w.cell? ⟨g, k, none⟩ = some (.int .u64 (twP k))
theorem HasTw.of_block {w w' : World} {g : Nat} (h : HasTw w g) (hb : w'.heap[g]? = w.heap[g]?) : HasTw w' g := fun k hk => (World.cell?_of_block (a := ⟨g, k, none⟩) hb).trans (h k hk)
theorem HasTw.lt {w : World} {g : Nat} (h : HasTw w g) : g < w.heap.size := block_lt_of_cell (h 0 (by omega))
theorem HasTw.up {w w' : World} {g : Nat} (h : HasTw w g) (n : Below w.heap.size w w') : HasTw w' g := h.of_block (n.block g h.lt)

set_option maxHeartbeats 4000000 in
theorem sub_any (w : World) (e f : Nat → Int) (he : Lm e) (hf : Lm f) (hT : HasTw w 5) :
    Calls Tryd.prog 86 #[ag5 e, ag5 f] w fun r w' => r = .returned (ag5 (stl (subU e f))) ∧ Below w.heap.size w w' := by
  have tl := hT.lt
  have B0 := blk_box w .u64 76 (e 0) (e 1) (e 2) (e 3) (e 4)
  have n0 : Below w.heap.size w (w.alloc (.cells #[.int .u64 (e 0), .int .u64 (e 1), .int .u64 (e 2), .int .u64 (e 3), .int .u64 (e 4)] 76)) := (Below.refl _ _).alloc (Nat.le_refl _) _
  have s0 : (w.alloc (.cells #[.int .u64 (e 0), .int .u64 (e 1), .int .u64 (e 2), .int .u64 (e 3), .int .u64 (e 4)] 76)).heap.size = w.heap.size + 1 := by simp
  simp only [ag5]
  go_enter Tryd.func86, Tryd.ntmps86
  go_wp2
  generalize w.alloc (.cells #[.int .u64 (e 0), .int .u64 (e 1), .int .u64 (e 2), .int .u64 (e 3), .int .u64 (e 4)] 76) = wa at *
  have B1 := blk_box wa .u64 76 (f 0) (f 1) (f 2) (f 3) (f 4)
  have n1 : Below wa.heap.size wa (wa.alloc (.cells #[.int .u64 (f 0), .int .u64 (f 1), .int .u64 (f 2), .int .u64 (f 3), .int .u64 (f 4)] 76)) := (Below.refl _ _).alloc (Nat.le_refl _) _
  have s1 : (wa.alloc (.cells #[.int .u64 (f 0), .int .u64 (f 1), .int .u64 (f 2), .int .u64 (f 3), .int .u64 (f 4)] 76)).heap.size = w.heap.size + 1 + 1 := by simp [s0]
  generalize wa.alloc (.cells #[.int .u64 (f 0), .int .u64 (f 1), .int .u64 (f 2), .int .u64 (f 3), .int .u64 (f 4)] 76) = wb at *
  have B2 := blk_box wb .u64 76 0 0 0 0 0
  have n2 : Below wb.heap.size wb (wb.alloc (.cells #[.int .u64 0, .int .u64 0, .int .u64 0, .int .u64 0, .int .u64 0] 76)) := (Below.refl _ _).alloc (Nat.le_refl _) _
  have s2 : (wb.alloc (.cells #[.int .u64 0, .int .u64 0, .int .u64 0, .int .u64 0, .int .u64 0] 76)).heap.size = w.heap.size + 1 + 1 + 1 := by simp [s1]
  generalize wb.alloc (.cells #[.int .u64 0, .int .u64 0, .int .u64 0, .int .u64 0, .int .u64 0] 76) = wc at *
  have B3 := blk_box wc .u64 109 0 0 0 0 0
  have n3 : Below wc.heap.size wc (wc.alloc (.cells #[.int .u64 0, .int .u64 0, .int .u64 0, .int .u64 0, .int .u64 0] 109)) := (Below.refl _ _).alloc (Nat.le_refl _) _
  generalize wc.alloc (.cells #[.int .u64 0, .int .u64 0, .int .u64 0, .int .u64 0, .int .u64 0] 109) = wd at *
  have E0 := ((B0.up n1).up n2).up n3
  have E1 := (B1.up n2).up n3
  have E2 := B2.up n3
  have N := nxt (nxt (nxt n0 n1) n2) n3
  have T0 := hT.up N
  rw [s0] at E1
  rw [s1] at E2
  rw [s2] at B3
  clear B0 B1 B2 n0 n1 n2 n3 s0 s1 s2 hT
  go_loopw [7] (fun i wr => ∃ (k : Nat) (ys : List Int), k ≤ 5 ∧ i = .int .i64 k ∧ Upd (subU e f) (fun _ => 0) ys k ∧ Blk wr w.heap.size .u64 [e 0, e 1, e 2, e 3, e 4] ∧ Blk wr (w.heap.size + 1) .u64 [f 0, f 1, f 2, f 3, f 4] ∧ Blk wr (w.heap.size + 1 + 1) .u64 [0, 0, 0, 0, 0] ∧ Blk wr (w.heap.size + 1 + 1 + 1) .u64 ys ∧ HasTw wr 5 ∧ Below w.heap.size w wr) (fun i _ => 5 - (intOf i).toNat)
  case atStart => exact ⟨0, _, by omega, rfl, Upd.zero _ (fun _ => 0), E0, E1, E2, B3, T0, N⟩
  case round =>
    clear E0 E1 E2 B3 N T0
    obtain ⟨k, ys, hk, rfl, hU, hE, hF, hR, hB, hT, hN⟩ := hrel
    by_cases hlt : k < 5
    · have R := hU.step hlt
      have ce := hE.at5 hlt
      have cf := hF.at5 hlt
      have ct := hT k hlt
      have hcy := hB.cell (i := k) (by rw [hU.1]; exact hlt)
      have hfy := hB.free k
      have eb := he k hlt
      have fb := hf k hlt
      have tb : 4503599627370458 ≤ twP k ∧ twP k ≤ 4503599627370494 := by unfold twP; split <;> omega
      have k2 : (k : Int) < 5 := by omega
      have E : subU e f k = e k + twP k - f k := by unfold subU; rw [if_pos hlt]
      have S := hB.store k (e k + twP k - f k)
      have SE := hide (hE.keep (g' := w.heap.size + 1 + 1 + 1) (k := k) (v := .int .u64 (e k + twP k - f k)) (by omega))
      have SF := hide (hF.keep (g' := w.heap.size + 1 + 1 + 1) (k := k) (v := .int .u64 (e k + twP k - f k)) (by omega))
      have SR := hR.keep (g' := w.heap.size + 1 + 1 + 1) (k := k) (v := .int .u64 (e k + twP k - f k)) (by omega)
      have ST := hide (hT.of_block (w' := wr.setCell ⟨w.heap.size + 1 + 1 + 1, k, none⟩ (.int .u64 (e k + twP k - f k))) (heap_setCell_other wr ⟨w.heap.size + 1 + 1 + 1, k, none⟩ 5 _ (by show 5 ≠ w.heap.size + 1 + 1 + 1; omega)))
      have Sn : Below w.heap.size w (wr.setCell ⟨w.heap.size + 1 + 1 + 1, k, none⟩ (.int .u64 (e k + twP k - f k))) := hN.setCell (by show w.heap.size ≤ w.heap.size + 1 + 1 + 1; omega) _
      rw [E] at R
      have x1 : IntKind.u64.wrap (e k + twP k) = e k + twP k := by rw [IntKind.wrap_u64]; omega
      have x2 : IntKind.u64.wrap (e k + twP k - f k) = e k + twP k - f k := by rw [IntKind.wrap_u64]; omega
      clear hU hE hF hR hB hN he hf E hT
      generalize e k = x at *
      generalize f k = y at *
      generalize twP k = t at *
      go_wp2
      go_region
      go_wp2
      go_roundw
      case rel => exact ⟨k + 1, _, by omega, by go_num, R, SE.out.drew, SF.out.drew, SR.drew, S.drew, ST.out, Sn.drew⟩
      case measure => simp [intOf]; omega
    · obtain rfl : k = 5 := by omega
      have hy := hU.all
      subst hy
      have A := sub_ok he hf
      obtain ⟨⟨q0, q1, q2, q3, q4⟩, _⟩ := hB.f5
      go_wp2_with fail
      refine (settle_any wr (subU e f) A.1).mono ?_
      rintro r w1 ⟨rfl, n1⟩
      obtain ⟨⟨p0, p1, p2, p3, p4⟩, ⟨g0, g1, g2, g3, g4⟩⟩ := (hR.up n1).f5
      have N1 := nxt hN n1
      obtain ⟨t, ht⟩ : ∃ t, t = stl (subU e f) := ⟨_, rfl⟩
      have hT' : Hid (t = stl (subU e f)) := ht
      rw [← ht]
      clear hU hE hF hR hB hN A n1 q0 q1 q2 q3 q4 ht hT
      simp only [ag5]
      go_wp2
      exact bodyPost_ret (v := ag5 t) (by simp [ag5, results, Tryd.results86, go_sem, p0, p1, p2, p3, p4]) rfl ⟨by rw [hT'.out]; rfl, below_set5 N1 (by omega) _ _ _ _ _⟩
theorem subE_any (w : World) (e f : Nat → Int) (he : Lm e) (hf : Lm f) (hT : HasTw w 5) :
    Calls Tryd.prog 86 #[ag5 e, ag5 f] w fun r w' => ∃ t, r = .returned (ag5 t) ∧ Lm t ∧ sv t 5 = (sv e 5 - sv f 5) % PP ∧ Below w.heap.size w w' := by
  refine (sub_any w e f he hf hT).mono ?_
  rintro r w' ⟨rfl, n⟩
  obtain ⟨_, h2, h3⟩ := sub_ok he hf
  exact ⟨_, rfl, h3, h2, n⟩
end Go.Proofs.YtbhmhkimddjhaaaDoor
/-
  The program's root: negate, isEven, elements compared, root.
-/
namespace Go.Proofs.YtbhmhkimddjhaaaDoor
set_option maxRecDepth 100000
open Go.RowKit

/-- Block g holds these three numbers. -/
def Has3 (w : World) (g : Nat) (a b c : Int) : Prop := w.cell? ⟨g, 0, none⟩ = some (.int .i64 a) ∧ w.cell? ⟨g, 1, none⟩ = some (.int .i64 b) ∧ w.cell? ⟨g, 2, none⟩ = some (.int .i64 c)
theorem Has3.lt {w : World} {g : Nat} {a b c : Int} (h : Has3 w g a b c) : g < w.heap.size := block_lt_of_cell h.1
theorem Has3.up {w w' : World} {g : Nat} {a b c : Int} (h : Has3 w g a b c) (n : Below w.heap.size w w') : Has3 w' g a b c :=
  ⟨(World.cell?_of_block (a := ⟨g, 0, none⟩) (n.block g h.lt)).trans h.1, (World.cell?_of_block (a := ⟨g, 1, none⟩) (n.block g h.lt)).trans h.2.1, (World.cell?_of_block (a := ⟨g, 2, none⟩) (n.block g h.lt)).trans h.2.2⟩
/-- Block g holds these five limbs. -/
def Has5 (w : World) (g : Nat) (f : Nat → Int) : Prop := ∀ k, k < 5 → w.cell? ⟨g, k, none⟩ = some (.int .u64 (f k))
theorem Has5.lt {w : World} {g : Nat} {f : Nat → Int} (h : Has5 w g f) : g < w.heap.size := block_lt_of_cell (h 0 (by omega))
theorem Has5.up {w w' : World} {g : Nat} {f : Nat → Int} (h : Has5 w g f) (n : Below w.heap.size w w') : Has5 w' g f := fun k hk => (World.cell?_of_block (a := ⟨g, k, none⟩) (n.block g h.lt)).trans (h k hk)
/-- The limbs of the root of minus one. -/
def iL : Nat → Int
  | 0 => 1718705420411056
  | 1 => 234908883556509
  | 2 => 2233514472574048
  | 3 => 2117202627021982
  | 4 => 765476049583133
  | _ => 0
theorem iL_lm : Lm iL := by unfold Lm; decide
theorem iL_val : sv iL 5 = iM := by decide +kernel
/-- The tables that the root reads. -/
def HasR (w : World) : Prop := HasSt w 6 ∧ Has3 w 3 12 2 2 ∧ Has5 w 4 iL ∧ HasTw w 5
theorem HasR.up {w w' : World} (h : HasR w) (n : Below w.heap.size w w') : HasR w' := ⟨h.1.up n, h.2.1.up n, h.2.2.1.up n, h.2.2.2.up n⟩
theorem eRt_ok : exL.getD 12 0 * 2 ^ 2 + exL.getD 2 0 = eRt := by decide +kernel

def z5e (_ : Nat) : Int := 0
theorem z5e_lm : Lm z5e := fun j _ => by unfold z5e; omega
theorem z5e_val : sv z5e 5 = 0 := by simp [sv, z5e]
set_option maxHeartbeats 4000000 in
theorem negate_any (w : World) (e : Nat → Int) (he : Lm e) (hT : HasTw w 5) :
    Calls Tryd.prog 116 #[ag5 e] w fun r w' => ∃ t, r = .returned (ag5 t) ∧ Lm t ∧ sv t 5 = (0 - sv e 5) % PP ∧ Below w.heap.size w w' := by
  have n0 : Below w.heap.size w (w.alloc (.cells #[.int .u64 (e 0), .int .u64 (e 1), .int .u64 (e 2), .int .u64 (e 3), .int .u64 (e 4)] 76)) := (Below.refl _ _).alloc (Nat.le_refl _) _
  have n1 : Below w.heap.size w ((w.alloc (.cells #[.int .u64 (e 0), .int .u64 (e 1), .int .u64 (e 2), .int .u64 (e 3), .int .u64 (e 4)] 76)).alloc (.cells #[.int .u64 0, .int .u64 0, .int .u64 0, .int .u64 0, .int .u64 0] 76)) := n0.alloc (by simp) _
  have B1 : Blk ((w.alloc (.cells #[.int .u64 (e 0), .int .u64 (e 1), .int .u64 (e 2), .int .u64 (e 3), .int .u64 (e 4)] 76)).alloc (.cells #[.int .u64 0, .int .u64 0, .int .u64 0, .int .u64 0, .int .u64 0] 76)) (w.heap.size + 1) .u64 [0, 0, 0, 0, 0] := by
    have := blk_box (w.alloc (.cells #[.int .u64 (e 0), .int .u64 (e 1), .int .u64 (e 2), .int .u64 (e 3), .int .u64 (e 4)] 76)) .u64 76 0 0 0 0 0
    simpa using this
  have SU := fun W (h : Below w.heap.size w W) => subE_any W z5e e z5e_lm he (hT.up h)
  rw [z5e_val] at SU
  simp only [ag5, z5e] at SU ⊢
  clear hT
  go_enter Tryd.func116, Tryd.ntmps116
  go_wp2_with fail
  refine (SU _ n1).mono ?_
  rintro r w2 ⟨t, rfl, L, V, n2⟩
  have N2 := nxt n1 n2
  obtain ⟨⟨p0, p1, p2, p3, p4⟩, ⟨g0, g1, g2, g3, g4⟩⟩ := (B1.up n2).f5
  have V' := hide V
  clear SU n0 n1 n2 B1 V
  go_wp2
  exact bodyPost_ret (v := ag5 t) (by simp [ag5, results, Tryd.results116, go_sem, p0, p1, p2, p3, p4]) rfl ⟨t, rfl, L, V'.out, below_set5 N2 (by omega) _ _ _ _ _⟩

theorem and1u (x : Int) (h0 : 0 ≤ x) (h1 : x < 18446744073709551616) : bits BinOp.and IntKind.u64 x 1 = x % 2 := by
  obtain ⟨m, rfl⟩ := Int.eq_ofNat_of_zero_le h0
  have h := bits_and_u64_nat m 1 (by omega) (by omega)
  have e : m &&& 1 = m % 2 := Nat.and_two_pow_sub_one_eq_mod m 1
  rw [e] at h
  simpa using h
theorem even_lm {e : Nat → Int} : (sv e 5) % 2 = e 0 % 2 := by
  simp only [sv]
  omega
set_option maxHeartbeats 2000000 in
theorem isEven_any (w : World) (e : Nat → Int) (he : Lm e) :
    Calls Tryd.prog 117 #[ag5 e] w fun r w' => r = .returned (.bool (decide (sv e 5 % 2 = 0))) ∧ Below w.heap.size w w' := by
  have h0 := he 0 (by omega)
  have a1 := and1u (e 0) h0.1 (by omega)
  have K : Hid ((e 0 % 2 == 0) = decide (sv e 5 % 2 = 0)) := by
    show _ = _
    rw [even_lm]
    by_cases h : e 0 % 2 = 0 <;> simp [h]
  have hal : Below w.heap.size w (w.alloc (.cells #[.int .u64 (e 0), .int .u64 (e 1), .int .u64 (e 2), .int .u64 (e 3), .int .u64 (e 4)] 76)) := (Below.refl _ _).alloc (Nat.le_refl _) _
  simp only [ag5]
  go_enter Tryd.func117, Tryd.ntmps117
  go_wp2
  go_ret
  exact ⟨by rw [← K.out]; rfl, hal⟩

set_option maxHeartbeats 4000000 in
theorem eqElem (a0 a1 a2 a3 a4 b0 b1 b2 b3 b4 : Int) (w : World) :
    (Op.equalIn 10000 76 (.agg #[.int .u64 a0, .int .u64 a1, .int .u64 a2, .int .u64 a3, .int .u64 a4]) (.agg #[.int .u64 b0, .int .u64 b1, .int .u64 b2, .int .u64 b3, .int .u64 b4])).run Tryd.prog w = .ok (a0 == b0 && a1 == b1 && a2 == b2 && a3 == b3 && a4 == b4) w := by
  have u3 := Tryd.underlying49
  have a3' := Tryd.isAgg49
  have z3 := Tryd.sizeOf49
  rw [show (10000 : Nat) = 9999 + 1 from rfl, Op.equalIn]
  simp only [Sem.run_bind, run_underlying Tryd.underlying76, Result.andThen_ok]
  simp only [Std.Legacy.Range.forIn_eq_forIn_range', Std.Legacy.Range.size, Nat.sub_zero, Nat.add_sub_cancel, Nat.div_one, List.range'_succ, List.range'_zero, List.forIn_cons, List.forIn_nil]
  go_simp
  by_cases h0 : a0 = b0 <;> by_cases h1 : a1 = b1 <;> by_cases h2 : a2 = b2 <;> by_cases h3 : a3 = b3 <;> by_cases h4 : a4 = b4 <;> simp [h0, h1, h2, h3, h4]
theorem eq_Lm {U V : Nat → Int} (hU : Lm U) (hV : Lm V) : (U 0 == V 0 && U 1 == V 1 && U 2 == V 2 && U 3 == V 3 && U 4 == V 4) = decide (sv U 5 = sv V 5) := by
  by_cases h : sv U 5 = sv V 5
  · have e := hU.uniq hV h
    rw [e 0 (by omega), e 1 (by omega), e 2 (by omega), e 3 (by omega), e 4 (by omega)]
    simp [h]
  · rw [decide_eq_false h]
    cases hq : (U 0 == V 0 && U 1 == V 1 && U 2 == V 2 && U 3 == V 3 && U 4 == V 4)
    · rfl
    · exfalso
      simp only [Bool.and_eq_true, beq_iff_eq] at hq
      exact h (by simp only [sv]; rw [hq.1.1.1.1, hq.1.1.1.2, hq.1.1.2, hq.1.2, hq.2])
end Go.Proofs.YtbhmhkimddjhaaaDoor
