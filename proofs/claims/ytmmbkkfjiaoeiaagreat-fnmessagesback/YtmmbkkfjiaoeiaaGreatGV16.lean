import Derived.Test.YtmmbkkfjiaoeiaaGreatGV15
import Derived.Test.YtmmbkkfjiaoeiaaGreatGV3
import Derived.Laws.Bits64b
import Derived.Deep.RegionHeld3
import Derived.Deep.DeepCutAuto
import Derived.Test.YtmmbkkfjiaoeiaaGreatGV4
import Derived.Maps.AppendAt
import Derived.Deep.Cut
namespace Go.Proofs.YtmmbkkfjiaoeiaaGreat
end Go.Proofs.YtmmbkkfjiaoeiaaGreat
namespace Go.Proofs.YtmmbkkfjiaoeiaaGreat
open Go Go.RowKit
theorem Cur.only {w w' : World} {p q : Nat} {l : Value} {i : Int} (h : Cur w p l i) (n : Only q w w') (hne : p ≠ q) : Cur w' p l i := h.of_block (n.block p hne)
theorem Rd.only {w w' : World} {g q : Nat} {a : Option Addr} {k : IntKind} {xs : List Int} (h : Rd w g a k xs) (n : Only q w w') (hne : 0 < xs.length → g ≠ q) : Rd w' g a k xs := by
  by_cases h0 : 0 < xs.length
  · exact h.of_block (n.block g (hne h0))
  · obtain rfl : xs = [] := List.eq_nil_of_length_eq_zero (by omega)
    exact Rd.nil _ _ _ _
end Go.Proofs.YtmmbkkfjiaoeiaaGreat
namespace Go.Proofs.YtmmbkkfjiaoeiaaGreat
open Go Go.RowKit
theorem ofInt64 (v : Int) : ((BitVec.ofInt 64 v).toNat : Int) = v % 18446744073709551616 := by
  rw [BitVec.toNat_ofInt]
  rw [Int.toNat_of_nonneg (Int.emod_nonneg _ (by decide))]
  rfl
theorem wrap_i64 (n : Int) : IntKind.i64.wrap n = (n + 9223372036854775808) % 18446744073709551616 - 9223372036854775808 := by
  simp [IntKind.wrap, IntKind.signed, IntKind.bits]
  omega
theorem or_byte (v x : Int) (h0 : -9223372036854775808 ≤ v * 256) (h1 : v * 256 < 9223372036854775808) (x0 : 0 ≤ x) (x1 : x < 256) : bits .or .i64 (v * 256) x = v * 256 + x := by
  have e : bits .or .i64 (v * 256) x = IntKind.i64.wrap ((BitVec.ofInt 64 (v * 256) ||| BitVec.ofInt 64 x).toNat : Int) := rfl
  rw [e, wrap_i64, BitVec.toNat_or]
  have a := ofInt64 (v * 256)
  have b := ofInt64 x
  obtain ⟨m, hm⟩ : ∃ m, (BitVec.ofInt 64 (v * 256)).toNat = 2 ^ 8 * m := ⟨(BitVec.ofInt 64 (v * 256)).toNat / 256, by omega⟩
  obtain ⟨y, hy⟩ : ∃ y, (BitVec.ofInt 64 x).toNat = y := ⟨_, rfl⟩
  rw [hm, hy, ← Nat.two_pow_add_eq_or_of_lt (by omega)]
  rw [hm] at a
  rw [hy] at b
  omega
end Go.Proofs.YtmmbkkfjiaoeiaaGreat
namespace Go.Proofs.YtmmbkkfjiaoeiaaGreat
open Go Go.RowKit
structure Kp (p : Nat) (w w' : World) : Prop where
  os : w'.os = w.os
  tape : w'.tape = w.tape
  output : w'.output = w.output
  size : w.heap.size ≤ w'.heap.size
  block : ∀ k, k < w.heap.size → k ≠ p → w'.heap[k]? = w.heap[k]?
theorem Kp.refl (p : Nat) (w : World) : Kp p w w := ⟨rfl, rfl, rfl, Nat.le_refl _, fun _ _ _ => rfl⟩
theorem Kp.trans {p : Nat} {a b c : World} (h : Kp p a b) (k : Kp p b c) : Kp p a c :=
  ⟨k.os.trans h.os, k.tape.trans h.tape, k.output.trans h.output, Nat.le_trans h.size k.size, fun i hi hp => (k.block i (by have := h.size; omega) hp).trans (h.block i hi hp)⟩
theorem Only.kp {p : Nat} {w w' : World} (h : Only p w w') : Kp p w w' := ⟨h.os, h.tape, h.output, Nat.le_of_eq h.size.symm, fun k _ hp => h.block k hp⟩
theorem below_kp {p : Nat} {w w' : World} (h : Below w.heap.size w w') : Kp p w w' := ⟨h.os, h.tape, h.output, h.size, fun k hk _ => h.block k hk⟩
theorem Kp.below {p B : Nat} {w w' : World} (h : Kp p w w') (hB : B ≤ p) (hs : B ≤ w.heap.size) : Below B w w' :=
  ⟨h.os, h.tape, h.output, h.size, fun k hk => h.block k (by omega) (by omega)⟩
theorem Rd.kp {w w' : World} {g q : Nat} {a : Option Addr} {k : IntKind} {xs : List Int} (h : Rd w g a k xs) (n : Kp q w w') (hne : 0 < xs.length → g ≠ q) : Rd w' g a k xs := by
  by_cases h0 : 0 < xs.length
  · exact h.of_block (n.block g (h.lt h0) (hne h0))
  · obtain rfl : xs = [] := List.eq_nil_of_length_eq_zero (by omega)
    exact Rd.nil _ _ _ _
theorem Tl.kp {w w' : World} {p q : Nat} {x y : Value} (h : Tl w p x y) (n : Kp q w w') (hne : p ≠ q) : Tl w' p x y := h.of_block (n.block p h.lt hne)
theorem step_copy_ex {P : Program} {ops : Array Oper} {o : Oper} {a : Act} {w : World} {K : Act → World → Prop} {Q : Exit → Act → World → Prop} {E : Prop} (hg : o.guard = none) (s x : Operand) (t tn : TypeId)
    (ho : o.op = .call { callee := .builtin .copy, args := #[s, x], argTypes := #[t, tn] }) (vs vx : Value) (hs : a.eval s = vs) (hx : a.eval x = vx) (v' : Value) (w' : World)
    (H : (Builtin.copy_ #[t, tn] o.type #[vs, vx]).run P w = .ok v' w') (hK : K (a.put o.dst v') w') :
    if Region.wanted o (yielded ops a.tmps) = true then Oper.wp P o a w K Q else E := by
  have hw : Region.wanted o (yielded ops a.tmps) = true := by simp [Region.wanted, hg]
  rw [if_pos hw]
  unfold Oper.wp execOp
  simp only [ho, resolve, invoke, builtin, Sem.run_bind, Sem.run_pure, Result.andThen_ok, List.map_toArray, List.map_cons, List.map_nil, hs, hx, H]
  exact hK
theorem rowU8' : (Tryz.prog.info? 5).map (·.size) = some 1 := by kernel_rfl
theorem copy_cut {P : Program} (w : World) (ty rt e : TypeId) (hu : P.underlying ty = some (.slice e)) (hsz : (P.info? e).map (·.size) = some 1) {g : Nat} {k : IntKind} {zs : List Int} (hB : Blk w g k zs)
    (gs : Nat) (sp : Option Addr) (ys : List Int) (hr : Rd w gs sp k ys) (hl : zs.length ≤ ys.length) (dc sc : Nat) :
    ∃ w2, (Builtin.copy_ #[ty, ty] rt #[.slice (some ⟨g, 0, none⟩) zs.length dc, .slice sp ys.length sc]).run P w = .ok (goInt zs.length) w2 ∧ Blk w2 g k (ys.take zs.length) ∧ Only g w w2 := by
  by_cases h0 : 0 < zs.length
  · obtain ⟨off, rfl, hc⟩ := hr (by omega)
    obtain ⟨t, hB⟩ := hB
    have hlt : (ys.take zs.length).length = zs.length := by rw [List.length_take]; omega
    have hrun := run_copy_row (P := P) w ty ty rt e g 0 zs.length dc ⟨gs, off, none⟩ ys.length sc _ t ((ys.take zs.length).map (Value.int k)) hu hsz hB (by rw [List.length_map, hlt]; exact (Nat.min_eq_right hl).symm)
      (fun j v hj => by
        have hjl : j < zs.length := by
          have := (List.getElem?_eq_some_iff.1 hj).1
          rw [List.length_map, hlt] at this
          exact this
        rw [add_mid, hc j (by omega)]
        rw [List.getElem?_map, List.getElem?_take, if_pos hjl] at hj
        rw [List.getD_eq_getElem?_getD]
        cases hy : ys[j]? with
        | none => rw [hy] at hj; simp at hj
        | some y => rw [hy] at hj; simpa using hj) (by rw [List.length_map, hlt]; simp) (oneCells _ _)
    rw [List.length_map, hlt] at hrun
    refine ⟨_, hrun, ⟨t, ?_⟩, ⟨rfl, rfl, rfl, by simp, fun i hi => setRow_other w g i _ hi⟩⟩
    rw [setRow_heap w g _ _ t _ hB]
    simp
  · obtain rfl : zs = [] := List.eq_nil_of_length_eq_zero (by omega)
    exact ⟨w, run_copy_none (P := P) w ty ty rt e _ _ _ _ _ _ hu hsz (by simp), by simpa using hB, Only.refl _ _⟩
set_option maxHeartbeats 2000000 in
theorem takeList_mid (w : World) (p g : Nat) (a : Option Addr) (c : Nat) (xs : List Int) (i n : Nat) (hC : Cur w p (.slice a xs.length c) i) (hr : Rd w g a .u8 xs) (hc : xs.length ≤ c) (hn : xs.length ≤ 1048576) (hi : i < xs.length) (hin : i + n ≤ xs.length) :
    Calls Tryz.prog 105 #[.pointer (some ⟨p, 0, none⟩), .int .i64 (n : Int)] w fun e w' => e = .returned (.slice (some ⟨w.heap.size, 0, none⟩) n n) ∧ Blk w' w.heap.size .u8 ((xs.drop i).take n) ∧ Cur w' p (.slice a xs.length c) ((i + n : Nat) : Int) ∧ Kp p w w' := by
  obtain ⟨i0, hi0, hz0, hz1, hz2⟩ := info_parts Tryz.info5
  have c0 := hC.c0
  have c1 := hC.c1
  have pl := hC.lt
  have t1 : decide ((xs.length : Int) - (i : Int) < (n : Int)) = false := by simp; omega
  have q0 : (n : Int) ≤ 1048576 := by omega
  go_enter Tryz.func105, Tryz.ntmps105
  go_wp2
  go_quiet (fail)
  go_upto_region 4 with (at_make; refine wpList_make_full _ rfl _ _ 22 rfl w.heap.size 5 i0 (.int .u8 0) 1 Tryz.underlying22 hi0 hz0 hz1 .i64 .i64 _ _ n rfl rfl rfl rfl (by rw [hz2]; omega) (by unfold maxLen; omega) (Nat.le_refl _) ?_; intro w3 hown hgrow)
  have B3 := Blk.of_made hown
  have n3 : Below w.heap.size w w3 := (below_drewN (Below.refl _ _) nq).grown hgrow (Nat.le_refl _) (by simp)
  clear hown hgrow
  have z3 := n3.size
  have B3 : Blk w3 w.heap.size .u8 (List.replicate n 0) := B3
  have l3 := B3.lt
  have C3 := hC.up n3
  have R3 := hr.up n3
  obtain ⟨off, rfl, RR⟩ := R3.dropA i hi
  obtain ⟨w4, hcp, B4, O4⟩ := copy_cut (P := Tryz.prog) w3.drew 22 3 5 Tryz.underlying22 rowU8' B3.drew g (some ⟨g, off + i, none⟩) (xs.drop i) (RR.of_block rfl) (by rw [List.length_replicate, List.length_drop]; omega) n (c - i)
  rw [List.length_replicate] at hcp B4
  rw [List.length_drop] at hcp
  have C4 := Cur.only (w := w3.drew) C3 O4 (by omega)
  have d0 := C3.c0
  have d1 := C3.c1
  have e0 := C4.c0
  have e1 := C4.c1
  have f1 := C4.f1
  have C5 := C4.store ((i : Int) + (n : Int))
  have N5 : Kp p w (w4.setCell ⟨p, 1, none⟩ (.int .i64 ((i : Int) + (n : Int)))) := (below_kp (n3.drew.trans (O4.below (Nat.le_refl _)))).trans (Only.setCell _ _ _ _).kp
  have B5 : Blk (w4.setCell ⟨p, 1, none⟩ (.int .i64 ((i : Int) + (n : Int)))) w.heap.size .u8 ((xs.drop i).take n) := B4.of_block ((Only.setCell w4 p 1 _).block _ (by omega))
  have ci : ¬ (c = i) := by omega
  have j1 : (i : Int) ≤ (xs.length : Int) := by omega
  have j2 : (i : Int) ≤ (c : Int) := by omega
  have WR : IntKind.i64.wrap ((i : Int) + (n : Int)) = (i : Int) + (n : Int) := by rw [wrap_i64]; omega
  generalize hm : xs.length = m at *
  have HM := hide hm
  clear hm
  go_region_with (first | (refine step_copy_ex rfl (.tmp 25) (.tmp 34) 22 22 rfl _ _ rfl rfl _ _ hcp ?_) | fail)
  all_goals
    go_wp2
    go_ret
    exact ⟨rfl, B5, by rw [show ((i + n : Nat) : Int) = (i : Int) + (n : Int) by omega, HM.out]; exact C5, N5⟩
end Go.Proofs.YtmmbkkfjiaoeiaaGreat
namespace Go.Proofs.YtmmbkkfjiaoeiaaGreat
open Go Go.RowKit
theorem drop_getD (b : List Int) (i j : Nat) : (b.drop i).getD j 0 = b.getD (i + j) 0 := by
  rw [List.getD_eq_getElem?_getD, List.getD_eq_getElem?_getD, List.getElem?_drop]
def DgA (b : List Int) (i n : Nat) : Prop := i + n ≤ b.length ∧ ∀ j, j < n → 48 ≤ b.getD (i + j) 0 ∧ b.getD (i + j) 0 ≤ 57
theorem DgA.bd {b : List Int} {i n : Nat} (h : DgA b i n) : ∀ j, j ≤ n → 0 ≤ dvK (b.drop i) j ∧ dvK (b.drop i) j < 10 ^ j
  | 0, _ => by simp [dvK]
  | j + 1, hj => by
    have ih := h.bd j (by omega)
    have hx := h.2 j (by omega)
    show 0 ≤ dvK (b.drop i) j * 10 + ((b.drop i).getD j 0 - 48) ∧ dvK (b.drop i) j * 10 + ((b.drop i).getD j 0 - 48) < _
    rw [drop_getD, Int.pow_succ]
    omega
theorem DgA.step {b : List Int} {i j : Nat} (h : DgA b i j) (h1 : i + j < b.length) (h2 : 48 ≤ b.getD (i + j) 0) (h3 : b.getD (i + j) 0 ≤ 57) : DgA b i (j + 1) := ⟨by omega, fun k hk => by
  by_cases e : k = j
  · subst e; exact ⟨h2, h3⟩
  · exact h.2 k (by omega)⟩
end Go.Proofs.YtmmbkkfjiaoeiaaGreat
namespace Go.Proofs.YtmmbkkfjiaoeiaaGreat
open Go Go.RowKit
end Go.Proofs.YtmmbkkfjiaoeiaaGreat
namespace Go.Proofs.YtmmbkkfjiaoeiaaGreat
open Go Go.RowKit
theorem Rd.src {w w' : World} {g q : Nat} {a : Option Addr} {k : IntKind} {xs : List Int} (h : Rd w g a k xs) (n : Only q w w') (hne : 0 < xs.length → g ≠ q) : Rd w' g a k xs := h.only n hne
end Go.Proofs.YtmmbkkfjiaoeiaaGreat
namespace Go.Proofs.YtmmbkkfjiaoeiaaGreat
open Go Go.RowKit
end Go.Proofs.YtmmbkkfjiaoeiaaGreat
namespace Go.Proofs.YtmmbkkfjiaoeiaaGreat
open Go Go.RowKit
theorem append_anyM {P : Program} (w : World) (ty : TypeId) (i : TypeInfo) (ht : P.underlying 22 = some (.slice 5)) (hi : P.info? 5 = some i) (hz : i.zero = some (.int .u8 0)) (hsize : i.size = 1) (hby : i.bytes = 1)
    (base : Nat) (v : Value) (xs : List Int) (hown : RowB w base v xs) (g : Nat) (a : Option Addr) (c : Nat) (us : List Int) (hr : Rd w g a .u8 us) (hc : a = none → c = 0) (hl : xs.length + us.length ≤ 1099511627776) (hbase : base ≤ w.heap.size) :
    ∃ v' w', (Builtin.append_ #[22, 22] ty #[v, .slice a us.length c]).run P w = .ok v' w' ∧ RowB w' base v' (xs ++ us) ∧ w.grownBy w' v.ownBlock := by
  cases a with
  | none =>
    obtain rfl : us = [] := by
      by_cases h0 : 0 < us.length
      · obtain ⟨off, h, _⟩ := hr h0
        simp at h
      · exact List.eq_nil_of_length_eq_zero (by omega)
    obtain rfl := hc rfl
    exact ⟨v, w, run_append_owned_none (P := P) (w := w) base 22 ty 5 i 1 ht hi v _ _ hown, by simpa using hown, ⟨rfl, rfl, rfl, Nat.le_refl _, fun _ _ _ => rfl⟩⟩
  | some ad =>
    have hcell : ∀ j u, (us.map (Value.int .u8))[j]? = some u → w.cell? (ad.add j) = some u := by
      intro j u hj
      have hjl : j < us.length := by
        have := (List.getElem?_eq_some_iff.1 hj).1
        simpa using this
      obtain ⟨off, ha, hcc⟩ := hr (by omega)
      simp only [Option.some.injEq] at ha
      subst ha
      rw [Addr.add_mid, hcc j hjl]
      simpa [hjl] using hj
    have hone : ∀ u ∈ us.map (Value.int .u8), u.oneCell' = true := by
      intro u hu
      obtain ⟨x, _, rfl⟩ := List.mem_map.1 hu
      rfl
    obtain ⟨v', w', h1, h2, h3, -, -⟩ := run_append_own_at (P := P) w base 22 ty 5 i (.int .u8 0) 1 1 ht hi hz hsize hby rfl (by decide) v xs.length (xs.map (Value.int .u8)) hown ad us.length c (us.map (Value.int .u8)) (by simp) hcell hone (by unfold maxLen; omega) (by omega) hbase
    refine ⟨v', w', h1, ?_, h3⟩
    show w'.ownsRow base 5 1 v' (xs ++ us).length ((xs ++ us).map (Value.int .u8))
    rw [List.length_append, List.map_append]
    exact h2
set_option maxRecDepth 100000 in
set_option maxHeartbeats 800000 in
theorem l10SpoilM_any (w : World) (s g : Nat) (a : Option Addr) (c : Nat) (xs : List Int) (t : Int) (hs : Src w s a xs.length c t) (hr : Rd w g a .u8 xs) (hne : 0 < xs.length → g ≠ s) (hb : Byt xs) (hl : xs.length ≤ 1048576)
    (t0 : 0 ≤ t) (t1 : t ≤ 10000) (v : Value) (ys : List Int) (base : Nat) (hR : RowB w base v ys) (hsb : s < base) (hbw : base ≤ w.heap.size) (yb : Byt ys) (y1 : ys.length ≤ 1000000) :
    Calls Tryz.prog 28 #[.pointer (some ⟨s, 0, none⟩), v] w fun e w' => ∃ zs r, e = .returned r ∧ Byt zs ∧ zs.length ≤ ys.length + 1 ∧ RowB w' base r zs ∧ Below s w w' ∧ (∀ k, k < w.heap.size → k ≠ s → v.ownBlock ≠ some k → w'.heap[k]? = w.heap[k]?) ∧ ∃ u, Src w' s a xs.length c u ∧ 0 ≤ u ∧ u ≤ t + 10 := by
  by_cases y0 : 0 < ys.length
  case neg =>
    have e : ys = [] := List.eq_nil_of_length_eq_zero (by omega)
    subst e
    obtain ⟨a9, c9, g9, rfl, -, -, -, -⟩ := hR.rd
    have na : Below w.heap.size w (w.alloc (.cells #[.int .u8 0] 5)) := (Below.refl _ _).alloc (Nat.le_refl _) _
    have ls := hs.lt
    have o9 := hide ((RowB.lit1 w 0).base hbw)
    go_enter Tryz.func28, Tryz.ntmps28
    go_wp2
    go_ret
    exact ⟨[0], _, rfl, fun i => by match i with | 0 => exact ⟨by decide, by decide⟩ | n + 1 => exact ⟨by simp, by simp⟩, by simp, o9.out, na.mono (by omega), fun k hk _ _ => na.block k hk, t, hs.of_block (na.block s ls), t0, by omega⟩
  obtain ⟨i0, hi, hz0, hz1, hz2⟩ := info_parts Tryz.info5
  obtain ⟨g2, cap, rfl, hg2, hcap, -⟩ := hR.parts y0
  have e0 : ((ys.length : Int) == 0) = false := beq_eq_false_iff_ne.2 (by omega)
  have e0' : decide ((ys.length : Int) = 0) = false := decide_eq_false (by omega)
  have N1 := hide (l1NextB_any w s g a c xs t 4 hs hr hne hb hl t0 (by omega) (by decide) (by decide))
  go_enter Tryz.func28, Tryz.ntmps28
  go_wp2_with fail
  refine N1.out.mono ?_
  rintro e w1 ⟨q, rfl, hq, S1, O1⟩
  have R1 := hr.only O1 hne
  have W1 := hR.only O1 hsb
  have NX := fun n h0 h1 => hide (l1NextB_any w1 s g a c xs (t + 1) n S1 R1 hne hb hl (by omega) (by omega) h0 h1)
  clear N1
  obtain rfl | rfl | h5 : q = 0 ∨ q = 1 ∨ 2 ≤ q := by omega
  · go_wp2_with fail
    refine (NX 256 (by decide) (by decide)).out.mono ?_
    rintro e w2 ⟨r, rfl, h2, S2, O2⟩
    have W2 := W1.only O2 hsb
    have z1 := O1.size
    have z2 := O2.size
    have NB : Below s w w2 := ((Below.refl s w).trans (O1.below (Nat.le_refl _))).trans (O2.below (Nat.le_refl _))
    have na : Below w2.heap.size w2 (w2.alloc (.cells #[.int .u8 r] 5)) := (Below.refl _ _).alloc (Nat.le_refl _) _
    have B1 : Blk (w2.alloc (.cells #[.int .u8 r] 5)) w2.heap.size .u8 [r] := blk_lit1 w2 .u8 5 r
    obtain ⟨v9, w9, hap, o9, gr9⟩ := append_anyM (P := Tryz.prog) (w2.alloc (.cells #[.int .u8 r] 5)) 22 i0 Tryz.underlying22 hi hz0 hz1 hz2 base _ _ (W2.up na) _ _ 1 [r] B1.own0.rd (by simp) (by simp; omega) (by have := na.size; omega)
    have n9 : Below s (w2.alloc (.cells #[.int .u8 r] 5)) w9 := Below.grown (Below.refl s _) gr9 (by have := na.size; omega) (fun k hk => Nat.le_trans (by omega) (World.ownsRow.lt (W2.up na) k hk).1)
    have KP := hide (show ∀ k, k < w.heap.size → k ≠ s → k ≠ g2 → w9.heap[k]? = w.heap[k]? from fun k hk h1 h2 => (gr9.block k (by have := na.size; omega) (fun e => h2 (by simpa [Value.ownBlock] using e))).trans ((na.block k (by omega)).trans ((O2.block k h1).trans (O1.block k h1))))
    have ls2 := S2.lt
    have SS := hide (show ∃ u, Src w9 s a xs.length c u ∧ 0 ≤ u ∧ u ≤ t + 10 from ⟨_, S2.of_block ((gr9.block s (by have := na.size; omega) (fun e => (by omega : s ≠ g2) (by simpa [Value.ownBlock] using e))).trans (na.block s ls2)), by omega, by omega⟩)
    have N9 := (NB.trans (na.mono (by omega))).trans n9
    have yb' := byt_app1R yb r h2.1 h2.2
    have yl : Hid ((ys ++ [r]).length = ys.length + 1) := by show _ = _; simp
    clear na B1 n9 gr9 W1 W2 NX z1 z2
    go_wp2_with (at_builtin; refine Lib.wpList_append_run _ rfl _ _ 22 22 rfl _ _ rfl rfl _ _ hap ?_)
    clear hap
    go_wp2
    go_ret
    exact ⟨_, _, rfl, yb', by rw [yl.out]; exact Nat.le_refl _, o9, N9, fun k h1 h2 h3 => KP.out k h1 h2 (fun e => h3 (by rw [e]; rfl)), SS.out⟩
  · go_wp2_with fail
    refine (NX (ys.length : Int) (by omega) (by omega)).out.mono ?_
    rintro e w2 ⟨r, rfl, h2, S2, O2⟩
    obtain ⟨n, rfl⟩ := Int.eq_ofNat_of_zero_le h2.1
    have W2 := W1.only O2 hsb
    have NB : Below s w w2 := ((Below.refl s w).trans (O1.below (Nat.le_refl _))).trans (O2.below (Nat.le_refl _))
    have KP := hide (show ∀ k, k < w.heap.size → k ≠ s → k ≠ g2 → w2.heap[k]? = w.heap[k]? from fun k _ h1 _ => (O2.block k h1).trans (O1.block k h1))
    have SS := hide (show ∃ u, Src w2 s a xs.length c u ∧ 0 ≤ u ∧ u ≤ t + 10 from ⟨_, S2, by omega, by omega⟩)
    obtain ⟨g3, cap3, e3, -, -, -, -, -, CUT⟩ := W2.parts y0
    cases e3
    have CU := hide (CUT n (by omega))
    have yb' := byt_takeR yb n
    have yl : Hid ((ys.take n).length = n) := by show _ = _; rw [List.length_take]; omega
    have k1 : (n : Int) ≤ (cap : Int) := by omega
    clear CUT W1 W2 NX
    go_wp2
    go_ret
    exact ⟨_, _, rfl, yb', by rw [yl.out]; omega, CU.out, NB, fun k h1 h2 h3 => KP.out k h1 h2 (fun e => h3 (by rw [e]; rfl)), SS.out⟩
  · have a0 : (q == 0) = false := by simp; omega
    have a1 : (q == 1) = false := by simp; omega
    have b0 : decide (q = 0) = false := by simp; omega
    have b1 : decide (q = 1) = false := by simp; omega
    go_wp2_with fail
    refine (NX (ys.length : Int) (by omega) (by omega)).out.mono ?_
    rintro e w2 ⟨k, rfl, hk, S2, O2⟩
    have OO2 := O1.trans O2
    have C3 := hide (l1Chance_any w2 s g a c xs (t + 1 + 1) 2 S2 (hr.only OO2 hne) hne hb hl (by omega) (by omega) (by decide) (by decide))
    clear NX a0 a1 b0 b1 S1 R1 W1
    go_wp2_with fail
    refine C3.out.mono ?_
    rintro e w3 ⟨b3, rfl, S3, O3⟩
    have OO3 := OO2.trans O3
    have N4 := hide (l1NextB_any w3 s g a c xs (t + 1 + 1 + 1) 6 S3 (hr.only OO3 hne) hne hb hl (by omega) (by omega) (by decide) (by decide))
    clear C3 O2 O3 OO2 S2
    cases b3 with
    | false =>
      obtain ⟨kn, rfl⟩ := Int.eq_ofNat_of_zero_le (hk).1
      have kl : kn < ys.length := by have := (hk).2; omega
      have kl' : (kn : Int) < (ys.length : Int) := by omega
      have C5 := hide (l1Chance_any w3 s g a c xs (t + 1 + 1 + 1) 2 S3 (hr.only OO3 hne) hne hb hl (by omega) (by omega) (by decide) (by decide))
      go_wp2_with fail
      refine C5.out.mono ?_
      rintro e w5 ⟨b5, rfl, S5, O5⟩
      have OO5 := OO3.trans O5
      clear C5
      cases b5 with
      | true =>
        have W5 := hR.only OO5 hsb
        obtain ⟨g3, cap3, e3, -, -, CE, FR, ST, -⟩ := W5.parts y0
        cases e3
        have ce := CE kn kl
        have fr := FR kn
        have bz := yb kn
        have wz : Hid (IntKind.u8.wrap (ys.getD kn 0 + 1) = (ys.getD kn 0 + 1) % 256) := by show _ = _; simp [IntKind.wrap, IntKind.signed, IntKind.bits]
        generalize ys.getD kn 0 = x at *
        have st := fun z => hide (ST kn z kl)
        have yb' := byt_setR yb kn ((x + 1) % 256) (by omega) (by omega)
        have yl : Hid ((ys.set kn ((x + 1) % 256)).length = ys.length) := List.length_set ..
        have NB : Below s w (w5.setCell ⟨g2, kn, none⟩ (.int .u8 ((x + 1) % 256))) := ((Below.refl s w).trans (OO5.below (Nat.le_refl _))).setCell (p := ⟨g2, kn, none⟩) (by show s ≤ g2; omega) _
        have KP := hide (show ∀ k, k < w.heap.size → k ≠ s → k ≠ g2 → (w5.setCell ⟨g2, kn, none⟩ (.int .u8 ((x + 1) % 256))).heap[k]? = w.heap[k]? from fun k _ h1 h2 => ((Only.setCell w5 g2 kn _).block k h2).trans (OO5.block k h1))
        have SS := hide (show ∃ u, Src (w5.setCell ⟨g2, kn, none⟩ (.int .u8 ((x + 1) % 256))) s a xs.length c u ∧ 0 ≤ u ∧ u ≤ t + 10 from ⟨_, S5.of_block ((Only.setCell w5 g2 kn _).block s (by omega)), by omega, by omega⟩)
        clear CE FR ST W5
        go_wp2
        go_ret
        exact ⟨_, _, rfl, yb', by rw [yl.out]; omega, (st _).out, NB, fun k h1 h2 h3 => KP.out k h1 h2 (fun e => h3 (by rw [e]; rfl)), SS.out⟩
      | false =>
        have N6 := hide (l1NextB_any w5 s g a c xs (t + 1 + 1 + 1 + 1) 256 S5 (hr.only OO5 hne) hne hb hl (by omega) (by omega) (by decide) (by decide))
        go_wp2_with fail
        refine N6.out.mono ?_
        rintro e w6 ⟨z, rfl, h6, S6, O6⟩
        have OO6 := OO5.trans O6
        have W6 := hR.only OO6 hsb
        obtain ⟨g3, cap3, e3, -, -, CE, FR, ST, -⟩ := W6.parts y0
        cases e3
        have ce := CE kn kl
        have fr := FR kn
        have st := hide (ST kn z kl)
        have yb' := byt_setR yb kn z h6.1 h6.2
        have yl : Hid ((ys.set kn z).length = ys.length) := List.length_set ..
        have NB : Below s w (w6.setCell ⟨g2, kn, none⟩ (.int .u8 z)) := ((Below.refl s w).trans (OO6.below (Nat.le_refl _))).setCell (p := ⟨g2, kn, none⟩) (by show s ≤ g2; omega) _
        have KP := hide (show ∀ k, k < w.heap.size → k ≠ s → k ≠ g2 → (w6.setCell ⟨g2, kn, none⟩ (.int .u8 z)).heap[k]? = w.heap[k]? from fun k _ h1 h2 => ((Only.setCell w6 g2 kn _).block k h2).trans (OO6.block k h1))
        have SS := hide (show ∃ u, Src (w6.setCell ⟨g2, kn, none⟩ (.int .u8 z)) s a xs.length c u ∧ 0 ≤ u ∧ u ≤ t + 10 from ⟨_, S6.of_block ((Only.setCell w6 g2 kn _).block s (by omega)), by omega, by omega⟩)
        clear CE FR ST W6 N6
        generalize ys.getD kn 0 = x at *
        go_wp2
        go_ret
        exact ⟨_, _, rfl, yb', by rw [yl.out]; omega, st.out, NB, fun k h1 h2 h3 => KP.out k h1 h2 (fun e => h3 (by rw [e]; rfl)), SS.out⟩
    | true =>
      by_cases c6 : 6 < k
      · have t6 : decide (6 < k) = true := by simp; omega
        go_wp2_with fail
        refine N4.out.mono ?_
        rintro e w4 ⟨k2, rfl, hk2, S4, O4⟩
        have OO4 := OO3.trans O4
        have hk3 : 0 ≤ k2 ∧ k2 < (ys.length : Int) := by omega
        clear N4 S3 t6
        obtain ⟨kn, rfl⟩ := Int.eq_ofNat_of_zero_le (hk3).1
        have kl : kn < ys.length := by have := (hk3).2; omega
        have kl' : (kn : Int) < (ys.length : Int) := by omega
        have C5 := hide (l1Chance_any w4 s g a c xs (t + 1 + 1 + 1 + 1) 2 S4 (hr.only OO4 hne) hne hb hl (by omega) (by omega) (by decide) (by decide))
        go_wp2_with fail
        refine C5.out.mono ?_
        rintro e w5 ⟨b5, rfl, S5, O5⟩
        have OO5 := OO4.trans O5
        clear C5
        cases b5 with
        | true =>
          have W5 := hR.only OO5 hsb
          obtain ⟨g3, cap3, e3, -, -, CE, FR, ST, -⟩ := W5.parts y0
          cases e3
          have ce := CE kn kl
          have fr := FR kn
          have bz := yb kn
          have wz : Hid (IntKind.u8.wrap (ys.getD kn 0 + 1) = (ys.getD kn 0 + 1) % 256) := by show _ = _; simp [IntKind.wrap, IntKind.signed, IntKind.bits]
          generalize ys.getD kn 0 = x at *
          have st := fun z => hide (ST kn z kl)
          have yb' := byt_setR yb kn ((x + 1) % 256) (by omega) (by omega)
          have yl : Hid ((ys.set kn ((x + 1) % 256)).length = ys.length) := List.length_set ..
          have NB : Below s w (w5.setCell ⟨g2, kn, none⟩ (.int .u8 ((x + 1) % 256))) := ((Below.refl s w).trans (OO5.below (Nat.le_refl _))).setCell (p := ⟨g2, kn, none⟩) (by show s ≤ g2; omega) _
          have KP := hide (show ∀ k, k < w.heap.size → k ≠ s → k ≠ g2 → (w5.setCell ⟨g2, kn, none⟩ (.int .u8 ((x + 1) % 256))).heap[k]? = w.heap[k]? from fun k _ h1 h2 => ((Only.setCell w5 g2 kn _).block k h2).trans (OO5.block k h1))
          have SS := hide (show ∃ u, Src (w5.setCell ⟨g2, kn, none⟩ (.int .u8 ((x + 1) % 256))) s a xs.length c u ∧ 0 ≤ u ∧ u ≤ t + 10 from ⟨_, S5.of_block ((Only.setCell w5 g2 kn _).block s (by omega)), by omega, by omega⟩)
          clear CE FR ST W5
          go_wp2
          go_ret
          exact ⟨_, _, rfl, yb', by rw [yl.out]; omega, (st _).out, NB, fun k h1 h2 h3 => KP.out k h1 h2 (fun e => h3 (by rw [e]; rfl)), SS.out⟩
        | false =>
          have N6 := hide (l1NextB_any w5 s g a c xs (t + 1 + 1 + 1 + 1 + 1) 256 S5 (hr.only OO5 hne) hne hb hl (by omega) (by omega) (by decide) (by decide))
          go_wp2_with fail
          refine N6.out.mono ?_
          rintro e w6 ⟨z, rfl, h6, S6, O6⟩
          have OO6 := OO5.trans O6
          have W6 := hR.only OO6 hsb
          obtain ⟨g3, cap3, e3, -, -, CE, FR, ST, -⟩ := W6.parts y0
          cases e3
          have ce := CE kn kl
          have fr := FR kn
          have st := hide (ST kn z kl)
          have yb' := byt_setR yb kn z h6.1 h6.2
          have yl : Hid ((ys.set kn z).length = ys.length) := List.length_set ..
          have NB : Below s w (w6.setCell ⟨g2, kn, none⟩ (.int .u8 z)) := ((Below.refl s w).trans (OO6.below (Nat.le_refl _))).setCell (p := ⟨g2, kn, none⟩) (by show s ≤ g2; omega) _
          have KP := hide (show ∀ k, k < w.heap.size → k ≠ s → k ≠ g2 → (w6.setCell ⟨g2, kn, none⟩ (.int .u8 z)).heap[k]? = w.heap[k]? from fun k _ h1 h2 => ((Only.setCell w6 g2 kn _).block k h2).trans (OO6.block k h1))
          have SS := hide (show ∃ u, Src (w6.setCell ⟨g2, kn, none⟩ (.int .u8 z)) s a xs.length c u ∧ 0 ≤ u ∧ u ≤ t + 10 from ⟨_, S6.of_block ((Only.setCell w6 g2 kn _).block s (by omega)), by omega, by omega⟩)
          clear CE FR ST W6 N6
          generalize ys.getD kn 0 = x at *
          go_wp2
          go_ret
          exact ⟨_, _, rfl, yb', by rw [yl.out]; omega, st.out, NB, fun k h1 h2 h3 => KP.out k h1 h2 (fun e => h3 (by rw [e]; rfl)), SS.out⟩
      · have t6 : decide (6 < k) = false := by simp; omega
        clear N4
        obtain ⟨kn, rfl⟩ := Int.eq_ofNat_of_zero_le (hk).1
        have kl : kn < ys.length := by have := (hk).2; omega
        have kl' : (kn : Int) < (ys.length : Int) := by omega
        have C5 := hide (l1Chance_any w3 s g a c xs (t + 1 + 1 + 1) 2 S3 (hr.only OO3 hne) hne hb hl (by omega) (by omega) (by decide) (by decide))
        go_wp2_with fail
        refine C5.out.mono ?_
        rintro e w5 ⟨b5, rfl, S5, O5⟩
        have OO5 := OO3.trans O5
        clear C5
        cases b5 with
        | true =>
          have W5 := hR.only OO5 hsb
          obtain ⟨g3, cap3, e3, -, -, CE, FR, ST, -⟩ := W5.parts y0
          cases e3
          have ce := CE kn kl
          have fr := FR kn
          have bz := yb kn
          have wz : Hid (IntKind.u8.wrap (ys.getD kn 0 + 1) = (ys.getD kn 0 + 1) % 256) := by show _ = _; simp [IntKind.wrap, IntKind.signed, IntKind.bits]
          generalize ys.getD kn 0 = x at *
          have st := fun z => hide (ST kn z kl)
          have yb' := byt_setR yb kn ((x + 1) % 256) (by omega) (by omega)
          have yl : Hid ((ys.set kn ((x + 1) % 256)).length = ys.length) := List.length_set ..
          have NB : Below s w (w5.setCell ⟨g2, kn, none⟩ (.int .u8 ((x + 1) % 256))) := ((Below.refl s w).trans (OO5.below (Nat.le_refl _))).setCell (p := ⟨g2, kn, none⟩) (by show s ≤ g2; omega) _
          have KP := hide (show ∀ k, k < w.heap.size → k ≠ s → k ≠ g2 → (w5.setCell ⟨g2, kn, none⟩ (.int .u8 ((x + 1) % 256))).heap[k]? = w.heap[k]? from fun k _ h1 h2 => ((Only.setCell w5 g2 kn _).block k h2).trans (OO5.block k h1))
          have SS := hide (show ∃ u, Src (w5.setCell ⟨g2, kn, none⟩ (.int .u8 ((x + 1) % 256))) s a xs.length c u ∧ 0 ≤ u ∧ u ≤ t + 10 from ⟨_, S5.of_block ((Only.setCell w5 g2 kn _).block s (by omega)), by omega, by omega⟩)
          clear CE FR ST W5
          go_wp2
          go_ret
          exact ⟨_, _, rfl, yb', by rw [yl.out]; omega, (st _).out, NB, fun k h1 h2 h3 => KP.out k h1 h2 (fun e => h3 (by rw [e]; rfl)), SS.out⟩
        | false =>
          have N6 := hide (l1NextB_any w5 s g a c xs (t + 1 + 1 + 1 + 1) 256 S5 (hr.only OO5 hne) hne hb hl (by omega) (by omega) (by decide) (by decide))
          go_wp2_with fail
          refine N6.out.mono ?_
          rintro e w6 ⟨z, rfl, h6, S6, O6⟩
          have OO6 := OO5.trans O6
          have W6 := hR.only OO6 hsb
          obtain ⟨g3, cap3, e3, -, -, CE, FR, ST, -⟩ := W6.parts y0
          cases e3
          have ce := CE kn kl
          have fr := FR kn
          have st := hide (ST kn z kl)
          have yb' := byt_setR yb kn z h6.1 h6.2
          have yl : Hid ((ys.set kn z).length = ys.length) := List.length_set ..
          have NB : Below s w (w6.setCell ⟨g2, kn, none⟩ (.int .u8 z)) := ((Below.refl s w).trans (OO6.below (Nat.le_refl _))).setCell (p := ⟨g2, kn, none⟩) (by show s ≤ g2; omega) _
          have KP := hide (show ∀ k, k < w.heap.size → k ≠ s → k ≠ g2 → (w6.setCell ⟨g2, kn, none⟩ (.int .u8 z)).heap[k]? = w.heap[k]? from fun k _ h1 h2 => ((Only.setCell w6 g2 kn _).block k h2).trans (OO6.block k h1))
          have SS := hide (show ∃ u, Src (w6.setCell ⟨g2, kn, none⟩ (.int .u8 z)) s a xs.length c u ∧ 0 ≤ u ∧ u ≤ t + 10 from ⟨_, S6.of_block ((Only.setCell w6 g2 kn _).block s (by omega)), by omega, by omega⟩)
          clear CE FR ST W6 N6
          generalize ys.getD kn 0 = x at *
          go_wp2
          go_ret
          exact ⟨_, _, rfl, yb', by rw [yl.out]; omega, st.out, NB, fun k h1 h2 h3 => KP.out k h1 h2 (fun e => h3 (by rw [e]; rfl)), SS.out⟩
end Go.Proofs.YtmmbkkfjiaoeiaaGreat
namespace Go.Proofs.YtmmbkkfjiaoeiaaGreat
open Go Go.RowKit
def beN (xs : List Int) (i : Nat) : Nat → Int
  | 0 => 0
  | k + 1 => beN xs i k * 256 + xs.getD (i + k) 0
theorem beN_rng {xs : List Int} (h : Byt xs) (i : Nat) : ∀ k, 0 ≤ beN xs i k ∧ beN xs i k < 256 ^ k
  | 0 => ⟨Int.le_refl _, by simp [beN]⟩
  | k + 1 => by
    have ih := beN_rng h i k
    have b := h (i + k)
    rw [beN, Int.pow_succ]
    omega
theorem Rd.of_block' {w w' : World} {g : Nat} {a : Option Addr} {k : IntKind} {xs : List Int} (h : Rd w g a k xs) (hb : 0 < xs.length → w'.heap[g]? = w.heap[g]?) : Rd w' g a k xs := by
  by_cases h0 : 0 < xs.length
  · exact h.of_block (hb h0)
  · exact fun q => absurd q h0
end Go.Proofs.YtmmbkkfjiaoeiaaGreat
namespace Go.Proofs.YtmmbkkfjiaoeiaaGreat
open Go Go.RowKit
def isAg (n : Int) : Bool := decide (0 ≤ n) && decide (n ≤ 4294967295)
end Go.Proofs.YtmmbkkfjiaoeiaaGreat
