import Derived.Test.YtmfajpplagbfcaaGreatDoorHC24
import Derived.Test.YtmfajpplagbfcaaGreatDoorRows
import Derived.Test.YtmfajpplagbfcaaGreatDoorHC19
import Derived.Lib.LaidTab
import Derived.Lib.LaidU8
import Derived.LaidMore
import Derived.Test.YtmfajpplagbfcaaGreatDoorHC22
import Derived.Test.YtmfajpplagbfcaaGreatDoorHC2
namespace Go.Proofs.YtmfajpplagbfcaaGreatDoor
set_option maxRecDepth 100000
open Go Go.RowKit Go.Shelf
attribute [local go_sem] Oper.semAt_some
def pT (is os inf : List Int) : Nat → List Int
  | 0 => []
  | j + 1 => hashL32 (os ++ hashL32 (is ++ (pT is os inf j ++ (inf ++ [((j + 1 : Nat) : Int)]))))
theorem pT_len (is os inf : List Int) : ∀ j, (pT is os inf j).length = if j = 0 then 0 else 32
  | 0 => rfl
  | j + 1 => by rw [if_neg (by omega)]; exact hash_len32 _
theorem pT_byt (is os inf : List Int) : ∀ j, Byt (pT is os inf j)
  | 0 => byt_nil
  | _ + 1 => hash_byt32 _
def tG (is os inf : List Int) (N : Nat) : Nat → List Int
  | 0 => List.replicate N 0
  | k + 1 => lay (tG is os inf N k) (32 * k) ((pT is os inf (k + 1)).take (pcL N k))
theorem rd_ofK {W W' : World} {row : Option Nat} {g : Nat} {a : Option Addr} {k : IntKind} {xs : List Int} (h : Rd W g a k xs) (hg : W.grownBy W' row) (hr : ∀ r, row = some r → ∃ o : Obj, W.heap[r]? = some o ∧ o.isCells = false) : Rd W' g a k xs := by
  intro h0
  obtain ⟨o, e, hc⟩ := h h0
  exact ⟨o, e, fun i hi => cell_kept (hc i hi) hg hr⟩
theorem own_ofK {W W' : World} {row : Option Nat} {g : Nat} {a : Option Addr} {k : IntKind} {xs : List Int} (h : Own W g a k xs) (hg : W.grownBy W' row) (hr : ∀ r, row = some r → ∃ o : Obj, W.heap[r]? = some o ∧ o.isCells = false) : Own W' g a k xs := by
  by_cases h0 : 0 < xs.length
  · obtain ⟨o, e, hc⟩ := h.rd h0
    obtain ⟨ob, ho, hcell⟩ := cells_of_cell (hc 0 h0)
    exact h.of_block (grownBy_keeps_cells hg hr ho hcell)
  · exact fun h1 => absurd h1 h0
theorem blk_ofK {W W' : World} {row : Option Nat} {g : Nat} {k : IntKind} {xs : List Int} (h : Blk W g k xs) (hg : W.grownBy W' row) (hr : ∀ r, row = some r → ∃ o : Obj, W.heap[r]? = some o ∧ o.isCells = false) : Blk W' g k xs := by
  obtain ⟨t, h⟩ := h
  exact ⟨t, (grownBy_keeps_cells hg hr h rfl).trans h⟩
theorem keeps_below {B : Nat} {W W' : World} (h : Below W.heap.size W W') : KeepsFrom B W W' := KeepsOthers.from ⟨h.size, fun k _ hk _ => (h.block k (Array.getElem?_eq_some_iff.1 hk).1).trans hk⟩ B
theorem keeps_cells {B : Nat} (W : World) (q : Nat) : ∀ (vs : List Value) (o : Nat), KeepsFrom B W (W.setCells q o vs) := by
  intro vs
  induction vs generalizing W with
  | nil => intro o; exact KeepsFrom.refl _ _
  | cons v vs ih => intro o; exact ((KeepsOthers.setCell W ⟨q, o, none⟩ v).from B).trans (ih _ _)
section
variable {P : Program} {ops : Array Oper} {Q : Exit → Act → World → Prop} {n l : Nat} {rest : List Oper} {o : Oper} {a : Act} {w : World}
theorem listIn_op (hgd : o.guard = none) (hd : ∀ c, o.op ≠ .defer c) (h : ∀ K : Act → World → Prop, (∀ a w, wpListIn (Fence.wide.inRound l) n P ops Q rest a w → K a w) → o.wp P a w K Q) : wpListIn (Fence.wide.inRound l) n P ops Q (o :: rest) a w :=
  wpListIn_plain hgd fun K hK => op_in hd (h K hK)
theorem listIn_load (hgd : o.guard = none) (ty : TypeId) (x : Operand) (ho : o.op = .load ty x) (b off : Nat) (hx : a.eval x = .pointer (some ⟨b, off, none⟩)) (cs : List Value) (d : TypeDesc) (hc : w.rangeAt b off cs)
    (hu : P.underlying ty = some d) (hd : d.isRow = true) (hi : (P.info? ty).map (·.size) = some cs.length) (h : wpListIn (Fence.wide.inRound l) n P ops Q rest (a.put o.dst (.agg cs.toArray)) w) : wpListIn (Fence.wide.inRound l) n P ops Q (o :: rest) a w :=
  listIn_op hgd (by rw [ho]; intro c e; cases e) fun _ hK => wp_load_mid ty x ho b off hx cs d hc hu hd hi (hK _ _ h)
theorem listIn_copy (hgd : o.guard = none) (s x : Operand) (t tn : TypeId) (ho : o.op = .call { callee := .builtin .copy, args := #[s, x], argTypes := #[t, tn] }) (vs vx : Value) (hs : a.eval s = vs) (hx : a.eval x = vx)
    (v' : Value) (w' : World) (hr : (Builtin.copy_ #[t, tn] o.type #[vs, vx]).run P w = .ok v' w') (h : wpListIn (Fence.wide.inRound l) n P ops Q rest (a.put o.dst v') w') : wpListIn (Fence.wide.inRound l) n P ops Q (o :: rest) a w :=
  listIn_op hgd (by rw [ho]; intro c e; cases e) fun _ hK => by
    unfold Oper.wp execOp
    simp only [ho, resolve, invoke, builtin, Sem.run_bind, Sem.run_pure, Result.andThen_ok, List.map_toArray, List.map_cons, List.map_nil, hs, hx, hr]
    exact hK _ _ h
end
structure ExI (w : World) (is os inf : List Int) (v1 v2 : List Value) (N gi : Nat) (ai : Option Addr) (ci q : Nat) (pre : List (PcN N)) (W : World) : Prop where
  told : ∃ zs : List Int, zs.length = N ∧ Blk W (w.heap.size + 1 + 1) .u8 zs ∧ (pre.map (·.1) = List.range pre.length → zs = tG is os inf N pre.length)
  last : ∃ (la : Option Addr) (lc lg : Nat), W.cell? ⟨q, 0, none⟩ = some (.slice la (pT is os inf pre.length).length lc) ∧ Own W lg la .u8 (pT is os inf pre.length) ∧ (la = none → lc = 0) ∧ (pT is os inf pre.length).length ≤ lc ∧ (0 < (pT is os inf pre.length).length → q + 4 ≤ lg)
  lastF : W.frozen? ⟨q, 0, none⟩ = false
  num : W.cell? ⟨q + 1, 0, none⟩ = some (.int .u8 ((pre.length : Nat) : Int))
  numF : W.frozen? ⟨q + 1, 0, none⟩ = false
  sum : W.rangeAt w.heap.size 0 (v1 ++ v2)
  info : W.cell? ⟨w.heap.size + 1, 0, none⟩ = some (.slice ai inf.length ci)
  infR : Rd W gi ai .u8 inf
  tab : HasT W 1 kL
  siz : q + 4 ≤ W.heap.size
  bel : Below w.heap.size w W
theorem exI_own {w : World} {is os inf : List Int} {v1 v2 : List Value} {N gi : Nat} {ai : Option Addr} {ci q B : Nat} (hB : w.heap.size ≤ B) : OwnFrom B (ExI w is os inf v1 v2 N gi ai ci q) := by
  intro s W W' row h hg hr
  have hr' : ∀ r, row = some r → ∃ o : Obj, W.heap[r]? = some o ∧ o.isCells = false := fun r e => (hr r e).2
  obtain ⟨zs, z1, z2, z3⟩ := h.told
  obtain ⟨la, lc, lg, l1, l2, l3, l4, l5⟩ := h.last
  refine ⟨⟨zs, z1, blk_ofK z2 hg hr', z3⟩, ⟨la, lc, lg, cell_kept l1 hg hr', own_ofK l2 hg hr', l3, l4, l5⟩, (frozen_kept l1 hg hr').trans h.lastF, cell_kept h.num hg hr', (frozen_kept h.num hg hr').trans h.numF, fun j v hv => cell_kept (h.sum j v hv) hg hr', cell_kept h.info hg hr', rd_ofK h.infR hg hr', fun k hk => cell_kept (h.tab k hk) hg hr', Nat.le_trans h.siz hg.size, ?_⟩
  exact h.bel.grown hg (Nat.le_trans (Nat.le_refl _) h.bel.size) (fun k e => Nat.le_trans hB (hr k e).1)
theorem lay_cons (zs : List Int) (o : Nat) (y : Int) (ys : List Int) (h : o + (ys.length + 1) ≤ zs.length) : lay (zs.set o y) (o + 1) ys = lay zs o (y :: ys) := by
  unfold lay
  rw [List.take_set, List.drop_set_of_lt (by omega), List.length_cons, show o + 1 + ys.length = o + (ys.length + 1) by omega]
  rw [show (List.take (o + 1) zs).set o y = zs.take o ++ [y] by
    rw [List.take_add_one, List.getElem?_eq_getElem (by omega)]
    simp only [Option.toList_some]
    rw [List.set_append_right _ _ (by rw [List.length_take]; omega), List.length_take, Nat.min_eq_left (by omega), Nat.sub_self]
    rfl]
  simp
theorem Blk.setCells {g : Nat} {k : IntKind} : ∀ (ys : List Int) {w : World} {zs : List Int} (_ : Blk w g k zs) (o : Nat), o + ys.length ≤ zs.length → Blk (w.setCells g o (ys.map (Value.int k))) g k (lay zs o ys)
  | [], w, zs, h, o, _ => by
    have : lay zs o [] = zs := by unfold lay; simp
    rw [this]
    exact h
  | y :: ys, w, zs, h, o, hl => by
    rw [List.length_cons] at hl
    have := Blk.setCells ys (h.store o y) (o + 1) (by rw [List.length_set]; omega)
    rw [lay_cons zs o y ys (by omega)] at this
    exact this
theorem tG_len (is os inf : List Int) (N : Nat) : ∀ k, 32 * k < N + 32 → (tG is os inf N k).length = N
  | 0, _ => List.length_replicate
  | k + 1, h => by
    have := tG_len is os inf N k (by omega)
    unfold tG
    rw [lay_len (by rw [List.length_take, pT_len, if_neg (by omega), this]; unfold pcL; omega), this]
theorem byt_oneX {x : Int} (h : 0 ≤ x ∧ x < 256) : Byt [x] := byt_cons h.1 h.2 byt_nil
theorem cat3 (a b c : Lst) : cat [a, b, c] = a.xs ++ (b.xs ++ c.xs) := by simp [cat]
theorem lsts_three (w : World) (t : TypeId) (a b c : Lst) : Lsts (w.alloc (.cells #[.slice a.a a.xs.length a.c, .slice b.a b.xs.length b.c, .slice c.a c.xs.length c.c] t)) w.heap.size [a, b, c] := by
  intro j x hj
  match j, hj with
  | 0, hj => simp at hj; subst hj; simp [World.cell?_alloc_at]
  | 1, hj => simp at hj; subst hj; simp [World.cell?_alloc_at]
  | 2, hj => simp at hj; subst hj; simp [World.cell?_alloc_at]
set_option maxRecDepth 100000 in
set_option maxHeartbeats 4000000 in
theorem expandD (w : World) (v1 v2 : List Value) (is os inf : List Int) (V1 : HV v1 is) (V2 : HV v2 os) (gi : Nat) (ai : Option Addr) (ci : Nat) (hi : Rd w gi ai .u8 inf) (bi : Byt inf) (li : inf.length ≤ ci) (N : Nat) (hN : N ≤ 8160)
    (hL : is.length + inf.length ≤ 1048576 * 4) (ho : os.length ≤ 1000000) (hT : HasT w 1 kL) :
    Calls Tryz.prog 102 #[.agg (v1 ++ v2).toArray, .slice ai inf.length ci, .int .i64 (N : Int)] w fun e w' => NewRow w.heap.size w' e .u8 (tG is os inf N ((N + 31) / 32)) ∧ Below w.heap.size w w' := by
  have gl0 : 0 < w.heap.size := Nat.lt_of_le_of_lt (Nat.zero_le _) (block_lt_of_cell (hT 0 (by decide)))
  obtain ⟨i0, hi0, hz0, hz1, hz2⟩ := info_parts Tryz.info5
  have l1 := V1.len
  have l2 := V2.len
  have L12 : Hid ((v1 ++ v2).length = 274) := by show _ = _; rw [List.length_append, l1, l2]
  have R0 := range_alloc w (v1 ++ v2) 137
  have n0 : Below w.heap.size w (w.alloc (.cells (v1 ++ v2).toArray 137)) := (Below.refl _ _).alloc (Nat.le_refl _) _
  have z0 : (w.alloc (.cells (v1 ++ v2).toArray 137)).heap.size = w.heap.size + 1 := by simp
  obtain ⟨vs, hvs⟩ : ∃ vs, vs = v1 ++ v2 := ⟨_, rfl⟩
  rw [← hvs] at R0 n0 z0 L12 ⊢
  have HVS := hide hvs
  clear hvs
  refine (callsIn_wide (n := 5)).1 (callsIn_of_wp_marks Tryz.func102 rfl trivial ?_ rfl)
  refine wpIn_wide.2 ?_
  simp only [Tryz.ntmps102, List.size_toArray, List.length_cons, List.length_nil, Nat.reduceAdd, Nat.reduceSub, Array.replicate_succ, Array.replicate_zero, List.push_toArray, List.append_toArray, List.nil_append, List.cons_append]
  go_upto_region 1 with fail
  generalize w.alloc (.cells vs.toArray 137) = wa at *
  have n1 : Below wa.heap.size wa (wa.alloc (.cells #[.slice ai inf.length ci] 22)) := (Below.refl _ _).alloc (Nat.le_refl _) _
  have C1 : (wa.alloc (.cells #[.slice ai inf.length ci] 22)).cell? ⟨wa.heap.size, 0, none⟩ = some (.slice ai inf.length ci) := by simp [World.cell?_alloc_at]
  have z1 : (wa.alloc (.cells #[.slice ai inf.length ci] 22)).heap.size = wa.heap.size + 1 := by simp
  generalize wa.alloc (.cells #[.slice ai inf.length ci] 22) = wb at *
  rw [z0] at C1 z1
  have R1 : wb.rangeAt w.heap.size 0 vs := fun j v hj => (World.cell?_of_block (a := ⟨w.heap.size, 0 + j, none⟩) (n1.block w.heap.size (by omega))).trans (R0 j v hj)
  have N1 := nxt n0 n1
  clear R0 n0 n1 z0
  have hN0 : (0 : Int) ≤ (N : Int) := by omega
  have hN1 : (N : Int) ≤ 8160 := by omega
  go_wp2_with (at_make; refine wpList_make_full _ rfl _ _ 22 rfl wb.heap.size 5 i0 (.int .u8 0) 1 Tryz.underlying22 hi0 hz0 hz1 .i64 .i64 _ _ N rfl rfl rfl rfl (by rw [hz2]; omega) (by unfold maxLen; omega) (Nat.le_refl _) ?_; intro w1 hown hgrow)
  have B2 := Blk.of_made hown
  have n2 : Below wb.heap.size wb w1 := (Below.refl _ _).grown hgrow (Nat.le_refl _) (by simp)
  clear hown hgrow
  rw [z1] at B2
  have N2 := nxt N1 n2
  have R2 : w1.rangeAt w.heap.size 0 vs := fun j v hj => (World.cell?_of_block (a := ⟨w.heap.size, 0 + j, none⟩) (n2.block w.heap.size (by omega))).trans (R1 j v hj)
  have C2 : w1.cell? ⟨w.heap.size + 1, 0, none⟩ = some (.slice ai inf.length ci) := (World.cell?_of_block (a := ⟨w.heap.size + 1, 0, none⟩) (n2.block (w.heap.size + 1) (by omega))).trans C1
  have g2 := B2.lt
  clear R1 C1 n2 N1 z1
  have n3 : Below w1.heap.size w1 (w1.alloc (.cells #[.slice none 0 0] 22)) := (Below.refl _ _).alloc (Nat.le_refl _) _
  have C3 : (w1.alloc (.cells #[.slice none 0 0] 22)).cell? ⟨w1.heap.size, 0, none⟩ = some (.slice none 0 0) := by simp [World.cell?_alloc_at]
  have F3 : (w1.alloc (.cells #[.slice none 0 0] 22)).frozen? ⟨w1.heap.size, 0, none⟩ = false := by simp [World.frozen?_alloc_at]
  have z3 : (w1.alloc (.cells #[.slice none 0 0] 22)).heap.size = w1.heap.size + 1 := by simp
  generalize w1.alloc (.cells #[.slice none 0 0] 22) = w3 at *
  have n4 : Below w3.heap.size w3 (w3.alloc (.cells #[.int .u8 0] 5)) := (Below.refl _ _).alloc (Nat.le_refl _) _
  have C4 : (w3.alloc (.cells #[.int .u8 0] 5)).cell? ⟨w3.heap.size, 0, none⟩ = some (.int .u8 0) := by simp [World.cell?_alloc_at]
  have F4 : (w3.alloc (.cells #[.int .u8 0] 5)).frozen? ⟨w3.heap.size, 0, none⟩ = false := by simp [World.frozen?_alloc_at]
  have z4 : (w3.alloc (.cells #[.int .u8 0] 5)).heap.size = w3.heap.size + 1 := by simp
  generalize w3.alloc (.cells #[.int .u8 0] 5) = w4 at *
  rw [z3] at C4 F4 z4
  refine (chunk_any w4 (w.heap.size + 1 + 1) N).mono ?_
  rintro e w6 ⟨rfl, rfl⟩
  have n5 : Below w4.heap.size w4 (w4.alloc (.cells #[.slice (some ⟨w.heap.size + 1 + 1, 0, none⟩) N N] 22)) := (Below.refl _ _).alloc (Nat.le_refl _) _
  have C5 : (w4.alloc (.cells #[.slice (some ⟨w.heap.size + 1 + 1, 0, none⟩) N N] 22)).cell? ⟨w4.heap.size, 0, none⟩ = some (.slice (some ⟨w.heap.size + 1 + 1, 0, none⟩) N N) := by simp [World.cell?_alloc_at]
  have z5 : (w4.alloc (.cells #[.slice (some ⟨w.heap.size + 1 + 1, 0, none⟩) N N] 22)).heap.size = w4.heap.size + 1 := by simp
  generalize w4.alloc (.cells #[.slice (some ⟨w.heap.size + 1 + 1, 0, none⟩) N N] 22) = w5 at *
  have n6 : Below w5.heap.size w5 (w5.alloc (.cells #[.int .i64 32] 3)) := (Below.refl _ _).alloc (Nat.le_refl _) _
  have C6 : (w5.alloc (.cells #[.int .i64 32] 3)).cell? ⟨w5.heap.size, 0, none⟩ = some (.int .i64 32) := by simp [World.cell?_alloc_at]
  have z6 : (w5.alloc (.cells #[.int .i64 32] 3)).heap.size = w5.heap.size + 1 := by simp
  generalize w5.alloc (.cells #[.int .i64 32] 3) = w6 at *
  rw [z4] at C5 z5 ⊢
  rw [z5] at C6 z6
  generalize hq : w1.heap.size = q at *
  have yq : w.heap.size + 1 + 1 < q := by omega
  have n36 : Below q w1 w6 := ((n3.trans (n4.mono (by omega))).trans (n5.mono (by omega))).trans (n6.mono (by omega))
  have N6 : Below w.heap.size w w6 := N2.trans (n36.mono (by omega))
  have U : ∀ b, b < q → w6.heap[b]? = w1.heap[b]? := fun b hb => n36.block b hb
  have I0 : ExI w is os inf v1 v2 N gi ai ci q [] w6 := by
    refine ⟨⟨_, List.length_replicate, B2.of_block (U _ (by omega)), fun _ => rfl⟩, ⟨none, 0, 0, ?_, Own.nil _ _ _ _, fun _ => rfl, Nat.le_refl _, fun h => absurd h (by simp [pT])⟩, ?_, ?_, ?_, ?_, ?_, hi.up N6, hT.up N6, by omega, N6⟩
    · exact (World.cell?_of_block (a := ⟨q, 0, none⟩) ((n6.block q (by omega)).trans ((n5.block q (by omega)).trans (n4.block q (by omega))))).trans C3
    · exact (World.frozen?_of_block (a := ⟨q, 0, none⟩) ((n6.block q (by omega)).trans ((n5.block q (by omega)).trans (n4.block q (by omega))))).trans F3
    · exact (World.cell?_of_block (a := ⟨q + 1, 0, none⟩) ((n6.block (q + 1) (by omega)).trans (n5.block (q + 1) (by omega)))).trans C4
    · exact (World.frozen?_of_block (a := ⟨q + 1, 0, none⟩) ((n6.block (q + 1) (by omega)).trans (n5.block (q + 1) (by omega)))).trans F4
    · intro j v hj
      rw [← HVS.out] at hj
      exact (World.cell?_of_block (a := ⟨w.heap.size, 0 + j, none⟩) (U w.heap.size (by omega))).trans (R2 j v hj)
    · exact (World.cell?_of_block (a := ⟨w.heap.size + 1, 0, none⟩) (U (w.heap.size + 1) (by omega))).trans C2
  have D5 : w6.cell? ⟨q + 1 + 1, 0, none⟩ = some (.slice (some ⟨w.heap.size + 1 + 1, 0, none⟩) N N) := (World.cell?_of_block (a := ⟨q + 1 + 1, 0, none⟩) (n6.block (q + 1 + 1) (by omega))).trans C5
  have s6 : w6.heap.size = q + 1 + 1 + 1 + 1 := z6
  have S6 := hide s6
  have YQ := hide yq
  clear U n36 n3 n4 n5 n6 C3 F3 C4 F4 C5 B2 R2 C2 N2 z3 z4 z5 z6 g2 hq s6 yq
  have TGlen : ∀ k, 32 * k < N + 32 → (tG is os inf N k).length = N := tG_len is os inf N
  go_wp2
  refine (wpIn_wide (n := 5)).1 (wpIn_rangeFunc_ownG (n := 5) rfl (by omega) (gf := 109) (lb := #[.pointer (some ⟨q + 1 + 1, 0, none⟩), .pointer (some ⟨q + 1 + 1 + 1, 0, none⟩)]) rfl trivial (enters_of Tryz.func109 (by kernel_rfl) rfl)
    (chunk_stops 4 (by omega) (q + 1 + 1) (q + 1 + 1 + 1) (w.heap.size + 1 + 1) N hN w6 (by have := S6.out; omega) (by have := S6.out; omega) D5 C6) KpB.t (KpB.b (by have := S6.out; omega) (by have := S6.out; omega)) (Below.refl _ _) (fun _ => rfl)
    (ExI w is os inf v1 v2 N gi ai ci q) (fun _ _ _ => False) (exI_own (by have := N6.size; omega)) (fun _ _ _ _ _ h _ _ => h) I0
    (fun x => { tmps := #[Value.agg vs.toArray, Value.slice ai inf.length ci, Value.int IntKind.i64 (N : Int), Value.pointer (some ⟨w.heap.size, 0, none⟩), Value.pointer (some ⟨w.heap.size + 1, 0, none⟩), undef, Value.slice none 0 0, Value.slice (some ⟨w.heap.size + 1 + 1, 0, none⟩) N N, Value.pointer (some ⟨q, 0, none⟩), Value.pointer (some ⟨q + 1, 0, none⟩), .slice (some ⟨w.heap.size + 1 + 1, 32 * x.1, none⟩) (pcL N x.1) (pcL N x.1), Value.int IntKind.i64 (N : Int), Value.slice (some ⟨w.heap.size + 1 + 1, 0, none⟩) N N, Value.slice (some ⟨w.heap.size + 1 + 1, 0, none⟩) N N, Value.func (Fn.func 109) #[] #[Value.pointer (some ⟨q + 1 + 1, 0, none⟩), Value.pointer (some ⟨q + 1 + 1 + 1, 0, none⟩)], .slice (some ⟨w.heap.size + 1 + 1, 32 * x.1, none⟩) (pcL N x.1) (pcL N x.1), undef, undef, undef, undef, undef, undef, undef, undef, undef, undef, undef, undef, undef], defers := [] }) ?assign ?body ?done ?stop)
  case assign =>
    intro l x W K hK
    unfold pcE
    gi_wp2
    exact hK
  case body =>
    rintro l pre x W hI hlen
    obtain ⟨zs, z1, z2, z3⟩ := hI.told
    obtain ⟨la, lc, lg, l1, l2, l3, l4, l5⟩ := hI.last
    have lf := hI.lastF
    have nc := hI.num
    have nf := hI.numF
    have sm := hI.sum
    have ic := hI.info
    have ir := hI.infR
    have tb := hI.tab
    have sz := hI.siz
    have be := hI.bel
    clear hI
    have yq := YQ.out
    have mb : 0 ≤ (pre.length : Int) + 1 ∧ (pre.length : Int) + 1 < 256 := by omega
    rw [← HVS.out] at sm
    have tl : (pT is os inf pre.length).length ≤ 32 := by rw [pT_len]; split <;> omega
    have tbt := pT_byt is os inf pre.length
    have PTe : Hid (pT is os inf (pre.length + 1) = hashL32 (os ++ hashL32 (is ++ (pT is os inf pre.length ++ (inf ++ [((pre.length : Int) + 1)]))))) := rfl
    obtain ⟨dK, hdK, hrowK⟩ := rowK
    -- the number
    have O1 := Only.setCell W (q + 1) 0 (.int .u8 ((pre.length : Int) + 1))
    have c1 : (W.setCell ⟨q + 1, 0, none⟩ (.int .u8 ((pre.length : Int) + 1))).cell? ⟨q + 1, 0, none⟩ = some (.int .u8 ((pre.length : Int) + 1)) := World.cell?_setCell_same _ _ _ nc
    have f1 : (W.setCell ⟨q + 1, 0, none⟩ (.int .u8 ((pre.length : Int) + 1))).frozen? ⟨q + 1, 0, none⟩ = false := by rw [frozen_setCell]; exact nf
    have kf1 : KeepsFrom w6.heap.size W (W.setCell ⟨q + 1, 0, none⟩ (.int .u8 ((pre.length : Int) + 1))) := (KeepsOthers.setCell _ _ _).from _
    have s1 : (W.setCell ⟨q + 1, 0, none⟩ (.int .u8 ((pre.length : Int) + 1))).rangeAt w.heap.size 0 vs := fun k v hk => (World.cell?_of_block (a := ⟨w.heap.size, 0 + k, none⟩) (O1.block w.heap.size (by omega))).trans (sm k v hk)
    have l1' := (World.cell?_of_block (a := ⟨q, 0, none⟩) (O1.block q (by omega))).trans l1
    have ic' := (World.cell?_of_block (a := ⟨w.heap.size + 1, 0, none⟩) (O1.block (w.heap.size + 1) (by omega))).trans ic
    obtain ⟨T, hTT⟩ : ∃ T, T = pT is os inf pre.length := ⟨_, rfl⟩
    rw [← hTT] at l1 l1' l2 l4 l5 tl tbt PTe
    clear hTT
    gi_wp2_with (refine listIn_load rfl 137 (.tmp 3) rfl w.heap.size 0 rfl vs dK s1 hdK hrowK (by rw [L12.out]; exact infoK) ?_)
    have sz1 := O1.size
    have kd := kf1
    have Bd1 : ∀ b, b ≠ q + 1 → (W.setCell ⟨q + 1, 0, none⟩ (.int .u8 ((pre.length : Int) + 1))).heap[b]? = W.heap[b]? := fun b hb => O1.block b hb
    have l2' := l2.only O1 (fun h => by have := l5 h; omega)
    generalize W.setCell ⟨q + 1, 0, none⟩ (.int .u8 ((pre.length : Int) + 1)) = W1 at *
    have n2 : Below W1.heap.size W1 (W1.alloc (.cells #[.int .u8 ((pre.length : Int) + 1)] 5)) := (Below.refl _ _).alloc (Nat.le_refl _) _
    have BL := blk_lit1 W1 .u8 5 ((pre.length : Int) + 1)
    have sz2 : (W1.alloc (.cells #[.int .u8 ((pre.length : Int) + 1)] 5)).heap.size = W1.heap.size + 1 := by simp
    generalize W1.alloc (.cells #[.int .u8 ((pre.length : Int) + 1)] 5) = W2 at *
    have n3 : Below W2.heap.size W2 (W2.alloc (.cells #[.slice la T.length lc, .slice ai inf.length ci, .slice (some ⟨W.heap.size, 0, none⟩) 1 1] 22)) := (Below.refl _ _).alloc (Nat.le_refl _) _
    have LS := lsts_three W2 22 ⟨lg, la, lc, T⟩ ⟨gi, ai, ci, inf⟩ ⟨W1.heap.size, some ⟨W.heap.size, 0, none⟩, 1, [(pre.length : Int) + 1]⟩
    have LS' : Lsts (W2.alloc (.cells #[.slice la T.length lc, .slice ai inf.length ci, .slice (some ⟨W.heap.size, 0, none⟩) 1 1] 22)) W2.heap.size [⟨lg, la, lc, T⟩, ⟨gi, ai, ci, inf⟩, ⟨W1.heap.size, some ⟨W.heap.size, 0, none⟩, 1, [(pre.length : Int) + 1]⟩] := LS
    have sz3 : (W2.alloc (.cells #[.slice la T.length lc, .slice ai inf.length ci, .slice (some ⟨W.heap.size, 0, none⟩) 1 1] 22)).heap.size = W2.heap.size + 1 := by simp
    generalize W2.alloc (.cells #[.slice la T.length lc, .slice ai inf.length ci, .slice (some ⟨W.heap.size, 0, none⟩) 1 1] 22) = W3 at *
    have N13 := nxt n2 n3
    have U3 : ∀ b, b < W1.heap.size → W3.heap[b]? = W1.heap[b]? := fun b hb => N13.block b hb
    have gil : 0 < inf.length → gi < w.heap.size := fun h => hi.lt h
    have tab1 : HasT W3 1 kL := tb.of_block ((U3 _ (by omega)).trans (Bd1 _ (by omega)))
    have OF := ofD W3 v1 v2 is os V1 V2 W2.heap.size 3 3 [⟨lg, la, lc, T⟩, ⟨gi, ai, ci, inf⟩, ⟨W1.heap.size, some ⟨W.heap.size, 0, none⟩, 1, [(pre.length : Int) + 1]⟩] rfl (by omega) LS' (by omega) (by
      intro x hx
      simp only [List.mem_cons, List.not_mem_nil, or_false] at hx
      rcases hx with rfl | rfl | rfl
      · exact ⟨(l2'.up N13).rd, tbt, l4⟩
      · refine ⟨?_, bi, li⟩
        by_cases h0 : 0 < inf.length
        · have := gil h0
          exact ir.of_block ((U3 _ (by omega)).trans (Bd1 _ (by omega)))
        · exact fun h1 => absurd h1 h0
      · refine ⟨?_, byt_oneX mb, Nat.le_refl _⟩
        have := (BL.up n3).own0.rd
        rw [sz1] at this ⊢
        exact this) (by rw [cat3]; simp only [List.length_append, List.length_cons, List.length_nil]; omega) ho tab1
    rw [cat3] at OF
    have OF2 : Calls Tryz.prog 95 #[.agg vs.toArray, .slice (some ⟨W.heap.size + 1, 0, none⟩) 3 3] W3 fun e w' => NewRow W3.heap.size w' e .u8 (pT is os inf (pre.length + 1)) ∧ Below W3.heap.size W3 w' := by
      rw [HVS.out, PTe.out, show W.heap.size + 1 = W2.heap.size by omega]
      exact OF
    refine ⟨trivial, (CallsIn.inRound l (callsIn_wide.2 OF2)).mono ?_⟩
    rintro e W4 ⟨⟨a4, c4, g4, rfl, o4, p4, q4, r4⟩, n4⟩
    clear OF OF2 LS LS'
    have tl4 := hide (show (pT is os inf (pre.length + 1)).length = 32 by rw [pT_len, if_neg (by omega)])
    have tb4 := pT_byt is os inf (pre.length + 1)
    obtain ⟨T4, hT4⟩ : ∃ T, T = pT is os inf (pre.length + 1) := ⟨_, rfl⟩
    rw [← hT4] at o4 q4 tl4 tb4 ⊢
    have HT4 := hide hT4
    clear hT4
    have U4 : ∀ b, b < W1.heap.size → W4.heap[b]? = W1.heap[b]? := fun b hb => (n4.block b (by omega)).trans (U3 b hb)
    have c4' : W4.cell? ⟨q, 0, none⟩ = some (.slice la T.length lc) := (World.cell?_of_block (a := ⟨q, 0, none⟩) (U4 q (by omega))).trans l1'
    have f4' : W4.frozen? ⟨q, 0, none⟩ = false := (World.frozen?_of_block (a := ⟨q, 0, none⟩) ((U4 q (by omega)).trans (Bd1 q (by omega)))).trans lf
    have c5' : (W4.setCell ⟨q, 0, none⟩ (.slice a4 T4.length c4)).cell? ⟨q, 0, none⟩ = some (.slice a4 T4.length c4) := World.cell?_setCell_same _ _ _ c4'
    have O5 := Only.setCell W4 q 0 (.slice a4 T4.length c4)
    have o5 := o4.only O5 (fun _ => by omega)
    have f5' : (W4.setCell ⟨q, 0, none⟩ (.slice a4 T4.length c4)).frozen? ⟨q, 0, none⟩ = false := by rw [frozen_setCell]; exact f4'
    have B5 : Blk (W4.setCell ⟨q, 0, none⟩ (.slice a4 T4.length c4)) (w.heap.size + 1 + 1) .u8 zs := z2.of_block ((O5.block _ (by omega)).trans ((U4 _ (by omega)).trans (Bd1 _ (by omega))))
    have kf5 : KeepsFrom w6.heap.size W (W4.setCell ⟨q, 0, none⟩ (.slice a4 T4.length c4)) := ((kd.trans (keeps_below N13)).trans (keeps_below n4)).trans ((KeepsOthers.setCell _ _ _).from _)
    have sz5 : W1.heap.size + 2 ≤ (W4.setCell ⟨q, 0, none⟩ (.slice a4 T4.length c4)).heap.size := by have := n4.size; have := O5.size; omega
    have U5 : ∀ b, b < W.heap.size → b ≠ q → b ≠ q + 1 → (W4.setCell ⟨q, 0, none⟩ (.slice a4 T4.length c4)).heap[b]? = W.heap[b]? := fun b h0 h1 h2 => (O5.block b h1).trans ((U4 b (by omega)).trans (Bd1 b h2))
    obtain ⟨ad, hread⟩ : ∃ ad, a4 = some ad := by
      cases a4 with
      | none => exact absurd (o4.rd (by rw [tl4.out]; decide)) (by rintro ⟨_, h, _⟩; cases h)
      | some ad => exact ⟨ad, rfl⟩
    subst hread
    have xl := x.2
    obtain ⟨pe, hpe⟩ : ∃ e, e = pcL N x.1 := ⟨_, rfl⟩
    have pe1 : pe ≤ 32 := by rw [hpe]; unfold pcL; omega
    have pe2 : 32 * x.1 + pe ≤ N := by rw [hpe]; unfold pcL; omega
    rw [← hpe]
    have PE := hide hpe
    clear hpe
    obtain ⟨off, ead, hcs⟩ := o5.rd (by rw [tl4.out]; decide)
    simp only [Option.some.injEq] at ead
    subst ead
    have tk : ((T4.take pe).map (Value.int .u8)).length = pe := by rw [List.length_map, List.length_take, tl4.out]; omega
    have hrun := run_copy_cells (P := Tryz.prog) (W4.setCell ⟨q, 0, none⟩ (.slice (some ⟨g4, off, none⟩) T4.length c4)) 22 22 3 5 (w.heap.size + 1 + 1) (32 * x.1) pe pe ⟨g4, off, none⟩ T4.length c4 ((T4.take pe).map (Value.int .u8)) und22h s5 (by rw [tk, tl4.out]; exact (Nat.min_eq_right pe1).symm)
      (fun j v hj => by
        have hjl : j < (T4.take pe).length := by have := (List.getElem?_eq_some_iff.1 hj).1; simpa using this
        have hj2 : j < T4.length := by rw [List.length_take] at hjl; omega
        have hj3 : j < pe := by rw [List.length_take] at hjl; omega
        have e : (T4.take pe).getD j 0 = T4.getD j 0 := by rw [List.getD_eq_getElem?_getD, List.getD_eq_getElem?_getD, List.getElem?_take, if_pos hj3]
        rw [Addr.add_mid, hcs j hj2, ← e]
        clear e
        revert hj hjl
        generalize T4.take pe = tk4
        intro hj hjl
        simpa [hjl] using hj)
      (fun j hj => by
        rw [tk] at hj
        rw [B5.cell (i := 32 * x.1 + j) (by omega)]
        rfl)
      (fun j hj => B5.free _)
      (fun v hv => by obtain ⟨x, _, rfl⟩ := List.mem_map.1 hv; rfl)
    rw [tk] at hrun
    have B6 := B5.setCells (T4.take pe) (32 * x.1) (by rw [List.length_take, tl4.out]; omega)
    have O6 := only_setCells (W4.setCell ⟨q, 0, none⟩ (.slice (some ⟨g4, off, none⟩) T4.length c4)) (w.heap.size + 1 + 1) ((T4.take pe).map (Value.int .u8)) (32 * x.1)
    have kf6 := kf5.trans (keeps_cells (B := w6.heap.size) (W4.setCell ⟨q, 0, none⟩ (.slice (some ⟨g4, off, none⟩) T4.length c4)) (w.heap.size + 1 + 1) ((T4.take pe).map (Value.int .u8)) (32 * x.1))
    have o6 := o5.only O6 (fun _ => by omega)
    have c6 := (World.cell?_of_block (a := ⟨q, 0, none⟩) (O6.block q (by omega))).trans c5'
    have f6 := (World.frozen?_of_block (a := ⟨q, 0, none⟩) (O6.block q (by omega))).trans f5'
    have lx : (pre ++ [x]).length = pre.length + 1 := by simp
    have LL : (lay zs (32 * x.1) (T4.take pe)).length = N := by rw [lay_len (by rw [List.length_take, tl4.out]; omega)]; exact z1
    have U6 : ∀ b, b < W.heap.size → b ≠ q → b ≠ q + 1 → b ≠ w.heap.size + 1 + 1 → ((W4.setCell ⟨q, 0, none⟩ (.slice (some ⟨g4, off, none⟩) T4.length c4)).setCells (w.heap.size + 1 + 1) (32 * x.1) ((T4.take pe).map (Value.int .u8))).heap[b]? = W.heap[b]? := fun b h0 h1 h2 h3 => (O6.block b h3).trans (U5 b h0 h1 h2)
    have num6 : ((W4.setCell ⟨q, 0, none⟩ (.slice (some ⟨g4, off, none⟩) T4.length c4)).setCells (w.heap.size + 1 + 1) (32 * x.1) ((T4.take pe).map (Value.int .u8))).heap[q + 1]? = W1.heap[q + 1]? := (O6.block (q + 1) (by omega)).trans ((O5.block (q + 1) (by omega)).trans (U4 (q + 1) (by omega)))
    have sz6 : q + 4 ≤ ((W4.setCell ⟨q, 0, none⟩ (.slice (some ⟨g4, off, none⟩) T4.length c4)).setCells (w.heap.size + 1 + 1) (32 * x.1) ((T4.take pe).map (Value.int .u8))).heap.size := by have := O6.size; omega
    have I6 : ExI w is os inf v1 v2 N gi ai ci q (pre ++ [x]) ((W4.setCell ⟨q, 0, none⟩ (.slice (some ⟨g4, off, none⟩) T4.length c4)).setCells (w.heap.size + 1 + 1) (32 * x.1) ((T4.take pe).map (Value.int .u8))) := by
      generalize (W4.setCell ⟨q, 0, none⟩ (.slice (some ⟨g4, off, none⟩) T4.length c4)).setCells (w.heap.size + 1 + 1) (32 * x.1) ((T4.take pe).map (Value.int .u8)) = W6 at *
      refine ⟨⟨_, LL, B6, fun h => ?_⟩, ⟨some ⟨g4, off, none⟩, c4, g4, ?_, ?_, by simp, ?_, fun _ => by omega⟩, f6, ?_, ?_, ?_, ?_, ?_, ?_, sz6, ?_⟩
      · rw [lx, List.map_append, List.range_succ] at h
        obtain ⟨h1, h2⟩ := List.append_inj' h rfl
        have h2' : x.1 = pre.length := by simpa using h2
        rw [lx, z3 h1, HT4.out, PE.out, h2']
        rfl
      · rw [lx, ← HT4.out]; exact c6
      · rw [lx, ← HT4.out]; exact o6
      · rw [lx, ← HT4.out]; exact q4
      · rw [lx]
        exact (World.cell?_of_block (a := ⟨q + 1, 0, none⟩) num6).trans c1
      · exact (World.frozen?_of_block (a := ⟨q + 1, 0, none⟩) num6).trans f1
      · intro k v hk
        rw [← HVS.out] at hk
        exact (World.cell?_of_block (a := ⟨w.heap.size, 0 + k, none⟩) (U6 w.heap.size (by omega) (by omega) (by omega) (by omega))).trans (sm k v hk)
      · exact (World.cell?_of_block (a := ⟨w.heap.size + 1, 0, none⟩) (U6 (w.heap.size + 1) (by omega) (by omega) (by omega) (by omega))).trans ic
      · by_cases h0 : 0 < inf.length
        · have := gil h0
          exact ir.of_block (U6 gi (by omega) (by omega) (by omega) (by omega))
        · exact fun h1 => absurd h1 h0
      · exact tb.of_block (U6 _ (by omega) (by omega) (by omega) (by omega))
      · exact ⟨O6.os.trans (O5.os.trans (n4.os.trans (N13.os.trans (O1.os.trans be.os)))), O6.tape.trans (O5.tape.trans (n4.tape.trans (N13.tape.trans (O1.tape.trans be.tape)))), O6.output.trans (O5.output.trans (n4.output.trans (N13.output.trans (O1.output.trans be.output)))), by have := be.size; omega, fun b hb => (U6 b (by omega) (by omega) (by omega) (by omega)).trans (be.block b hb)⟩
    have K6 : KpB (q + 1 + 1) (q + 1 + 1 + 1) W ((W4.setCell ⟨q, 0, none⟩ (.slice (some ⟨g4, off, none⟩) T4.length c4)).setCells (w.heap.size + 1 + 1) (32 * x.1) ((T4.take pe).map (Value.int .u8))) := ⟨U6 _ (by omega) (by omega) (by omega) (by omega), U6 _ (by omega) (by omega) (by omega) (by omega)⟩
    gi_wp2_with (refine listIn_copy rfl (.tmp 25) (.tmp 26) 22 22 rfl _ _ rfl rfl _ _ hrun ?_)
    exact ⟨kf6, K6, I6⟩
  case done =>
    rintro D ys W hD hS hI hK
    have yl : ys.length = (N + 31) / 32 := by have := congrArg List.length hS; simpa using this
    obtain ⟨zs, z1, z2, z3⟩ := hI.told
    have ez : zs = tG is os inf N ((N + 31) / 32) := by rw [z3 (by rw [yl]; exact hS), yl]
    have hdd : w.heap.size + 1 + 1 < D := by have := S6.out; have := YQ.out; omega
    have B9 : Blk (W.putObj D (.deferred none)) (w.heap.size + 1 + 1) .u8 zs := z2.of_block (World.putObj_heap_other (by omega))
    have N9 : Below w.heap.size w (W.putObj D (.deferred none)) := hI.bel.trans (belowK_b (w := w) (Nat.le_refl _) W D _ _ (by omega) hK rfl rfl)
    have EZ := hide ez
    have ZL := hide z1
    clear z1 z2 z3 ez hI yl hS
    go_wp2
    refine ⟨by simp, .inl ⟨_, _, rfl, run_takeDeferred hK, ?_⟩⟩
    exact ⟨_, results_tmp rfl _ _ _, ⟨some ⟨w.heap.size + 1 + 1, 0, none⟩, N, w.heap.size + 1 + 1, by rw [← EZ.out, ZL.out]; rfl, by rw [← EZ.out]; exact B9.own0, by simp, by rw [← EZ.out, ZL.out]; exact Nat.le_refl _, by omega⟩, N9⟩
  case stop =>
    rintro D c pre W hD hs h hK
    exact h.elim
end Go.Proofs.YtmfajpplagbfcaaGreatDoor
namespace Go.Proofs.YtmfajpplagbfcaaGreatDoor
set_option maxRecDepth 100000
open Go Go.RowKit
def tM (ks inf : List Int) (j : Nat) : List Int := pT (maskL (keyL ks) 54) (maskL (keyL ks) 92) inf j
theorem tM_len (ks inf : List Int) {j : Nat} (h : 0 < j) : (tM ks inf j).length = 32 := by unfold tM; rw [pT_len, if_neg (by omega)]
theorem tM_byt (ks inf : List Int) (j : Nat) : Byt (tM ks inf j) := pT_byt _ _ _ _
def catT (ks inf : List Int) : Nat → List Int
  | 0 => []
  | k + 1 => catT ks inf k ++ tM ks inf (k + 1)
theorem catT_len (ks inf : List Int) : ∀ k, (catT ks inf k).length = 32 * k
  | 0 => rfl
  | k + 1 => by unfold catT; rw [List.length_append, catT_len ks inf k, tM_len _ _ (by omega)]; omega
theorem catT_byt (ks inf : List Int) : ∀ k, Byt (catT ks inf k)
  | 0 => byt_nil
  | k + 1 => byt_apd (catT_byt ks inf k) (tM_byt ks inf (k + 1))
def expL (ks inf : List Int) (N : Nat) : List Int := (catT ks inf ((N + 31) / 32)).take N
theorem expL_len (ks inf : List Int) (N : Nat) : (expL ks inf N).length = N := by unfold expL; rw [List.length_take, catT_len]; omega
theorem expL_byt (ks inf : List Int) (N : Nat) : Byt (expL ks inf N) := byt_takeh (catT_byt _ _ _) _
theorem tG_is (ks inf : List Int) (N : Nat) : ∀ k, 32 * k < N + 32 → tG (maskL (keyL ks) 54) (maskL (keyL ks) 92) inf N k = (catT ks inf k).take N ++ List.replicate (N - 32 * k) 0
  | 0, _ => by
    show List.replicate N 0 = _
    simp [catT]
  | k + 1, h => by
    have ih := tG_is ks inf N k (by omega)
    have lc := catT_len ks inf k
    have lt := tM_len ks inf (j := k + 1) (by omega)
    show lay (tG _ _ inf N k) (32 * k) ((tM ks inf (k + 1)).take (pcL N k)) = (catT ks inf k ++ tM ks inf (k + 1)).take N ++ _
    rw [ih, List.take_of_length_le (show (catT ks inf k).length ≤ N by omega)]
    unfold lay
    have e1 : ((tM ks inf (k + 1)).take (pcL N k)).length = pcL N k := by rw [List.length_take, lt]; unfold pcL; omega
    have e3 : (catT ks inf k ++ List.replicate (N - 32 * k) 0).drop (32 * k + pcL N k) = List.replicate (N - 32 * (k + 1)) 0 := by
      rw [List.drop_append, List.drop_eq_nil_of_le (by rw [lc]; omega), List.nil_append, List.drop_replicate, lc]
      congr 1
      unfold pcL
      omega
    have e2 : (tM ks inf (k + 1)).take (N - 32 * k) = (tM ks inf (k + 1)).take (pcL N k) := by
      unfold pcL
      by_cases c : N - 32 * k ≤ 32
      · rw [Nat.min_eq_right c]
      · rw [Nat.min_eq_left (by omega), List.take_of_length_le (by omega), List.take_of_length_le (by omega)]
    rw [e1, e3, List.take_left' lc, List.take_append, lc, List.take_of_length_le (show (catT ks inf k).length ≤ N by omega), e2, List.append_assoc]
theorem tG_exp (ks inf : List Int) (N : Nat) : tG (maskL (keyL ks) 54) (maskL (keyL ks) 92) inf N ((N + 31) / 32) = expL ks inf N := by
  rw [tG_is ks inf N _ (by omega), show N - 32 * ((N + 31) / 32) = 0 by omega]
  simp [expL]
end Go.Proofs.YtmfajpplagbfcaaGreatDoor
namespace Go.Proofs.YtmfajpplagbfcaaGreatDoor
set_option maxRecDepth 100000
open Go Go.RowKit
set_option maxHeartbeats 400000 in
theorem implExtract_any (w : World) (g : Nat) (a : Option Addr) (c : Nat) (ks : List Int) (hr : Rd w g a .u8 ks) (hk : Byt ks) (hc : ks.length ≤ c) (hn : ks.length ≤ 1048576) (gd : Nat) (ad : Option Addr) (cd : Nat) (xs : List Int) (hd : Rd w gd ad .u8 xs) (hx : Byt xs) (hcd : xs.length ≤ cd) (hnd : xs.length ≤ 549755813888)
    (hS : HasT w 0 stLh) (hT : HasT w 1 kL) :
    Calls Tryz.prog 72 #[.slice a ks.length c, .slice ad xs.length cd] w fun e w' => NewRow w.heap.size w' e .u8 (macL ks xs) ∧ Below w.heap.size w w' := by
  have M := hide (implMac_any w g a c ks hr hk hc hn gd ad cd xs hd hx hcd hnd hS hT)
  obtain ⟨rs, hrs⟩ : ∃ l, l = macL ks xs := ⟨_, rfl⟩
  rw [← hrs] at M ⊢
  clear hrs
  go_enter Tryz.func72, Tryz.ntmps72
  go_wp2_with fail
  refine M.out.mono ?_
  rintro r w1 ⟨⟨a1, c1, g1, rfl, o1, p1, q1, r1⟩, n1⟩
  go_wp2
  go_ret
  exact ⟨⟨a1, c1, g1, rfl, o1, p1, q1, r1⟩, n1⟩
end Go.Proofs.YtmfajpplagbfcaaGreatDoor
namespace Go.Proofs.YtmfajpplagbfcaaGreatDoor
set_option maxRecDepth 100000
open Go Go.RowKit
theorem isExpandable_any (w : World) (n : Int) : Calls Tryz.prog 101 #[.int .i64 n] w fun e w' => e = .returned (.bool (decide (0 ≤ n ∧ n ≤ 8160))) ∧ w' = w := by
  by_cases c0 : 0 ≤ n
  · by_cases c1 : n ≤ 8160
    · have t0 : decide (0 ≤ n) = true := by simpa using c0
      have t1 : decide (n ≤ 8160) = true := by simpa using c1
      go_enter Tryz.func101, Tryz.ntmps101
      go_wp2
      go_ret
      exact ⟨by simp [c0, c1], rfl⟩
    · have t0 : decide (0 ≤ n) = true := by simpa using c0
      have t1 : decide (n ≤ 8160) = false := by simpa using c1
      go_enter Tryz.func101, Tryz.ntmps101
      go_wp2
      go_ret
      exact ⟨by simp, rfl⟩
  · have t0 : decide (0 ≤ n) = false := by simpa using c0
    go_enter Tryz.func101, Tryz.ntmps101
    go_wp2
    go_ret
    exact ⟨by simp, rfl⟩
theorem Own.take {w : World} {g : Nat} {a : Option Addr} {k : IntKind} {xs : List Int} (h : Own w g a k xs) (n : Nat) : Own w g a k (xs.take n) := by
  intro h0
  rw [List.length_take] at h0
  obtain ⟨off, e, hc⟩ := h (by omega)
  refine ⟨off, e, fun i hi => ?_⟩
  rw [List.length_take] at hi
  rw [List.getD_eq_getElem?_getD, List.getElem?_take, if_pos (by omega), ← List.getD_eq_getElem?_getD]
  exact hc i (by omega)
end Go.Proofs.YtmfajpplagbfcaaGreatDoor
namespace Go.Proofs.YtmfajpplagbfcaaGreatDoor
set_option maxRecDepth 100000
open Go Go.RowKit
end Go.Proofs.YtmfajpplagbfcaaGreatDoor
namespace Go.Proofs.YtmfajpplagbfcaaGreatDoor
set_option maxRecDepth 100000
open Go Go.RowKit
def labA (ks : List Int) (s : ByteArray) (ctx : List Int) (n : Int) : List Int := if (s.size ≤ 200 ∧ ctx.length ≤ 255) ∧ 0 ≤ n ∧ n ≤ 8160 then expL ks (infoL s ctx n.toNat) n.toNat else []
theorem labA_len (ks : List Int) (s : ByteArray) (ctx : List Int) (n : Int) : (labA ks s ctx n).length ≤ 8160 := by
  unfold labA
  split
  · rw [expL_len]; omega
  · simp
set_option maxHeartbeats 4000000 in
theorem implLabel_any (w : World) (g : Nat) (a : Option Addr) (c : Nat) (ks : List Int) (hr : Rd w g a .u8 ks) (hk : Byt ks) (hc : ks.length ≤ c) (hn : ks.length ≤ 1048576) (s : ByteArray) (hss : s.size ≤ 1048576) (gd : Nat) (ad : Option Addr) (cd : Nat) (ctx : List Int) (hd : Rd w gd ad .u8 ctx) (hx : Byt ctx) (hcd : ad = none → cd = 0) (hnd : ctx.length ≤ 1048576) (n : Int)
    (hS : HasT w 0 stLh) (hT : HasT w 1 kL) :
    Calls Tryz.prog 93 #[.slice a ks.length c, .string s, .slice ad ctx.length cd, .int .i64 n] w fun e w' => NewRow w.heap.size w' e .u8 (labA ks s ctx n) ∧ Below w.heap.size w w' := by
  have IE := fun W => hide (isExpandable_any W n)
  by_cases c1 : s.size ≤ 200
  · have t1 : decide ((200 : Int) < (s.size : Int)) = false := by simp; omega
    by_cases c2 : ctx.length ≤ 255
    · have t2 : decide ((255 : Int) < (ctx.length : Int)) = false := by simp; omega
      by_cases hin : 0 ≤ n ∧ n ≤ 8160
      · have t0 : decide (0 ≤ n ∧ n ≤ 8160) = true := decide_eq_true hin
        rw [t0] at IE
        obtain ⟨N, rfl⟩ := Int.eq_ofNat_of_zero_le hin.1
        have hN : N ≤ 8160 := by omega
        have NK := hide (newKeyed_any w g a c ks hr hk hc (by omega) hS hT)
        have LI := hide (fun W (b : Below w.heap.size w W) => labelInfo_any W s c1 gd ad cd ctx (hd.up b) c2 hcd N hN)
        have IB := infoL_byt (N := N) c1 hx c2 hN
        have IL := infoL_len s ctx N
        have ED := hide (fun W v1 v2 g' a' c' (h' : Rd W g' a' .u8 (infoL s ctx N)) (p' : (infoL s ctx N).length ≤ c') (b : Below w.heap.size w W) (V1 : HV v1 (maskL (keyL ks) 54)) (V2 : HV v2 (maskL (keyL ks) 92)) => expandD W v1 v2 _ _ (infoL s ctx N) V1 V2 g' a' c' h' IB p' N hN (by rw [maskL_len]; omega) (by rw [maskL_len]; omega) (hT.up b))
        obtain ⟨rs, hrs⟩ : ∃ l, l = labA ks s ctx (N : Int) := ⟨_, rfl⟩
        have HR : Hid (tG (maskL (keyL ks) 54) (maskL (keyL ks) 92) (infoL s ctx N) N ((N + 31) / 32) = rs) := by
          show _ = _
          rw [hrs, tG_exp]
          unfold labA
          rw [if_pos ⟨⟨c1, c2⟩, hin⟩]
          rfl
        rw [← hrs]
        clear hrs hin t0 IL
        rw [HR.out] at ED
        generalize infoL s ctx N = inf at *
        go_enter Tryz.func93, Tryz.ntmps93
        go_wp2_with fail
        refine (IE w).out.mono ?_
        rintro r w0 ⟨rfl, rfl⟩
        go_wp2_with fail
        refine NK.out.mono ?_
        rintro r w1 ⟨⟨v1, v2, rfl, V1, V2⟩, n1⟩
        have ED1 := hide (fun W g' a' c' h' p' b => ED.out W v1 v2 g' a' c' h' p' b V1 V2)
        clear ED NK V1 V2
        generalize v1 ++ v2 = vs at *
        go_wp2_with fail
        refine (LI.out w1 n1).mono ?_
        rintro r w2 ⟨⟨a2, c2', g2, rfl, o2, p2, q2, r2⟩, n2⟩
        have N2 := nxt n1 n2
        go_wp2_with fail
        refine (ED1.out w2 g2 a2 c2' o2.rd q2 N2).mono ?_
        rintro r w3 ⟨⟨a3, c3, g3, rfl, o3, p3, q3, r3⟩, n3⟩
        have y1 := N2.size
        go_wp2
        go_ret
        exact ⟨⟨a3, c3, g3, rfl, o3, p3, q3, by omega⟩, nxt N2 n3⟩
      · have t0 : decide (0 ≤ n ∧ n ≤ 8160) = false := decide_eq_false hin
        rw [t0] at IE
        have e : labA ks s ctx n = [] := by unfold labA; rw [if_neg (fun h => hin h.2)]
        rw [e]
        go_enter Tryz.func93, Tryz.ntmps93
        go_wp2_with fail
        refine (IE w).out.mono ?_
        rintro r w0 ⟨rfl, rfl⟩
        go_wp2
        go_ret
        exact ⟨newRow_z _ _, Below.refl _ _⟩
    · have t2 : decide ((255 : Int) < (ctx.length : Int)) = true := by simp; omega
      have e : labA ks s ctx n = [] := by unfold labA; rw [if_neg (fun h => c2 h.1.2)]
      rw [e]
      go_enter Tryz.func93, Tryz.ntmps93
      go_wp2
      go_ret
      exact ⟨newRow_z _ _, Below.refl _ _⟩
  · have t1 : decide ((200 : Int) < (s.size : Int)) = true := by simp; omega
    have e : labA ks s ctx n = [] := by unfold labA; rw [if_neg (fun h => c1 h.1.1)]
    rw [e]
    go_enter Tryz.func93, Tryz.ntmps93
    go_wp2
    go_ret
    exact ⟨newRow_z _ _, Below.refl _ _⟩
set_option maxHeartbeats 400000 in
theorem implDerive_any (w : World) (g : Nat) (a : Option Addr) (c : Nat) (ks : List Int) (hr : Rd w g a .u8 ks) (hk : Byt ks) (hc : ks.length ≤ c) (hn : ks.length ≤ 1048576) (s : ByteArray) (hss : s.size ≤ 1048576) (gd : Nat) (ad : Option Addr) (cd : Nat) (ctx : List Int) (hd : Rd w gd ad .u8 ctx) (hx : Byt ctx) (hcd : ad = none → cd = 0) (hnd : ctx.length ≤ 1048576)
    (hS : HasT w 0 stLh) (hT : HasT w 1 kL) :
    Calls Tryz.prog 81 #[.slice a ks.length c, .string s, .slice ad ctx.length cd] w fun e w' => NewRow w.heap.size w' e .u8 (labA ks s ctx 32) ∧ Below w.heap.size w w' := by
  have M := hide (implLabel_any w g a c ks hr hk hc hn s hss gd ad cd ctx hd hx hcd hnd 32 hS hT)
  obtain ⟨rs, hrs⟩ : ∃ l, l = labA ks s ctx 32 := ⟨_, rfl⟩
  rw [← hrs] at M ⊢
  clear hrs
  go_enter Tryz.func81, Tryz.ntmps81
  go_wp2_with fail
  refine M.out.mono ?_
  rintro r w1 ⟨⟨a1, c1, g1, rfl, o1, p1, q1, r1⟩, n1⟩
  go_wp2
  go_ret
  exact ⟨⟨a1, c1, g1, rfl, o1, p1, q1, r1⟩, n1⟩
end Go.Proofs.YtmfajpplagbfcaaGreatDoor
namespace Go.Proofs.YtmfajpplagbfcaaGreatDoor
set_option maxRecDepth 100000
open Go.RowKit
theorem gSth : Tryz.prog.globalNamed "loop.example/g00004/impl.startWords" = some 0 := by kernel_rfl
theorem tSth : (Tryz.prog.globals[0]?).map (·.type) = some 118 := by kernel_rfl
theorem gSp : Tryz.prog.globalNamed "loop.example/g00004/impl.stepWords" = some 1 := by kernel_rfl
theorem tSp : (Tryz.prog.globals[1]?).map (·.type) = some 132 := by kernel_rfl
theorem uSt : Tryz.prog.underlying 118 = some (.array 8 117) := by kernel_rfl
theorem uSp : Tryz.prog.underlying 132 = some (.array 80 117) := by kernel_rfl
theorem cSt : Tryz.prog.cellsOf 118 = 8 := by kernel_rfl
theorem cSp : Tryz.prog.cellsOf 132 = 80 := by kernel_rfl
theorem cUw : Tryz.prog.cellsOf 117 = 1 := by kernel_rfl
theorem uUw : Tryz.prog.underlying 117 = some (.int .u64) := by kernel_rfl
theorem hasT_of {W : World} {n : String} {g : Nat} {ty : TypeId} {N : Nat} {l : List Int} (hn : Tryz.prog.globalNamed n = some g) (ht : (Tryz.prog.globals[g]?).map (·.type) = some ty) (hu : Tryz.prog.underlying ty = some (.array N 117)) (hc : Tryz.prog.cellsOf ty = N)
    (h : Lib.VarReads Tryz.prog W n (.agg (l.map fun x => .lit (.int .u64 x)))) : HasT W g l := by
  obtain ⟨g', t, cs, fuel, p, hg, ht', hv, hd⟩ := h
  obtain rfl := Option.some.inj (hn.symm.trans hg)
  obtain rfl := Option.some.inj (ht.symm.trans ht')
  have hcs := Lib.cells_of_tab (zs := l) hu uUw cUw hc hd
  intro k hk
  rw [World.var?_cell hg hv k]
  obtain ⟨m⟩ := cs
  simp only at hcs
  subst hcs
  simp [hk]
theorem reads_ofH {l : List (String × DataW Unit)} {W : World} (h : laidMetH Tryz.prog l W) (hp : (l.all fun x => x.2.handleName?.isNone) = true) {n : String} {d : DataW Unit} (hm : (n, d) ∈ l) : Lib.VarReads Tryz.prog W n d := by
  rw [MakeChecks.laidMetH_plain _ _ _ hp] at h
  exact Lib.laidMet.reads h hm
theorem start_of {W : World} (h : Lib.VarReads Tryz.prog W "loop.example/g00004/impl.startWords" Rows.laid_loop_example_g00004_impl_startWords) : HasT W 0 stLh := hasT_of gSth tSth uSt cSt h
theorem steps_of {W : World} (h : Lib.VarReads Tryz.prog W "loop.example/g00004/impl.stepWords" Rows.laid_loop_example_g00004_impl_stepWords) : HasT W 1 kL := hasT_of gSp tSp uSp cSp h
def HasH (W : World) : Prop := HasT W 0 stLh ∧ HasT W 1 kL
theorem HasH.up {w w' : World} (h : HasH w) (n : Below w.heap.size w w') : HasH w' := ⟨h.1.up n, h.2.up n⟩
end Go.Proofs.YtmfajpplagbfcaaGreatDoor
namespace Go.Proofs.YtmfajpplagbfcaaGreatDoor
set_option maxRecDepth 100000
open Go Go.RowKit
theorem NewRow.low {B B' : Nat} {w : World} {e : Ending} {k : IntKind} {ys : List Int} (h : NewRow B w e k ys) (hb : B' ≤ B) : NewRow B' w e k ys := by
  obtain ⟨a, c, g, h1, h2, h3, h4, h5⟩ := h
  exact ⟨a, c, g, h1, h2, h3, h4, Nat.le_trans hb h5⟩
theorem labA_byt (ks : List Int) (s : ByteArray) (ctx : List Int) (n : Int) : Byt (labA ks s ctx n) := by
  unfold labA
  split
  · exact expL_byt _ _ _
  · intro i
    simp
theorem macL_len (ks xs : List Int) : (macL ks xs).length = 32 := by unfold macL; exact hash_len32 _
theorem macL_byt (ks xs : List Int) : Byt (macL ks xs) := by unfold macL; exact hash_byt32 _
structure Lq (w : World) (a : Option Addr) (c : Nat) (xs : List Int) : Prop where
  r : ∃ g, Rd w g a .u8 xs
  b : Byt xs
  p : a = none → c = 0
  q : xs.length ≤ c
  l : xs.length ≤ 1048576
theorem Lq.up {w w' : World} {a : Option Addr} {c : Nat} {xs : List Int} (h : Lq w a c xs) (n : Below w.heap.size w w') : Lq w' a c xs := by
  obtain ⟨⟨g, r⟩, b, p, q, l⟩ := h
  exact ⟨⟨g, r.up n⟩, b, p, q, l⟩
theorem Lq.nil (w : World) : Lq w none 0 [] := ⟨⟨0, Rd.nil _ _ _ _⟩, byt_nil, fun _ => rfl, Nat.le_refl _, by simp⟩
theorem Lq.of {w : World} {a : Option Addr} {c g : Nat} {ys : List Int} (o : Own w g a .u8 ys) (p : a = none → c = 0) (q : ys.length ≤ c) (b : Byt ys) (l : ys.length ≤ 1048576) : Lq w a c ys := ⟨⟨g, o.rd⟩, b, p, q, l⟩
def lbB : ByteArray := ⟨#[98, 105, 110, 100, 101, 114]⟩
def lbF : ByteArray := ⟨#[102, 105, 110, 105, 115, 104, 101, 100]⟩
def hE : List Int := hashL32 []
theorem hE_len : hE.length = 32 := hash_len32 _
theorem hE_byt : Byt hE := hash_byt32 _
def bx (w : World) (x y : Value) : World := w.alloc (.cells #[x, y] 45)
theorem bx_up (w : World) (x y : Value) : Below w.heap.size w (bx w x y) := (Below.refl _ _).alloc (Nat.le_refl _) _
set_option maxHeartbeats 1000000 in
theorem sExtract_any (w : World) (hH : HasH w) {a a' : Option Addr} {c c' : Nat} {ks xs : List Int} (h1 : Lq w a c ks) (h2 : Lq w a' c' xs) :
    Calls Tryz.prog 43 #[.agg #[.slice a ks.length c, .slice a' xs.length c']] w fun e w' => NewRow w.heap.size w' e .u8 (macL ks xs) ∧ Below w.heap.size w w' := by
  have n1 := bx_up w (.slice a ks.length c) (.slice a' xs.length c')
  obtain ⟨⟨g, r⟩, b, p, q, l⟩ := h1
  obtain ⟨⟨g', r'⟩, b', p', q', l'⟩ := h2
  have C := hide (implExtract_any _ g a c ks (r.up n1) b q l g' a' c' xs (r'.up n1) b' q' (by omega) (hH.1.up n1) (hH.2.up n1))
  have N1 := hide n1
  clear r b p q l r' b' p' q' l' n1 hH
  unfold bx at C N1
  generalize macL ks xs = ys at *
  generalize ks.length = m at *
  generalize xs.length = m' at *
  go_enter Tryz.func43, Tryz.ntmps43
  go_wp2_with fail
  refine C.out.mono ?_
  rintro e w1 ⟨⟨a3, c3, g3, rfl, o3, p3, q3, r3⟩, n⟩
  have z1 := N1.out.size
  go_wp2
  go_ret
  exact ⟨⟨a3, c3, g3, rfl, o3, p3, q3, by omega⟩, nxt N1.out n⟩
set_option maxHeartbeats 1000000 in
theorem sExpand_any (w : World) (hH : HasH w) {a : Option Addr} {c : Nat} {ks : List Int} (x : Value) (s : ByteArray) (hs : s.size ≤ 1048576) (n : Int) (h1 : Lq w a c ks) :
    Calls Tryz.prog 83 #[.agg #[.slice a ks.length c, x], .string s, .int .i64 n] w fun e w' => NewRow w.heap.size w' e .u8 (labA ks s [] n) ∧ Below w.heap.size w w' := by
  have n1 := bx_up w (.slice a ks.length c) x
  obtain ⟨⟨g, r⟩, b, p, q, l⟩ := h1
  have C : Hid (Calls Tryz.prog 93 #[.slice a ks.length c, .string s, .slice none 0 0, .int .i64 n] (bx w (.slice a ks.length c) x) fun e w' => NewRow (bx w (.slice a ks.length c) x).heap.size w' e .u8 (labA ks s [] n) ∧ Below (bx w (.slice a ks.length c) x).heap.size (bx w (.slice a ks.length c) x) w') := (implLabel_any _ g a c ks (r.up n1) b q l s hs 0 none 0 [] (Rd.nil _ _ _ _) byt_nil (fun _ => rfl) (by simp) n (hH.1.up n1) (hH.2.up n1))
  have N1 := hide n1
  clear r b p q l n1 hH
  unfold bx at C N1
  generalize labA ks s [] n = ys at *
  generalize ks.length = m at *
  go_enter Tryz.func83, Tryz.ntmps83
  go_wp2_with fail
  refine C.out.mono ?_
  rintro e w1 ⟨⟨a3, c3, g3, rfl, o3, p3, q3, r3⟩, n⟩
  have z1 := N1.out.size
  go_wp2
  go_ret
  exact ⟨⟨a3, c3, g3, rfl, o3, p3, q3, by omega⟩, nxt N1.out n⟩
theorem rowSc : ∃ d, Tryz.prog.underlying 45 = some d ∧ d.isRow = true := ⟨_, Tryz.underlying45, rfl⟩
theorem iSc : (Tryz.prog.info? 45).map (·.size) = some 2 := by kernel_rfl
theorem bx_range (w : World) (x y : Value) : (bx w x y).rangeAt w.heap.size 0 [x, y] := fun j v hj => by
  have h : (bx w x y).heap[w.heap.size]? = some (.cells #[x, y] 45 (0, 0)) := by show (w.heap.push _)[w.heap.size]? = _; simp
  rw [Nat.zero_add, cell_of_row _ _ _ _ _ _ h]
  simpa using hj
end Go.Proofs.YtmfajpplagbfcaaGreatDoor
