import Derived.Test.YteedfhljbdnmnaaGreatDoorGTxXcK
import Derived.Test.YteedfhljbdnmnaaGreatDoorGT47
import Derived.Test.YteedfhljbdnmnaaGreatDoorRows
import Derived.Test.YteedfhljbdnmnaaGreatDoorGT45
import Derived.Lib.LaidTab
import Derived.Lib.LaidU8
import Derived.LaidMore
import Derived.Test.YteedfhljbdnmnaaGreatDoorGT2
namespace Go.Proofs.YteedfhljbdnmnaaGreatDoor
set_option maxRecDepth 100000
open Go Go.RowKit Go.Shelf
attribute [local go_sem] Oper.semAt_some
def pT (is os inf : List Int) : Nat → List Int
  | 0 => []
  | j + 1 => hashL32 (os ++ hashL32 (is ++ (pT is os inf j ++ (inf ++ [((j + 1 : Nat) : Int)]))))
theorem pT_len (is os inf : List Int) : ∀ j, (pT is os inf j).length = if j = 0 then 0 else 32
  | 0 => rfl
  | j + 1 => by rw [if_neg (by omega)]; exact hash_len32 _
theorem pT_byt (is os inf : List Int) : ∀ j, Byt (pT is os inf j)
  | 0 => byt_nil
  | _ + 1 => hash_byt32 _
def tG (is os inf : List Int) (N : Nat) : Nat → List Int
  | 0 => List.replicate N 0
  | k + 1 => lay (tG is os inf N k) (32 * k) ((pT is os inf (k + 1)).take (pcL N k))
theorem rd_ofK {W W' : World} {row : Option Nat} {g : Nat} {a : Option Addr} {k : IntKind} {xs : List Int} (h : Rd W g a k xs) (hg : W.grownBy W' row) (hr : ∀ r, row = some r → ∃ o : Obj, W.heap[r]? = some o ∧ o.isCells = false) : Rd W' g a k xs := by
  intro h0
  obtain ⟨o, e, hc⟩ := h h0
  exact ⟨o, e, fun i hi => cell_kept (hc i hi) hg hr⟩
theorem own_ofK {W W' : World} {row : Option Nat} {g : Nat} {a : Option Addr} {k : IntKind} {xs : List Int} (h : Own W g a k xs) (hg : W.grownBy W' row) (hr : ∀ r, row = some r → ∃ o : Obj, W.heap[r]? = some o ∧ o.isCells = false) : Own W' g a k xs := by
  by_cases h0 : 0 < xs.length
  · obtain ⟨o, e, hc⟩ := h.rd h0
    obtain ⟨ob, ho, hcell⟩ := cells_of_cell (hc 0 h0)
    exact h.of_block (grownBy_keeps_cells hg hr ho hcell)
  · exact fun h1 => absurd h1 h0
theorem blk_ofK {W W' : World} {row : Option Nat} {g : Nat} {k : IntKind} {xs : List Int} (h : Blk W g k xs) (hg : W.grownBy W' row) (hr : ∀ r, row = some r → ∃ o : Obj, W.heap[r]? = some o ∧ o.isCells = false) : Blk W' g k xs := by
  obtain ⟨t, h⟩ := h
  exact ⟨t, (grownBy_keeps_cells hg hr h rfl).trans h⟩
theorem keeps_below {B : Nat} {W W' : World} (h : Below W.heap.size W W') : KeepsFrom B W W' := KeepsOthers.from ⟨h.size, fun k _ hk _ => (h.block k (Array.getElem?_eq_some_iff.1 hk).1).trans hk⟩ B
theorem keeps_cells {B : Nat} (W : World) (q : Nat) : ∀ (vs : List Value) (o : Nat), KeepsFrom B W (W.setCells q o vs) := by
  intro vs
  induction vs generalizing W with
  | nil => intro o; exact KeepsFrom.refl _ _
  | cons v vs ih => intro o; exact ((KeepsOthers.setCell W ⟨q, o, none⟩ v).from B).trans (ih _ _)
section
variable {P : Program} {ops : Array Oper} {Q : Exit → Act → World → Prop} {n l : Nat} {rest : List Oper} {o : Oper} {a : Act} {w : World}
theorem listIn_op (hgd : o.guard = none) (hd : ∀ c, o.op ≠ .defer c) (h : ∀ K : Act → World → Prop, (∀ a w, wpListIn (Fence.wide.inRound l) n P ops Q rest a w → K a w) → o.wp P a w K Q) : wpListIn (Fence.wide.inRound l) n P ops Q (o :: rest) a w :=
  wpListIn_plain hgd fun K hK => op_in hd (h K hK)
theorem listIn_load (hgd : o.guard = none) (ty : TypeId) (x : Operand) (ho : o.op = .load ty x) (b off : Nat) (hx : a.eval x = .pointer (some ⟨b, off, none⟩)) (cs : List Value) (d : TypeDesc) (hc : w.rangeAt b off cs)
    (hu : P.underlying ty = some d) (hd : d.isRow = true) (hi : (P.info? ty).map (·.size) = some cs.length) (h : wpListIn (Fence.wide.inRound l) n P ops Q rest (a.put o.dst (.agg cs.toArray)) w) : wpListIn (Fence.wide.inRound l) n P ops Q (o :: rest) a w :=
  listIn_op hgd (by rw [ho]; intro c e; cases e) fun _ hK => wp_load_mid ty x ho b off hx cs d hc hu hd hi (hK _ _ h)
theorem listIn_copy (hgd : o.guard = none) (s x : Operand) (t tn : TypeId) (ho : o.op = .call { callee := .builtin .copy, args := #[s, x], argTypes := #[t, tn] }) (vs vx : Value) (hs : a.eval s = vs) (hx : a.eval x = vx)
    (v' : Value) (w' : World) (hr : (Builtin.copy_ #[t, tn] o.type #[vs, vx]).run P w = .ok v' w') (h : wpListIn (Fence.wide.inRound l) n P ops Q rest (a.put o.dst v') w') : wpListIn (Fence.wide.inRound l) n P ops Q (o :: rest) a w :=
  listIn_op hgd (by rw [ho]; intro c e; cases e) fun _ hK => by
    unfold Oper.wp execOp
    simp only [ho, resolve, invoke, builtin, Sem.run_bind, Sem.run_pure, Result.andThen_ok, List.map_toArray, List.map_cons, List.map_nil, hs, hx, hr]
    exact hK _ _ h
end
structure ExI (w : World) (is os inf : List Int) (v1 v2 : List Value) (N gi : Nat) (ai : Option Addr) (ci q : Nat) (pre : List (PcN N)) (W : World) : Prop where
  told : ∃ zs : List Int, zs.length = N ∧ Blk W (w.heap.size + 1 + 1) .u8 zs ∧ (pre.map (·.1) = List.range pre.length → zs = tG is os inf N pre.length)
  last : ∃ (la : Option Addr) (lc lg : Nat), W.cell? ⟨q, 0, none⟩ = some (.slice la (pT is os inf pre.length).length lc) ∧ Own W lg la .u8 (pT is os inf pre.length) ∧ (la = none → lc = 0) ∧ (pT is os inf pre.length).length ≤ lc ∧ (0 < (pT is os inf pre.length).length → q + 4 ≤ lg)
  lastF : W.frozen? ⟨q, 0, none⟩ = false
  num : W.cell? ⟨q + 1, 0, none⟩ = some (.int .u8 ((pre.length : Nat) : Int))
  numF : W.frozen? ⟨q + 1, 0, none⟩ = false
  sum : W.rangeAt w.heap.size 0 (v1 ++ v2)
  info : W.cell? ⟨w.heap.size + 1, 0, none⟩ = some (.slice ai inf.length ci)
  infR : Rd W gi ai .u8 inf
  tab : HasT W 2 kL
  siz : q + 4 ≤ W.heap.size
  bel : Below w.heap.size w W
theorem exI_own {w : World} {is os inf : List Int} {v1 v2 : List Value} {N gi : Nat} {ai : Option Addr} {ci q B : Nat} (hB : w.heap.size ≤ B) : OwnFrom B (ExI w is os inf v1 v2 N gi ai ci q) := by
  intro s W W' row h hg hr
  have hr' : ∀ r, row = some r → ∃ o : Obj, W.heap[r]? = some o ∧ o.isCells = false := fun r e => (hr r e).2
  obtain ⟨zs, z1, z2, z3⟩ := h.told
  obtain ⟨la, lc, lg, l1, l2, l3, l4, l5⟩ := h.last
  refine ⟨⟨zs, z1, blk_ofK z2 hg hr', z3⟩, ⟨la, lc, lg, cell_kept l1 hg hr', own_ofK l2 hg hr', l3, l4, l5⟩, (frozen_kept l1 hg hr').trans h.lastF, cell_kept h.num hg hr', (frozen_kept h.num hg hr').trans h.numF, fun j v hv => cell_kept (h.sum j v hv) hg hr', cell_kept h.info hg hr', rd_ofK h.infR hg hr', fun k hk => cell_kept (h.tab k hk) hg hr', Nat.le_trans h.siz hg.size, ?_⟩
  exact h.bel.grown hg (Nat.le_trans (Nat.le_refl _) h.bel.size) (fun k e => Nat.le_trans hB (hr k e).1)
theorem lay_cons (zs : List Int) (o : Nat) (y : Int) (ys : List Int) (h : o + (ys.length + 1) ≤ zs.length) : lay (zs.set o y) (o + 1) ys = lay zs o (y :: ys) := by
  unfold lay
  rw [List.take_set, List.drop_set_of_lt (by omega), List.length_cons, show o + 1 + ys.length = o + (ys.length + 1) by omega]
  rw [show (List.take (o + 1) zs).set o y = zs.take o ++ [y] by
    rw [List.take_add_one, List.getElem?_eq_getElem (by omega)]
    simp only [Option.toList_some]
    rw [List.set_append_right _ _ (by rw [List.length_take]; omega), List.length_take, Nat.min_eq_left (by omega), Nat.sub_self]
    rfl]
  simp
theorem Blk.setCells {g : Nat} {k : IntKind} : ∀ (ys : List Int) {w : World} {zs : List Int} (_ : Blk w g k zs) (o : Nat), o + ys.length ≤ zs.length → Blk (w.setCells g o (ys.map (Value.int k))) g k (lay zs o ys)
  | [], w, zs, h, o, _ => by
    have : lay zs o [] = zs := by unfold lay; simp
    rw [this]
    exact h
  | y :: ys, w, zs, h, o, hl => by
    rw [List.length_cons] at hl
    have := Blk.setCells ys (h.store o y) (o + 1) (by rw [List.length_set]; omega)
    rw [lay_cons zs o y ys (by omega)] at this
    exact this
theorem tG_len (is os inf : List Int) (N : Nat) : ∀ k, 32 * k < N + 32 → (tG is os inf N k).length = N
  | 0, _ => List.length_replicate
  | k + 1, h => by
    have := tG_len is os inf N k (by omega)
    unfold tG
    rw [lay_len (by rw [List.length_take, pT_len, if_neg (by omega), this]; unfold pcL; omega), this]
theorem byt_oneX {x : Int} (h : 0 ≤ x ∧ x < 256) : Byt [x] := byt_cons h.1 h.2 byt_nil
theorem cat3 (a b c : Lst) : cat [a, b, c] = a.xs ++ (b.xs ++ c.xs) := by simp [cat]
theorem lsts_three (w : World) (t : TypeId) (a b c : Lst) : Lsts (w.alloc (.cells #[.slice a.a a.xs.length a.c, .slice b.a b.xs.length b.c, .slice c.a c.xs.length c.c] t)) w.heap.size [a, b, c] := by
  intro j x hj
  match j, hj with
  | 0, hj => simp at hj; subst hj; simp [World.cell?_alloc_at]
  | 1, hj => simp at hj; subst hj; simp [World.cell?_alloc_at]
  | 2, hj => simp at hj; subst hj; simp [World.cell?_alloc_at]
set_option maxRecDepth 100000 in
set_option maxHeartbeats 4000000 in
theorem expandD (w : World) (v1 v2 : List Value) (is os inf : List Int) (V1 : HV v1 is) (V2 : HV v2 os) (gi : Nat) (ai : Option Addr) (ci : Nat) (hi : Rd w gi ai .u8 inf) (bi : Byt inf) (li : inf.length ≤ ci) (N : Nat) (hN : N ≤ 8160)
    (hL : is.length + inf.length ≤ 1048576 * 4) (ho : os.length ≤ 1000000) (hT : HasT w 2 kL) :
    Calls Tryz.prog 39 #[.agg (v1 ++ v2).toArray, .slice ai inf.length ci, .int .i64 (N : Int)] w fun e w' => NewRow w.heap.size w' e .u8 (tG is os inf N ((N + 31) / 32)) ∧ Below w.heap.size w w' := by
  have gl0 : 0 < w.heap.size := Nat.lt_of_le_of_lt (Nat.zero_le _) (block_lt_of_cell (hT 0 (by decide)))
  obtain ⟨i0, hi0, hz0, hz1, hz2⟩ := info_parts Tryz.info5
  have l1 := V1.len
  have l2 := V2.len
  have L12 : Hid ((v1 ++ v2).length = 274) := by show _ = _; rw [List.length_append, l1, l2]
  have R0 := range_alloc w (v1 ++ v2) 61
  have n0 : Below w.heap.size w (w.alloc (.cells (v1 ++ v2).toArray 61)) := (Below.refl _ _).alloc (Nat.le_refl _) _
  have z0 : (w.alloc (.cells (v1 ++ v2).toArray 61)).heap.size = w.heap.size + 1 := by simp
  obtain ⟨vs, hvs⟩ : ∃ vs, vs = v1 ++ v2 := ⟨_, rfl⟩
  rw [← hvs] at R0 n0 z0 L12 ⊢
  have HVS := hide hvs
  clear hvs
  refine (callsIn_wide (n := 5)).1 (callsIn_of_wp_marks Tryz.func39 rfl trivial ?_ rfl)
  refine wpIn_wide.2 ?_
  simp only [Tryz.ntmps39, List.size_toArray, List.length_cons, List.length_nil, Nat.reduceAdd, Nat.reduceSub, Array.replicate_succ, Array.replicate_zero, List.push_toArray, List.append_toArray, List.nil_append, List.cons_append]
  go_upto_region 1 with fail
  generalize w.alloc (.cells vs.toArray 61) = wa at *
  have n1 : Below wa.heap.size wa (wa.alloc (.cells #[.slice ai inf.length ci] 22)) := (Below.refl _ _).alloc (Nat.le_refl _) _
  have C1 : (wa.alloc (.cells #[.slice ai inf.length ci] 22)).cell? ⟨wa.heap.size, 0, none⟩ = some (.slice ai inf.length ci) := by simp [World.cell?_alloc_at]
  have z1 : (wa.alloc (.cells #[.slice ai inf.length ci] 22)).heap.size = wa.heap.size + 1 := by simp
  generalize wa.alloc (.cells #[.slice ai inf.length ci] 22) = wb at *
  rw [z0] at C1 z1
  have R1 : wb.rangeAt w.heap.size 0 vs := fun j v hj => (World.cell?_of_block (a := ⟨w.heap.size, 0 + j, none⟩) (n1.block w.heap.size (by omega))).trans (R0 j v hj)
  have N1 := nxt n0 n1
  clear R0 n0 n1 z0
  have hN0 : (0 : Int) ≤ (N : Int) := by omega
  have hN1 : (N : Int) ≤ 8160 := by omega
  go_wp2_with (at_make; refine wpList_make_full _ rfl _ _ 22 rfl wb.heap.size 5 i0 (.int .u8 0) 1 Tryz.underlying22 hi0 hz0 hz1 .i64 .i64 _ _ N rfl rfl rfl rfl (by rw [hz2]; omega) (by unfold maxLen; omega) (Nat.le_refl _) ?_; intro w1 hown hgrow)
  have B2 := Blk.of_made hown
  have n2 : Below wb.heap.size wb w1 := (Below.refl _ _).grown hgrow (Nat.le_refl _) (by simp)
  clear hown hgrow
  rw [z1] at B2
  have N2 := nxt N1 n2
  have R2 : w1.rangeAt w.heap.size 0 vs := fun j v hj => (World.cell?_of_block (a := ⟨w.heap.size, 0 + j, none⟩) (n2.block w.heap.size (by omega))).trans (R1 j v hj)
  have C2 : w1.cell? ⟨w.heap.size + 1, 0, none⟩ = some (.slice ai inf.length ci) := (World.cell?_of_block (a := ⟨w.heap.size + 1, 0, none⟩) (n2.block (w.heap.size + 1) (by omega))).trans C1
  have g2 := B2.lt
  clear R1 C1 n2 N1 z1
  have n3 : Below w1.heap.size w1 (w1.alloc (.cells #[.slice none 0 0] 22)) := (Below.refl _ _).alloc (Nat.le_refl _) _
  have C3 : (w1.alloc (.cells #[.slice none 0 0] 22)).cell? ⟨w1.heap.size, 0, none⟩ = some (.slice none 0 0) := by simp [World.cell?_alloc_at]
  have F3 : (w1.alloc (.cells #[.slice none 0 0] 22)).frozen? ⟨w1.heap.size, 0, none⟩ = false := by simp [World.frozen?_alloc_at]
  have z3 : (w1.alloc (.cells #[.slice none 0 0] 22)).heap.size = w1.heap.size + 1 := by simp
  generalize w1.alloc (.cells #[.slice none 0 0] 22) = w3 at *
  have n4 : Below w3.heap.size w3 (w3.alloc (.cells #[.int .u8 0] 5)) := (Below.refl _ _).alloc (Nat.le_refl _) _
  have C4 : (w3.alloc (.cells #[.int .u8 0] 5)).cell? ⟨w3.heap.size, 0, none⟩ = some (.int .u8 0) := by simp [World.cell?_alloc_at]
  have F4 : (w3.alloc (.cells #[.int .u8 0] 5)).frozen? ⟨w3.heap.size, 0, none⟩ = false := by simp [World.frozen?_alloc_at]
  have z4 : (w3.alloc (.cells #[.int .u8 0] 5)).heap.size = w3.heap.size + 1 := by simp
  generalize w3.alloc (.cells #[.int .u8 0] 5) = w4 at *
  rw [z3] at C4 F4 z4
  refine (chunk_any w4 (w.heap.size + 1 + 1) N).mono ?_
  rintro e w6 ⟨rfl, rfl⟩
  have n5 : Below w4.heap.size w4 (w4.alloc (.cells #[.slice (some ⟨w.heap.size + 1 + 1, 0, none⟩) N N] 22)) := (Below.refl _ _).alloc (Nat.le_refl _) _
  have C5 : (w4.alloc (.cells #[.slice (some ⟨w.heap.size + 1 + 1, 0, none⟩) N N] 22)).cell? ⟨w4.heap.size, 0, none⟩ = some (.slice (some ⟨w.heap.size + 1 + 1, 0, none⟩) N N) := by simp [World.cell?_alloc_at]
  have z5 : (w4.alloc (.cells #[.slice (some ⟨w.heap.size + 1 + 1, 0, none⟩) N N] 22)).heap.size = w4.heap.size + 1 := by simp
  generalize w4.alloc (.cells #[.slice (some ⟨w.heap.size + 1 + 1, 0, none⟩) N N] 22) = w5 at *
  have n6 : Below w5.heap.size w5 (w5.alloc (.cells #[.int .i64 32] 3)) := (Below.refl _ _).alloc (Nat.le_refl _) _
  have C6 : (w5.alloc (.cells #[.int .i64 32] 3)).cell? ⟨w5.heap.size, 0, none⟩ = some (.int .i64 32) := by simp [World.cell?_alloc_at]
  have z6 : (w5.alloc (.cells #[.int .i64 32] 3)).heap.size = w5.heap.size + 1 := by simp
  generalize w5.alloc (.cells #[.int .i64 32] 3) = w6 at *
  rw [z4] at C5 z5 ⊢
  rw [z5] at C6 z6
  generalize hq : w1.heap.size = q at *
  have yq : w.heap.size + 1 + 1 < q := by omega
  have n36 : Below q w1 w6 := ((n3.trans (n4.mono (by omega))).trans (n5.mono (by omega))).trans (n6.mono (by omega))
  have N6 : Below w.heap.size w w6 := N2.trans (n36.mono (by omega))
  have U : ∀ b, b < q → w6.heap[b]? = w1.heap[b]? := fun b hb => n36.block b hb
  have I0 : ExI w is os inf v1 v2 N gi ai ci q [] w6 := by
    refine ⟨⟨_, List.length_replicate, B2.of_block (U _ (by omega)), fun _ => rfl⟩, ⟨none, 0, 0, ?_, Own.nil _ _ _ _, fun _ => rfl, Nat.le_refl _, fun h => absurd h (by simp [pT])⟩, ?_, ?_, ?_, ?_, ?_, hi.up N6, hT.up N6, by omega, N6⟩
    · exact (World.cell?_of_block (a := ⟨q, 0, none⟩) ((n6.block q (by omega)).trans ((n5.block q (by omega)).trans (n4.block q (by omega))))).trans C3
    · exact (World.frozen?_of_block (a := ⟨q, 0, none⟩) ((n6.block q (by omega)).trans ((n5.block q (by omega)).trans (n4.block q (by omega))))).trans F3
    · exact (World.cell?_of_block (a := ⟨q + 1, 0, none⟩) ((n6.block (q + 1) (by omega)).trans (n5.block (q + 1) (by omega)))).trans C4
    · exact (World.frozen?_of_block (a := ⟨q + 1, 0, none⟩) ((n6.block (q + 1) (by omega)).trans (n5.block (q + 1) (by omega)))).trans F4
    · intro j v hj
      rw [← HVS.out] at hj
      exact (World.cell?_of_block (a := ⟨w.heap.size, 0 + j, none⟩) (U w.heap.size (by omega))).trans (R2 j v hj)
    · exact (World.cell?_of_block (a := ⟨w.heap.size + 1, 0, none⟩) (U (w.heap.size + 1) (by omega))).trans C2
  have D5 : w6.cell? ⟨q + 1 + 1, 0, none⟩ = some (.slice (some ⟨w.heap.size + 1 + 1, 0, none⟩) N N) := (World.cell?_of_block (a := ⟨q + 1 + 1, 0, none⟩) (n6.block (q + 1 + 1) (by omega))).trans C5
  have s6 : w6.heap.size = q + 1 + 1 + 1 + 1 := z6
  have S6 := hide s6
  have YQ := hide yq
  clear U n36 n3 n4 n5 n6 C3 F3 C4 F4 C5 B2 R2 C2 N2 z3 z4 z5 z6 g2 hq s6 yq
  have TGlen : ∀ k, 32 * k < N + 32 → (tG is os inf N k).length = N := tG_len is os inf N
  go_wp2
  refine (wpIn_wide (n := 5)).1 (wpIn_rangeFunc_ownG (n := 5) rfl (by omega) (gf := 98) (lb := #[.pointer (some ⟨q + 1 + 1, 0, none⟩), .pointer (some ⟨q + 1 + 1 + 1, 0, none⟩)]) rfl trivial (enters_of Tryz.func98 (by kernel_rfl) rfl)
    (chunk_stops 4 (by omega) (q + 1 + 1) (q + 1 + 1 + 1) (w.heap.size + 1 + 1) N hN w6 (by have := S6.out; omega) (by have := S6.out; omega) D5 C6) KpB.t (KpB.b (by have := S6.out; omega) (by have := S6.out; omega)) (Below.refl _ _) (fun _ => rfl)
    (ExI w is os inf v1 v2 N gi ai ci q) (fun _ _ _ => False) (exI_own (by have := N6.size; omega)) (fun _ _ _ _ _ h _ _ => h) I0
    (fun x => { tmps := #[Value.agg vs.toArray, Value.slice ai inf.length ci, Value.int IntKind.i64 (N : Int), Value.pointer (some ⟨w.heap.size, 0, none⟩), Value.pointer (some ⟨w.heap.size + 1, 0, none⟩), undef, Value.slice none 0 0, Value.slice (some ⟨w.heap.size + 1 + 1, 0, none⟩) N N, Value.pointer (some ⟨q, 0, none⟩), Value.pointer (some ⟨q + 1, 0, none⟩), .slice (some ⟨w.heap.size + 1 + 1, 32 * x.1, none⟩) (pcL N x.1) (pcL N x.1), Value.int IntKind.i64 (N : Int), Value.slice (some ⟨w.heap.size + 1 + 1, 0, none⟩) N N, Value.slice (some ⟨w.heap.size + 1 + 1, 0, none⟩) N N, Value.func (Fn.func 98) #[] #[Value.pointer (some ⟨q + 1 + 1, 0, none⟩), Value.pointer (some ⟨q + 1 + 1 + 1, 0, none⟩)], .slice (some ⟨w.heap.size + 1 + 1, 32 * x.1, none⟩) (pcL N x.1) (pcL N x.1), undef, undef, undef, undef, undef, undef, undef, undef, undef, undef, undef, undef, undef], defers := [] }) ?assign ?body ?done ?stop)
  case assign =>
    intro l x W K hK
    unfold pcE
    gi_wp2
    exact hK
  case body =>
    rintro l pre x W hI hlen
    obtain ⟨zs, z1, z2, z3⟩ := hI.told
    obtain ⟨la, lc, lg, l1, l2, l3, l4, l5⟩ := hI.last
    have lf := hI.lastF
    have nc := hI.num
    have nf := hI.numF
    have sm := hI.sum
    have ic := hI.info
    have ir := hI.infR
    have tb := hI.tab
    have sz := hI.siz
    have be := hI.bel
    clear hI
    have yq := YQ.out
    have mb : 0 ≤ (pre.length : Int) + 1 ∧ (pre.length : Int) + 1 < 256 := by omega
    rw [← HVS.out] at sm
    have tl : (pT is os inf pre.length).length ≤ 32 := by rw [pT_len]; split <;> omega
    have tbt := pT_byt is os inf pre.length
    have PTe : Hid (pT is os inf (pre.length + 1) = hashL32 (os ++ hashL32 (is ++ (pT is os inf pre.length ++ (inf ++ [((pre.length : Int) + 1)]))))) := rfl
    obtain ⟨dK, hdK, hrowK⟩ := rowK
    -- the number
    have O1 := Only.setCell W (q + 1) 0 (.int .u8 ((pre.length : Int) + 1))
    have c1 : (W.setCell ⟨q + 1, 0, none⟩ (.int .u8 ((pre.length : Int) + 1))).cell? ⟨q + 1, 0, none⟩ = some (.int .u8 ((pre.length : Int) + 1)) := World.cell?_setCell_same _ _ _ nc
    have f1 : (W.setCell ⟨q + 1, 0, none⟩ (.int .u8 ((pre.length : Int) + 1))).frozen? ⟨q + 1, 0, none⟩ = false := by rw [frozen_setCell]; exact nf
    have kf1 : KeepsFrom w6.heap.size W (W.setCell ⟨q + 1, 0, none⟩ (.int .u8 ((pre.length : Int) + 1))) := (KeepsOthers.setCell _ _ _).from _
    have s1 : (W.setCell ⟨q + 1, 0, none⟩ (.int .u8 ((pre.length : Int) + 1))).rangeAt w.heap.size 0 vs := fun k v hk => (World.cell?_of_block (a := ⟨w.heap.size, 0 + k, none⟩) (O1.block w.heap.size (by omega))).trans (sm k v hk)
    have l1' := (World.cell?_of_block (a := ⟨q, 0, none⟩) (O1.block q (by omega))).trans l1
    have ic' := (World.cell?_of_block (a := ⟨w.heap.size + 1, 0, none⟩) (O1.block (w.heap.size + 1) (by omega))).trans ic
    obtain ⟨T, hTT⟩ : ∃ T, T = pT is os inf pre.length := ⟨_, rfl⟩
    rw [← hTT] at l1 l1' l2 l4 l5 tl tbt PTe
    clear hTT
    gi_wp2_with (refine listIn_load rfl 61 (.tmp 3) rfl w.heap.size 0 rfl vs dK s1 hdK hrowK (by rw [L12.out]; exact infoK) ?_)
    have sz1 := O1.size
    have kd := kf1
    have Bd1 : ∀ b, b ≠ q + 1 → (W.setCell ⟨q + 1, 0, none⟩ (.int .u8 ((pre.length : Int) + 1))).heap[b]? = W.heap[b]? := fun b hb => O1.block b hb
    have l2' := l2.only O1 (fun h => by have := l5 h; omega)
    generalize W.setCell ⟨q + 1, 0, none⟩ (.int .u8 ((pre.length : Int) + 1)) = W1 at *
    have n2 : Below W1.heap.size W1 (W1.alloc (.cells #[.int .u8 ((pre.length : Int) + 1)] 5)) := (Below.refl _ _).alloc (Nat.le_refl _) _
    have BL := blk_lit1 W1 .u8 5 ((pre.length : Int) + 1)
    have sz2 : (W1.alloc (.cells #[.int .u8 ((pre.length : Int) + 1)] 5)).heap.size = W1.heap.size + 1 := by simp
    generalize W1.alloc (.cells #[.int .u8 ((pre.length : Int) + 1)] 5) = W2 at *
    have n3 : Below W2.heap.size W2 (W2.alloc (.cells #[.slice la T.length lc, .slice ai inf.length ci, .slice (some ⟨W.heap.size, 0, none⟩) 1 1] 22)) := (Below.refl _ _).alloc (Nat.le_refl _) _
    have LS := lsts_three W2 22 ⟨lg, la, lc, T⟩ ⟨gi, ai, ci, inf⟩ ⟨W1.heap.size, some ⟨W.heap.size, 0, none⟩, 1, [(pre.length : Int) + 1]⟩
    have LS' : Lsts (W2.alloc (.cells #[.slice la T.length lc, .slice ai inf.length ci, .slice (some ⟨W.heap.size, 0, none⟩) 1 1] 22)) W2.heap.size [⟨lg, la, lc, T⟩, ⟨gi, ai, ci, inf⟩, ⟨W1.heap.size, some ⟨W.heap.size, 0, none⟩, 1, [(pre.length : Int) + 1]⟩] := LS
    have sz3 : (W2.alloc (.cells #[.slice la T.length lc, .slice ai inf.length ci, .slice (some ⟨W.heap.size, 0, none⟩) 1 1] 22)).heap.size = W2.heap.size + 1 := by simp
    generalize W2.alloc (.cells #[.slice la T.length lc, .slice ai inf.length ci, .slice (some ⟨W.heap.size, 0, none⟩) 1 1] 22) = W3 at *
    have N13 := nxt n2 n3
    have U3 : ∀ b, b < W1.heap.size → W3.heap[b]? = W1.heap[b]? := fun b hb => N13.block b hb
    have gil : 0 < inf.length → gi < w.heap.size := fun h => hi.lt h
    have tab1 : HasT W3 2 kL := tb.of_block ((U3 _ (by omega)).trans (Bd1 _ (by omega)))
    have OF := ofD W3 v1 v2 is os V1 V2 W2.heap.size 3 3 [⟨lg, la, lc, T⟩, ⟨gi, ai, ci, inf⟩, ⟨W1.heap.size, some ⟨W.heap.size, 0, none⟩, 1, [(pre.length : Int) + 1]⟩] rfl (by omega) LS' (by omega) (by
      intro x hx
      simp only [List.mem_cons, List.not_mem_nil, or_false] at hx
      rcases hx with rfl | rfl | rfl
      · exact ⟨(l2'.up N13).rd, tbt, l4⟩
      · refine ⟨?_, bi, li⟩
        by_cases h0 : 0 < inf.length
        · have := gil h0
          exact ir.of_block ((U3 _ (by omega)).trans (Bd1 _ (by omega)))
        · exact fun h1 => absurd h1 h0
      · refine ⟨?_, byt_oneX mb, Nat.le_refl _⟩
        have := (BL.up n3).own0.rd
        rw [sz1] at this ⊢
        exact this) (by rw [cat3]; simp only [List.length_append, List.length_cons, List.length_nil]; omega) ho tab1
    rw [cat3] at OF
    have OF2 : Calls Tryz.prog 67 #[.agg vs.toArray, .slice (some ⟨W.heap.size + 1, 0, none⟩) 3 3] W3 fun e w' => NewRow W3.heap.size w' e .u8 (pT is os inf (pre.length + 1)) ∧ Below W3.heap.size W3 w' := by
      rw [HVS.out, PTe.out, show W.heap.size + 1 = W2.heap.size by omega]
      exact OF
    refine ⟨trivial, (CallsIn.inRound l (callsIn_wide.2 OF2)).mono ?_⟩
    rintro e W4 ⟨⟨a4, c4, g4, rfl, o4, p4, q4, r4⟩, n4⟩
    clear OF OF2 LS LS'
    have tl4 := hide (show (pT is os inf (pre.length + 1)).length = 32 by rw [pT_len, if_neg (by omega)])
    have tb4 := pT_byt is os inf (pre.length + 1)
    obtain ⟨T4, hT4⟩ : ∃ T, T = pT is os inf (pre.length + 1) := ⟨_, rfl⟩
    rw [← hT4] at o4 q4 tl4 tb4 ⊢
    have HT4 := hide hT4
    clear hT4
    have U4 : ∀ b, b < W1.heap.size → W4.heap[b]? = W1.heap[b]? := fun b hb => (n4.block b (by omega)).trans (U3 b hb)
    have c4' : W4.cell? ⟨q, 0, none⟩ = some (.slice la T.length lc) := (World.cell?_of_block (a := ⟨q, 0, none⟩) (U4 q (by omega))).trans l1'
    have f4' : W4.frozen? ⟨q, 0, none⟩ = false := (World.frozen?_of_block (a := ⟨q, 0, none⟩) ((U4 q (by omega)).trans (Bd1 q (by omega)))).trans lf
    have c5' : (W4.setCell ⟨q, 0, none⟩ (.slice a4 T4.length c4)).cell? ⟨q, 0, none⟩ = some (.slice a4 T4.length c4) := World.cell?_setCell_same _ _ _ c4'
    have O5 := Only.setCell W4 q 0 (.slice a4 T4.length c4)
    have o5 := o4.only O5 (fun _ => by omega)
    have f5' : (W4.setCell ⟨q, 0, none⟩ (.slice a4 T4.length c4)).frozen? ⟨q, 0, none⟩ = false := by rw [frozen_setCell]; exact f4'
    have B5 : Blk (W4.setCell ⟨q, 0, none⟩ (.slice a4 T4.length c4)) (w.heap.size + 1 + 1) .u8 zs := z2.of_block ((O5.block _ (by omega)).trans ((U4 _ (by omega)).trans (Bd1 _ (by omega))))
    have kf5 : KeepsFrom w6.heap.size W (W4.setCell ⟨q, 0, none⟩ (.slice a4 T4.length c4)) := ((kd.trans (keeps_below N13)).trans (keeps_below n4)).trans ((KeepsOthers.setCell _ _ _).from _)
    have sz5 : W1.heap.size + 2 ≤ (W4.setCell ⟨q, 0, none⟩ (.slice a4 T4.length c4)).heap.size := by have := n4.size; have := O5.size; omega
    have U5 : ∀ b, b < W.heap.size → b ≠ q → b ≠ q + 1 → (W4.setCell ⟨q, 0, none⟩ (.slice a4 T4.length c4)).heap[b]? = W.heap[b]? := fun b h0 h1 h2 => (O5.block b h1).trans ((U4 b (by omega)).trans (Bd1 b h2))
    obtain ⟨ad, hread⟩ : ∃ ad, a4 = some ad := by
      cases a4 with
      | none => exact absurd (o4.rd (by rw [tl4.out]; decide)) (by rintro ⟨_, h, _⟩; cases h)
      | some ad => exact ⟨ad, rfl⟩
    subst hread
    have xl := x.2
    obtain ⟨pe, hpe⟩ : ∃ e, e = pcL N x.1 := ⟨_, rfl⟩
    have pe1 : pe ≤ 32 := by rw [hpe]; unfold pcL; omega
    have pe2 : 32 * x.1 + pe ≤ N := by rw [hpe]; unfold pcL; omega
    rw [← hpe]
    have PE := hide hpe
    clear hpe
    obtain ⟨off, ead, hcs⟩ := o5.rd (by rw [tl4.out]; decide)
    simp only [Option.some.injEq] at ead
    subst ead
    have tk : ((T4.take pe).map (Value.int .u8)).length = pe := by rw [List.length_map, List.length_take, tl4.out]; omega
    have hrun := run_copy_cells (P := Tryz.prog) (W4.setCell ⟨q, 0, none⟩ (.slice (some ⟨g4, off, none⟩) T4.length c4)) 22 22 3 5 (w.heap.size + 1 + 1) (32 * x.1) pe pe ⟨g4, off, none⟩ T4.length c4 ((T4.take pe).map (Value.int .u8)) und22h s5 (by rw [tk, tl4.out]; exact (Nat.min_eq_right pe1).symm)
      (fun j v hj => by
        have hjl : j < (T4.take pe).length := by have := (List.getElem?_eq_some_iff.1 hj).1; simpa using this
        have hj2 : j < T4.length := by rw [List.length_take] at hjl; omega
        have hj3 : j < pe := by rw [List.length_take] at hjl; omega
        have e : (T4.take pe).getD j 0 = T4.getD j 0 := by rw [List.getD_eq_getElem?_getD, List.getD_eq_getElem?_getD, List.getElem?_take, if_pos hj3]
        rw [Addr.add_mid, hcs j hj2, ← e]
        clear e
        revert hj hjl
        generalize T4.take pe = tk4
        intro hj hjl
        simpa [hjl] using hj)
      (fun j hj => by
        rw [tk] at hj
        rw [B5.cell (i := 32 * x.1 + j) (by omega)]
        rfl)
      (fun j hj => B5.free _)
      (fun v hv => by obtain ⟨x, _, rfl⟩ := List.mem_map.1 hv; rfl)
    rw [tk] at hrun
    have B6 := B5.setCells (T4.take pe) (32 * x.1) (by rw [List.length_take, tl4.out]; omega)
    have O6 := only_setCells (W4.setCell ⟨q, 0, none⟩ (.slice (some ⟨g4, off, none⟩) T4.length c4)) (w.heap.size + 1 + 1) ((T4.take pe).map (Value.int .u8)) (32 * x.1)
    have kf6 := kf5.trans (keeps_cells (B := w6.heap.size) (W4.setCell ⟨q, 0, none⟩ (.slice (some ⟨g4, off, none⟩) T4.length c4)) (w.heap.size + 1 + 1) ((T4.take pe).map (Value.int .u8)) (32 * x.1))
    have o6 := o5.only O6 (fun _ => by omega)
    have c6 := (World.cell?_of_block (a := ⟨q, 0, none⟩) (O6.block q (by omega))).trans c5'
    have f6 := (World.frozen?_of_block (a := ⟨q, 0, none⟩) (O6.block q (by omega))).trans f5'
    have lx : (pre ++ [x]).length = pre.length + 1 := by simp
    have LL : (lay zs (32 * x.1) (T4.take pe)).length = N := by rw [lay_len (by rw [List.length_take, tl4.out]; omega)]; exact z1
    have U6 : ∀ b, b < W.heap.size → b ≠ q → b ≠ q + 1 → b ≠ w.heap.size + 1 + 1 → ((W4.setCell ⟨q, 0, none⟩ (.slice (some ⟨g4, off, none⟩) T4.length c4)).setCells (w.heap.size + 1 + 1) (32 * x.1) ((T4.take pe).map (Value.int .u8))).heap[b]? = W.heap[b]? := fun b h0 h1 h2 h3 => (O6.block b h3).trans (U5 b h0 h1 h2)
    have num6 : ((W4.setCell ⟨q, 0, none⟩ (.slice (some ⟨g4, off, none⟩) T4.length c4)).setCells (w.heap.size + 1 + 1) (32 * x.1) ((T4.take pe).map (Value.int .u8))).heap[q + 1]? = W1.heap[q + 1]? := (O6.block (q + 1) (by omega)).trans ((O5.block (q + 1) (by omega)).trans (U4 (q + 1) (by omega)))
    have sz6 : q + 4 ≤ ((W4.setCell ⟨q, 0, none⟩ (.slice (some ⟨g4, off, none⟩) T4.length c4)).setCells (w.heap.size + 1 + 1) (32 * x.1) ((T4.take pe).map (Value.int .u8))).heap.size := by have := O6.size; omega
    have I6 : ExI w is os inf v1 v2 N gi ai ci q (pre ++ [x]) ((W4.setCell ⟨q, 0, none⟩ (.slice (some ⟨g4, off, none⟩) T4.length c4)).setCells (w.heap.size + 1 + 1) (32 * x.1) ((T4.take pe).map (Value.int .u8))) := by
      generalize (W4.setCell ⟨q, 0, none⟩ (.slice (some ⟨g4, off, none⟩) T4.length c4)).setCells (w.heap.size + 1 + 1) (32 * x.1) ((T4.take pe).map (Value.int .u8)) = W6 at *
      refine ⟨⟨_, LL, B6, fun h => ?_⟩, ⟨some ⟨g4, off, none⟩, c4, g4, ?_, ?_, by simp, ?_, fun _ => by omega⟩, f6, ?_, ?_, ?_, ?_, ?_, ?_, sz6, ?_⟩
      · rw [lx, List.map_append, List.range_succ] at h
        obtain ⟨h1, h2⟩ := List.append_inj' h rfl
        have h2' : x.1 = pre.length := by simpa using h2
        rw [lx, z3 h1, HT4.out, PE.out, h2']
        rfl
      · rw [lx, ← HT4.out]; exact c6
      · rw [lx, ← HT4.out]; exact o6
      · rw [lx, ← HT4.out]; exact q4
      · rw [lx]
        exact (World.cell?_of_block (a := ⟨q + 1, 0, none⟩) num6).trans c1
      · exact (World.frozen?_of_block (a := ⟨q + 1, 0, none⟩) num6).trans f1
      · intro k v hk
        rw [← HVS.out] at hk
        exact (World.cell?_of_block (a := ⟨w.heap.size, 0 + k, none⟩) (U6 w.heap.size (by omega) (by omega) (by omega) (by omega))).trans (sm k v hk)
      · exact (World.cell?_of_block (a := ⟨w.heap.size + 1, 0, none⟩) (U6 (w.heap.size + 1) (by omega) (by omega) (by omega) (by omega))).trans ic
      · by_cases h0 : 0 < inf.length
        · have := gil h0
          exact ir.of_block (U6 gi (by omega) (by omega) (by omega) (by omega))
        · exact fun h1 => absurd h1 h0
      · exact tb.of_block (U6 _ (by omega) (by omega) (by omega) (by omega))
      · exact ⟨O6.os.trans (O5.os.trans (n4.os.trans (N13.os.trans (O1.os.trans be.os)))), O6.tape.trans (O5.tape.trans (n4.tape.trans (N13.tape.trans (O1.tape.trans be.tape)))), O6.output.trans (O5.output.trans (n4.output.trans (N13.output.trans (O1.output.trans be.output)))), by have := be.size; omega, fun b hb => (U6 b (by omega) (by omega) (by omega) (by omega)).trans (be.block b hb)⟩
    have K6 : KpB (q + 1 + 1) (q + 1 + 1 + 1) W ((W4.setCell ⟨q, 0, none⟩ (.slice (some ⟨g4, off, none⟩) T4.length c4)).setCells (w.heap.size + 1 + 1) (32 * x.1) ((T4.take pe).map (Value.int .u8))) := ⟨U6 _ (by omega) (by omega) (by omega) (by omega), U6 _ (by omega) (by omega) (by omega) (by omega)⟩
    gi_wp2_with (refine listIn_copy rfl (.tmp 25) (.tmp 26) 22 22 rfl _ _ rfl rfl _ _ hrun ?_)
    exact ⟨kf6, K6, I6⟩
  case done =>
    rintro D ys W hD hS hI hK
    have yl : ys.length = (N + 31) / 32 := by have := congrArg List.length hS; simpa using this
    obtain ⟨zs, z1, z2, z3⟩ := hI.told
    have ez : zs = tG is os inf N ((N + 31) / 32) := by rw [z3 (by rw [yl]; exact hS), yl]
    have hdd : w.heap.size + 1 + 1 < D := by have := S6.out; have := YQ.out; omega
    have B9 : Blk (W.putObj D (.deferred none)) (w.heap.size + 1 + 1) .u8 zs := z2.of_block (World.putObj_heap_other (by omega))
    have N9 : Below w.heap.size w (W.putObj D (.deferred none)) := hI.bel.trans (belowK_b (w := w) (Nat.le_refl _) W D _ _ (by omega) hK rfl rfl)
    have EZ := hide ez
    have ZL := hide z1
    clear z1 z2 z3 ez hI yl hS
    go_wp2
    refine ⟨by simp, .inl ⟨_, _, rfl, run_takeDeferred hK, ?_⟩⟩
    exact ⟨_, results_tmp rfl _ _ _, ⟨some ⟨w.heap.size + 1 + 1, 0, none⟩, N, w.heap.size + 1 + 1, by rw [← EZ.out, ZL.out]; rfl, by rw [← EZ.out]; exact B9.own0, by simp, by rw [← EZ.out, ZL.out]; exact Nat.le_refl _, by omega⟩, N9⟩
  case stop =>
    rintro D c pre W hD hs h hK
    exact h.elim
end Go.Proofs.YteedfhljbdnmnaaGreatDoor
namespace Go.Proofs.YteedfhljbdnmnaaGreatDoor
set_option maxRecDepth 100000
open Go Go.RowKit
def tM (ks inf : List Int) (j : Nat) : List Int := pT (maskL (keyL ks) 54) (maskL (keyL ks) 92) inf j
theorem tM_len (ks inf : List Int) {j : Nat} (h : 0 < j) : (tM ks inf j).length = 32 := by unfold tM; rw [pT_len, if_neg (by omega)]
theorem tM_byt (ks inf : List Int) (j : Nat) : Byt (tM ks inf j) := pT_byt _ _ _ _
def catT (ks inf : List Int) : Nat → List Int
  | 0 => []
  | k + 1 => catT ks inf k ++ tM ks inf (k + 1)
theorem catT_len (ks inf : List Int) : ∀ k, (catT ks inf k).length = 32 * k
  | 0 => rfl
  | k + 1 => by unfold catT; rw [List.length_append, catT_len ks inf k, tM_len _ _ (by omega)]; omega
theorem catT_byt (ks inf : List Int) : ∀ k, Byt (catT ks inf k)
  | 0 => byt_nil
  | k + 1 => byt_apd (catT_byt ks inf k) (tM_byt ks inf (k + 1))
def expL (ks inf : List Int) (N : Nat) : List Int := (catT ks inf ((N + 31) / 32)).take N
theorem expL_len (ks inf : List Int) (N : Nat) : (expL ks inf N).length = N := by unfold expL; rw [List.length_take, catT_len]; omega
theorem expL_byt (ks inf : List Int) (N : Nat) : Byt (expL ks inf N) := byt_takeh (catT_byt _ _ _) _
theorem tG_is (ks inf : List Int) (N : Nat) : ∀ k, 32 * k < N + 32 → tG (maskL (keyL ks) 54) (maskL (keyL ks) 92) inf N k = (catT ks inf k).take N ++ List.replicate (N - 32 * k) 0
  | 0, _ => by
    show List.replicate N 0 = _
    simp [catT]
  | k + 1, h => by
    have ih := tG_is ks inf N k (by omega)
    have lc := catT_len ks inf k
    have lt := tM_len ks inf (j := k + 1) (by omega)
    show lay (tG _ _ inf N k) (32 * k) ((tM ks inf (k + 1)).take (pcL N k)) = (catT ks inf k ++ tM ks inf (k + 1)).take N ++ _
    rw [ih, List.take_of_length_le (show (catT ks inf k).length ≤ N by omega)]
    unfold lay
    have e1 : ((tM ks inf (k + 1)).take (pcL N k)).length = pcL N k := by rw [List.length_take, lt]; unfold pcL; omega
    have e3 : (catT ks inf k ++ List.replicate (N - 32 * k) 0).drop (32 * k + pcL N k) = List.replicate (N - 32 * (k + 1)) 0 := by
      rw [List.drop_append, List.drop_eq_nil_of_le (by rw [lc]; omega), List.nil_append, List.drop_replicate, lc]
      congr 1
      unfold pcL
      omega
    have e2 : (tM ks inf (k + 1)).take (N - 32 * k) = (tM ks inf (k + 1)).take (pcL N k) := by
      unfold pcL
      by_cases c : N - 32 * k ≤ 32
      · rw [Nat.min_eq_right c]
      · rw [Nat.min_eq_left (by omega), List.take_of_length_le (by omega), List.take_of_length_le (by omega)]
    rw [e1, e3, List.take_left' lc, List.take_append, lc, List.take_of_length_le (show (catT ks inf k).length ≤ N by omega), e2, List.append_assoc]
theorem tG_exp (ks inf : List Int) (N : Nat) : tG (maskL (keyL ks) 54) (maskL (keyL ks) 92) inf N ((N + 31) / 32) = expL ks inf N := by
  rw [tG_is ks inf N _ (by omega), show N - 32 * ((N + 31) / 32) = 0 by omega]
  simp [expL]
end Go.Proofs.YteedfhljbdnmnaaGreatDoor
namespace Go.Proofs.YteedfhljbdnmnaaGreatDoor
set_option maxRecDepth 100000
open Go Go.RowKit
set_option maxHeartbeats 400000 in
theorem implExtract_any (w : World) (g : Nat) (a : Option Addr) (c : Nat) (ks : List Int) (hr : Rd w g a .u8 ks) (hk : Byt ks) (hc : ks.length ≤ c) (hn : ks.length ≤ 1048576) (gd : Nat) (ad : Option Addr) (cd : Nat) (xs : List Int) (hd : Rd w gd ad .u8 xs) (hx : Byt xs) (hcd : xs.length ≤ cd) (hnd : xs.length ≤ 549755813888)
    (hS : HasT w 0 stLh) (hT : HasT w 2 kL) :
    Calls Tryz.prog 62 #[.slice a ks.length c, .slice ad xs.length cd] w fun e w' => NewRow w.heap.size w' e .u8 (macL ks xs) ∧ Below w.heap.size w w' := by
  have M := hide (implMac_any w g a c ks hr hk hc hn gd ad cd xs hd hx hcd hnd hS hT)
  obtain ⟨rs, hrs⟩ : ∃ l, l = macL ks xs := ⟨_, rfl⟩
  rw [← hrs] at M ⊢
  clear hrs
  go_enter Tryz.func62, Tryz.ntmps62
  go_wp2_with fail
  refine M.out.mono ?_
  rintro r w1 ⟨⟨a1, c1, g1, rfl, o1, p1, q1, r1⟩, n1⟩
  go_wp2
  go_ret
  exact ⟨⟨a1, c1, g1, rfl, o1, p1, q1, r1⟩, n1⟩
end Go.Proofs.YteedfhljbdnmnaaGreatDoor
namespace Go.Proofs.YteedfhljbdnmnaaGreatDoor
set_option maxRecDepth 100000
open Go Go.RowKit
theorem isExpandable_any (w : World) (n : Int) : Calls Tryz.prog 37 #[.int .i64 n] w fun e w' => e = .returned (.bool (decide (0 ≤ n ∧ n ≤ 8160))) ∧ w' = w := by
  by_cases c0 : 0 ≤ n
  · by_cases c1 : n ≤ 8160
    · have t0 : decide (0 ≤ n) = true := by simpa using c0
      have t1 : decide (n ≤ 8160) = true := by simpa using c1
      go_enter Tryz.func37, Tryz.ntmps37
      go_wp2
      go_ret
      exact ⟨by simp [c0, c1], rfl⟩
    · have t0 : decide (0 ≤ n) = true := by simpa using c0
      have t1 : decide (n ≤ 8160) = false := by simpa using c1
      go_enter Tryz.func37, Tryz.ntmps37
      go_wp2
      go_ret
      exact ⟨by simp, rfl⟩
  · have t0 : decide (0 ≤ n) = false := by simpa using c0
    go_enter Tryz.func37, Tryz.ntmps37
    go_wp2
    go_ret
    exact ⟨by simp, rfl⟩
theorem Own.take {w : World} {g : Nat} {a : Option Addr} {k : IntKind} {xs : List Int} (h : Own w g a k xs) (n : Nat) : Own w g a k (xs.take n) := by
  intro h0
  rw [List.length_take] at h0
  obtain ⟨off, e, hc⟩ := h (by omega)
  refine ⟨off, e, fun i hi => ?_⟩
  rw [List.length_take] at hi
  rw [List.getD_eq_getElem?_getD, List.getElem?_take, if_pos (by omega), ← List.getD_eq_getElem?_getD]
  exact hc i (by omega)
end Go.Proofs.YteedfhljbdnmnaaGreatDoor
namespace Go.Proofs.YteedfhljbdnmnaaGreatDoor
set_option maxRecDepth 100000
open Go Go.RowKit
end Go.Proofs.YteedfhljbdnmnaaGreatDoor
namespace Go.Proofs.YteedfhljbdnmnaaGreatDoor
set_option maxRecDepth 100000
open Go Go.RowKit
def labA (ks : List Int) (s : ByteArray) (ctx : List Int) (n : Int) : List Int := if (s.size ≤ 200 ∧ ctx.length ≤ 255) ∧ 0 ≤ n ∧ n ≤ 8160 then expL ks (infoL s ctx n.toNat) n.toNat else []
theorem labA_len (ks : List Int) (s : ByteArray) (ctx : List Int) (n : Int) : (labA ks s ctx n).length ≤ 8160 := by
  unfold labA
  split
  · rw [expL_len]; omega
  · simp
set_option maxHeartbeats 4000000 in
theorem implLabel_any (w : World) (g : Nat) (a : Option Addr) (c : Nat) (ks : List Int) (hr : Rd w g a .u8 ks) (hk : Byt ks) (hc : ks.length ≤ c) (hn : ks.length ≤ 1048576) (s : ByteArray) (hss : s.size ≤ 1048576) (gd : Nat) (ad : Option Addr) (cd : Nat) (ctx : List Int) (hd : Rd w gd ad .u8 ctx) (hx : Byt ctx) (hcd : ad = none → cd = 0) (hnd : ctx.length ≤ 1048576) (n : Int)
    (hS : HasT w 0 stLh) (hT : HasT w 2 kL) :
    Calls Tryz.prog 16 #[.slice a ks.length c, .string s, .slice ad ctx.length cd, .int .i64 n] w fun e w' => NewRow w.heap.size w' e .u8 (labA ks s ctx n) ∧ Below w.heap.size w w' := by
  have IE := fun W => hide (isExpandable_any W n)
  by_cases c1 : s.size ≤ 200
  · have t1 : decide ((200 : Int) < (s.size : Int)) = false := by simp; omega
    by_cases c2 : ctx.length ≤ 255
    · have t2 : decide ((255 : Int) < (ctx.length : Int)) = false := by simp; omega
      by_cases hin : 0 ≤ n ∧ n ≤ 8160
      · have t0 : decide (0 ≤ n ∧ n ≤ 8160) = true := decide_eq_true hin
        rw [t0] at IE
        obtain ⟨N, rfl⟩ := Int.eq_ofNat_of_zero_le hin.1
        have hN : N ≤ 8160 := by omega
        have NK := hide (newKeyed_any w g a c ks hr hk hc (by omega) hS hT)
        have LI := hide (fun W (b : Below w.heap.size w W) => labelInfo_any W s c1 gd ad cd ctx (hd.up b) c2 hcd N hN)
        have IB := infoL_byt (N := N) c1 hx c2 hN
        have IL := infoL_len s ctx N
        have ED := hide (fun W v1 v2 g' a' c' (h' : Rd W g' a' .u8 (infoL s ctx N)) (p' : (infoL s ctx N).length ≤ c') (b : Below w.heap.size w W) (V1 : HV v1 (maskL (keyL ks) 54)) (V2 : HV v2 (maskL (keyL ks) 92)) => expandD W v1 v2 _ _ (infoL s ctx N) V1 V2 g' a' c' h' IB p' N hN (by rw [maskL_len]; omega) (by rw [maskL_len]; omega) (hT.up b))
        obtain ⟨rs, hrs⟩ : ∃ l, l = labA ks s ctx (N : Int) := ⟨_, rfl⟩
        have HR : Hid (tG (maskL (keyL ks) 54) (maskL (keyL ks) 92) (infoL s ctx N) N ((N + 31) / 32) = rs) := by
          show _ = _
          rw [hrs, tG_exp]
          unfold labA
          rw [if_pos ⟨⟨c1, c2⟩, hin⟩]
          rfl
        rw [← hrs]
        clear hrs hin t0 IL
        rw [HR.out] at ED
        generalize infoL s ctx N = inf at *
        go_enter Tryz.func16, Tryz.ntmps16
        go_wp2_with fail
        refine (IE w).out.mono ?_
        rintro r w0 ⟨rfl, rfl⟩
        go_wp2_with fail
        refine NK.out.mono ?_
        rintro r w1 ⟨⟨v1, v2, rfl, V1, V2⟩, n1⟩
        have ED1 := hide (fun W g' a' c' h' p' b => ED.out W v1 v2 g' a' c' h' p' b V1 V2)
        clear ED NK V1 V2
        generalize v1 ++ v2 = vs at *
        go_wp2_with fail
        refine (LI.out w1 n1).mono ?_
        rintro r w2 ⟨⟨a2, c2', g2, rfl, o2, p2, q2, r2⟩, n2⟩
        have N2 := nxt n1 n2
        go_wp2_with fail
        refine (ED1.out w2 g2 a2 c2' o2.rd q2 N2).mono ?_
        rintro r w3 ⟨⟨a3, c3, g3, rfl, o3, p3, q3, r3⟩, n3⟩
        have y1 := N2.size
        go_wp2
        go_ret
        exact ⟨⟨a3, c3, g3, rfl, o3, p3, q3, by omega⟩, nxt N2 n3⟩
      · have t0 : decide (0 ≤ n ∧ n ≤ 8160) = false := decide_eq_false hin
        rw [t0] at IE
        have e : labA ks s ctx n = [] := by unfold labA; rw [if_neg (fun h => hin h.2)]
        rw [e]
        go_enter Tryz.func16, Tryz.ntmps16
        go_wp2_with fail
        refine (IE w).out.mono ?_
        rintro r w0 ⟨rfl, rfl⟩
        go_wp2
        go_ret
        exact ⟨newRow_z _ _, Below.refl _ _⟩
    · have t2 : decide ((255 : Int) < (ctx.length : Int)) = true := by simp; omega
      have e : labA ks s ctx n = [] := by unfold labA; rw [if_neg (fun h => c2 h.1.2)]
      rw [e]
      go_enter Tryz.func16, Tryz.ntmps16
      go_wp2
      go_ret
      exact ⟨newRow_z _ _, Below.refl _ _⟩
  · have t1 : decide ((200 : Int) < (s.size : Int)) = true := by simp; omega
    have e : labA ks s ctx n = [] := by unfold labA; rw [if_neg (fun h => c1 h.1.1)]
    rw [e]
    go_enter Tryz.func16, Tryz.ntmps16
    go_wp2
    go_ret
    exact ⟨newRow_z _ _, Below.refl _ _⟩
set_option maxHeartbeats 400000 in
theorem implDerive_any (w : World) (g : Nat) (a : Option Addr) (c : Nat) (ks : List Int) (hr : Rd w g a .u8 ks) (hk : Byt ks) (hc : ks.length ≤ c) (hn : ks.length ≤ 1048576) (s : ByteArray) (hss : s.size ≤ 1048576) (gd : Nat) (ad : Option Addr) (cd : Nat) (ctx : List Int) (hd : Rd w gd ad .u8 ctx) (hx : Byt ctx) (hcd : ad = none → cd = 0) (hnd : ctx.length ≤ 1048576)
    (hS : HasT w 0 stLh) (hT : HasT w 2 kL) :
    Calls Tryz.prog 13 #[.slice a ks.length c, .string s, .slice ad ctx.length cd] w fun e w' => NewRow w.heap.size w' e .u8 (labA ks s ctx 32) ∧ Below w.heap.size w w' := by
  have M := hide (implLabel_any w g a c ks hr hk hc hn s hss gd ad cd ctx hd hx hcd hnd 32 hS hT)
  obtain ⟨rs, hrs⟩ : ∃ l, l = labA ks s ctx 32 := ⟨_, rfl⟩
  rw [← hrs] at M ⊢
  clear hrs
  go_enter Tryz.func13, Tryz.ntmps13
  go_wp2_with fail
  refine M.out.mono ?_
  rintro r w1 ⟨⟨a1, c1, g1, rfl, o1, p1, q1, r1⟩, n1⟩
  go_wp2
  go_ret
  exact ⟨⟨a1, c1, g1, rfl, o1, p1, q1, r1⟩, n1⟩
end Go.Proofs.YteedfhljbdnmnaaGreatDoor
namespace Go.Proofs.YteedfhljbdnmnaaGreatDoor
set_option maxRecDepth 100000
open Go.RowKit
theorem gSth : Tryz.prog.globalNamed "loop.example/g00004/impl.startWords" = some 0 := by kernel_rfl
theorem tSth : (Tryz.prog.globals[0]?).map (·.type) = some 91 := by kernel_rfl
theorem gSp : Tryz.prog.globalNamed "loop.example/g00004/impl.stepWords" = some 2 := by kernel_rfl
theorem tSp : (Tryz.prog.globals[2]?).map (·.type) = some 125 := by kernel_rfl
theorem uSt : Tryz.prog.underlying 91 = some (.array 8 40) := by kernel_rfl
theorem uSp : Tryz.prog.underlying 125 = some (.array 80 40) := by kernel_rfl
theorem cSt : Tryz.prog.cellsOf 91 = 8 := by kernel_rfl
theorem cSp : Tryz.prog.cellsOf 125 = 80 := by kernel_rfl
theorem cUw : Tryz.prog.cellsOf 40 = 1 := by kernel_rfl
theorem uUw : Tryz.prog.underlying 40 = some (.int .u64) := by kernel_rfl
theorem hasT_of {W : World} {n : String} {g : Nat} {ty : TypeId} {N : Nat} {l : List Int} (hn : Tryz.prog.globalNamed n = some g) (ht : (Tryz.prog.globals[g]?).map (·.type) = some ty) (hu : Tryz.prog.underlying ty = some (.array N 40)) (hc : Tryz.prog.cellsOf ty = N)
    (h : Lib.VarReads Tryz.prog W n (.agg (l.map fun x => .lit (.int .u64 x)))) : HasT W g l := by
  obtain ⟨g', t, cs, fuel, p, hg, ht', hv, hd⟩ := h
  obtain rfl := Option.some.inj (hn.symm.trans hg)
  obtain rfl := Option.some.inj (ht.symm.trans ht')
  have hcs := Lib.cells_of_tab (zs := l) hu uUw cUw hc hd
  intro k hk
  rw [World.var?_cell hg hv k]
  obtain ⟨m⟩ := cs
  simp only at hcs
  subst hcs
  simp [hk]
theorem reads_ofH {l : List (String × DataW Unit)} {W : World} (h : laidMetH Tryz.prog l W) (hp : (l.all fun x => x.2.handleName?.isNone) = true) {n : String} {d : DataW Unit} (hm : (n, d) ∈ l) : Lib.VarReads Tryz.prog W n d := by
  rw [MakeChecks.laidMetH_plain _ _ _ hp] at h
  exact Lib.laidMet.reads h hm
theorem start_of {W : World} (h : Lib.VarReads Tryz.prog W "loop.example/g00004/impl.startWords" Rows.laid_loop_example_g00004_impl_startWords) : HasT W 0 stLh := hasT_of gSth tSth uSt cSt h
theorem steps_of {W : World} (h : Lib.VarReads Tryz.prog W "loop.example/g00004/impl.stepWords" Rows.laid_loop_example_g00004_impl_stepWords) : HasT W 2 kL := hasT_of gSp tSp uSp cSp h
def HasH (W : World) : Prop := HasT W 0 stLh ∧ HasT W 2 kL
theorem HasH.up {w w' : World} (h : HasH w) (n : Below w.heap.size w w') : HasH w' := ⟨h.1.up n, h.2.up n⟩
end Go.Proofs.YteedfhljbdnmnaaGreatDoor
namespace Go.Proofs.YteedfhljbdnmnaaGreatDoor
set_option maxRecDepth 100000
open Go Go.RowKit
theorem NewRow.low {B B' : Nat} {w : World} {e : Ending} {k : IntKind} {ys : List Int} (h : NewRow B w e k ys) (hb : B' ≤ B) : NewRow B' w e k ys := by
  obtain ⟨a, c, g, h1, h2, h3, h4, h5⟩ := h
  exact ⟨a, c, g, h1, h2, h3, h4, Nat.le_trans hb h5⟩
theorem labA_byt (ks : List Int) (s : ByteArray) (ctx : List Int) (n : Int) : Byt (labA ks s ctx n) := by
  unfold labA
  split
  · exact expL_byt _ _ _
  · intro i
    simp
theorem labA_full (ks : List Int) (s : ByteArray) (ctx : List Int) (n : Nat) (hs : s.size ≤ 200) (hc : ctx.length ≤ 255) (hn : n ≤ 8160) : (labA ks s ctx (n : Int)).length = n := by
  unfold labA
  rw [if_pos ⟨⟨hs, hc⟩, by omega⟩, expL_len]
  omega
theorem macL_len (ks xs : List Int) : (macL ks xs).length = 32 := by unfold macL; exact hash_len32 _
theorem macL_byt (ks xs : List Int) : Byt (macL ks xs) := by unfold macL; exact hash_byt32 _
structure Lq (w : World) (a : Option Addr) (c : Nat) (xs : List Int) : Prop where
  r : ∃ g, Rd w g a .u8 xs
  b : Byt xs
  p : a = none → c = 0
  q : xs.length ≤ c
  l : xs.length ≤ 1048576
theorem Lq.up {w w' : World} {a : Option Addr} {c : Nat} {xs : List Int} (h : Lq w a c xs) (n : Below w.heap.size w w') : Lq w' a c xs := by
  obtain ⟨⟨g, r⟩, b, p, q, l⟩ := h
  exact ⟨⟨g, r.up n⟩, b, p, q, l⟩
theorem Lq.nil (w : World) : Lq w none 0 [] := ⟨⟨0, Rd.nil _ _ _ _⟩, byt_nil, fun _ => rfl, Nat.le_refl _, by simp⟩
theorem Lq.of {w : World} {a : Option Addr} {c g : Nat} {ys : List Int} (o : Own w g a .u8 ys) (p : a = none → c = 0) (q : ys.length ≤ c) (b : Byt ys) (l : ys.length ≤ 1048576) : Lq w a c ys := ⟨⟨g, o.rd⟩, b, p, q, l⟩
def lbD : ByteArray := ⟨#[100, 101, 114, 105, 118, 101, 100]⟩
def lbB : ByteArray := ⟨#[98, 105, 110, 100, 101, 114]⟩
def lbF : ByteArray := ⟨#[102, 105, 110, 105, 115, 104, 101, 100]⟩
def lbU : ByteArray := ⟨#[117, 112, 100, 97, 116, 101]⟩
def lbK : ByteArray := ⟨#[107, 101, 121]⟩
def lbI : ByteArray := ⟨#[105, 118]⟩
def hE : List Int := hashL32 []
theorem hE_len : hE.length = 32 := hash_len32 _
theorem hE_byt : Byt hE := hash_byt32 _
def bx (w : World) (x y : Value) : World := w.alloc (.cells #[x, y] 52)
theorem bx_up (w : World) (x y : Value) : Below w.heap.size w (bx w x y) := (Below.refl _ _).alloc (Nat.le_refl _) _
set_option maxHeartbeats 1000000 in
theorem sExtract_any (w : World) (hH : HasH w) {a a' : Option Addr} {c c' : Nat} {ks xs : List Int} (h1 : Lq w a c ks) (h2 : Lq w a' c' xs) :
    Calls Tryz.prog 33 #[.agg #[.slice a ks.length c, .slice a' xs.length c']] w fun e w' => NewRow w.heap.size w' e .u8 (macL ks xs) ∧ Below w.heap.size w w' := by
  have n1 := bx_up w (.slice a ks.length c) (.slice a' xs.length c')
  obtain ⟨⟨g, r⟩, b, p, q, l⟩ := h1
  obtain ⟨⟨g', r'⟩, b', p', q', l'⟩ := h2
  have C := hide (implExtract_any _ g a c ks (r.up n1) b q l g' a' c' xs (r'.up n1) b' q' (by omega) (hH.1.up n1) (hH.2.up n1))
  have N1 := hide n1
  clear r b p q l r' b' p' q' l' n1 hH
  unfold bx at C N1
  generalize macL ks xs = ys at *
  generalize ks.length = m at *
  generalize xs.length = m' at *
  go_enter Tryz.func33, Tryz.ntmps33
  go_wp2_with fail
  refine C.out.mono ?_
  rintro e w1 ⟨⟨a3, c3, g3, rfl, o3, p3, q3, r3⟩, n⟩
  have z1 := N1.out.size
  go_wp2
  go_ret
  exact ⟨⟨a3, c3, g3, rfl, o3, p3, q3, by omega⟩, nxt N1.out n⟩
set_option maxHeartbeats 1000000 in
theorem sExpand_any (w : World) (hH : HasH w) {a : Option Addr} {c : Nat} {ks : List Int} (x : Value) (s : ByteArray) (hs : s.size ≤ 1048576) (n : Int) (h1 : Lq w a c ks) :
    Calls Tryz.prog 63 #[.agg #[.slice a ks.length c, x], .string s, .int .i64 n] w fun e w' => NewRow w.heap.size w' e .u8 (labA ks s [] n) ∧ Below w.heap.size w w' := by
  have n1 := bx_up w (.slice a ks.length c) x
  obtain ⟨⟨g, r⟩, b, p, q, l⟩ := h1
  have C : Hid (Calls Tryz.prog 16 #[.slice a ks.length c, .string s, .slice none 0 0, .int .i64 n] (bx w (.slice a ks.length c) x) fun e w' => NewRow (bx w (.slice a ks.length c) x).heap.size w' e .u8 (labA ks s [] n) ∧ Below (bx w (.slice a ks.length c) x).heap.size (bx w (.slice a ks.length c) x) w') := (implLabel_any _ g a c ks (r.up n1) b q l s hs 0 none 0 [] (Rd.nil _ _ _ _) byt_nil (fun _ => rfl) (by simp) n (hH.1.up n1) (hH.2.up n1))
  have N1 := hide n1
  clear r b p q l n1 hH
  unfold bx at C N1
  generalize labA ks s [] n = ys at *
  generalize ks.length = m at *
  go_enter Tryz.func63, Tryz.ntmps63
  go_wp2_with fail
  refine C.out.mono ?_
  rintro e w1 ⟨⟨a3, c3, g3, rfl, o3, p3, q3, r3⟩, n⟩
  have z1 := N1.out.size
  go_wp2
  go_ret
  exact ⟨⟨a3, c3, g3, rfl, o3, p3, q3, by omega⟩, nxt N1.out n⟩
theorem rowSc : ∃ d, Tryz.prog.underlying 52 = some d ∧ d.isRow = true := ⟨_, Tryz.underlying52, rfl⟩
theorem iSc : (Tryz.prog.info? 52).map (·.size) = some 2 := by kernel_rfl
theorem bx_range (w : World) (x y : Value) : (bx w x y).rangeAt w.heap.size 0 [x, y] := fun j v hj => by
  have h : (bx w x y).heap[w.heap.size]? = some (.cells #[x, y] 52 (0, 0)) := by show (w.heap.push _)[w.heap.size]? = _; simp
  rw [Nat.zero_add, cell_of_row _ _ _ _ _ _ h]
  simpa using hj
set_option maxHeartbeats 1000000 in
theorem sUpdate_any (w : World) (hH : HasH w) {a : Option Addr} {c : Nat} {ks : List Int} (x : Value) (h1 : Lq w a c ks) :
    Calls Tryz.prog 36 #[.agg #[.slice a ks.length c, x]] w fun e w' => NewRow w.heap.size w' e .u8 (labA ks lbU [] 32) ∧ Below w.heap.size w w' := by
  have n1 := bx_up w (.slice a ks.length c) x
  have C := hide (sExpand_any _ (hH.up n1) x lbU (by decide) 32 (h1.up n1))
  have N1 := hide n1
  obtain ⟨d2, hd2, hrow2⟩ := rowSc
  have RG := hide (bx_range w (.slice a ks.length c) x)
  clear h1 n1 hH
  unfold bx at C N1 RG
  generalize labA ks lbU [] 32 = ys at *
  unfold lbU at C
  generalize ks.length = m at *
  go_enter Tryz.func36, Tryz.ntmps36
  go_wp2_with fail
  refine C.out.mono ?_
  rintro e w1 ⟨⟨a3, c3, g3, rfl, o3, p3, q3, r3⟩, n⟩
  have z1 := N1.out.size
  go_wp2
  go_ret
  exact ⟨⟨a3, c3, g3, rfl, o3, p3, q3, by omega⟩, nxt N1.out n⟩
set_option maxHeartbeats 1000000 in
theorem sKey_any (w : World) (hH : HasH w) {a : Option Addr} {c : Nat} {ks : List Int} (x : Value) (h1 : Lq w a c ks) :
    Calls Tryz.prog 34 #[.agg #[.slice a ks.length c, x]] w fun e w' => NewRow w.heap.size w' e .u8 (labA ks lbK [] 32) ∧ Below w.heap.size w w' := by
  have n1 := bx_up w (.slice a ks.length c) x
  have C := hide (sExpand_any _ (hH.up n1) x lbK (by decide) 32 (h1.up n1))
  have N1 := hide n1
  obtain ⟨d2, hd2, hrow2⟩ := rowSc
  have RG := hide (bx_range w (.slice a ks.length c) x)
  clear h1 n1 hH
  unfold bx at C N1 RG
  generalize labA ks lbK [] 32 = ys at *
  unfold lbK at C
  generalize ks.length = m at *
  go_enter Tryz.func34, Tryz.ntmps34
  go_wp2_with fail
  refine C.out.mono ?_
  rintro e w1 ⟨⟨a3, c3, g3, rfl, o3, p3, q3, r3⟩, n⟩
  have z1 := N1.out.size
  go_wp2
  go_ret
  exact ⟨⟨a3, c3, g3, rfl, o3, p3, q3, by omega⟩, nxt N1.out n⟩
set_option maxHeartbeats 1000000 in
theorem sIv_any (w : World) (hH : HasH w) {a : Option Addr} {c : Nat} {ks : List Int} (x : Value) (h1 : Lq w a c ks) :
    Calls Tryz.prog 35 #[.agg #[.slice a ks.length c, x]] w fun e w' => NewRow w.heap.size w' e .u8 (labA ks lbI [] 12) ∧ Below w.heap.size w w' := by
  have n1 := bx_up w (.slice a ks.length c) x
  have C := hide (sExpand_any _ (hH.up n1) x lbI (by decide) 12 (h1.up n1))
  have N1 := hide n1
  obtain ⟨d2, hd2, hrow2⟩ := rowSc
  have RG := hide (bx_range w (.slice a ks.length c) x)
  clear h1 n1 hH
  unfold bx at C N1 RG
  generalize labA ks lbI [] 12 = ys at *
  unfold lbI at C
  generalize ks.length = m at *
  go_enter Tryz.func35, Tryz.ntmps35
  go_wp2_with fail
  refine C.out.mono ?_
  rintro e w1 ⟨⟨a3, c3, g3, rfl, o3, p3, q3, r3⟩, n⟩
  have z1 := N1.out.size
  go_wp2
  go_ret
  exact ⟨⟨a3, c3, g3, rfl, o3, p3, q3, by omega⟩, nxt N1.out n⟩
end Go.Proofs.YteedfhljbdnmnaaGreatDoor
namespace Go.Proofs.YteedfhljbdnmnaaGreatDoor
set_option maxRecDepth 100000
open Go Go.RowKit
def SC2 (w : World) (v : Value) (B : Nat) (ys : List Int) (x : Value) : Prop := ∃ (a : Option Addr) (c g : Nat), v = .agg #[.slice a ys.length c, x] ∧ Own w g a .u8 ys ∧ (a = none → c = 0) ∧ ys.length ≤ c ∧ B ≤ g
theorem SC2.up {w w' : World} {v : Value} {B : Nat} {ys : List Int} {x : Value} (h : SC2 w v B ys x) (n : Below w.heap.size w w') : SC2 w' v B ys x := by
  obtain ⟨a, c, g, e, o, q⟩ := h
  exact ⟨a, c, g, e, o.up n, q⟩
def SCh (B : Nat) (ys : List Int) (x : Value) : Fact := ⟨fun v w => SC2 w v B ys x, fun n h => h.up n⟩
theorem buSc (w : World) (a a' : Option Addr) (n n' c c' : Nat) : (Instr.build 52 #[(0, .slice a n c), (1, .slice a' n' c')]).run Tryz.prog w = .ok (.agg #[.slice a n c, .slice a' n' c']) w := by kernel_rfl
theorem step_b2 {ops : Array Oper} {Q : Exit → Act → World → Prop} {md : Region.Mode} {F : Nat → Fact} {a0 : Act} {w0 : World} {i : Nat} {o : Oper} {B : Nat} {ys : List Int} {a' : Option Addr} {n' c' : Nat} (hi : ops[i]? = some o) (p q j k : Nat) (hop : o.op = .build 52 #[(0, .tmp p), (1, .tmp q)])
    (hj : waits md ops i j p = true) (hk : waits md ops i k q = true) (hFj : F j = RNh B ys) (hFk : F k = Fact.eq (.slice a' n' c')) (hFi : F i = SCh B ys (.slice a' n' c')) : StepOk Tryz.prog md ops Q F a0 w0 i := by
  refine step_pure hi fun a w _ _ hf => ?_
  have h1 := hf j p hj
  have h2 := hf k q hk
  rw [hFj] at h1
  rw [hFk] at h2
  obtain ⟨a1, c1, g1, e7, o1, p1, q1, r1⟩ := h1
  have x1 : a.eval (.tmp p) = .slice a1 ys.length c1 := e7
  have x2 : a.eval (.tmp q) = .slice a' n' c' := h2
  refine ⟨.agg #[.slice a1 ys.length c1, .slice a' n' c'], ?_, by rw [hFi]; exact ⟨a1, c1, g1, rfl, o1, p1, q1, r1⟩⟩
  have gg : (#[(0, Operand.tmp p), (1, Operand.tmp q)].map fun (n, x) => (n, a.eval x)) = #[(0, Value.slice a1 ys.length c1), (1, .slice a' n' c')] := by simp [x1, x2]
  simp only [execOp, hop, gg]
  rw [Sem.run_bind, buSc]
  rfl
theorem one2 (a a' : Option Addr) (n n' c c' : Nat) : ([.slice a n c, .slice a' n' c'] : List Value).toArray.all (·.oneCell') = true := all_oneCell_toArray fun v hv => by
  simp only [List.mem_cons, List.not_mem_nil, or_false] at hv
  rcases hv with rfl | rfl
  all_goals rfl
theorem there2 {w : World} {q : Nat} {x y : Value} {t : TypeId} (h : w.heap[q]? = some (.cells #[x, y] t (0, 0))) : w.there q 0 2 := fun j hj => by
  rw [Nat.zero_add, cell_of_row _ _ _ _ _ _ h, frozen_of_row _ _ _ _ _ h]
  refine ⟨?_, rfl⟩
  obtain rfl | rfl : j = 0 ∨ j = 1 := by omega
  all_goals rfl
theorem range_up {W W' : World} {q : Nat} {cs : List Value} (h : W.rangeAt q 0 cs) (l : q < W.heap.size) (n : Below W.heap.size W W') : W'.rangeAt q 0 cs := fun j v hj => (World.cell?_of_block (a := ⟨q, 0 + j, none⟩) (n.block q l)).trans (h j v hj)
theorem bx_lt (w : World) (x y : Value) : w.heap.size < (bx w x y).heap.size := by simp [bx]
set_option maxHeartbeats 4000000 in
theorem sDerive_any (w : World) (hH : HasH w) {a a' : Option Addr} {c n' c' : Nat} {ks : List Int} (s : ByteArray) (hs : s.size ≤ 1048576) (h1 : Lq w a c ks) :
    Calls Tryz.prog 61 #[.agg #[.slice a ks.length c, .slice a' n' c'], .string s] w fun e w' => (∃ v, e = .returned v ∧ SC2 w' v w.heap.size (labA ks s hE 32) (.slice a' n' c')) ∧ Below w.heap.size w w' := by
  have n0 := bx_up w (.slice a ks.length c) (.slice a' n' c')
  have z0 := bx_lt w (.slice a ks.length c) (.slice a' n' c')
  have zz : (bx w (.slice a ks.length c) (.slice a' n' c')).heap.size = w.heap.size + 1 := by simp [bx]
  have R0 := bx_range w (.slice a ks.length c) (.slice a' n' c')
  obtain ⟨d3, hd3, hrow3⟩ := rowSc
  have HH := hH.up n0
  have H1 := h1.up n0
  clear hH h1
  obtain ⟨ls, hls⟩ : ∃ l, l = labA ks s hE 32 := ⟨_, rfl⟩
  have HL := hide hls
  rw [← hls]
  clear hls
  unfold bx at n0 z0 zz R0 HH H1
  go_enter Tryz.func61, Tryz.ntmps61
  go_upto_region 1 with fail
  generalize w.alloc (.cells #[.slice a ks.length c, .slice a' n' c'] 52) = wa at *
  have n1 : Below wa.heap.size wa (wa.alloc (.cells #[.slice none 0 0, .slice none 0 0] 52)) := (Below.refl _ _).alloc (Nat.le_refl _) _
  have TH : (wa.alloc (.cells #[.slice none 0 0, .slice none 0 0] 52)).there (w.heap.size + 1) 0 2 := there2 (x := .slice none 0 0) (y := .slice none 0 0) (t := 52) (by rw [← zz]; show (wa.heap.push _)[wa.heap.size]? = _; simp)
  have R1 := range_up R0 z0 n1
  have HH1 := HH.up n1
  have L1 := H1.up n1
  have N1 := nxt n0 n1
  have zb : w.heap.size + 1 < (wa.alloc (.cells #[.slice none 0 0, .slice none 0 0] 52)).heap.size := by simp; omega
  generalize wa.alloc (.cells #[.slice none 0 0, .slice none 0 0] 52) = wb at *
  clear n0 n1 R0 z0 zz HH H1
  refine region_putF 8 7 4 12 _ (fun i => [Fact.eq (.pointer (some ⟨w.heap.size, 0, none⟩)), Fact.eq (.slice a ks.length c), Fact.eq (.string s), RNh wb.heap.size hE, RNh wb.heap.size ls, Fact.eq (.pointer (some ⟨w.heap.size, 1, none⟩)), Fact.eq (.slice a' n' c'), SCh wb.heap.size ls (.slice a' n' c')].getD i Fact.no) (w.heap.size + 1) 0 52 (by kernel_rfl) (by kernel_rfl) rfl rfl rfl (by kernel_rfl) rfl (by kernel_rfl) ?_ ?_
  · intro i hi
    obtain rfl | rfl | rfl | rfl | rfl | rfl | rfl | rfl : i = 0 ∨ i = 1 ∨ i = 2 ∨ i = 3 ∨ i = 4 ∨ i = 5 ∨ i = 6 ∨ i = 7 := by omega
    · refine step_pure rfl fun A ww hb hw hf => ?_
      have e1 : A.tmps[2]?.getD undef = .pointer (some ⟨w.heap.size, 0, none⟩) := gdv (hb.2.2 2 (by kernel_rfl))
      exact ⟨.pointer (some ⟨w.heap.size, 0, none⟩), by simp [go_sem, e1], rfl⟩
    · refine step_pure rfl fun A ww hb hw hf => ?_
      have e3 : A.tmps[5]?.getD undef = .pointer (some ⟨w.heap.size, 0, none⟩) := gdv (hf 0 5 (by kernel_rfl))
      have hc : ww.cell? ⟨w.heap.size, 0, none⟩ = some (.slice a ks.length c) := range_up R1 (by omega) hw 0 _ rfl
      exact ⟨.slice a ks.length c, by simp [go_sem, e3, hc], rfl⟩
    · refine step_pure rfl fun A ww hb hw hf => ?_
      have e1 : A.tmps[1]?.getD undef = .string s := gdv (hb.2.2 1 (by kernel_rfl))
      exact ⟨.string s, by simp [go_sem, e1], rfl⟩
    · refine step_callv rfl 19 _ _ rfl (by kernel_rfl) fun A ww hb hw hf => ?_
      show Calls Tryz.prog 19 #[.slice none 0 0] ww _
      exact (implHash_32 ww 0 none 0 [] (Rd.nil _ _ _ _) byt_nil (Nat.le_refl _) (by simp) (HH1.1.up hw) (HH1.2.up hw)).mono (by rintro r w' ⟨⟨a1, c1, g1, rfl, o1, p1, q1, r1⟩, n⟩; exact ⟨_, rfl, n, a1, c1, g1, rfl, o1, p1, q1, Nat.le_trans hw.size r1⟩)
    · refine step_callv rfl 13 _ _ rfl (by kernel_rfl) fun A ww hb hw hf => ?_
      have e6 : A.tmps.getD 6 undef = .slice a ks.length c := hf 1 6 (by kernel_rfl)
      have e7 : A.tmps.getD 7 undef = .string s := hf 2 7 (by kernel_rfl)
      obtain ⟨a1, c1, g1, e8, o1, p1, q1, r1⟩ := hf 3 8 (by kernel_rfl)
      obtain ⟨⟨g, r⟩, b, p, q, l⟩ := L1.up hw
      show Calls Tryz.prog 13 #[A.tmps.getD 6 undef, A.tmps.getD 7 undef, A.tmps.getD 8 undef] ww _
      rw [e6, e7, e8]
      have D := implDerive_any ww g a c ks r b q l s hs g1 a1 c1 hE o1.rd hE_byt p1 (by rw [hE_len]; decide) (HH1.1.up hw) (HH1.2.up hw)
      rw [← HL.out] at D
      exact D.mono (by rintro r w' ⟨⟨a1, c1, g1, rfl, o1, p1, q1, r1⟩, n⟩; exact ⟨_, rfl, n, a1, c1, g1, rfl, o1, p1, q1, Nat.le_trans hw.size r1⟩)
    · refine step_pure rfl fun A ww hb hw hf => ?_
      have e1 : A.tmps[2]?.getD undef = .pointer (some ⟨w.heap.size, 0, none⟩) := gdv (hb.2.2 2 (by kernel_rfl))
      exact ⟨.pointer (some ⟨w.heap.size, 1, none⟩), by simp [go_sem, e1], rfl⟩
    · refine step_pure rfl fun A ww hb hw hf => ?_
      have e3 : A.tmps[10]?.getD undef = .pointer (some ⟨w.heap.size, 1, none⟩) := gdv (hf 5 10 (by kernel_rfl))
      have hc : ww.cell? ⟨w.heap.size, 1, none⟩ = some (.slice a' n' c') := range_up R1 (by omega) hw 1 _ rfl
      exact ⟨.slice a' n' c', by simp [go_sem, e3, hc], rfl⟩
    · exact step_b2 rfl 9 11 4 6 rfl (by kernel_rfl) (by kernel_rfl) rfl rfl rfl
  intro vs6 W v hw hv3
  have hv3 : SC2 W v wb.heap.size ls (.slice a' n' c') := hv3
  obtain ⟨a1, c1, g1, rfl, o1, p1, q1, r1⟩ := hv3
  have th := there_upn (by omega) TH hw
  refine ⟨[.slice a1 ls.length c1, .slice a' n' c'], rfl, th, iSc, one2 _ _ _ _ _ _, ?_⟩
  have RR := World.rangeAt_setCells_same W (w.heap.size + 1) 0 [.slice a1 ls.length c1, .slice a' n' c'] th
  have OQ := only_setCells W (w.heap.size + 1) [.slice a1 ls.length c1, .slice a' n' c'] 0
  have N2 : Below w.heap.size w (W.setCells (w.heap.size + 1) 0 [.slice a1 ls.length c1, .slice a' n' c']) := (nxt N1 hw).trans (OQ.below (by omega))
  have o1' := o1.only OQ (fun _ => by omega)
  generalize W.setCells (w.heap.size + 1) 0 [.slice a1 ls.length c1, .slice a' n' c'] = W2 at *
  simp only [puts, Act.put, List.setIfInBounds_toArray, List.set_cons_succ, List.set_cons_zero]
  clear o1 OQ th TH R1 N1 HH1 L1
  go_wp2
  exact bodyPost_ret (v := .agg #[.slice a1 ls.length c1, .slice a' n' c']) (results_cell_m Tryz.results61 _ _ (w.heap.size + 1) _ d3 rfl RR hd3 hrow3 iSc) rfl ⟨⟨_, rfl, a1, c1, g1, rfl, o1', p1, q1, by omega⟩, N2⟩
set_option maxHeartbeats 4000000 in
theorem sFinish_any (w : World) (hH : HasH w) {a a' : Option Addr} {c c' : Nat} {ks xs : List Int} (h1 : Lq w a c ks) (h2 : Lq w a' c' xs) :
    Calls Tryz.prog 42 #[.agg #[.slice a ks.length c, .slice a' xs.length c']] w fun e w' => NewRow w.heap.size w' e .u8 (macL (labA ks lbF [] 32) xs) ∧ Below w.heap.size w w' := by
  have n0 := bx_up w (.slice a ks.length c) (.slice a' xs.length c')
  have z0 := bx_lt w (.slice a ks.length c) (.slice a' xs.length c')
  have R1 := bx_range w (.slice a ks.length c) (.slice a' xs.length c')
  obtain ⟨d3, hd3, hrow3⟩ := rowSc
  have HH1 := hH.up n0
  have L1 := h1.up n0
  have L2 := h2.up n0
  clear hH h1 h2
  have LL := labA_len ks lbF [] 32
  have LB := labA_byt ks lbF [] 32
  obtain ⟨ls, hls⟩ : ∃ l, l = labA ks lbF [] 32 := ⟨_, rfl⟩
  rw [← hls] at LL LB
  rw [← hls]
  have HL := hide hls
  clear hls
  unfold bx at n0 z0 R1 HH1 L1 L2
  go_enter Tryz.func42, Tryz.ntmps42
  go_upto_region 1 with fail
  generalize w.alloc (.cells #[.slice a ks.length c, .slice a' xs.length c'] 52) = wb at *
  refine region_end 6 (fun i => [Fact.eq (.agg #[.slice a ks.length c, .slice a' xs.length c']), RNh wb.heap.size ls, Fact.eq (.pointer (some ⟨w.heap.size, 1, none⟩)), Fact.eq (.slice a' xs.length c'), RNh wb.heap.size (macL ls xs), RNh wb.heap.size (macL ls xs)].getD i Fact.no) (by kernel_rfl) (by kernel_rfl) rfl ?_ ?_
  · intro i hi
    obtain rfl | rfl | rfl | rfl | rfl | rfl : i = 0 ∨ i = 1 ∨ i = 2 ∨ i = 3 ∨ i = 4 ∨ i = 5 := by omega
    · refine step_load rfl 52 (.tmp 1) rfl d3 2 hd3 hrow3 iSc fun A ww hb hw hf => ⟨_, 0, [.slice a ks.length c, .slice a' xs.length c'], hb.2.2 1 (by kernel_rfl), range_up R1 z0 hw, rfl, rfl⟩
    · refine step_callv rfl 63 _ _ rfl (by kernel_rfl) fun A ww hb hw hf => ?_
      have e3 : A.tmps.getD 3 undef = .agg #[.slice a ks.length c, .slice a' xs.length c'] := hf 0 3 (by kernel_rfl)
      show Calls Tryz.prog 63 #[A.tmps.getD 3 undef, .string lbF, .int .i64 32] ww _
      rw [e3]
      have D := sExpand_any ww (HH1.up hw) (.slice a' xs.length c') lbF (by decide) 32 (L1.up hw)
      rw [← HL.out] at D
      exact D.mono (by rintro r w' ⟨⟨a1, c1, g1, rfl, o1, p1, q1, r1⟩, n⟩; exact ⟨_, rfl, n, a1, c1, g1, rfl, o1, p1, q1, Nat.le_trans hw.size r1⟩)
    · refine step_pure rfl fun A ww hb hw hf => ?_
      have e1 : A.tmps[1]?.getD undef = .pointer (some ⟨w.heap.size, 0, none⟩) := gdv (hb.2.2 1 (by kernel_rfl))
      exact ⟨.pointer (some ⟨w.heap.size, 1, none⟩), by simp [go_sem, e1], rfl⟩
    · refine step_pure rfl fun A ww hb hw hf => ?_
      have e3 : A.tmps[5]?.getD undef = .pointer (some ⟨w.heap.size, 1, none⟩) := gdv (hf 2 5 (by kernel_rfl))
      have hc : ww.cell? ⟨w.heap.size, 1, none⟩ = some (.slice a' xs.length c') := range_up R1 z0 hw 1 _ rfl
      exact ⟨.slice a' xs.length c', by simp [go_sem, e3, hc], rfl⟩
    · refine step_callv rfl 69 _ _ rfl (by kernel_rfl) fun A ww hb hw hf => ?_
      obtain ⟨a1, c1, g1, e4, o1, p1, q1, r1⟩ := hf 1 4 (by kernel_rfl)
      have e6 : A.tmps.getD 6 undef = .slice a' xs.length c' := hf 3 6 (by kernel_rfl)
      obtain ⟨⟨g, r⟩, b, p, q, l⟩ := L2.up hw
      show Calls Tryz.prog 69 #[A.tmps.getD 4 undef, A.tmps.getD 6 undef] ww _
      rw [e4, e6]
      exact (implMac_any ww g1 a1 c1 ls o1.rd LB q1 (by omega) g a' c' xs r b q (by omega) (HH1.1.up hw) (HH1.2.up hw)).mono (by rintro r w' ⟨⟨a1, c1, g1, rfl, o1, p1, q1, r1⟩, n⟩; exact ⟨_, rfl, n, a1, c1, g1, rfl, o1, p1, q1, Nat.le_trans hw.size r1⟩)
    · refine step_pure rfl fun A ww hb hw hf => ?_
      obtain ⟨a1, c1, g1, e7, o1, p1, q1, r1⟩ := hf 4 7 (by kernel_rfl)
      exact ⟨.slice a1 (macL ls xs).length c1, by simp [go_sem, gdv e7], ⟨a1, c1, g1, rfl, o1, p1, q1, r1⟩⟩
  intro A W hb hw hF
  have e2 := hF 5 2 (by kernel_rfl)
  obtain ⟨vs, hvs⟩ : ∃ vs : Nat → Value, ∀ d, A.tmps.getD d undef = vs d := ⟨_, fun _ => rfl⟩
  rw [hvs] at e2
  rw [puts_of (md := .any) (k := 6) (by kernel_rfl) rfl hb vs hvs]
  have N9 := nxt n0 hw
  clear hb hF hvs hw R1 HH1 L1 L2 HL LB LL
  obtain ⟨a1, c1, g1, e3, o1, p1, q1, r1⟩ := e2
  simp only [puts, e3, Act.put, List.setIfInBounds_toArray, List.set_cons_succ, List.set_cons_zero]
  go_wp2
  go_ret
  exact ⟨⟨a1, c1, g1, rfl, o1, p1, q1, by omega⟩, N9⟩
set_option maxHeartbeats 1000000 in
theorem sMix_any (w : World) (hH : HasH w) {a a' : Option Addr} {c c' : Nat} {ks xs : List Int} (h1 : Lq w a c ks) (h2 : Lq w a' c' xs) :
    Calls Tryz.prog 30 #[.agg #[.slice a ks.length c, .slice a' xs.length c']] w fun e w' => NewRow w.heap.size w' e .u8 (macL (labA ks lbD hE 32) xs) ∧ Below w.heap.size w w' := by
  have n1 := bx_up w (.slice a ks.length c) (.slice a' xs.length c')
  have C := hide (sDerive_any (a' := a') (n' := xs.length) (c' := c') _ (hH.up n1) lbD (by decide) (h1.up n1))
  have N1 := hide n1
  obtain ⟨d2, hd2, hrow2⟩ := rowSc
  have RG := hide (bx_range w (.slice a ks.length c) (.slice a' xs.length c'))
  have LL := labA_len ks lbD hE 32
  have LB := labA_byt ks lbD hE 32
  clear h1 n1
  unfold bx at C N1 RG
  generalize labA ks lbD hE 32 = ls at *
  have EX := fun W (n : Below w.heap.size w W) a1 c1 (h : Lq W a1 c1 ls) => hide (sExtract_any W (hH.up n) h (h2.up n))
  generalize macL ls xs = ys at *
  have LLh := hide LL
  clear LL
  unfold lbD at C
  go_enter Tryz.func30, Tryz.ntmps30
  go_wp2_with fail
  refine C.out.mono ?_
  rintro e w1 ⟨⟨v, rfl, a3, c3, g3, rfl, o3, p3, q3, r3⟩, n⟩
  have z1 := N1.out.size
  have n2 := nxt N1.out n
  have E := EX w1 n2 a3 c3 (Lq.of o3 p3 q3 LB (by have := LLh.out; omega))
  clear EX o3 p3 q3 C RG h2 hH
  go_wp2_with fail
  refine E.out.mono ?_
  rintro e w2 ⟨⟨a4, c4, g4, rfl, o4, p4, q4, r4⟩, n4⟩
  have z2 := n2.size
  go_wp2
  go_ret
  exact ⟨⟨a4, c4, g4, rfl, o4, p4, q4, by omega⟩, nxt n2 n4⟩
set_option maxHeartbeats 1000000 in
theorem sBind_any (w : World) (hH : HasH w) {a a' : Option Addr} {c c' : Nat} {ks xs : List Int} (h1 : Lq w a c ks) (h2 : Lq w a' c' xs) :
    Calls Tryz.prog 41 #[.agg #[.slice a ks.length c, .slice a' xs.length c']] w fun e w' => NewRow w.heap.size w' e .u8 (macL (labA (labA ks lbB hE 32) lbF [] 32) xs) ∧ Below w.heap.size w w' := by
  have n1 := bx_up w (.slice a ks.length c) (.slice a' xs.length c')
  have C := hide (sDerive_any (a' := a') (n' := xs.length) (c' := c') _ (hH.up n1) lbB (by decide) (h1.up n1))
  have N1 := hide n1
  obtain ⟨d2, hd2, hrow2⟩ := rowSc
  have RG := hide (bx_range w (.slice a ks.length c) (.slice a' xs.length c'))
  have LL := labA_len ks lbB hE 32
  have LB := labA_byt ks lbB hE 32
  clear h1 n1
  unfold bx at C N1 RG
  generalize labA ks lbB hE 32 = ls at *
  have EX := fun W (n : Below w.heap.size w W) a1 c1 (h : Lq W a1 c1 ls) => hide (sFinish_any W (hH.up n) h (h2.up n))
  generalize macL (labA ls lbF [] 32) xs = ys at *
  have LLh := hide LL
  clear LL
  unfold lbB at C
  go_enter Tryz.func41, Tryz.ntmps41
  go_wp2_with fail
  refine C.out.mono ?_
  rintro e w1 ⟨⟨v, rfl, a3, c3, g3, rfl, o3, p3, q3, r3⟩, n⟩
  have z1 := N1.out.size
  have n2 := nxt N1.out n
  have E := EX w1 n2 a3 c3 (Lq.of o3 p3 q3 LB (by have := LLh.out; omega))
  clear EX o3 p3 q3 C RG h2 hH
  go_wp2_with fail
  refine E.out.mono ?_
  rintro e w2 ⟨⟨a4, c4, g4, rfl, o4, p4, q4, r4⟩, n4⟩
  have z2 := n2.size
  go_wp2
  go_ret
  exact ⟨⟨a4, c4, g4, rfl, o4, p4, q4, by omega⟩, nxt n2 n4⟩
end Go.Proofs.YteedfhljbdnmnaaGreatDoor
