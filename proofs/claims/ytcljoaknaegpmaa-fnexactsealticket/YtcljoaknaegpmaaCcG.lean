
/-
  The program's layOver: the blocks laid over a copy of the data, piece after piece (written by gens/ccg.py).
-/
import Derived.Test.YtcljoaknaegpmaaCcF
import Derived.Test.YtcljoaknaegpmaaXk64
namespace Go.Proofs.Ytcljoaknaegpmaa
open Go Go.RowKit Go.Shelf
attribute [local go_sem] Oper.semAt_some

def xr (a b : Int) : Int := bits BinOp.xor IntKind.u8 a b
/-- From place o on, j bytes with those of B laid over them. -/
def xorTo (zs : List Int) (o : Nat) (B : List Int) : Nat → List Int
  | 0 => zs
  | j + 1 => (xorTo zs o B j).set (o + j) (xr (zs.getD (o + j) 0) (B.getD j 0))
theorem xorTo_len (zs : List Int) (o : Nat) (B : List Int) : ∀ j, (xorTo zs o B j).length = zs.length
  | 0 => rfl
  | j + 1 => by rw [xorTo, List.length_set]; exact xorTo_len zs o B j
theorem xorTo_get (zs : List Int) (o : Nat) (B : List Int) (i : Nat) (hi : i < zs.length) : ∀ j, (xorTo zs o B j).getD i 0 = if o ≤ i ∧ i < o + j then xr (zs.getD i 0) (B.getD (i - o) 0) else zs.getD i 0
  | 0 => by rw [if_neg (by omega)]; rfl
  | j + 1 => by
    rw [xorTo]
    by_cases e : o + j = i
    · subst e
      rw [getD_set_self _ _ _ (by rw [xorTo_len]; exact hi), if_pos (by omega), show o + j - o = j by omega]
    · rw [getD_set_ne _ _ _ _ e, xorTo_get zs o B i hi j]
      by_cases h : o ≤ i ∧ i < o + j
      · rw [if_pos h, if_pos (by omega)]
      · rw [if_neg h, if_neg (by omega)]
/-- What is told behind k pieces. -/
def xoG (ys : List Int) (c : Int) (data : List Int) : Nat → List Int
  | 0 => data
  | k + 1 => xorTo (xoG ys c data k) (64 * k) (stB (ys.set 12 (c + (k : Int)))) (pcL64 data.length k)
theorem xoG_len (ys : List Int) (c : Int) (data : List Int) : ∀ k, (xoG ys c data k).length = data.length
  | 0 => rfl
  | k + 1 => by rw [xoG, xorTo_len]; exact xoG_len ys c data k
theorem xoG_get (ys : List Int) (c : Int) (data : List Int) (i : Nat) (hi : i < data.length) : ∀ k, (xoG ys c data k).getD i 0 = if i < 64 * k then xr (data.getD i 0) ((stB (ys.set 12 (c + ((i / 64 : Nat) : Int)))).getD (i % 64) 0) else data.getD i 0
  | 0 => by rw [if_neg (by omega)]; rfl
  | k + 1 => by
    rw [xoG, xorTo_get _ _ _ _ (by rw [xoG_len]; exact hi), xoG_get ys c data i hi k]
    unfold pcL64
    by_cases h : i < 64 * k
    · rw [if_neg (by omega), if_pos h, if_pos (by omega)]
    · rw [if_neg h]
      by_cases h2 : i < 64 * (k + 1)
      · rw [if_pos (by omega), if_pos h2, show i / 64 = k by omega, show i - 64 * k = i % 64 by omega]
      · rw [if_neg (by omega), if_neg h2]
section
variable {P : Program} {ops : Array Oper} {Q : Exit → Act → World → Prop} {n l : Nat} {rest : List Oper} {o : Oper} {a : Act} {w : World}
theorem listIn_op (hgd : o.guard = none) (hd : ∀ c, o.op ≠ .defer c) (h : ∀ K : Act → World → Prop, (∀ a w, wpListIn (Fence.wide.inRound l) n P ops Q rest a w → K a w) → o.wp P a w K Q) : wpListIn (Fence.wide.inRound l) n P ops Q (o :: rest) a w :=
  wpListIn_plain hgd fun K hK => op_in hd (h K hK)
theorem listIn_load (hgd : o.guard = none) (ty : TypeId) (x : Operand) (ho : o.op = .load ty x) (b off : Nat) (hx : a.eval x = .pointer (some ⟨b, off, none⟩)) (cs : List Value) (d : TypeDesc) (hc : w.rangeAt b off cs)
    (hu : P.underlying ty = some d) (hd : d.isRow = true) (hi : (P.info? ty).map (·.size) = some cs.length) (h : wpListIn (Fence.wide.inRound l) n P ops Q rest (a.put o.dst (.agg cs.toArray)) w) : wpListIn (Fence.wide.inRound l) n P ops Q (o :: rest) a w :=
  listIn_op hgd (by rw [ho]; intro c e; cases e) fun _ hK => wp_load_mid ty x ho b off hx cs d hc hu hd hi (hK _ _ h)
theorem listIn_store (hgd : o.guard = none) (ty : TypeId) (x y : Operand) (ho : o.op = .store ty x y)
    (g : Nat) (cells : Array Value) (hx : a.eval x = .pointer (some ⟨g, 0, none⟩)) (hy : a.eval y = .agg cells)
    (t : TypeId) (old : Array Value) (hg : w.heap[g]? = some (.cells old t (0, 0))) (hi : (P.info? ty).map (·.size) = some cells.size)
    (hold : old.size = cells.size) (h1 : cells.all (·.oneCell') = true)
    (h : wpListIn (Fence.wide.inRound l) n P ops Q rest (a.put o.dst undef) (w.setRow g cells)) : wpListIn (Fence.wide.inRound l) n P ops Q (o :: rest) a w :=
  listIn_op hgd (by rw [ho]; intro c e; cases e) fun _ hK => wp_store_row ty x y ho g cells hx hy t old hg hi hold h1 (hK _ _ h)
end
/-- What holds between two rounds. -/
structure LyI (w : World) (ys : List Int) (c : Int) (data : List Int) (Z : Nat) (pre : List (PcN64 data.length)) (W : World) : Prop where
  told : ∃ zs : List Int, zs.length = data.length ∧ Blk W (w.heap.size + 1 + 1) .u8 zs ∧ (pre.map (·.1) = List.range pre.length → zs = xoG ys c data pre.length)
  wds : Blk W w.heap.size .u32 ys
  num : W.cell? ⟨w.heap.size + 1, 0, none⟩ = some (.int .i64 (c + (pre.length : Int)))
  numF : W.frozen? ⟨w.heap.size + 1, 0, none⟩ = false
  siz : Z ≤ W.heap.size
  bel : Below w.heap.size w W
theorem lyI_own {w : World} {ys : List Int} {c : Int} {data : List Int} {Z B : Nat} (hB : w.heap.size ≤ B) : OwnFrom B (LyI w ys c data Z) := by
  intro s W W' row h hg hr
  have hr' : ∀ r, row = some r → ∃ o : Obj, W.heap[r]? = some o ∧ o.isCells = false := fun r e => (hr r e).2
  obtain ⟨zs, z1, z2, z3⟩ := h.told
  refine ⟨⟨zs, z1, blk_ofK z2 hg hr', z3⟩, blk_ofK h.wds hg hr', cell_kept h.num hg hr', (frozen_kept h.num hg hr').trans h.numF, Nat.le_trans h.siz hg.size, ?_⟩
  exact h.bel.grown hg h.bel.size (fun k e => Nat.le_trans hB (hr k e).1)
theorem rowU8 : (Try.prog.info? 5).map (·.size) = some 1 := by kernel_rfl
set_option maxRecDepth 100000 in
set_option maxHeartbeats 8000000 in
theorem layOver_any (w : World) (ys : List Int) (hw : Ws ys) (yl : ys.length = 16) (ct : Int) (h0 : 0 ≤ ct) (g : Nat) (a : Option Addr) (c : Nat) (data : List Int) (hr : Rd w g a .u8 data) (hn : data.length ≤ 4194304) (h1 : ct + (((data.length + 63) / 64 : Nat) : Int) ≤ 4294967296) :
    Calls Try.prog 46 #[ag .u32 ys, .int .i64 ct, .slice a data.length c] w fun e w' => NewRow w.heap.size w' e .u8 (xoG ys ct data ((data.length + 63) / 64)) ∧ Below w.heap.size w w' := by
  obtain ⟨i0, hi0, hz0, hz1, hz2⟩ := info_parts Try.info5
  have HYL := hide yl
  have VY : Hid (ag .u32 ys = Value.agg (ys.map (Value.int .u32)).toArray) := rfl
  rw [VY.out]
  have B0 := blk_alloc w .u32 59 ys
  have n0 : Below w.heap.size w (w.alloc (.cells (ys.map (Value.int .u32)).toArray 59)) := (Below.refl _ _).alloc (Nat.le_refl _) _
  have z0 : (w.alloc (.cells (ys.map (Value.int .u32)).toArray 59)).heap.size = w.heap.size + 1 := by simp
  have L16 : Hid ((ys.map (Value.int .u32)).length = 16) := by show _ = _; rw [List.length_map]; exact yl
  obtain ⟨vs, hvs⟩ : ∃ vs, vs = ys.map (Value.int .u32) := ⟨_, rfl⟩
  rw [← hvs] at B0 n0 z0 L16 ⊢
  have HVS := hide hvs
  clear hvs yl
  refine (callsIn_wide (n := 5)).1 (callsIn_of_wp_marks Try.func46 rfl trivial ?_ rfl)
  refine wpIn_wide.2 ?_
  simp only [Try.ntmps46, List.size_toArray, List.length_cons, List.length_nil, Nat.reduceAdd, Nat.reduceSub, Array.replicate_succ, Array.replicate_zero, List.push_toArray, List.append_toArray, List.nil_append, List.cons_append]
  go_upto_region 1 with fail
  generalize w.alloc (.cells vs.toArray 59) = w1 at *
  have n2 : Below w1.heap.size w1 (w1.alloc (.cells #[.int .i64 ct] 2)) := (Below.refl _ _).alloc (Nat.le_refl _) _
  have C2 : (w1.alloc (.cells #[.int .i64 ct] 2)).cell? ⟨w1.heap.size, 0, none⟩ = some (.int .i64 ct) := by simp [World.cell?_alloc_at]
  have F2 : (w1.alloc (.cells #[.int .i64 ct] 2)).frozen? ⟨w1.heap.size, 0, none⟩ = false := by simp [World.frozen?_alloc_at]
  have z2 : (w1.alloc (.cells #[.int .i64 ct] 2)).heap.size = w1.heap.size + 1 := by simp
  generalize w1.alloc (.cells #[.int .i64 ct] 2) = w2 at *
  rw [z0] at C2 F2 z2
  have B0 := B0.up n2
  have N2 := nxt n0 n2
  clear n0 n2 z0
  have dn : (data.length : Int) ≤ 4194304 := by omega
  go_upto_region 2 with (at_make; refine wpList_make_full _ rfl _ _ 22 rfl w2.heap.size 5 i0 (.int .u8 0) 1 Try.underlying22 hi0 hz0 hz1 .i64 .i64 _ _ data.length rfl rfl rfl rfl (by rw [hz2]; omega) (by unfold maxLen; omega) (Nat.le_refl _) ?_; intro w3 hown hgrow)
  have B3 := Blk.of_made hown
  have n3 : Below w2.heap.size w2 w3 := (Below.refl _ _).grown hgrow (Nat.le_refl _) (by simp)
  clear hown hgrow
  rw [z2] at B3
  have g3 := B3.lt
  have B0 := B0.up n3
  have C2 := (World.cell?_of_block (a := ⟨w.heap.size + 1, 0, none⟩) (n3.block (w.heap.size + 1) (by omega))).trans C2
  have F2 := (World.frozen?_of_block (a := ⟨w.heap.size + 1, 0, none⟩) (n3.block (w.heap.size + 1) (by omega))).trans F2
  have N3 := nxt N2 n3
  obtain ⟨w4, hcopy, B4, O4⟩ := copy_blk (P := Try.prog) w3 22 3 5 Try.underlying22 rowU8 B3 g a data (hr.up N3) (by rw [List.length_replicate]; exact Nat.le_refl _) data.length c
  rw [List.length_replicate] at hcopy
  have ed : data ++ (List.replicate data.length (0 : Int)).drop data.length = data := by simp
  rw [ed] at B4
  have B0 := B0.of_block (O4.block w.heap.size (by omega))
  have C2 := (World.cell?_of_block (a := ⟨w.heap.size + 1, 0, none⟩) (O4.block (w.heap.size + 1) (by omega))).trans C2
  have F2 := (World.frozen?_of_block (a := ⟨w.heap.size + 1, 0, none⟩) (O4.block (w.heap.size + 1) (by omega))).trans F2
  have N4 := N3.trans (O4.below (B := w.heap.size) (by omega))
  have z4 := O4.size
  clear n3 N2 N3 B3 O4 ed z2
  go_wp2_with (at_builtin; refine wpList_copy_run rfl (.tmp 14) (.tmp 15) 22 22 rfl _ _ rfl rfl _ _ hcopy ?_)
  refine (chunk_any64 w4 (some ⟨w.heap.size + 1 + 1, 0, none⟩) data.length data.length).mono ?_
  rintro e w6 ⟨rfl, rfl⟩
  have n5 : Below w4.heap.size w4 (w4.alloc (.cells #[.slice (some ⟨w.heap.size + 1 + 1, 0, none⟩) data.length data.length] 22)) := (Below.refl _ _).alloc (Nat.le_refl _) _
  have C5 : (w4.alloc (.cells #[.slice (some ⟨w.heap.size + 1 + 1, 0, none⟩) data.length data.length] 22)).cell? ⟨w4.heap.size, 0, none⟩ = some (.slice (some ⟨w.heap.size + 1 + 1, 0, none⟩) data.length data.length) := by simp [World.cell?_alloc_at]
  have z5 : (w4.alloc (.cells #[.slice (some ⟨w.heap.size + 1 + 1, 0, none⟩) data.length data.length] 22)).heap.size = w4.heap.size + 1 := by simp
  generalize w4.alloc (.cells #[.slice (some ⟨w.heap.size + 1 + 1, 0, none⟩) data.length data.length] 22) = w5 at *
  have n6 : Below w5.heap.size w5 (w5.alloc (.cells #[.int .i64 64] 3)) := (Below.refl _ _).alloc (Nat.le_refl _) _
  have C6 : (w5.alloc (.cells #[.int .i64 64] 3)).cell? ⟨w5.heap.size, 0, none⟩ = some (.int .i64 64) := by simp [World.cell?_alloc_at]
  have z6 : (w5.alloc (.cells #[.int .i64 64] 3)).heap.size = w5.heap.size + 1 := by simp
  generalize w5.alloc (.cells #[.int .i64 64] 3) = w6 at *
  generalize hq : w4.heap.size = q at *
  rw [z5] at C6 z6
  have yq : w.heap.size + 1 + 1 < q := by omega
  have n56 : Below q w4 w6 := n5.trans (n6.mono (by omega))
  have N6 : Below w.heap.size w w6 := N4.trans (n56.mono (by omega))
  have I0 : LyI w ys ct data (q + 2) [] w6 :=
    ⟨⟨data, rfl, B4.of_block (n56.block (w.heap.size + 1 + 1) (by omega)), fun _ => rfl⟩, B0.of_block (n56.block w.heap.size (by omega)), by have := (World.cell?_of_block (a := ⟨w.heap.size + 1, 0, none⟩) (n56.block (w.heap.size + 1) (by omega))).trans C2; simpa using this, (World.frozen?_of_block (a := ⟨w.heap.size + 1, 0, none⟩) (n56.block (w.heap.size + 1) (by omega))).trans F2, by omega, N6⟩
  have D5 : w6.cell? ⟨q, 0, none⟩ = some (.slice (some ⟨w.heap.size + 1 + 1, 0, none⟩) data.length data.length) := (World.cell?_of_block (a := ⟨q, 0, none⟩) (n6.block q (by omega))).trans C5
  have S6 : Hid (w6.heap.size = q + 1 + 1) := z6
  have YQ := hide yq
  clear n5 n6 n56 C2 C5 F2 z5 z6 N4 B0 B4 hq hcopy g3 z4
  go_wp2
  refine (wpIn_wide (n := 5)).1 (wpIn_rangeFunc_ownG (n := 5) rfl (by omega) (gf := 84) (lb := #[.pointer (some ⟨q, 0, none⟩), .pointer (some ⟨q + 1, 0, none⟩)]) rfl trivial (enters_of Try.func84 (by kernel_rfl) rfl)
    (chunk_stops64 4 (by omega) q (q + 1) (w.heap.size + 1 + 1) 0 data.length data.length (some ⟨w.heap.size + 1 + 1, 0, none⟩) (fun _ => rfl) (Nat.le_refl _) hn w6 (by have := S6.out; omega) (by have := S6.out; omega) D5 C6) KpB.t (KpB.b (by have := S6.out; omega) (by have := S6.out; omega)) (Below.refl _ _) (fun _ => rfl)
    (LyI w ys ct data (q + 2)) (fun _ _ _ => False) (lyI_own (by have := N6.size; omega)) (fun _ _ _ _ _ h _ _ => h) I0
    (fun x => { tmps := #[.agg vs.toArray, .int .i64 ct, .slice a data.length c, .pointer (some ⟨w.heap.size, 0, none⟩), .pointer (some ⟨w.heap.size + 1, 0, none⟩), undef, .slice none 0 0, .slice (some ⟨w.heap.size + 1 + 1, 0, none⟩) data.length data.length, .slice (some ⟨w.heap.size + 1 + 1, 64 * x.1, none⟩) (pcL64 data.length x.1) (pcL64 data.length x.1), undef, undef, .slice a data.length c, .int .i64 (data.length : Int), .slice (some ⟨w.heap.size + 1 + 1, 0, none⟩) data.length data.length, .slice (some ⟨w.heap.size + 1 + 1, 0, none⟩) data.length data.length, .slice a data.length c, (.int .i64 (data.length : Int)), .slice (some ⟨w.heap.size + 1 + 1, 0, none⟩) data.length data.length, Value.func (Fn.func 84) #[] #[Value.pointer (some ⟨q, 0, none⟩), Value.pointer (some ⟨q + 1, 0, none⟩)], .slice (some ⟨w.heap.size + 1 + 1, 64 * x.1, none⟩) (pcL64 data.length x.1) (pcL64 data.length x.1), undef, undef, undef, undef, undef, undef, undef, undef, undef, undef, undef, undef, undef, undef, undef, undef, undef, undef, undef, undef, undef], defers := [] }) ?assign ?body ?done ?stop)
  case assign =>
    intro l x W K hK
    unfold pcE64
    gi_wp2
    exact hK
  case body =>
    rintro l pre x W hI hlen
    obtain ⟨zs, zl, zB, z3⟩ := hI.told
    have hs := hI.wds
    have im := hI.num
    have nf := hI.numF
    have sz := hI.siz
    have yq := YQ.out
    have be := hI.bel
    clear hI
    have xl := x.2
    obtain ⟨pe, hpe⟩ : ∃ e, e = pcL64 data.length x.1 := ⟨_, rfl⟩
    have pe0 : 0 < pe := by rw [hpe]; unfold pcL64; omega
    have pe1 : pe ≤ 64 := by rw [hpe]; unfold pcL64; omega
    have pe2 : 64 * x.1 + pe ≤ data.length := by rw [hpe]; unfold pcL64; omega
    rw [← hpe]
    obtain ⟨cv, hcv⟩ : ∃ v, v = ct + (pre.length : Int) := ⟨_, rfl⟩
    rw [← hcv] at im
    have cw : W4 cv := ⟨by omega, by omega⟩
    have BA := fun u => hide (block_any u ys hw HYL.out cv cw)
    simp only [VY.out, ← HVS.out] at BA
    have RG := (Seg.blk hs).range
    rw [← HVS.out] at RG
    have L64 : Hid (((stB (ys.set 12 cv)).map (Value.int .u8)).length = 64) := by show _ = _; rw [List.length_map]; exact stB_len _
    have BL : Hid ((stB (ys.set 12 cv)).length = 64) := stB_len _
    have O64 := one_ints .u8 (stB (ys.set 12 cv))
    have V64 : Hid (ag .u8 (stB (ys.set 12 cv)) = Value.agg ((stB (ys.set 12 cv)).map (Value.int .u8)).toArray) := rfl
    simp only [V64.out] at BA
    obtain ⟨Bk, hBk⟩ : ∃ b, b = stB (ys.set 12 cv) := ⟨_, rfl⟩
    rw [← hBk] at L64 BL O64
    simp only [← hBk] at BA
    have HBK := hide hBk
    have HCV := hide hcv
    have HPE := hide hpe
    have cvb : 0 ≤ cv ∧ cv < 4294967296 := cw
    clear hBk hcv hpe V64 cw
    obtain ⟨cv0, cv1⟩ := cvb
    gi_wp2_with (refine listIn_load rfl 59 (.tmp 3) rfl w.heap.size 0 rfl vs (.array 16 57) RG undS rfl (by rw [L16.out]; exact infoS) ?_)
    refine ⟨trivial, (CallsIn.inRound l (callsIn_wide.2 (BA W).out)).mono ?_⟩
    rintro e W3 ⟨rfl, n3⟩
    have n4 : Below W3.heap.size W3 (W3.alloc (.cells #[.int .u8 0, .int .u8 0, .int .u8 0, .int .u8 0, .int .u8 0, .int .u8 0, .int .u8 0, .int .u8 0, .int .u8 0, .int .u8 0, .int .u8 0, .int .u8 0, .int .u8 0, .int .u8 0, .int .u8 0, .int .u8 0, .int .u8 0, .int .u8 0, .int .u8 0, .int .u8 0, .int .u8 0, .int .u8 0, .int .u8 0, .int .u8 0, .int .u8 0, .int .u8 0, .int .u8 0, .int .u8 0, .int .u8 0, .int .u8 0, .int .u8 0, .int .u8 0, .int .u8 0, .int .u8 0, .int .u8 0, .int .u8 0, .int .u8 0, .int .u8 0, .int .u8 0, .int .u8 0, .int .u8 0, .int .u8 0, .int .u8 0, .int .u8 0, .int .u8 0, .int .u8 0, .int .u8 0, .int .u8 0, .int .u8 0, .int .u8 0, .int .u8 0, .int .u8 0, .int .u8 0, .int .u8 0, .int .u8 0, .int .u8 0, .int .u8 0, .int .u8 0, .int .u8 0, .int .u8 0, .int .u8 0, .int .u8 0, .int .u8 0, .int .u8 0] 83)) := (Below.refl _ _).alloc (Nat.le_refl _) _
    have B4 := blk_z64 W3 83
    have z4 : (W3.alloc (.cells #[.int .u8 0, .int .u8 0, .int .u8 0, .int .u8 0, .int .u8 0, .int .u8 0, .int .u8 0, .int .u8 0, .int .u8 0, .int .u8 0, .int .u8 0, .int .u8 0, .int .u8 0, .int .u8 0, .int .u8 0, .int .u8 0, .int .u8 0, .int .u8 0, .int .u8 0, .int .u8 0, .int .u8 0, .int .u8 0, .int .u8 0, .int .u8 0, .int .u8 0, .int .u8 0, .int .u8 0, .int .u8 0, .int .u8 0, .int .u8 0, .int .u8 0, .int .u8 0, .int .u8 0, .int .u8 0, .int .u8 0, .int .u8 0, .int .u8 0, .int .u8 0, .int .u8 0, .int .u8 0, .int .u8 0, .int .u8 0, .int .u8 0, .int .u8 0, .int .u8 0, .int .u8 0, .int .u8 0, .int .u8 0, .int .u8 0, .int .u8 0, .int .u8 0, .int .u8 0, .int .u8 0, .int .u8 0, .int .u8 0, .int .u8 0, .int .u8 0, .int .u8 0, .int .u8 0, .int .u8 0, .int .u8 0, .int .u8 0, .int .u8 0, .int .u8 0] 83)).heap.size = W3.heap.size + 1 := by simp
    obtain ⟨t4, H4⟩ := B4
    have SR := blk_setRow (zs := Bk) ⟨t4, H4⟩
    have OR := only_setRow (W3.alloc (.cells #[.int .u8 0, .int .u8 0, .int .u8 0, .int .u8 0, .int .u8 0, .int .u8 0, .int .u8 0, .int .u8 0, .int .u8 0, .int .u8 0, .int .u8 0, .int .u8 0, .int .u8 0, .int .u8 0, .int .u8 0, .int .u8 0, .int .u8 0, .int .u8 0, .int .u8 0, .int .u8 0, .int .u8 0, .int .u8 0, .int .u8 0, .int .u8 0, .int .u8 0, .int .u8 0, .int .u8 0, .int .u8 0, .int .u8 0, .int .u8 0, .int .u8 0, .int .u8 0, .int .u8 0, .int .u8 0, .int .u8 0, .int .u8 0, .int .u8 0, .int .u8 0, .int .u8 0, .int .u8 0, .int .u8 0, .int .u8 0, .int .u8 0, .int .u8 0, .int .u8 0, .int .u8 0, .int .u8 0, .int .u8 0, .int .u8 0, .int .u8 0, .int .u8 0, .int .u8 0, .int .u8 0, .int .u8 0, .int .u8 0, .int .u8 0, .int .u8 0, .int .u8 0, .int .u8 0, .int .u8 0, .int .u8 0, .int .u8 0, .int .u8 0, .int .u8 0] 83)) W3.heap.size (Bk.map (Value.int .u8)).toArray
    obtain ⟨vr, hvr⟩ : ∃ v, v = Bk.map (Value.int .u8) := ⟨_, rfl⟩
    rw [← hvr] at L64 O64 SR OR ⊢
    clear hvr BA RG
    gi_wp2_with (refine listIn_store rfl 83 (.tmp 9) (.tmp 22) rfl W3.heap.size vr.toArray rfl rfl t4 _ H4 (by rw [List.size_toArray, L64.out]; exact infoB) (by rw [List.size_toArray, List.size_toArray, L64.out]; rfl) O64 ?_)
    have s3 := n3.size
    have U5 : ∀ b, b < W.heap.size → ((W3.alloc (.cells #[.int .u8 0, .int .u8 0, .int .u8 0, .int .u8 0, .int .u8 0, .int .u8 0, .int .u8 0, .int .u8 0, .int .u8 0, .int .u8 0, .int .u8 0, .int .u8 0, .int .u8 0, .int .u8 0, .int .u8 0, .int .u8 0, .int .u8 0, .int .u8 0, .int .u8 0, .int .u8 0, .int .u8 0, .int .u8 0, .int .u8 0, .int .u8 0, .int .u8 0, .int .u8 0, .int .u8 0, .int .u8 0, .int .u8 0, .int .u8 0, .int .u8 0, .int .u8 0, .int .u8 0, .int .u8 0, .int .u8 0, .int .u8 0, .int .u8 0, .int .u8 0, .int .u8 0, .int .u8 0, .int .u8 0, .int .u8 0, .int .u8 0, .int .u8 0, .int .u8 0, .int .u8 0, .int .u8 0, .int .u8 0, .int .u8 0, .int .u8 0, .int .u8 0, .int .u8 0, .int .u8 0, .int .u8 0, .int .u8 0, .int .u8 0, .int .u8 0, .int .u8 0, .int .u8 0, .int .u8 0, .int .u8 0, .int .u8 0, .int .u8 0, .int .u8 0] 83)).setRow W3.heap.size vr.toArray).heap[b]? = W.heap[b]? := fun b hb => (OR.block b (by omega)).trans ((n4.block b (by omega)).trans (n3.block b hb))
    have s5 : ((W3.alloc (.cells #[.int .u8 0, .int .u8 0, .int .u8 0, .int .u8 0, .int .u8 0, .int .u8 0, .int .u8 0, .int .u8 0, .int .u8 0, .int .u8 0, .int .u8 0, .int .u8 0, .int .u8 0, .int .u8 0, .int .u8 0, .int .u8 0, .int .u8 0, .int .u8 0, .int .u8 0, .int .u8 0, .int .u8 0, .int .u8 0, .int .u8 0, .int .u8 0, .int .u8 0, .int .u8 0, .int .u8 0, .int .u8 0, .int .u8 0, .int .u8 0, .int .u8 0, .int .u8 0, .int .u8 0, .int .u8 0, .int .u8 0, .int .u8 0, .int .u8 0, .int .u8 0, .int .u8 0, .int .u8 0, .int .u8 0, .int .u8 0, .int .u8 0, .int .u8 0, .int .u8 0, .int .u8 0, .int .u8 0, .int .u8 0, .int .u8 0, .int .u8 0, .int .u8 0, .int .u8 0, .int .u8 0, .int .u8 0, .int .u8 0, .int .u8 0, .int .u8 0, .int .u8 0, .int .u8 0, .int .u8 0, .int .u8 0, .int .u8 0, .int .u8 0, .int .u8 0] 83)).setRow W3.heap.size vr.toArray).heap.size = W3.heap.size + 1 := OR.size.trans z4
    have N5 : Below W.heap.size W ((W3.alloc (.cells #[.int .u8 0, .int .u8 0, .int .u8 0, .int .u8 0, .int .u8 0, .int .u8 0, .int .u8 0, .int .u8 0, .int .u8 0, .int .u8 0, .int .u8 0, .int .u8 0, .int .u8 0, .int .u8 0, .int .u8 0, .int .u8 0, .int .u8 0, .int .u8 0, .int .u8 0, .int .u8 0, .int .u8 0, .int .u8 0, .int .u8 0, .int .u8 0, .int .u8 0, .int .u8 0, .int .u8 0, .int .u8 0, .int .u8 0, .int .u8 0, .int .u8 0, .int .u8 0, .int .u8 0, .int .u8 0, .int .u8 0, .int .u8 0, .int .u8 0, .int .u8 0, .int .u8 0, .int .u8 0, .int .u8 0, .int .u8 0, .int .u8 0, .int .u8 0, .int .u8 0, .int .u8 0, .int .u8 0, .int .u8 0, .int .u8 0, .int .u8 0, .int .u8 0, .int .u8 0, .int .u8 0, .int .u8 0, .int .u8 0, .int .u8 0, .int .u8 0, .int .u8 0, .int .u8 0, .int .u8 0, .int .u8 0, .int .u8 0, .int .u8 0, .int .u8 0] 83)).setRow W3.heap.size vr.toArray) := n3.trans ((n4.mono (by omega)).trans (OR.below (by omega)))
    generalize (W3.alloc (.cells #[.int .u8 0, .int .u8 0, .int .u8 0, .int .u8 0, .int .u8 0, .int .u8 0, .int .u8 0, .int .u8 0, .int .u8 0, .int .u8 0, .int .u8 0, .int .u8 0, .int .u8 0, .int .u8 0, .int .u8 0, .int .u8 0, .int .u8 0, .int .u8 0, .int .u8 0, .int .u8 0, .int .u8 0, .int .u8 0, .int .u8 0, .int .u8 0, .int .u8 0, .int .u8 0, .int .u8 0, .int .u8 0, .int .u8 0, .int .u8 0, .int .u8 0, .int .u8 0, .int .u8 0, .int .u8 0, .int .u8 0, .int .u8 0, .int .u8 0, .int .u8 0, .int .u8 0, .int .u8 0, .int .u8 0, .int .u8 0, .int .u8 0, .int .u8 0, .int .u8 0, .int .u8 0, .int .u8 0, .int .u8 0, .int .u8 0, .int .u8 0, .int .u8 0, .int .u8 0, .int .u8 0, .int .u8 0, .int .u8 0, .int .u8 0, .int .u8 0, .int .u8 0, .int .u8 0, .int .u8 0, .int .u8 0, .int .u8 0, .int .u8 0, .int .u8 0] 83)).setRow W3.heap.size vr.toArray = W5 at *
    generalize W3.heap.size = bq at *
    clear OR n4 n3 H4 z4 O64 L64
    have T5 := zB.up N5
    have bW : W.heap.size ≤ bq := s3
    have peI : (pe : Int) ≤ 64 := by omega
    gi_loopw [25] (fun v wr => ∃ (j : Nat) (us : List Int), j ≤ pe ∧ v = .int .i64 j ∧ Hid (us = xorTo zs (64 * x.1) Bk j) ∧ Blk wr (w.heap.size + 1 + 1) .u8 us ∧ Blk wr bq .u8 Bk ∧ (∀ b, b < W.heap.size → b ≠ w.heap.size + 1 + 1 → wr.heap[b]? = W.heap[b]?) ∧ bq + 1 ≤ wr.heap.size ∧ KeepsFrom w6.heap.size W wr ∧ Below w.heap.size w wr) (fun v _ => pe - (intOf v).toNat)
    case atStart => exact ⟨0, zs, Nat.zero_le _, rfl, rfl, T5, SR, fun b hb _ => U5 b hb, by omega, keeps_below N5, be.trans (N5.mono be.size)⟩
    case round =>
      obtain ⟨j, us, hj, rfl, HU, hT, hK, hO, hZ, hF, hN⟩ := hrel
      clear T5 SR U5 N5 s5
      by_cases jl : j < pe
      · have pzl : 64 * x.1 + j < zs.length := by rw [zl]; omega
        have ul : us.length = zs.length := by rw [HU.out, xorTo_len]
        have ug : us.getD (64 * x.1 + j) 0 = zs.getD (64 * x.1 + j) 0 := by rw [HU.out, xorTo_get _ _ _ _ pzl, if_neg (by omega)]
        have cz0 : ∀ u, Below wr.heap.size wr u → u.cell? ⟨w.heap.size + 1 + 1, 64 * x.1 + j, none⟩ = some (.int .u8 (zs.getD (64 * x.1 + j) 0)) := fun u hu => by
          have := (hT.up hu).cell (i := 64 * x.1 + j) (by rw [ul]; exact pzl)
          rw [ug] at this
          exact this
        have cb0 : ∀ u, Below wr.heap.size wr u → u.cell? ⟨bq, j, none⟩ = some (.int .u8 (Bk.getD j 0)) := fun u hu => (hK.up hu).cell (i := j) (by rw [BL.out]; omega)
        have XS : Hid (us.set (64 * x.1 + j) (xr (zs.getD (64 * x.1 + j) 0) (Bk.getD j 0)) = xorTo zs (64 * x.1) Bk (j + 1)) := by show _ = _; rw [HU.out]; rfl
        have XV0 : Hid (bits BinOp.xor IntKind.u8 (zs.getD (64 * x.1 + j) 0) (Bk.getD j 0) = xr (zs.getD (64 * x.1 + j) 0) (Bk.getD j 0)) := rfl
        obtain ⟨pz, hpz⟩ : ∃ p, p = 64 * x.1 + j := ⟨_, rfl⟩
        have epz : 64 * x.1 + j = pz := hpz.symm
        rw [← hpz] at pzl ug XS XV0
        simp only [← hpz] at cz0
        clear hpz
        generalize zs.getD pz 0 = zv at *
        generalize Bk.getD j 0 = bv at *
        generalize xr zv bv = xv at *
        have XV := XV0
        have cz := cz0
        have cb := cb0
        have jpe : (j : Int) < (pe : Int) := by omega
        have j64 : (j : Int) < 64 := by omega
        clear XV0 cz0 cb0
        gi_wp2_with fail
        refine region_store_in 9 _ (fun i => [Fact.eq (.slice (some ⟨w.heap.size + 1 + 1, 64 * x.1, none⟩) pe pe), Fact.eq (.int .i64 (j : Int)), Fact.eq (.pointer (some ⟨w.heap.size + 1 + 1, pz, none⟩)), Fact.eq (.int .u8 zv), Fact.eq (.int .i64 (j : Int)), Fact.eq (.pointer (some ⟨bq, j, none⟩)), Fact.eq (.int .u8 bv), Fact.eq (.int .u8 xv), Fact.eq (.pointer (some ⟨w.heap.size + 1 + 1, pz, none⟩))].getD i Fact.no) (by kernel_rfl) (by rintro ⟨_, _, h⟩; exact h) (by kernel_rfl) (by kernel_rfl) rfl rfl ?_ ?_
        · skip
          intro i hi
          obtain rfl | rfl | rfl | rfl | rfl | rfl | rfl | rfl | rfl : i = 0 ∨ i = 1 ∨ i = 2 ∨ i = 3 ∨ i = 4 ∨ i = 5 ∨ i = 6 ∨ i = 7 ∨ i = 8 := by omega
          · refine step_pure rfl fun a u hb hw hf => ?_
            have e8 : a.tmps[8]?.getD undef = .slice (some ⟨w.heap.size + 1 + 1, 64 * x.1, none⟩) pe pe := gdv (hb.2.2 8 (by kernel_rfl))
            exact ⟨.slice (some ⟨w.heap.size + 1 + 1, 64 * x.1, none⟩) pe pe, by simp [go_sem, e8], rfl⟩
          · refine step_pure rfl fun a u hb hw hf => ?_
            have e10 : a.tmps[10]?.getD undef = .int .i64 (j : Int) := gdv (hb.2.2 10 (by kernel_rfl))
            exact ⟨.int .i64 (j : Int), by simp [go_sem, e10], rfl⟩
          · refine step_pure rfl fun a u hb hw hf => ?_
            have e28 : a.tmps[28]?.getD undef = .slice (some ⟨w.heap.size + 1 + 1, 64 * x.1, none⟩) pe pe := gdv (hf 0 28 (by kernel_rfl))
            have e29 : a.tmps[29]?.getD undef = .int .i64 (j : Int) := gdv (hf 1 29 (by kernel_rfl))
            exact ⟨.pointer (some ⟨w.heap.size + 1 + 1, pz, none⟩), by simp [go_sem, e28, e29, jpe, epz], rfl⟩
          · refine step_pure rfl fun a u hb hw hf => ?_
            have e30 : a.tmps[30]?.getD undef = .pointer (some ⟨w.heap.size + 1 + 1, pz, none⟩) := gdv (hf 2 30 (by kernel_rfl))
            have hc := cz _ hw
            exact ⟨.int .u8 zv, by simp [go_sem, e30, hc], rfl⟩
          · refine step_pure rfl fun a u hb hw hf => ?_
            have e10 : a.tmps[10]?.getD undef = .int .i64 (j : Int) := gdv (hb.2.2 10 (by kernel_rfl))
            exact ⟨.int .i64 (j : Int), by simp [go_sem, e10], rfl⟩
          · refine step_pure rfl fun a u hb hw hf => ?_
            have e9 : a.tmps[9]?.getD undef = .pointer (some ⟨bq, 0, none⟩) := gdv (hb.2.2 9 (by kernel_rfl))
            have e32 : a.tmps[32]?.getD undef = .int .i64 (j : Int) := gdv (hf 4 32 (by kernel_rfl))
            exact ⟨.pointer (some ⟨bq, j, none⟩), by simp [go_sem, e9, e32, j64], rfl⟩
          · refine step_pure rfl fun a u hb hw hf => ?_
            have e33 : a.tmps[33]?.getD undef = .pointer (some ⟨bq, j, none⟩) := gdv (hf 5 33 (by kernel_rfl))
            have hc := cb _ hw
            exact ⟨.int .u8 bv, by simp [go_sem, e33, hc], rfl⟩
          · refine step_pure rfl fun a u hb hw hf => ?_
            have e31 : a.tmps[31]?.getD undef = .int .u8 zv := gdv (hf 3 31 (by kernel_rfl))
            have e34 : a.tmps[34]?.getD undef = .int .u8 bv := gdv (hf 6 34 (by kernel_rfl))
            exact ⟨.int .u8 xv, by simp [go_sem, e31, e34, XV.out], rfl⟩
          · refine step_pure rfl fun a u hb hw hf => ?_
            have e28 : a.tmps[28]?.getD undef = .slice (some ⟨w.heap.size + 1 + 1, 64 * x.1, none⟩) pe pe := gdv (hf 0 28 (by kernel_rfl))
            have e29 : a.tmps[29]?.getD undef = .int .i64 (j : Int) := gdv (hf 1 29 (by kernel_rfl))
            exact ⟨.pointer (some ⟨w.heap.size + 1 + 1, pz, none⟩), by simp [go_sem, e28, e29, jpe, epz], rfl⟩
        · intro a u hb' hw' hf
          have e36 : a.tmps[36]?.getD undef = .pointer (some ⟨w.heap.size + 1 + 1, pz, none⟩) := gdv (hf 8 36 (by kernel_rfl))
          have e35 : a.tmps[35]?.getD undef = .int .u8 xv := gdv (hf 7 35 (by kernel_rfl))
          have hcz := cz u hw'
          have hfz := (hT.up hw').free pz
          have O2 := Only.setCell u (w.heap.size + 1 + 1) pz (.int .u8 xv)
          have T2 := (hT.up hw').store pz xv
          have K2 := (hK.up hw').of_block (O2.block bq (by omega))
          have U2 : ∀ b, b < W.heap.size → b ≠ w.heap.size + 1 + 1 → (u.setCell ⟨w.heap.size + 1 + 1, pz, none⟩ (.int .u8 xv)).heap[b]? = W.heap[b]? := fun b h1 h2 => (O2.block b h2).trans ((hw'.block b (by omega)).trans (hO b h1 h2))
          have F2 : KeepsFrom w6.heap.size W (u.setCell ⟨w.heap.size + 1 + 1, pz, none⟩ (.int .u8 xv)) := (hF.trans (keeps_below hw')).trans ((KeepsOthers.setCell _ _ _).from _)
          have s2 := O2.size
          have s1 := hw'.size
          have N2 := hN.trans ((hw'.mono hN.size).trans (O2.below (B := w.heap.size) (by omega)))
          obtain ⟨vs', hvs'⟩ : ∃ vs : Nat → Value, ∀ d, a.tmps.getD d undef = vs d := ⟨_, fun _ => rfl⟩
          have ea := puts_of (md := .any) (n := 41) (k := 9) (by kernel_rfl) rfl hb' vs' hvs'
          unfold Oper.wp
          simp [go_sem, e36, e35, hcz, hfz]
          rw [ea]
          clear ea hvs' e36 e35 hf hb' hcz hfz cz cb
          simp only [puts, Act.put, List.setIfInBounds_toArray, List.set_cons_succ, List.set_cons_zero]
          generalize u.setCell ⟨w.heap.size + 1 + 1, pz, none⟩ (.int .u8 xv) = W2 at *
          gi_wp2
          go_roundw
          case rel => exact ⟨j + 1, us.set pz xv, by omega, by go_num, XS, T2, K2, U2, by omega, F2, N2⟩
          case measure => simp [intOf]; omega
      · have jI : ¬ ((j : Int) < (pe : Int)) := by omega
        have HJ := hide (show j = pe by omega)
        have c2 := (World.cell?_of_block (a := ⟨w.heap.size + 1, 0, none⟩) (hO (w.heap.size + 1) (by omega) (by omega))).trans im
        have f2 := (World.frozen?_of_block (a := ⟨w.heap.size + 1, 0, none⟩) (hO (w.heap.size + 1) (by omega) (by omega))).trans nf
        have c3 : (wr.setCell ⟨w.heap.size + 1, 0, none⟩ (.int .i64 (cv + 1))).cell? ⟨w.heap.size + 1, 0, none⟩ = some (.int .i64 (cv + 1)) := World.cell?_setCell_same _ _ _ c2
        have f3 : (wr.setCell ⟨w.heap.size + 1, 0, none⟩ (.int .i64 (cv + 1))).frozen? ⟨w.heap.size + 1, 0, none⟩ = false := by rw [frozen_setCell]; exact f2
        have O3 := Only.setCell wr (w.heap.size + 1) 0 (.int .i64 (cv + 1))
        gi_wp2
        have lx : (pre ++ [x]).length = pre.length + 1 := by simp
        have K3 := hF.trans ((KeepsOthers.setCell wr ⟨w.heap.size + 1, 0, none⟩ (.int .i64 (cv + 1))).from w6.heap.size)
        have U3 : ∀ b, b < W.heap.size → b ≠ w.heap.size + 1 + 1 → b ≠ w.heap.size + 1 → (wr.setCell ⟨w.heap.size + 1, 0, none⟩ (.int .i64 (cv + 1))).heap[b]? = W.heap[b]? := fun b h1 h2 h3 => (O3.block b h3).trans (hO b h1 h2)
        have s6 := S6.out
        refine ⟨K3, ⟨U3 _ (by omega) (by omega) (by omega), U3 _ (by omega) (by omega) (by omega)⟩, ?_⟩
        refine ⟨⟨us, by rw [HU.out, xorTo_len]; exact zl, hT.of_block (O3.block (w.heap.size + 1 + 1) (by omega)), fun h => ?_⟩, hs.of_block (U3 w.heap.size (by omega) (by omega) (by omega)), ?_, f3, by have := O3.size; omega, hN.trans (O3.below (by omega))⟩
        · rw [lx, List.map_append, List.range_succ] at h
          obtain ⟨h1', h2'⟩ := List.append_inj' h rfl
          have h3' : x.1 = pre.length := by simpa using h2'
          rw [lx, HU.out, z3 h1', xoG, HBK.out, HCV.out, HJ.out, HPE.out, h3']
        · rw [lx, c3, HCV.out]
          congr 2
          omega
  case done =>
    rintro D xx W hD hS hI hK
    have yl : xx.length = (data.length + 63) / 64 := by have := congrArg List.length hS; simpa using this
    obtain ⟨zs, z1, z2, z3⟩ := hI.told
    rw [← yl] at hS
    have ez := z3 hS
    rw [yl] at ez
    have hdd : w.heap.size + 1 + 1 < D := by have := S6.out; have := YQ.out; omega
    have B9 : Blk (W.putObj D (.deferred none)) (w.heap.size + 1 + 1) .u8 zs := z2.of_block (World.putObj_heap_other (by omega))
    have N9 : Below w.heap.size w (W.putObj D (.deferred none)) := hI.bel.trans (belowK_b (w := w) (Nat.le_refl _) W D _ _ (by omega) hK rfl rfl)
    have EZ := hide ez
    have ZL := hide z1
    clear z1 z2 z3 ez hI yl hS
    go_wp2
    refine ⟨by simp, .inl ⟨_, _, rfl, run_takeDeferred hK, ?_⟩⟩
    exact ⟨_, results_tmp rfl _ _ _, ⟨some ⟨w.heap.size + 1 + 1, 0, none⟩, data.length, w.heap.size + 1 + 1, by rw [← EZ.out, ZL.out]; rfl, by rw [← EZ.out]; exact B9.own0, by simp, by rw [← EZ.out, ZL.out]; exact Nat.le_refl _, by omega⟩, N9⟩
  case stop =>
    rintro D c pre W hD hs h hK
    exact h.elim
end Go.Proofs.Ytcljoaknaegpmaa
