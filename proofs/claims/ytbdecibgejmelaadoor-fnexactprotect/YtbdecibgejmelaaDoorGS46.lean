import Derived.Test.YtbdecibgejmelaaDoorXkB
import Derived.BigQuiet
import Derived.Test.YtbdecibgejmelaaDoorCcF
import Derived.Test.YtbdecibgejmelaaDoorPoD
import Derived.Test.YtbdecibgejmelaaDoorXk16
import Derived.Test.YtbdecibgejmelaaDoorXkC
import Derived.Test.YtbdecibgejmelaaDoorS1
import Derived.Test.YtbdecibgejmelaaDoorNum4
import Derived.Deep.RegionWith
import Derived.Deep.RegionHeld3
import Derived.Test.YtbdecibgejmelaaDoorBase
import Derived.Lib.AppendZerosOnto
import Derived.Test.YtbdecibgejmelaaDoorSpG
import Derived.Deep.WholeRow
import Derived.Test.YtbdecibgejmelaaDoorNum3
import Derived.Test.YtbdecibgejmelaaDoorPoS
import Derived.Test.YtbdecibgejmelaaDoorPzA
import Derived.Test.YtbdecibgejmelaaDoorApd
import Derived.Deep.MidRow
import Derived.Deep.Cut
import Derived.Test.YtbdecibgejmelaaDoorIpA
import Derived.Test.YtbdecibgejmelaaDoorRnI
import Derived.Test.YtbdecibgejmelaaDoorNbA
import Derived.Test.YtbdecibgejmelaaDoorSpecA
import Derived.Test.YtbdecibgejmelaaDoorRcA

/-
  The library's iterator over the pieces of a list of bytes, each of 64 bytes but the last (written by gens/xck.py).
-/
namespace Go.Proofs.YtbdecibgejmelaaDoor
set_option maxRecDepth 100000
open Go Go.RowKit Go.Shelf
attribute [local go_sem] Oper.semAt_some

/-- The number of a piece. -/
abbrev PcN64 (N : Nat) := { k : Nat // 64 * k < N }
def pcL64 (N k : Nat) : Nat := min 64 (N - 64 * k)
def pcE64 (g o N : Nat) (x : PcN64 N) : Array Value := #[.slice (some ⟨g, o + 64 * x.1, none⟩) (pcL64 N x.1) (pcL64 N x.1)]
set_option maxRecDepth 100000 in
set_option maxHeartbeats 2000000 in
theorem chunk1_in64 (n : Nat) (hn : 1 ≤ n) (l Bs Bn g o N c : Nat) (a : Option Addr) (ha : 0 < N → a = some ⟨g, o, none⟩) (hc : N ≤ c) (hN : N ≤ 4194304) (J Jx : List (PcN64 N) → World → Prop)
    (hY : ∀ pre x W, J pre W → pre.length < (N + 63) / 64 → YieldAt Fence.wide (n - 1) Tryd.prog l (pcE64 g o N x) W fun e W' =>
      (e = .returned (.bool true) ∧ J (pre ++ [x]) W' ∧ KpB Bs Bn W W') ∨ (e = .returned (.bool false) ∧ Jx (pre ++ [x]) W'))
    (W : World) (hBs : W.cell? ⟨Bs, 0, none⟩ = some (.slice a N c)) (hBn : W.cell? ⟨Bn, 0, none⟩ = some (.int .i64 64)) (h0 : J [] W) (hA : AbidesFrom W.heap.size J) :
    CallsIn Fence.wide n Tryd.prog 104 #[.func (.yield l) #[] #[], .pointer (some ⟨Bs, 0, none⟩), .pointer (some ⟨Bn, 0, none⟩)] W fun e W' => (∃ v, e = .returned v) ∧
      ((∃ ys, (ys.map (·.1) = List.range ((N + 63) / 64)) ∧ J ys W') ∨ (∃ pre, True ∧ Jx pre W')) := by
  refine callsIn_of_wp Tryd.func104 rfl trivial ?_ rfl
  simp only [Tryd.ntmps104, List.size_toArray, List.length_cons, List.length_nil, Nat.reduceAdd, Nat.reduceSub, Array.replicate_succ, Array.replicate_zero, List.push_toArray, List.append_toArray, List.nil_append, List.cons_append]
  gi_wp2
  gi_loopw [4, 5] (fun i _ wr => ∃ (k : Nat) (pre : List (PcN64 N)), pre.map (·.1) = List.range k ∧ i = .int .i64 ((64 * k : Nat) : Int) ∧ 64 * k < N + 64 ∧ J pre wr ∧ KpB Bs Bn W wr) (fun i _ _ => N + 64 - (intOf i).toNat)
  case atStart => exact ⟨0, [], rfl, rfl, by omega, h0, ⟨rfl, rfl⟩⟩
  case round =>
    obtain ⟨k, pre, hp, rfl, hk, hJ, hK⟩ := hrel
    have b1 := (World.cell?_of_block (a := ⟨Bs, 0, none⟩) hK.1).trans hBs
    have b2 := (World.cell?_of_block (a := ⟨Bn, 0, none⟩) hK.2).trans hBn
    have pl : pre.length = k := by have := congrArg List.length hp; simpa using this
    by_cases hlt : 64 * k < N
    · obtain rfl := ha (by omega)
      have ik : ((64 * k : Nat) : Int) < (N : Int) := by omega
      have hcI : (N : Int) ≤ (c : Int) := by omega
      have em : (if ((N - 64 * k : Nat) : Int) < 64 then ((N - 64 * k : Nat) : Int) else 64) = ((pcL64 N k : Nat) : Int) := by unfold pcL64; split <;> omega
      have e0 : 0 < pcL64 N k := by unfold pcL64; omega
      have e1 : 64 * k + pcL64 N k ≤ N := by unfold pcL64; omega
      have EM := hide em
      clear em
      gi_wp2
      refine wpIn_wide.2 ?_
      go_quiet (fail)
      rw [EM.out]
      clear EM
      have g1 : wr.grownBy (wr.drewN nq) none := ⟨rfl, rfl, rfl, Nat.le_refl _, fun _ _ _ => rfl⟩
      have hJ1 := hA pre wr _ none hJ g1 (by simp)
      have hK1 : KpB Bs Bn W (wr.drewN nq) := hK
      have c1 : (wr.drewN nq).cell? ⟨Bs, 0, none⟩ = some (.slice (some ⟨g, o, none⟩) N c) := b1
      have c2 : (wr.drewN nq).cell? ⟨Bn, 0, none⟩ = some (.int .i64 64) := b2
      obtain ⟨fn, tmps, assign, body, hy, hR⟩ := hY pre ⟨k, hlt⟩ (wr.drewN nq) hJ1 (by omega)
      unfold pcE64 at hy
      dsimp only at hy
      generalize wr.drewN nq = w1 at *
      clear g1 hJ hK b1 b2 hJ1
      generalize pcL64 N k = e at *
      have ee : 64 * k + e - 64 * k = e := by omega
      have ec : 64 * k + e ≤ c := by omega
      have e2 : ¬ (64 * k + e = 64 * k) := by omega
      gi_wp2
      refine hR.mono ?_
      rintro x W3 (⟨rfl, hJ3, hk3⟩ | ⟨rfl, hJx3⟩)
      · have K3 := hK1.t hk3
        have b1 := (World.cell?_of_block (a := ⟨Bs, 0, none⟩) K3.1).trans hBs
        have b2 := (World.cell?_of_block (a := ⟨Bn, 0, none⟩) K3.2).trans hBn
        gi_wp2
        go_roundw
        case rel => exact ⟨k + 1, pre ++ [⟨k, hlt⟩], by rw [List.map_append, hp, List.range_succ]; rfl, by go_num, by omega, hJ3, K3⟩
        case measure => simp [intOf]; omega
      · gi_wp2
        refine bodyPost_ret (results_none rfl _ _ _) rfl ?_
        exact ⟨⟨_, rfl⟩, .inr ⟨_, trivial, hJx3⟩⟩
    · have ik : ¬ ((64 * k : Nat) : Int) < (N : Int) := by omega
      have kk : k = (N + 63) / 64 := by omega
      have KK := hide kk
      clear kk
      gi_wp2
      go_end0
      exact ⟨⟨_, rfl⟩, .inl ⟨pre, hp.trans (by rw [KK.out]), hJ⟩⟩
/-- Chunk itself: its list and its size lie in boxes. -/
theorem chunk_any64 (w : World) (a : Option Addr) (N c : Nat) :
    Calls Tryd.prog 92 #[.slice a N c, .int .i64 64] w fun e w' => e = .returned (.func (.func 104) #[] #[.pointer (some ⟨w.heap.size, 0, none⟩), .pointer (some ⟨w.heap.size + 1, 0, none⟩)]) ∧ w' = (w.alloc (.cells #[.slice a N c] 22)).alloc (.cells #[.int .i64 64] 3) := by
  go_enter Tryd.func92, Tryd.ntmps92
  go_wp2
  go_ret
  exact ⟨by simp, rfl⟩
theorem chunk_stops64 (n : Nat) (hn : 1 ≤ n) (Bs Bn g o N c : Nat) (a : Option Addr) (ha : 0 < N → a = some ⟨g, o, none⟩) (hc : N ≤ c) (hN : N ≤ 4194304) (w : World) (h1 : Bs < w.heap.size) (h2 : Bn < w.heap.size) (hBs : w.cell? ⟨Bs, 0, none⟩ = some (.slice a N c)) (hBn : w.cell? ⟨Bn, 0, none⟩ = some (.int .i64 64)) :
    SeqStopsK Fence.wide n Tryd.prog 104 #[.pointer (some ⟨Bs, 0, none⟩), .pointer (some ⟨Bn, 0, none⟩)] (pcE64 g o N) (KpB Bs Bn) (fun ys => ys.map (·.1) = List.range ((N + 63) / 64)) (fun _ => True) ((N + 63) / 64) w := fun l J Jx W hW hJ _ hY h0 =>
  chunk1_in64 n hn l Bs Bn g o N c a ha hc hN J Jx hY W ((hW.cell (p := ⟨Bs, 0, none⟩) h1).trans hBs) ((hW.cell (p := ⟨Bn, 0, none⟩) h2).trans hBn) h0 hJ
end Go.Proofs.YtbdecibgejmelaaDoor

/-
  The program's layOver: the blocks laid over a copy of the data, piece after piece (written by gens/ccg.py).
-/
namespace Go.Proofs.YtbdecibgejmelaaDoor
set_option maxRecDepth 100000
open Go Go.RowKit Go.Shelf
attribute [local go_sem] Oper.semAt_some

def xr (a b : Int) : Int := bits BinOp.xor IntKind.u8 a b
/-- From place o on, j bytes with those of B laid over them. -/
def xorTo (zs : List Int) (o : Nat) (B : List Int) : Nat → List Int
  | 0 => zs
  | j + 1 => (xorTo zs o B j).set (o + j) (xr (zs.getD (o + j) 0) (B.getD j 0))
theorem xorTo_len (zs : List Int) (o : Nat) (B : List Int) : ∀ j, (xorTo zs o B j).length = zs.length
  | 0 => rfl
  | j + 1 => by rw [xorTo, List.length_set]; exact xorTo_len zs o B j
theorem xorTo_get (zs : List Int) (o : Nat) (B : List Int) (i : Nat) (hi : i < zs.length) : ∀ j, (xorTo zs o B j).getD i 0 = if o ≤ i ∧ i < o + j then xr (zs.getD i 0) (B.getD (i - o) 0) else zs.getD i 0
  | 0 => by rw [if_neg (by omega)]; rfl
  | j + 1 => by
    rw [xorTo]
    by_cases e : o + j = i
    · subst e
      rw [getD_set_self _ _ _ (by rw [xorTo_len]; exact hi), if_pos (by omega), show o + j - o = j by omega]
    · rw [getD_set_ne _ _ _ _ e, xorTo_get zs o B i hi j]
      by_cases h : o ≤ i ∧ i < o + j
      · rw [if_pos h, if_pos (by omega)]
      · rw [if_neg h, if_neg (by omega)]
/-- What is told behind k pieces. -/
def xoG (ys : List Int) (c : Int) (data : List Int) : Nat → List Int
  | 0 => data
  | k + 1 => xorTo (xoG ys c data k) (64 * k) (stB (ys.set 12 (c + (k : Int)))) (pcL64 data.length k)
theorem xoG_len (ys : List Int) (c : Int) (data : List Int) : ∀ k, (xoG ys c data k).length = data.length
  | 0 => rfl
  | k + 1 => by rw [xoG, xorTo_len]; exact xoG_len ys c data k
theorem xoG_get (ys : List Int) (c : Int) (data : List Int) (i : Nat) (hi : i < data.length) : ∀ k, (xoG ys c data k).getD i 0 = if i < 64 * k then xr (data.getD i 0) ((stB (ys.set 12 (c + ((i / 64 : Nat) : Int)))).getD (i % 64) 0) else data.getD i 0
  | 0 => by rw [if_neg (by omega)]; rfl
  | k + 1 => by
    rw [xoG, xorTo_get _ _ _ _ (by rw [xoG_len]; exact hi), xoG_get ys c data i hi k]
    unfold pcL64
    by_cases h : i < 64 * k
    · rw [if_neg (by omega), if_pos h, if_pos (by omega)]
    · rw [if_neg h]
      by_cases h2 : i < 64 * (k + 1)
      · rw [if_pos (by omega), if_pos h2, show i / 64 = k by omega, show i - 64 * k = i % 64 by omega]
      · rw [if_neg (by omega), if_neg h2]
section
variable {P : Program} {ops : Array Oper} {Q : Exit → Act → World → Prop} {n l : Nat} {rest : List Oper} {o : Oper} {a : Act} {w : World}
theorem listIn_op (hgd : o.guard = none) (hd : ∀ c, o.op ≠ .defer c) (h : ∀ K : Act → World → Prop, (∀ a w, wpListIn (Fence.wide.inRound l) n P ops Q rest a w → K a w) → o.wp P a w K Q) : wpListIn (Fence.wide.inRound l) n P ops Q (o :: rest) a w :=
  wpListIn_plain hgd fun K hK => op_in hd (h K hK)
theorem listIn_load (hgd : o.guard = none) (ty : TypeId) (x : Operand) (ho : o.op = .load ty x) (b off : Nat) (hx : a.eval x = .pointer (some ⟨b, off, none⟩)) (cs : List Value) (d : TypeDesc) (hc : w.rangeAt b off cs)
    (hu : P.underlying ty = some d) (hd : d.isRow = true) (hi : (P.info? ty).map (·.size) = some cs.length) (h : wpListIn (Fence.wide.inRound l) n P ops Q rest (a.put o.dst (.agg cs.toArray)) w) : wpListIn (Fence.wide.inRound l) n P ops Q (o :: rest) a w :=
  listIn_op hgd (by rw [ho]; intro c e; cases e) fun _ hK => wp_load_mid ty x ho b off hx cs d hc hu hd hi (hK _ _ h)
theorem listIn_store (hgd : o.guard = none) (ty : TypeId) (x y : Operand) (ho : o.op = .store ty x y)
    (g : Nat) (cells : Array Value) (hx : a.eval x = .pointer (some ⟨g, 0, none⟩)) (hy : a.eval y = .agg cells)
    (t : TypeId) (old : Array Value) (hg : w.heap[g]? = some (.cells old t (0, 0))) (hi : (P.info? ty).map (·.size) = some cells.size)
    (hold : old.size = cells.size) (h1 : cells.all (·.oneCell') = true)
    (h : wpListIn (Fence.wide.inRound l) n P ops Q rest (a.put o.dst undef) (w.setRow g cells)) : wpListIn (Fence.wide.inRound l) n P ops Q (o :: rest) a w :=
  listIn_op hgd (by rw [ho]; intro c e; cases e) fun _ hK => wp_store_row ty x y ho g cells hx hy t old hg hi hold h1 (hK _ _ h)
end
/-- What holds between two rounds. -/
structure LyI (w : World) (ys : List Int) (c : Int) (data : List Int) (Z : Nat) (pre : List (PcN64 data.length)) (W : World) : Prop where
  told : ∃ zs : List Int, zs.length = data.length ∧ Blk W (w.heap.size + 1 + 1) .u8 zs ∧ (pre.map (·.1) = List.range pre.length → zs = xoG ys c data pre.length)
  wds : Blk W w.heap.size .u32 ys
  num : W.cell? ⟨w.heap.size + 1, 0, none⟩ = some (.int .i64 (c + (pre.length : Int)))
  numF : W.frozen? ⟨w.heap.size + 1, 0, none⟩ = false
  siz : Z ≤ W.heap.size
  bel : Below w.heap.size w W
theorem lyI_own {w : World} {ys : List Int} {c : Int} {data : List Int} {Z B : Nat} (hB : w.heap.size ≤ B) : OwnFrom B (LyI w ys c data Z) := by
  intro s W W' row h hg hr
  have hr' : ∀ r, row = some r → ∃ o : Obj, W.heap[r]? = some o ∧ o.isCells = false := fun r e => (hr r e).2
  obtain ⟨zs, z1, z2, z3⟩ := h.told
  refine ⟨⟨zs, z1, blk_ofK z2 hg hr', z3⟩, blk_ofK h.wds hg hr', cell_kept h.num hg hr', (frozen_kept h.num hg hr').trans h.numF, Nat.le_trans h.siz hg.size, ?_⟩
  exact h.bel.grown hg h.bel.size (fun k e => Nat.le_trans hB (hr k e).1)
theorem rowU8 : (Tryd.prog.info? 5).map (·.size) = some 1 := by kernel_rfl
set_option maxRecDepth 100000 in
set_option maxHeartbeats 8000000 in
theorem layOver_any (w : World) (ys : List Int) (hw : Ws ys) (yl : ys.length = 16) (ct : Int) (h0 : 0 ≤ ct) (g : Nat) (a : Option Addr) (c : Nat) (data : List Int) (hr : Rd w g a .u8 data) (hn : data.length ≤ 4194304) (h1 : ct + (((data.length + 63) / 64 : Nat) : Int) ≤ 4294967296) :
    Calls Tryd.prog 77 #[ag .u32 ys, .int .i64 ct, .slice a data.length c] w fun e w' => NewRow w.heap.size w' e .u8 (xoG ys ct data ((data.length + 63) / 64)) ∧ Below w.heap.size w w' := by
  obtain ⟨i0, hi0, hz0, hz1, hz2⟩ := info_parts Tryd.info5
  have HYL := hide yl
  have VY : Hid (ag .u32 ys = Value.agg (ys.map (Value.int .u32)).toArray) := rfl
  rw [VY.out]
  have B0 := blk_alloc w .u32 118 ys
  have n0 : Below w.heap.size w (w.alloc (.cells (ys.map (Value.int .u32)).toArray 118)) := (Below.refl _ _).alloc (Nat.le_refl _) _
  have z0 : (w.alloc (.cells (ys.map (Value.int .u32)).toArray 118)).heap.size = w.heap.size + 1 := by simp
  have L16 : Hid ((ys.map (Value.int .u32)).length = 16) := by show _ = _; rw [List.length_map]; exact yl
  obtain ⟨vs, hvs⟩ : ∃ vs, vs = ys.map (Value.int .u32) := ⟨_, rfl⟩
  rw [← hvs] at B0 n0 z0 L16 ⊢
  have HVS := hide hvs
  clear hvs yl
  refine (callsIn_wide (n := 5)).1 (callsIn_of_wp_marks Tryd.func77 rfl trivial ?_ rfl)
  refine wpIn_wide.2 ?_
  simp only [Tryd.ntmps77, List.size_toArray, List.length_cons, List.length_nil, Nat.reduceAdd, Nat.reduceSub, Array.replicate_succ, Array.replicate_zero, List.push_toArray, List.append_toArray, List.nil_append, List.cons_append]
  go_upto_region 1 with fail
  generalize w.alloc (.cells vs.toArray 118) = w1 at *
  have n2 : Below w1.heap.size w1 (w1.alloc (.cells #[.int .i64 ct] 2)) := (Below.refl _ _).alloc (Nat.le_refl _) _
  have C2 : (w1.alloc (.cells #[.int .i64 ct] 2)).cell? ⟨w1.heap.size, 0, none⟩ = some (.int .i64 ct) := by simp [World.cell?_alloc_at]
  have F2 : (w1.alloc (.cells #[.int .i64 ct] 2)).frozen? ⟨w1.heap.size, 0, none⟩ = false := by simp [World.frozen?_alloc_at]
  have z2 : (w1.alloc (.cells #[.int .i64 ct] 2)).heap.size = w1.heap.size + 1 := by simp
  generalize w1.alloc (.cells #[.int .i64 ct] 2) = w2 at *
  rw [z0] at C2 F2 z2
  have B0 := B0.up n2
  have N2 := nxt n0 n2
  clear n0 n2 z0
  have dn : (data.length : Int) ≤ 4194304 := by omega
  go_upto_region 2 with (at_make; refine wpList_make_full _ rfl _ _ 22 rfl w2.heap.size 5 i0 (.int .u8 0) 1 Tryd.underlying22 hi0 hz0 hz1 .i64 .i64 _ _ data.length rfl rfl rfl rfl (by rw [hz2]; omega) (by unfold maxLen; omega) (Nat.le_refl _) ?_; intro w3 hown hgrow)
  have B3 := Blk.of_made hown
  have n3 : Below w2.heap.size w2 w3 := (Below.refl _ _).grown hgrow (Nat.le_refl _) (by simp)
  clear hown hgrow
  rw [z2] at B3
  have g3 := B3.lt
  have B0 := B0.up n3
  have C2 := (World.cell?_of_block (a := ⟨w.heap.size + 1, 0, none⟩) (n3.block (w.heap.size + 1) (by omega))).trans C2
  have F2 := (World.frozen?_of_block (a := ⟨w.heap.size + 1, 0, none⟩) (n3.block (w.heap.size + 1) (by omega))).trans F2
  have N3 := nxt N2 n3
  obtain ⟨w4, hcopy, B4, O4⟩ := copy_blk (P := Tryd.prog) w3 22 3 5 Tryd.underlying22 rowU8 B3 g a data (hr.up N3) (by rw [List.length_replicate]; exact Nat.le_refl _) data.length c
  rw [List.length_replicate] at hcopy
  have ed : data ++ (List.replicate data.length (0 : Int)).drop data.length = data := by simp
  rw [ed] at B4
  have B0 := B0.of_block (O4.block w.heap.size (by omega))
  have C2 := (World.cell?_of_block (a := ⟨w.heap.size + 1, 0, none⟩) (O4.block (w.heap.size + 1) (by omega))).trans C2
  have F2 := (World.frozen?_of_block (a := ⟨w.heap.size + 1, 0, none⟩) (O4.block (w.heap.size + 1) (by omega))).trans F2
  have N4 := N3.trans (O4.below (B := w.heap.size) (by omega))
  have z4 := O4.size
  clear n3 N2 N3 B3 O4 ed z2
  go_wp2_with (at_builtin; refine wpList_copy_run rfl (.tmp 14) (.tmp 15) 22 22 rfl _ _ rfl rfl _ _ hcopy ?_)
  refine (chunk_any64 w4 (some ⟨w.heap.size + 1 + 1, 0, none⟩) data.length data.length).mono ?_
  rintro e w6 ⟨rfl, rfl⟩
  have n5 : Below w4.heap.size w4 (w4.alloc (.cells #[.slice (some ⟨w.heap.size + 1 + 1, 0, none⟩) data.length data.length] 22)) := (Below.refl _ _).alloc (Nat.le_refl _) _
  have C5 : (w4.alloc (.cells #[.slice (some ⟨w.heap.size + 1 + 1, 0, none⟩) data.length data.length] 22)).cell? ⟨w4.heap.size, 0, none⟩ = some (.slice (some ⟨w.heap.size + 1 + 1, 0, none⟩) data.length data.length) := by simp [World.cell?_alloc_at]
  have z5 : (w4.alloc (.cells #[.slice (some ⟨w.heap.size + 1 + 1, 0, none⟩) data.length data.length] 22)).heap.size = w4.heap.size + 1 := by simp
  generalize w4.alloc (.cells #[.slice (some ⟨w.heap.size + 1 + 1, 0, none⟩) data.length data.length] 22) = w5 at *
  have n6 : Below w5.heap.size w5 (w5.alloc (.cells #[.int .i64 64] 3)) := (Below.refl _ _).alloc (Nat.le_refl _) _
  have C6 : (w5.alloc (.cells #[.int .i64 64] 3)).cell? ⟨w5.heap.size, 0, none⟩ = some (.int .i64 64) := by simp [World.cell?_alloc_at]
  have z6 : (w5.alloc (.cells #[.int .i64 64] 3)).heap.size = w5.heap.size + 1 := by simp
  generalize w5.alloc (.cells #[.int .i64 64] 3) = w6 at *
  generalize hq : w4.heap.size = q at *
  rw [z5] at C6 z6
  have yq : w.heap.size + 1 + 1 < q := by omega
  have n56 : Below q w4 w6 := n5.trans (n6.mono (by omega))
  have N6 : Below w.heap.size w w6 := N4.trans (n56.mono (by omega))
  have I0 : LyI w ys ct data (q + 2) [] w6 :=
    ⟨⟨data, rfl, B4.of_block (n56.block (w.heap.size + 1 + 1) (by omega)), fun _ => rfl⟩, B0.of_block (n56.block w.heap.size (by omega)), by have := (World.cell?_of_block (a := ⟨w.heap.size + 1, 0, none⟩) (n56.block (w.heap.size + 1) (by omega))).trans C2; simpa using this, (World.frozen?_of_block (a := ⟨w.heap.size + 1, 0, none⟩) (n56.block (w.heap.size + 1) (by omega))).trans F2, by omega, N6⟩
  have D5 : w6.cell? ⟨q, 0, none⟩ = some (.slice (some ⟨w.heap.size + 1 + 1, 0, none⟩) data.length data.length) := (World.cell?_of_block (a := ⟨q, 0, none⟩) (n6.block q (by omega))).trans C5
  have S6 : Hid (w6.heap.size = q + 1 + 1) := z6
  have YQ := hide yq
  clear n5 n6 n56 C2 C5 F2 z5 z6 N4 B0 B4 hq hcopy g3 z4
  go_wp2
  refine (wpIn_wide (n := 5)).1 (wpIn_rangeFunc_ownG (n := 5) rfl (by omega) (gf := 104) (lb := #[.pointer (some ⟨q, 0, none⟩), .pointer (some ⟨q + 1, 0, none⟩)]) rfl trivial (enters_of Tryd.func104 (by kernel_rfl) rfl)
    (chunk_stops64 4 (by omega) q (q + 1) (w.heap.size + 1 + 1) 0 data.length data.length (some ⟨w.heap.size + 1 + 1, 0, none⟩) (fun _ => rfl) (Nat.le_refl _) hn w6 (by have := S6.out; omega) (by have := S6.out; omega) D5 C6) KpB.t (KpB.b (by have := S6.out; omega) (by have := S6.out; omega)) (Below.refl _ _) (fun _ => rfl)
    (LyI w ys ct data (q + 2)) (fun _ _ _ => False) (lyI_own (by have := N6.size; omega)) (fun _ _ _ _ _ h _ _ => h) I0
    (fun x => { tmps := #[.agg vs.toArray, .int .i64 ct, .slice a data.length c, .pointer (some ⟨w.heap.size, 0, none⟩), .pointer (some ⟨w.heap.size + 1, 0, none⟩), undef, .slice none 0 0, .slice (some ⟨w.heap.size + 1 + 1, 0, none⟩) data.length data.length, .slice (some ⟨w.heap.size + 1 + 1, 64 * x.1, none⟩) (pcL64 data.length x.1) (pcL64 data.length x.1), undef, undef, .slice a data.length c, .int .i64 (data.length : Int), .slice (some ⟨w.heap.size + 1 + 1, 0, none⟩) data.length data.length, .slice (some ⟨w.heap.size + 1 + 1, 0, none⟩) data.length data.length, .slice a data.length c, (.int .i64 (data.length : Int)), .slice (some ⟨w.heap.size + 1 + 1, 0, none⟩) data.length data.length, Value.func (Fn.func 104) #[] #[Value.pointer (some ⟨q, 0, none⟩), Value.pointer (some ⟨q + 1, 0, none⟩)], .slice (some ⟨w.heap.size + 1 + 1, 64 * x.1, none⟩) (pcL64 data.length x.1) (pcL64 data.length x.1), undef, undef, undef, undef, undef, undef, undef, undef, undef, undef, undef, undef, undef, undef, undef, undef, undef, undef, undef, undef, undef], defers := [] }) ?assign ?body ?done ?stop)
  case assign =>
    intro l x W K hK
    unfold pcE64
    gi_wp2
    exact hK
  case body =>
    rintro l pre x W hI hlen
    obtain ⟨zs, zl, zB, z3⟩ := hI.told
    have hs := hI.wds
    have im := hI.num
    have nf := hI.numF
    have sz := hI.siz
    have yq := YQ.out
    have be := hI.bel
    clear hI
    have xl := x.2
    obtain ⟨pe, hpe⟩ : ∃ e, e = pcL64 data.length x.1 := ⟨_, rfl⟩
    have pe0 : 0 < pe := by rw [hpe]; unfold pcL64; omega
    have pe1 : pe ≤ 64 := by rw [hpe]; unfold pcL64; omega
    have pe2 : 64 * x.1 + pe ≤ data.length := by rw [hpe]; unfold pcL64; omega
    rw [← hpe]
    obtain ⟨cv, hcv⟩ : ∃ v, v = ct + (pre.length : Int) := ⟨_, rfl⟩
    rw [← hcv] at im
    have cw : W4 cv := ⟨by omega, by omega⟩
    have BA := fun u => hide (block_any u ys hw HYL.out cv cw)
    simp only [VY.out, ← HVS.out] at BA
    have RG := (Seg.blk hs).range
    rw [← HVS.out] at RG
    have L64 : Hid (((stB (ys.set 12 cv)).map (Value.int .u8)).length = 64) := by show _ = _; rw [List.length_map]; exact stB_len _
    have BL : Hid ((stB (ys.set 12 cv)).length = 64) := stB_len _
    have O64 := one_ints .u8 (stB (ys.set 12 cv))
    have V64 : Hid (ag .u8 (stB (ys.set 12 cv)) = Value.agg ((stB (ys.set 12 cv)).map (Value.int .u8)).toArray) := rfl
    simp only [V64.out] at BA
    obtain ⟨Bk, hBk⟩ : ∃ b, b = stB (ys.set 12 cv) := ⟨_, rfl⟩
    rw [← hBk] at L64 BL O64
    simp only [← hBk] at BA
    have HBK := hide hBk
    have HCV := hide hcv
    have HPE := hide hpe
    have cvb : 0 ≤ cv ∧ cv < 4294967296 := cw
    clear hBk hcv hpe V64 cw
    obtain ⟨cv0, cv1⟩ := cvb
    gi_wp2_with (refine listIn_load rfl 118 (.tmp 3) rfl w.heap.size 0 rfl vs (.array 16 116) RG undS rfl (by rw [L16.out]; exact infoS) ?_)
    refine ⟨trivial, (CallsIn.inRound l (callsIn_wide.2 (BA W).out)).mono ?_⟩
    rintro e W3 ⟨rfl, n3⟩
    have n4 : Below W3.heap.size W3 (W3.alloc (.cells #[.int .u8 0, .int .u8 0, .int .u8 0, .int .u8 0, .int .u8 0, .int .u8 0, .int .u8 0, .int .u8 0, .int .u8 0, .int .u8 0, .int .u8 0, .int .u8 0, .int .u8 0, .int .u8 0, .int .u8 0, .int .u8 0, .int .u8 0, .int .u8 0, .int .u8 0, .int .u8 0, .int .u8 0, .int .u8 0, .int .u8 0, .int .u8 0, .int .u8 0, .int .u8 0, .int .u8 0, .int .u8 0, .int .u8 0, .int .u8 0, .int .u8 0, .int .u8 0, .int .u8 0, .int .u8 0, .int .u8 0, .int .u8 0, .int .u8 0, .int .u8 0, .int .u8 0, .int .u8 0, .int .u8 0, .int .u8 0, .int .u8 0, .int .u8 0, .int .u8 0, .int .u8 0, .int .u8 0, .int .u8 0, .int .u8 0, .int .u8 0, .int .u8 0, .int .u8 0, .int .u8 0, .int .u8 0, .int .u8 0, .int .u8 0, .int .u8 0, .int .u8 0, .int .u8 0, .int .u8 0, .int .u8 0, .int .u8 0, .int .u8 0, .int .u8 0] 134)) := (Below.refl _ _).alloc (Nat.le_refl _) _
    have B4 := blk_z64 W3 134
    have z4 : (W3.alloc (.cells #[.int .u8 0, .int .u8 0, .int .u8 0, .int .u8 0, .int .u8 0, .int .u8 0, .int .u8 0, .int .u8 0, .int .u8 0, .int .u8 0, .int .u8 0, .int .u8 0, .int .u8 0, .int .u8 0, .int .u8 0, .int .u8 0, .int .u8 0, .int .u8 0, .int .u8 0, .int .u8 0, .int .u8 0, .int .u8 0, .int .u8 0, .int .u8 0, .int .u8 0, .int .u8 0, .int .u8 0, .int .u8 0, .int .u8 0, .int .u8 0, .int .u8 0, .int .u8 0, .int .u8 0, .int .u8 0, .int .u8 0, .int .u8 0, .int .u8 0, .int .u8 0, .int .u8 0, .int .u8 0, .int .u8 0, .int .u8 0, .int .u8 0, .int .u8 0, .int .u8 0, .int .u8 0, .int .u8 0, .int .u8 0, .int .u8 0, .int .u8 0, .int .u8 0, .int .u8 0, .int .u8 0, .int .u8 0, .int .u8 0, .int .u8 0, .int .u8 0, .int .u8 0, .int .u8 0, .int .u8 0, .int .u8 0, .int .u8 0, .int .u8 0, .int .u8 0] 134)).heap.size = W3.heap.size + 1 := by simp
    obtain ⟨t4, H4⟩ := B4
    have SR := blk_setRow (zs := Bk) ⟨t4, H4⟩
    have OR := only_setRow (W3.alloc (.cells #[.int .u8 0, .int .u8 0, .int .u8 0, .int .u8 0, .int .u8 0, .int .u8 0, .int .u8 0, .int .u8 0, .int .u8 0, .int .u8 0, .int .u8 0, .int .u8 0, .int .u8 0, .int .u8 0, .int .u8 0, .int .u8 0, .int .u8 0, .int .u8 0, .int .u8 0, .int .u8 0, .int .u8 0, .int .u8 0, .int .u8 0, .int .u8 0, .int .u8 0, .int .u8 0, .int .u8 0, .int .u8 0, .int .u8 0, .int .u8 0, .int .u8 0, .int .u8 0, .int .u8 0, .int .u8 0, .int .u8 0, .int .u8 0, .int .u8 0, .int .u8 0, .int .u8 0, .int .u8 0, .int .u8 0, .int .u8 0, .int .u8 0, .int .u8 0, .int .u8 0, .int .u8 0, .int .u8 0, .int .u8 0, .int .u8 0, .int .u8 0, .int .u8 0, .int .u8 0, .int .u8 0, .int .u8 0, .int .u8 0, .int .u8 0, .int .u8 0, .int .u8 0, .int .u8 0, .int .u8 0, .int .u8 0, .int .u8 0, .int .u8 0, .int .u8 0] 134)) W3.heap.size (Bk.map (Value.int .u8)).toArray
    obtain ⟨vr, hvr⟩ : ∃ v, v = Bk.map (Value.int .u8) := ⟨_, rfl⟩
    rw [← hvr] at L64 O64 SR OR ⊢
    clear hvr BA RG
    gi_wp2_with (refine listIn_store rfl 134 (.tmp 9) (.tmp 22) rfl W3.heap.size vr.toArray rfl rfl t4 _ H4 (by rw [List.size_toArray, L64.out]; exact infoB) (by rw [List.size_toArray, List.size_toArray, L64.out]; rfl) O64 ?_)
    have s3 := n3.size
    have U5 : ∀ b, b < W.heap.size → ((W3.alloc (.cells #[.int .u8 0, .int .u8 0, .int .u8 0, .int .u8 0, .int .u8 0, .int .u8 0, .int .u8 0, .int .u8 0, .int .u8 0, .int .u8 0, .int .u8 0, .int .u8 0, .int .u8 0, .int .u8 0, .int .u8 0, .int .u8 0, .int .u8 0, .int .u8 0, .int .u8 0, .int .u8 0, .int .u8 0, .int .u8 0, .int .u8 0, .int .u8 0, .int .u8 0, .int .u8 0, .int .u8 0, .int .u8 0, .int .u8 0, .int .u8 0, .int .u8 0, .int .u8 0, .int .u8 0, .int .u8 0, .int .u8 0, .int .u8 0, .int .u8 0, .int .u8 0, .int .u8 0, .int .u8 0, .int .u8 0, .int .u8 0, .int .u8 0, .int .u8 0, .int .u8 0, .int .u8 0, .int .u8 0, .int .u8 0, .int .u8 0, .int .u8 0, .int .u8 0, .int .u8 0, .int .u8 0, .int .u8 0, .int .u8 0, .int .u8 0, .int .u8 0, .int .u8 0, .int .u8 0, .int .u8 0, .int .u8 0, .int .u8 0, .int .u8 0, .int .u8 0] 134)).setRow W3.heap.size vr.toArray).heap[b]? = W.heap[b]? := fun b hb => (OR.block b (by omega)).trans ((n4.block b (by omega)).trans (n3.block b hb))
    have s5 : ((W3.alloc (.cells #[.int .u8 0, .int .u8 0, .int .u8 0, .int .u8 0, .int .u8 0, .int .u8 0, .int .u8 0, .int .u8 0, .int .u8 0, .int .u8 0, .int .u8 0, .int .u8 0, .int .u8 0, .int .u8 0, .int .u8 0, .int .u8 0, .int .u8 0, .int .u8 0, .int .u8 0, .int .u8 0, .int .u8 0, .int .u8 0, .int .u8 0, .int .u8 0, .int .u8 0, .int .u8 0, .int .u8 0, .int .u8 0, .int .u8 0, .int .u8 0, .int .u8 0, .int .u8 0, .int .u8 0, .int .u8 0, .int .u8 0, .int .u8 0, .int .u8 0, .int .u8 0, .int .u8 0, .int .u8 0, .int .u8 0, .int .u8 0, .int .u8 0, .int .u8 0, .int .u8 0, .int .u8 0, .int .u8 0, .int .u8 0, .int .u8 0, .int .u8 0, .int .u8 0, .int .u8 0, .int .u8 0, .int .u8 0, .int .u8 0, .int .u8 0, .int .u8 0, .int .u8 0, .int .u8 0, .int .u8 0, .int .u8 0, .int .u8 0, .int .u8 0, .int .u8 0] 134)).setRow W3.heap.size vr.toArray).heap.size = W3.heap.size + 1 := OR.size.trans z4
    have N5 : Below W.heap.size W ((W3.alloc (.cells #[.int .u8 0, .int .u8 0, .int .u8 0, .int .u8 0, .int .u8 0, .int .u8 0, .int .u8 0, .int .u8 0, .int .u8 0, .int .u8 0, .int .u8 0, .int .u8 0, .int .u8 0, .int .u8 0, .int .u8 0, .int .u8 0, .int .u8 0, .int .u8 0, .int .u8 0, .int .u8 0, .int .u8 0, .int .u8 0, .int .u8 0, .int .u8 0, .int .u8 0, .int .u8 0, .int .u8 0, .int .u8 0, .int .u8 0, .int .u8 0, .int .u8 0, .int .u8 0, .int .u8 0, .int .u8 0, .int .u8 0, .int .u8 0, .int .u8 0, .int .u8 0, .int .u8 0, .int .u8 0, .int .u8 0, .int .u8 0, .int .u8 0, .int .u8 0, .int .u8 0, .int .u8 0, .int .u8 0, .int .u8 0, .int .u8 0, .int .u8 0, .int .u8 0, .int .u8 0, .int .u8 0, .int .u8 0, .int .u8 0, .int .u8 0, .int .u8 0, .int .u8 0, .int .u8 0, .int .u8 0, .int .u8 0, .int .u8 0, .int .u8 0, .int .u8 0] 134)).setRow W3.heap.size vr.toArray) := n3.trans ((n4.mono (by omega)).trans (OR.below (by omega)))
    generalize (W3.alloc (.cells #[.int .u8 0, .int .u8 0, .int .u8 0, .int .u8 0, .int .u8 0, .int .u8 0, .int .u8 0, .int .u8 0, .int .u8 0, .int .u8 0, .int .u8 0, .int .u8 0, .int .u8 0, .int .u8 0, .int .u8 0, .int .u8 0, .int .u8 0, .int .u8 0, .int .u8 0, .int .u8 0, .int .u8 0, .int .u8 0, .int .u8 0, .int .u8 0, .int .u8 0, .int .u8 0, .int .u8 0, .int .u8 0, .int .u8 0, .int .u8 0, .int .u8 0, .int .u8 0, .int .u8 0, .int .u8 0, .int .u8 0, .int .u8 0, .int .u8 0, .int .u8 0, .int .u8 0, .int .u8 0, .int .u8 0, .int .u8 0, .int .u8 0, .int .u8 0, .int .u8 0, .int .u8 0, .int .u8 0, .int .u8 0, .int .u8 0, .int .u8 0, .int .u8 0, .int .u8 0, .int .u8 0, .int .u8 0, .int .u8 0, .int .u8 0, .int .u8 0, .int .u8 0, .int .u8 0, .int .u8 0, .int .u8 0, .int .u8 0, .int .u8 0, .int .u8 0] 134)).setRow W3.heap.size vr.toArray = W5 at *
    generalize W3.heap.size = bq at *
    clear OR n4 n3 H4 z4 O64 L64
    have T5 := zB.up N5
    have bW : W.heap.size ≤ bq := s3
    have peI : (pe : Int) ≤ 64 := by omega
    gi_loopw [25] (fun v wr => ∃ (j : Nat) (us : List Int), j ≤ pe ∧ v = .int .i64 j ∧ Hid (us = xorTo zs (64 * x.1) Bk j) ∧ Blk wr (w.heap.size + 1 + 1) .u8 us ∧ Blk wr bq .u8 Bk ∧ (∀ b, b < W.heap.size → b ≠ w.heap.size + 1 + 1 → wr.heap[b]? = W.heap[b]?) ∧ bq + 1 ≤ wr.heap.size ∧ KeepsFrom w6.heap.size W wr ∧ Below w.heap.size w wr) (fun v _ => pe - (intOf v).toNat)
    case atStart => exact ⟨0, zs, Nat.zero_le _, rfl, rfl, T5, SR, fun b hb _ => U5 b hb, by omega, keeps_below N5, be.trans (N5.mono be.size)⟩
    case round =>
      obtain ⟨j, us, hj, rfl, HU, hT, hK, hO, hZ, hF, hN⟩ := hrel
      clear T5 SR U5 N5 s5
      by_cases jl : j < pe
      · have pzl : 64 * x.1 + j < zs.length := by rw [zl]; omega
        have ul : us.length = zs.length := by rw [HU.out, xorTo_len]
        have ug : us.getD (64 * x.1 + j) 0 = zs.getD (64 * x.1 + j) 0 := by rw [HU.out, xorTo_get _ _ _ _ pzl, if_neg (by omega)]
        have cz0 : ∀ u, Below wr.heap.size wr u → u.cell? ⟨w.heap.size + 1 + 1, 64 * x.1 + j, none⟩ = some (.int .u8 (zs.getD (64 * x.1 + j) 0)) := fun u hu => by
          have := (hT.up hu).cell (i := 64 * x.1 + j) (by rw [ul]; exact pzl)
          rw [ug] at this
          exact this
        have cb0 : ∀ u, Below wr.heap.size wr u → u.cell? ⟨bq, j, none⟩ = some (.int .u8 (Bk.getD j 0)) := fun u hu => (hK.up hu).cell (i := j) (by rw [BL.out]; omega)
        have XS : Hid (us.set (64 * x.1 + j) (xr (zs.getD (64 * x.1 + j) 0) (Bk.getD j 0)) = xorTo zs (64 * x.1) Bk (j + 1)) := by show _ = _; rw [HU.out]; rfl
        have XV0 : Hid (bits BinOp.xor IntKind.u8 (zs.getD (64 * x.1 + j) 0) (Bk.getD j 0) = xr (zs.getD (64 * x.1 + j) 0) (Bk.getD j 0)) := rfl
        obtain ⟨pz, hpz⟩ : ∃ p, p = 64 * x.1 + j := ⟨_, rfl⟩
        have epz : 64 * x.1 + j = pz := hpz.symm
        rw [← hpz] at pzl ug XS XV0
        simp only [← hpz] at cz0
        clear hpz
        generalize zs.getD pz 0 = zv at *
        generalize Bk.getD j 0 = bv at *
        generalize xr zv bv = xv at *
        have XV := XV0
        have cz := cz0
        have cb := cb0
        have jpe : (j : Int) < (pe : Int) := by omega
        have j64 : (j : Int) < 64 := by omega
        clear XV0 cz0 cb0
        gi_wp2_with fail
        refine region_store_in 9 _ (fun i => [Fact.eq (.slice (some ⟨w.heap.size + 1 + 1, 64 * x.1, none⟩) pe pe), Fact.eq (.int .i64 (j : Int)), Fact.eq (.pointer (some ⟨w.heap.size + 1 + 1, pz, none⟩)), Fact.eq (.int .u8 zv), Fact.eq (.int .i64 (j : Int)), Fact.eq (.pointer (some ⟨bq, j, none⟩)), Fact.eq (.int .u8 bv), Fact.eq (.int .u8 xv), Fact.eq (.pointer (some ⟨w.heap.size + 1 + 1, pz, none⟩))].getD i Fact.no) (by kernel_rfl) (by rintro ⟨_, _, h⟩; exact h) (by kernel_rfl) (by kernel_rfl) rfl rfl ?_ ?_
        · skip
          intro i hi
          obtain rfl | rfl | rfl | rfl | rfl | rfl | rfl | rfl | rfl : i = 0 ∨ i = 1 ∨ i = 2 ∨ i = 3 ∨ i = 4 ∨ i = 5 ∨ i = 6 ∨ i = 7 ∨ i = 8 := by omega
          · refine step_pure rfl fun a u hb hw hf => ?_
            have e8 : a.tmps[8]?.getD undef = .slice (some ⟨w.heap.size + 1 + 1, 64 * x.1, none⟩) pe pe := gdv (hb.2.2 8 (by kernel_rfl))
            exact ⟨.slice (some ⟨w.heap.size + 1 + 1, 64 * x.1, none⟩) pe pe, by simp [go_sem, e8], rfl⟩
          · refine step_pure rfl fun a u hb hw hf => ?_
            have e10 : a.tmps[10]?.getD undef = .int .i64 (j : Int) := gdv (hb.2.2 10 (by kernel_rfl))
            exact ⟨.int .i64 (j : Int), by simp [go_sem, e10], rfl⟩
          · refine step_pure rfl fun a u hb hw hf => ?_
            have e28 : a.tmps[28]?.getD undef = .slice (some ⟨w.heap.size + 1 + 1, 64 * x.1, none⟩) pe pe := gdv (hf 0 28 (by kernel_rfl))
            have e29 : a.tmps[29]?.getD undef = .int .i64 (j : Int) := gdv (hf 1 29 (by kernel_rfl))
            exact ⟨.pointer (some ⟨w.heap.size + 1 + 1, pz, none⟩), by simp [go_sem, e28, e29, jpe, epz], rfl⟩
          · refine step_pure rfl fun a u hb hw hf => ?_
            have e30 : a.tmps[30]?.getD undef = .pointer (some ⟨w.heap.size + 1 + 1, pz, none⟩) := gdv (hf 2 30 (by kernel_rfl))
            have hc := cz _ hw
            exact ⟨.int .u8 zv, by simp [go_sem, e30, hc], rfl⟩
          · refine step_pure rfl fun a u hb hw hf => ?_
            have e10 : a.tmps[10]?.getD undef = .int .i64 (j : Int) := gdv (hb.2.2 10 (by kernel_rfl))
            exact ⟨.int .i64 (j : Int), by simp [go_sem, e10], rfl⟩
          · refine step_pure rfl fun a u hb hw hf => ?_
            have e9 : a.tmps[9]?.getD undef = .pointer (some ⟨bq, 0, none⟩) := gdv (hb.2.2 9 (by kernel_rfl))
            have e32 : a.tmps[32]?.getD undef = .int .i64 (j : Int) := gdv (hf 4 32 (by kernel_rfl))
            exact ⟨.pointer (some ⟨bq, j, none⟩), by simp [go_sem, e9, e32, j64], rfl⟩
          · refine step_pure rfl fun a u hb hw hf => ?_
            have e33 : a.tmps[33]?.getD undef = .pointer (some ⟨bq, j, none⟩) := gdv (hf 5 33 (by kernel_rfl))
            have hc := cb _ hw
            exact ⟨.int .u8 bv, by simp [go_sem, e33, hc], rfl⟩
          · refine step_pure rfl fun a u hb hw hf => ?_
            have e31 : a.tmps[31]?.getD undef = .int .u8 zv := gdv (hf 3 31 (by kernel_rfl))
            have e34 : a.tmps[34]?.getD undef = .int .u8 bv := gdv (hf 6 34 (by kernel_rfl))
            exact ⟨.int .u8 xv, by simp [go_sem, e31, e34, XV.out], rfl⟩
          · refine step_pure rfl fun a u hb hw hf => ?_
            have e28 : a.tmps[28]?.getD undef = .slice (some ⟨w.heap.size + 1 + 1, 64 * x.1, none⟩) pe pe := gdv (hf 0 28 (by kernel_rfl))
            have e29 : a.tmps[29]?.getD undef = .int .i64 (j : Int) := gdv (hf 1 29 (by kernel_rfl))
            exact ⟨.pointer (some ⟨w.heap.size + 1 + 1, pz, none⟩), by simp [go_sem, e28, e29, jpe, epz], rfl⟩
        · intro a u hb' hw' hf
          have e36 : a.tmps[36]?.getD undef = .pointer (some ⟨w.heap.size + 1 + 1, pz, none⟩) := gdv (hf 8 36 (by kernel_rfl))
          have e35 : a.tmps[35]?.getD undef = .int .u8 xv := gdv (hf 7 35 (by kernel_rfl))
          have hcz := cz u hw'
          have hfz := (hT.up hw').free pz
          have O2 := Only.setCell u (w.heap.size + 1 + 1) pz (.int .u8 xv)
          have T2 := (hT.up hw').store pz xv
          have K2 := (hK.up hw').of_block (O2.block bq (by omega))
          have U2 : ∀ b, b < W.heap.size → b ≠ w.heap.size + 1 + 1 → (u.setCell ⟨w.heap.size + 1 + 1, pz, none⟩ (.int .u8 xv)).heap[b]? = W.heap[b]? := fun b h1 h2 => (O2.block b h2).trans ((hw'.block b (by omega)).trans (hO b h1 h2))
          have F2 : KeepsFrom w6.heap.size W (u.setCell ⟨w.heap.size + 1 + 1, pz, none⟩ (.int .u8 xv)) := (hF.trans (keeps_below hw')).trans ((KeepsOthers.setCell _ _ _).from _)
          have s2 := O2.size
          have s1 := hw'.size
          have N2 := hN.trans ((hw'.mono hN.size).trans (O2.below (B := w.heap.size) (by omega)))
          obtain ⟨vs', hvs'⟩ : ∃ vs : Nat → Value, ∀ d, a.tmps.getD d undef = vs d := ⟨_, fun _ => rfl⟩
          have ea := puts_of (md := .any) (n := 41) (k := 9) (by kernel_rfl) rfl hb' vs' hvs'
          unfold Oper.wp
          simp [go_sem, e36, e35, hcz, hfz]
          rw [ea]
          clear ea hvs' e36 e35 hf hb' hcz hfz cz cb
          simp only [puts, Act.put, List.setIfInBounds_toArray, List.set_cons_succ, List.set_cons_zero]
          generalize u.setCell ⟨w.heap.size + 1 + 1, pz, none⟩ (.int .u8 xv) = W2 at *
          gi_wp2
          go_roundw
          case rel => exact ⟨j + 1, us.set pz xv, by omega, by go_num, XS, T2, K2, U2, by omega, F2, N2⟩
          case measure => simp [intOf]; omega
      · have jI : ¬ ((j : Int) < (pe : Int)) := by omega
        have HJ := hide (show j = pe by omega)
        have c2 := (World.cell?_of_block (a := ⟨w.heap.size + 1, 0, none⟩) (hO (w.heap.size + 1) (by omega) (by omega))).trans im
        have f2 := (World.frozen?_of_block (a := ⟨w.heap.size + 1, 0, none⟩) (hO (w.heap.size + 1) (by omega) (by omega))).trans nf
        have c3 : (wr.setCell ⟨w.heap.size + 1, 0, none⟩ (.int .i64 (cv + 1))).cell? ⟨w.heap.size + 1, 0, none⟩ = some (.int .i64 (cv + 1)) := World.cell?_setCell_same _ _ _ c2
        have f3 : (wr.setCell ⟨w.heap.size + 1, 0, none⟩ (.int .i64 (cv + 1))).frozen? ⟨w.heap.size + 1, 0, none⟩ = false := by rw [frozen_setCell]; exact f2
        have O3 := Only.setCell wr (w.heap.size + 1) 0 (.int .i64 (cv + 1))
        gi_wp2
        have lx : (pre ++ [x]).length = pre.length + 1 := by simp
        have K3 := hF.trans ((KeepsOthers.setCell wr ⟨w.heap.size + 1, 0, none⟩ (.int .i64 (cv + 1))).from w6.heap.size)
        have U3 : ∀ b, b < W.heap.size → b ≠ w.heap.size + 1 + 1 → b ≠ w.heap.size + 1 → (wr.setCell ⟨w.heap.size + 1, 0, none⟩ (.int .i64 (cv + 1))).heap[b]? = W.heap[b]? := fun b h1 h2 h3 => (O3.block b h3).trans (hO b h1 h2)
        have s6 := S6.out
        refine ⟨K3, ⟨U3 _ (by omega) (by omega) (by omega), U3 _ (by omega) (by omega) (by omega)⟩, ?_⟩
        refine ⟨⟨us, by rw [HU.out, xorTo_len]; exact zl, hT.of_block (O3.block (w.heap.size + 1 + 1) (by omega)), fun h => ?_⟩, hs.of_block (U3 w.heap.size (by omega) (by omega) (by omega)), ?_, f3, by have := O3.size; omega, hN.trans (O3.below (by omega))⟩
        · rw [lx, List.map_append, List.range_succ] at h
          obtain ⟨h1', h2'⟩ := List.append_inj' h rfl
          have h3' : x.1 = pre.length := by simpa using h2'
          rw [lx, HU.out, z3 h1', xoG, HBK.out, HCV.out, HJ.out, HPE.out, h3']
        · rw [lx, c3, HCV.out]
          congr 2
          omega
  case done =>
    rintro D xx W hD hS hI hK
    have yl : xx.length = (data.length + 63) / 64 := by have := congrArg List.length hS; simpa using this
    obtain ⟨zs, z1, z2, z3⟩ := hI.told
    rw [← yl] at hS
    have ez := z3 hS
    rw [yl] at ez
    have hdd : w.heap.size + 1 + 1 < D := by have := S6.out; have := YQ.out; omega
    have B9 : Blk (W.putObj D (.deferred none)) (w.heap.size + 1 + 1) .u8 zs := z2.of_block (World.putObj_heap_other (by omega))
    have N9 : Below w.heap.size w (W.putObj D (.deferred none)) := hI.bel.trans (belowK_b (w := w) (Nat.le_refl _) W D _ _ (by omega) hK rfl rfl)
    have EZ := hide ez
    have ZL := hide z1
    clear z1 z2 z3 ez hI yl hS
    go_wp2
    refine ⟨by simp, .inl ⟨_, _, rfl, run_takeDeferred hK, ?_⟩⟩
    exact ⟨_, results_tmp rfl _ _ _, ⟨some ⟨w.heap.size + 1 + 1, 0, none⟩, data.length, w.heap.size + 1 + 1, by rw [← EZ.out, ZL.out]; rfl, by rw [← EZ.out]; exact B9.own0, by simp, by rw [← EZ.out, ZL.out]; exact Nat.le_refl _, by omega⟩, N9⟩
  case stop =>
    rintro D c pre W hD hs h hK
    exact h.elim
end Go.Proofs.YtbdecibgejmelaaDoor

/-
  The program's oneTimeSum and OneTime (written by gens/poe.py).
-/
namespace Go.Proofs.YtbdecibgejmelaaDoor
set_option maxRecDepth 100000
open Go Go.RowKit Go.Shelf
attribute [local go_sem] Oper.semAt_some

/-- The number behind k pieces. -/
def pv (R : Int) (data : List Int) : Nat → Int
  | 0 => 0
  | k + 1 => (pv R data k + pcv ((data.drop (16 * k)).take 16)) * R % PO
/-- What OneTime answers. -/
def otB (key data : List Int) : List Int := fill (byt (pv (rv key) data ((data.length + 15) / 16) % PO + lsum (fun j => key.getD (16 + j) 0) 16)) 16
theorem otB_len (key data : List Int) : (otB key data).length = 16 := fill_len _ _
theorem otB_byt (key data : List Int) : Byt (otB key data) := fill_byt _ _ fun i => by unfold byt; exact ⟨by omega, by omega⟩
/-- Limbs of which something is known. -/
def Fact.kn (p : (Nat → Int) → Prop) : Fact := ⟨fun v _ => ∃ u, v = ag5 u ∧ p u, fun _ h => h⟩
theorem ksettle_K (w : World) (u : Nat → Int) (hu : Kp u) :
    Calls Tryd.prog 111 #[ag5 u] w fun e w' => ∃ v, e = .returned (ag5 v) ∧ (Km v ∧ kv v 5 = kv u 5 % PO) ∧ Below w.heap.size w w' := by
  have hb : ∀ j, 0 ≤ (if j < 5 then u j else 0) ∧ (if j < 5 then u j else 0) < 1073741824 := fun j => by
    split
    · rename_i h; have := hu j h; omega
    · omega
  have h := ksettle_any w (fun j => if j < 5 then u j else 0) hb
  have k := ktl_ok hb
  have e1 : ag5 (fun j => if j < 5 then u j else 0) = ag5 u := by simp [ag5]
  have e2 : kv (fun j => if j < 5 then u j else 0) 5 = kv u 5 := kv_congr 5 (fun j hj => by rw [if_pos hj])
  rw [e1] at h
  rw [e2] at k
  exact h.mono (by rintro e w' ⟨rfl, n⟩; exact ⟨_, rfl, k, n⟩)
theorem Kp.wide {u : Nat → Int} (h : Kp u) : Kw u := fun j hj => by have := h j hj; omega
theorem Km.wide {u : Nat → Int} (h : Km u) : Kw u := fun j hj => by have := h j hj; omega
theorem kadd_K (w : World) (e f : Nat → Int) (he : Kp e) (hf : Km f) :
    Calls Tryd.prog 107 #[ag5 e, ag5 f] w fun r w' => ∃ v, r = .returned (ag5 v) ∧ (Kw v ∧ kv v 5 = kv e 5 + kv f 5) ∧ Below w.heap.size w w' :=
  (kadd_any w e f he.wide hf.wide).mono (by rintro r w' ⟨rfl, n⟩; exact ⟨_, rfl, kad_ok he hf, n⟩)
theorem kmul_K (w : World) (e f : Nat → Int) (he : Kw e) (hf : Km f) :
    Calls Tryd.prog 109 #[ag5 e, ag5 f] w fun r w' => ∃ v, r = .returned (ag5 v) ∧ (Kp v ∧ kv v 5 % PO = kv e 5 * kv f 5 % PO) ∧ Below w.heap.size w w' :=
  (kmul_any w e f he hf).mono (by rintro r w' ⟨rfl, n⟩; exact ⟨_, rfl, kmu_ok he hf, n⟩)
theorem words_hi (key : List Int) : wv (fun j => key.getD j 0) 32 2 + wv (fun j => key.getD j 0) 32 3 * 18446744073709551616 = lsum (fun j => key.getD (16 + j) 0) 16 := by
  simp only [wv, lsum]
  simp
  omega
theorem ksum_K (w : World) (u : Nat → Int) (hu : Km u) (l h V : Int) (hl : 0 ≤ l ∧ l < 18446744073709551616) (hv : kv u 5 + (l + h * 18446744073709551616) = V) :
    Calls Tryd.prog 112 #[ag5 u, .int .u64 l, .int .u64 h] w fun e w' => e = .returned (ag .u8 (fill (byt V) 16)) ∧ Below w.heap.size w w' := by
  have k := ksum_any w u hu l h hl
  have e : fill (b16 (slo u l) (shi u l h)) 16 = fill (byt V) 16 := by
    unfold fill
    refine List.map_congr_left fun i hi => ?_
    have hi' : i < 16 := by simpa using hi
    rw [b16_ok _ _ (by unfold slo; omega) (by unfold slo; omega) i hi', sum_ok hu l h, byt_mod _ i hi', hv]
  rw [e] at k
  exact k
theorem info5 : (Tryd.prog.info? 146).map (·.size) = some 5 := by kernel_rfl
theorem und5 : Tryd.prog.underlying 146 = some (.array 5 144) := by kernel_rfl
def r5 (u : Nat → Int) : List Value := [.int .u64 (u 0), .int .u64 (u 1), .int .u64 (u 2), .int .u64 (u 3), .int .u64 (u 4)]
theorem ag5_r5 (u : Nat → Int) : ag5 u = .agg (r5 u).toArray := rfl
theorem Blk.r5 {w : World} {g : Nat} {u : Nat → Int} (h : Blk w g .u64 [u 0, u 1, u 2, u 3, u 4]) : w.rangeAt g 0 (Go.Proofs.YtbdecibgejmelaaDoor.r5 u) := (Seg.blk h).range
theorem one5 (u : Nat → Int) : (r5 u).toArray.all (·.oneCell') = true := one_ints .u64 [u 0, u 1, u 2, u 3, u 4]
/-- Five cells laid one after the other. -/
def set5 (w : World) (g : Nat) (u : Nat → Int) : World := ((((w.setCell ⟨g, 0, none⟩ (.int .u64 (u 0))).setCell ⟨g, 1, none⟩ (.int .u64 (u 1))).setCell ⟨g, 2, none⟩ (.int .u64 (u 2))).setCell ⟨g, 3, none⟩ (.int .u64 (u 3))).setCell ⟨g, 4, none⟩ (.int .u64 (u 4))
theorem set5_blk {w : World} {g : Nat} {a b c d e : Int} (h : Blk w g .u64 [a, b, c, d, e]) (u : Nat → Int) : Blk (set5 w g u) g .u64 [u 0, u 1, u 2, u 3, u 4] := ((((h.store 0 _).store 1 _).store 2 _).store 3 _).store 4 _
theorem set5_only (w : World) (g : Nat) (u : Nat → Int) : Only g w (set5 w g u) := ((((Only.setCell _ _ _ _).trans (Only.setCell _ _ _ _)).trans (Only.setCell _ _ _ _)).trans (Only.setCell _ _ _ _)).trans (Only.setCell _ _ _ _)
theorem keeps_only {B g : Nat} {W W' : World} (h : Only g W W') (hg : g < B) : KeepsFrom B W W' := ⟨Nat.le_of_eq h.size.symm, fun k o hB hk _ => (h.block k (by omega)).trans hk⟩
/-- Where a list begins. -/
def offOf : Option Addr → Nat
  | none => 0
  | some a => a.off
theorem off_of {w : World} {g : Nat} {a : Option Addr} {k : IntKind} {xs : List Int} (h : Rd w g a k xs) (h0 : 0 < xs.length) : a = some ⟨g, offOf a, none⟩ := by
  obtain ⟨o, rfl, _⟩ := h h0
  rfl
/-- What holds between two rounds. -/
structure OtI (w : World) (q gd gk : Nat) (ad ak : Option Addr) (key data : List Int) (R : Int) (f : Nat → Int) (Z : Nat) (pre : List (PcN16 data.length)) (W : World) : Prop where
  told : ∃ u : Nat → Int, Kp u ∧ Blk W (q + 1) .u64 [u 0, u 1, u 2, u 3, u 4] ∧ (pre.map (·.1) = List.range pre.length → kv u 5 % PO = pv R data pre.length % PO)
  fac : Blk W q .u64 [f 0, f 1, f 2, f 3, f 4]
  res : Blk W w.heap.size .u8 (List.replicate 16 0)
  lst : Rd W gd ad .u8 data
  ky : Rd W gk ak .u8 key
  siz : Z ≤ W.heap.size
  bel : Below w.heap.size w W
theorem otI_own {w : World} {q gd gk : Nat} {ad ak : Option Addr} {key data : List Int} {R : Int} {f : Nat → Int} {Z B : Nat} (hB : w.heap.size ≤ B) : OwnFrom B (OtI w q gd gk ad ak key data R f Z) := by
  intro s W W' row h hg hr
  have hr' : ∀ r, row = some r → ∃ o : Obj, W.heap[r]? = some o ∧ o.isCells = false := fun r e => (hr r e).2
  obtain ⟨u, u1, u2, u3⟩ := h.told
  refine ⟨⟨u, u1, blk_ofK u2 hg hr', u3⟩, blk_ofK h.fac hg hr', blk_ofK h.res hg hr', rd_ofK h.lst hg hr', rd_ofK h.ky hg hr', Nat.le_trans h.siz hg.size, ?_⟩
  exact h.bel.grown hg h.bel.size (fun k e => Nat.le_trans hB (hr k e).1)

set_option maxRecDepth 100000 in
set_option maxHeartbeats 8000000 in
theorem oneTimeSum_any (w : World) (gk : Nat) (ak : Option Addr) (ck : Nat) (key : List Int) (hk : Rd w gk ak .u8 key) (kb : Byt key) (kl : key.length = 32)
    (gd : Nat) (ad : Option Addr) (cd : Nat) (data : List Int) (hd : Rd w gd ad .u8 data) (db : Byt data) (dc : data.length ≤ cd) (dn : data.length ≤ 4194304) :
    Calls Tryd.prog 96 #[.slice ak key.length ck, .slice ad data.length cd] w fun e w' => e = .returned (ag .u8 (otB key data)) ∧ Below w.heap.size w w' := by
  have KL := hide kl
  have DN := hide dn
  have DC := hide dc
  have B0 := blk_y16 w 121
  have n0 : Below w.heap.size w (w.alloc (.cells #[.int .u8 0, .int .u8 0, .int .u8 0, .int .u8 0, .int .u8 0, .int .u8 0, .int .u8 0, .int .u8 0, .int .u8 0, .int .u8 0, .int .u8 0, .int .u8 0, .int .u8 0, .int .u8 0, .int .u8 0, .int .u8 0] 121)) := (Below.refl _ _).alloc (Nat.le_refl _) _
  have s0 : (w.alloc (.cells #[.int .u8 0, .int .u8 0, .int .u8 0, .int .u8 0, .int .u8 0, .int .u8 0, .int .u8 0, .int .u8 0, .int .u8 0, .int .u8 0, .int .u8 0, .int .u8 0, .int .u8 0, .int .u8 0, .int .u8 0, .int .u8 0] 121)).heap.size = w.heap.size + 1 := by simp
  have RF := fun W (n : Below w.heap.size w W) => hide (readFactor_any W gk ak ck key (hk.up n) kb KL.out)
  clear kl dn dc
  refine (callsIn_wide (n := 5)).1 (callsIn_of_wp_marks Tryd.func96 rfl trivial ?_ rfl)
  refine wpIn_wide.2 ?_
  simp only [Tryd.ntmps96, List.size_toArray, List.length_cons, List.length_nil, Nat.reduceAdd, Nat.reduceSub, Array.replicate_succ, Array.replicate_zero, List.push_toArray, List.append_toArray, List.nil_append, List.cons_append]
  go_upto_region 1 with fail
  generalize w.alloc (.cells #[.int .u8 0, .int .u8 0, .int .u8 0, .int .u8 0, .int .u8 0, .int .u8 0, .int .u8 0, .int .u8 0, .int .u8 0, .int .u8 0, .int .u8 0, .int .u8 0, .int .u8 0, .int .u8 0, .int .u8 0, .int .u8 0] 121) = wa at *
  go_wp2_with fail
  refine (RF wa n0).out.mono ?_
  rintro e wb ⟨f, rfl, hf, n1⟩
  have HF := hide hf
  clear hf RF
  have B0 := B0.up n1
  have N1 := nxt n0 n1
  have z1 : w.heap.size + 1 ≤ wb.heap.size := by have := n1.size; omega
  clear n0 n1 s0
  generalize hq : wb.heap.size = q at *
  have n2 : Below wb.heap.size wb (wb.alloc (.cells #[.int .u64 (f 0), .int .u64 (f 1), .int .u64 (f 2), .int .u64 (f 3), .int .u64 (f 4)] 146)) := (Below.refl _ _).alloc (Nat.le_refl _) _
  have SR := blk_box wb .u64 146 (f 0) (f 1) (f 2) (f 3) (f 4)
  have z3 : (wb.alloc (.cells #[.int .u64 (f 0), .int .u64 (f 1), .int .u64 (f 2), .int .u64 (f 3), .int .u64 (f 4)] 146)).heap.size = q + 1 := by simp [hq]
  rw [hq] at SR
  have B0 := B0.up n2
  have N2 := N1.trans (n2.mono (by omega))
  simp only [ag5]
  go_upto_region 2 with fail
  generalize wb.alloc (.cells #[.int .u64 (f 0), .int .u64 (f 1), .int .u64 (f 2), .int .u64 (f 3), .int .u64 (f 4)] 146) = wc at *
  clear n2 N1
  have n3 : Below wc.heap.size wc (wc.alloc (.cells #[.int .u64 0, .int .u64 0, .int .u64 0, .int .u64 0, .int .u64 0] 146)) := (Below.refl _ _).alloc (Nat.le_refl _) _
  have B3 := blk_box wc .u64 146 0 0 0 0 0
  have z4 : (wc.alloc (.cells #[.int .u64 0, .int .u64 0, .int .u64 0, .int .u64 0, .int .u64 0] 146)).heap.size = q + 1 + 1 := by simp [z3]
  rw [z3] at B3
  go_upto_region 3 with fail
  generalize wc.alloc (.cells #[.int .u64 0, .int .u64 0, .int .u64 0, .int .u64 0, .int .u64 0] 146) = wd at *
  have B0 := B0.up n3
  have B2 := SR.up n3
  have N3 := nxt N2 n3
  clear n3 SR N2 z3
  go_wp2_with fail
  refine (chunk_any16 wd ad data.length cd).mono ?_
  rintro e w6 ⟨rfl, rfl⟩
  have n5 : Below wd.heap.size wd (wd.alloc (.cells #[.slice ad data.length cd] 22)) := (Below.refl _ _).alloc (Nat.le_refl _) _
  have C5 : (wd.alloc (.cells #[.slice ad data.length cd] 22)).cell? ⟨wd.heap.size, 0, none⟩ = some (.slice ad data.length cd) := by simp [World.cell?_alloc_at]
  have z5 : (wd.alloc (.cells #[.slice ad data.length cd] 22)).heap.size = wd.heap.size + 1 := by simp
  generalize wd.alloc (.cells #[.slice ad data.length cd] 22) = w5 at *
  have n6 : Below w5.heap.size w5 (w5.alloc (.cells #[.int .i64 16] 3)) := (Below.refl _ _).alloc (Nat.le_refl _) _
  have C6 : (w5.alloc (.cells #[.int .i64 16] 3)).cell? ⟨w5.heap.size, 0, none⟩ = some (.int .i64 16) := by simp [World.cell?_alloc_at]
  have z6 : (w5.alloc (.cells #[.int .i64 16] 3)).heap.size = w5.heap.size + 1 := by simp
  generalize w5.alloc (.cells #[.int .i64 16] 3) = w6 at *
  rw [z4] at C5 z5 ⊢
  rw [z5] at C6 z6
  have n56 : Below wd.heap.size wd w6 := n5.trans (n6.mono (by omega))
  have N6 : Below w.heap.size w w6 := N3.trans (n56.mono (by omega))
  have I0 : OtI w q gd gk ad ak key data (rv key) f (q + 4) [] w6 :=
    ⟨⟨fun _ => 0, fun _ _ => ⟨Int.le_refl 0, show (0 : Int) ≤ 67109376 by decide⟩, B3.up n56, fun _ => rfl⟩, B2.up n56, B0.up n56, hd.up N6, hk.up N6, by omega, N6⟩
  have D5 : w6.cell? ⟨q + 1 + 1, 0, none⟩ = some (.slice ad data.length cd) := (World.cell?_of_block (a := ⟨q + 1 + 1, 0, none⟩) (n6.block (q + 1 + 1) (by omega))).trans C5
  have S6 : Hid (w6.heap.size = q + 1 + 1 + 1 + 1) := z6
  have HZ := hide z1
  clear n5 n6 n56 C5 z4 z5 z6 N3 N6 B0 B2 B3 hq z1
  go_wp2
  refine (wpIn_wide (n := 5)).1 (wpIn_rangeFunc_ownG (n := 5) rfl (by omega) (gf := 104) (lb := #[.pointer (some ⟨q + 1 + 1, 0, none⟩), .pointer (some ⟨q + 1 + 1 + 1, 0, none⟩)]) rfl trivial (enters_of Tryd.func104 (by kernel_rfl) rfl)
    (chunk_stops16 4 (by omega) (q + 1 + 1) (q + 1 + 1 + 1) gd (offOf ad) data.length cd ad (fun h => off_of hd h) DC.out DN.out w6 (by have := S6.out; omega) (by have := S6.out; omega) D5 C6) KpB.t (KpB.b (by have := S6.out; omega) (by have := S6.out; omega)) (Below.refl _ _) (fun _ => rfl)
    (OtI w q gd gk ad ak key data (rv key) f (q + 4)) (fun _ _ _ => False) (otI_own (by have := S6.out; have := HZ.out; omega)) (fun _ _ _ _ _ h _ _ => h) I0
    (fun x => { tmps := #[.slice ak key.length ck, .slice ad data.length cd, undef, undef, .pointer (some ⟨w.heap.size, 0, none⟩), .pointer (some ⟨q, 0, none⟩), .pointer (some ⟨q + 1, 0, none⟩), .slice (some ⟨gd, offOf ad + 16 * x.1, none⟩) (pcL16 data.length x.1) (pcL16 data.length x.1), undef, .slice ak key.length ck, .agg #[.int .u64 (f 0), .int .u64 (f 1), .int .u64 (f 2), .int .u64 (f 3), .int .u64 (f 4)], .slice ad data.length cd, Value.func (Fn.func 104) #[] #[Value.pointer (some ⟨q + 1 + 1, 0, none⟩), Value.pointer (some ⟨q + 1 + 1 + 1, 0, none⟩)], .slice (some ⟨gd, offOf ad + 16 * x.1, none⟩) (pcL16 data.length x.1) (pcL16 data.length x.1), undef, undef, undef, undef, undef, undef, undef, undef, undef, undef, undef, undef, undef, undef, undef], defers := [] }) ?assign ?body ?done ?stop)
  case assign =>
    intro l x W K hK
    unfold pcE16
    gi_wp2
    exact hK
  case body =>
    rintro l pre x W hI hlen
    obtain ⟨u, uK, uB, u3⟩ := hI.told
    have fB := hI.fac
    have rB := hI.res
    have lr := hI.lst
    have kr' := hI.ky
    have sz := hI.siz
    have be := hI.bel
    clear hI
    have xl := x.2
    have hz := HZ.out
    have ea := off_of hd (show 0 < data.length by omega)
    obtain ⟨pe, hpe⟩ : ∃ e, e = pcL16 data.length x.1 := ⟨_, rfl⟩
    have PL : ((data.drop (16 * x.1)).take 16).length = pe := by rw [hpe, List.length_take, List.length_drop]; unfold pcL16; rfl
    have PR : Rd W gd (some ⟨gd, offOf ad + 16 * x.1, none⟩) .u8 ((data.drop (16 * x.1)).take 16) := by
      have e1 : (data.drop (16 * x.1)).take 16 = (data.drop (16 * x.1)).take pe := by rw [hpe]; unfold pcL16; rw [List.take_eq_take_iff, List.length_drop]; omega
      rw [e1]
      rw [ea] at lr
      exact rd_part lr (16 * x.1) pe (by rw [hpe]; unfold pcL16; omega)
    have PB := byt_part db (16 * x.1) 16
    rw [← hpe]
    clear hpe
    have RP : ∀ v, Below W.heap.size W v → Hid (Calls Tryd.prog 108 #[.slice (some ⟨gd, offOf ad + 16 * x.1, none⟩) pe pe] v fun e w' => ∃ t, e = .returned (ag5 t) ∧ (Km t ∧ kv t 5 = pcv ((data.drop (16 * x.1)).take 16)) ∧ Below v.heap.size v w') := fun v hv => by
      have h := readPiece_any v gd (some ⟨gd, offOf ad + 16 * x.1, none⟩) pe _ (PR.up hv) PB (by rw [List.length_take]; omega)
      rw [PL] at h
      exact h
    obtain ⟨pc, hpc⟩ : ∃ v, v = pcv ((data.drop (16 * x.1)).take 16) := ⟨_, rfl⟩
    simp only [← hpc] at RP
    have HPC := hide hpc
    have UK := hide uK
    have FK := hide HF.out.1
    clear hpc PL PR PB lr
    gi_wp2_with fail
    refine region_store_in 6 _ (fun i => [Fact.eq (ag5 u), Fact.eq (.slice (some ⟨gd, offOf ad + 16 * x.1, none⟩) pe pe), Fact.kn (fun t => Km t ∧ kv t 5 = pc), Fact.kn (fun t => Kw t ∧ kv t 5 = kv u 5 + pc), Fact.eq (ag5 f), Fact.kn (fun t => Kp t ∧ kv t 5 % PO = (kv u 5 + pc) * kv f 5 % PO)].getD i Fact.no) (by kernel_rfl) (by rintro ⟨_, _, h⟩; exact h) (by kernel_rfl) (by kernel_rfl) rfl rfl ?_ ?_
    · skip
      intro i hi
      obtain rfl | rfl | rfl | rfl | rfl | rfl : i = 0 ∨ i = 1 ∨ i = 2 ∨ i = 3 ∨ i = 4 ∨ i = 5 := by omega
      · refine step_load rfl 146 (.tmp 6) rfl (.array 5 144) 5 und5 rfl info5 fun a v hb hw hf => ?_
        exact ⟨q + 1, 0, r5 u, hb.2.2 6 (by kernel_rfl), (uB.up hw).r5, rfl, rfl⟩
      · refine step_pure rfl fun a v hb hw hf => ?_
        have e7 : a.tmps[7]?.getD undef = .slice (some ⟨gd, offOf ad + 16 * x.1, none⟩) pe pe := gdv (hb.2.2 7 (by kernel_rfl))
        exact ⟨.slice (some ⟨gd, offOf ad + 16 * x.1, none⟩) pe pe, by simp [go_sem, e7], rfl⟩
      · refine step_callv rfl 108 _ _ rfl (by kernel_rfl) fun a v hb hw hf => ?_
        have e15 : a.tmps.getD 15 undef = .slice (some ⟨gd, offOf ad + 16 * x.1, none⟩) pe pe := hf 1 15 (by kernel_rfl)
        show Calls Tryd.prog 108 #[a.tmps.getD 15 undef] v _
        rw [e15]
        exact (RP v hw).out.mono (by rintro e w' ⟨t, rfl, h, n⟩; exact ⟨_, rfl, n, t, rfl, h⟩)
      · refine step_callv rfl 107 _ _ rfl (by kernel_rfl) fun a v hb hw hf => ?_
        have e14 : a.tmps.getD 14 undef = ag5 u := hf 0 14 (by kernel_rfl)
        obtain ⟨t, e16, t1, t2⟩ : ∃ t, a.tmps.getD 16 undef = ag5 t ∧ Km t ∧ kv t 5 = pc := hf 2 16 (by kernel_rfl)
        show Calls Tryd.prog 107 #[a.tmps.getD 14 undef, a.tmps.getD 16 undef] v _
        rw [e14, e16]
        exact (kadd_K v u t UK.out t1).mono (by rintro e w' ⟨s, rfl, h, n⟩; exact ⟨_, rfl, n, s, rfl, h.1, by rw [h.2, t2]⟩)
      · refine step_load rfl 146 (.tmp 5) rfl (.array 5 144) 5 und5 rfl info5 fun a v hb hw hf => ?_
        exact ⟨q, 0, r5 f, hb.2.2 5 (by kernel_rfl), (fB.up hw).r5, rfl, rfl⟩
      · refine step_callv rfl 109 _ _ rfl (by kernel_rfl) fun a v hb hw hf => ?_
        have e18 : a.tmps.getD 18 undef = ag5 f := hf 4 18 (by kernel_rfl)
        obtain ⟨t, e17, t1, t2⟩ : ∃ t, a.tmps.getD 17 undef = ag5 t ∧ Kw t ∧ kv t 5 = kv u 5 + pc := hf 3 17 (by kernel_rfl)
        show Calls Tryd.prog 109 #[a.tmps.getD 17 undef, a.tmps.getD 18 undef] v _
        rw [e18, e17]
        exact (kmul_K v t f t1 FK.out).mono (by rintro e w' ⟨s, rfl, h, n⟩; exact ⟨_, rfl, n, s, rfl, h.1, by rw [h.2, t2]⟩)
    · intro a v hb' hw hf
      have e6 : a.eval (.tmp 6) = .pointer (some ⟨q + 1, 0, none⟩) := hb'.2.2 6 (by kernel_rfl)
      obtain ⟨t, e19, t1, t2⟩ : ∃ t, a.tmps.getD 19 undef = ag5 t ∧ Kp t ∧ kv t 5 % PO = (kv u 5 + pc) * kv f 5 % PO := hf 5 19 (by kernel_rfl)
      have T2 := hide t2
      have T1 := hide t1
      clear t1 t2
      obtain ⟨ty, H⟩ := uB.up hw
      have S2 : Blk (v.setRow (q + 1) (r5 t).toArray) (q + 1) .u64 [t 0, t 1, t 2, t 3, t 4] := blk_setRow (k := .u64) (zs := [t 0, t 1, t 2, t 3, t 4]) ⟨ty, H⟩
      have O2 := only_setRow v (q + 1) (r5 t).toArray
      obtain ⟨vs, hvs⟩ : ∃ vs : Nat → Value, ∀ d, a.tmps.getD d undef = vs d := ⟨_, fun _ => rfl⟩
      have ea' := puts_of (md := .any) (n := 29) (k := 6) (by kernel_rfl) rfl hb' vs hvs
      refine wp_store_row 146 (.tmp 6) (.tmp 19) rfl (q + 1) (r5 t).toArray e6 e19 ty _ H (by rw [List.size_toArray]; exact info5) rfl (one5 t) ?_
      show _
      dsimp only [Act.put]
      rw [ea']
      clear ea' hvs e6 e19 hf hb' RP
      simp only [puts, Act.put, List.setIfInBounds_toArray, List.set_cons_succ, List.set_cons_zero]
      have hzs := hw.size
      have U2 : ∀ b, b < W.heap.size → b ≠ q + 1 → (v.setRow (q + 1) (r5 t).toArray).heap[b]? = W.heap[b]? := fun b h1 h2 => (O2.block b h2).trans (hw.block b h1)
      have k2 : KeepsFrom w6.heap.size W (v.setRow (q + 1) (r5 t).toArray) := (keeps_below hw).trans (keeps_only O2 (by have := S6.out; omega))
      have N2 : Below w.heap.size w (v.setRow (q + 1) (r5 t).toArray) := be.trans ((hw.mono be.size).trans (O2.below (by omega)))
      have s2 := O2.size
      generalize v.setRow (q + 1) (r5 t).toArray = W2 at *
      gi_wp2
      have lx : (pre ++ [x]).length = pre.length + 1 := by simp
      refine ⟨k2, ⟨U2 _ (by omega) (by omega), U2 _ (by omega) (by omega)⟩, ?_⟩
      refine ⟨⟨t, T1.out, S2, fun h => ?_⟩, fB.of_block (U2 q (by omega) (by omega)), rB.of_block (U2 w.heap.size (by omega) (by omega)), hd.up N2, hk.up N2, by omega, N2⟩
      rw [lx, List.map_append, List.range_succ] at h
      obtain ⟨h1', h2'⟩ := List.append_inj' h rfl
      have h3' : x.1 = pre.length := by simpa using h2'
      rw [lx, T2.out, HF.out.2, HPC.out, h3', pv, Int.emod_emod, Int.mul_emod, Int.add_emod, u3 h1', ← Int.add_emod, ← Int.mul_emod]
  case done =>
    rintro D xx W hD hS hI hK
    have yl : xx.length = (data.length + 15) / 16 := by have := congrArg List.length hS; simpa using this
    obtain ⟨u, uK, uB, u3⟩ := hI.told
    rw [← yl] at hS
    have ez := u3 hS
    rw [yl] at ez
    have hdd : q + 1 + 1 < D := by have := S6.out; omega
    have hz := HZ.out
    have HUK := hide uK
    have HEZ := hide ez
    have rB := hI.res
    have ky := hI.ky
    have sz := hI.siz
    have be := hI.bel
    have RW : ∀ v, Below W.heap.size W v → Hid (Calls Tryd.prog 110 #[.slice ak key.length ck] v fun e w' => e = .returned (ag4 (wv (fun j => key.getD j 0) 32)) ∧ Below v.heap.size v w') := fun v n => by
      show Calls _ _ _ _ _
      rw [KL.out]
      exact readWords_any v gk ak ck key (ky.up n) kb KL.out
    have WH := hide (words_hi key)
    have wl := wv_lt (a := fun j => key.getD j 0) kb 32 2
    have OV : Hid (otB key data = fill (byt (kv u 5 % PO + (wv (fun j => key.getD j 0) 32 2 + wv (fun j => key.getD j 0) 32 3 * 18446744073709551616))) 16) := by
      show _ = _
      unfold otB
      rw [HEZ.out, WH.out]
    obtain ⟨Wd, hWd⟩ : ∃ v, v = wv (fun j => key.getD j 0) 32 := ⟨_, rfl⟩
    rw [← hWd] at wl OV
    simp only [← hWd] at RW
    clear hI u3 ez hS yl uK hWd WH ky C6 D5 I0 hd hk kb db
    go_wp2_with fail
    refine (RW W (Below.refl _ _)).out.mono ?_
    rintro e Wb ⟨rfl, nb⟩
    clear RW
    have n8 : Below Wb.heap.size Wb (Wb.alloc (.cells #[.int .u64 (Wd 0), .int .u64 (Wd 1), .int .u64 (Wd 2), .int .u64 (Wd 3)] 149)) := (Below.refl _ _).alloc (Nat.le_refl _) _
    have B8 := blk_box4 Wb .u64 149 (Wd 0) (Wd 1) (Wd 2) (Wd 3)
    simp only [ag4]
    go_upto_region 7 with fail
    generalize Wb.alloc (.cells #[.int .u64 (Wd 0), .int .u64 (Wd 1), .int .u64 (Wd 2), .int .u64 (Wd 3)] 149) = Wc at *
    have nc : Below W.heap.size W Wc := nb.trans (n8.mono nb.size)
    have rB := rB.up nc
    have uB := uB.up nc
    have hK := (nc.block D (Array.getElem?_eq_some_iff.1 hK).1).trans hK
    have be := be.trans (nc.mono be.size)
    have sz : q + 4 ≤ Wc.heap.size := Nat.le_trans sz nc.size
    generalize Wb.heap.size = bq at *
    clear nb n8 nc
    obtain ⟨ov, hov⟩ : ∃ v, v = otB key data := ⟨_, rfl⟩
    have OV' : Hid (ov = fill (byt (kv u 5 % PO + (Wd 2 + Wd 3 * 18446744073709551616))) 16) := by show _ = _; rw [hov]; exact OV.out
    have OL : Hid ((ov.map (Value.int .u8)).length = 16) := by show _ = _; rw [List.length_map, hov]; exact otB_len _ _
    have HOV := hide hov
    clear hov OV
    refine region_store 7 _ (fun i => [Fact.eq (ag5 u), Fact.kn (fun t => Km t ∧ kv t 5 = kv u 5 % PO), Fact.eq (.pointer (some ⟨bq, 2, none⟩)), Fact.eq (.int .u64 (Wd 2)), Fact.eq (.pointer (some ⟨bq, 3, none⟩)), Fact.eq (.int .u64 (Wd 3)), Fact.eq (ag .u8 ov)].getD i Fact.no) (by kernel_rfl) (by kernel_rfl) rfl rfl ?_ ?_
    · intro i hi
      obtain rfl | rfl | rfl | rfl | rfl | rfl | rfl : i = 0 ∨ i = 1 ∨ i = 2 ∨ i = 3 ∨ i = 4 ∨ i = 5 ∨ i = 6 := by omega
      · refine step_load rfl 146 (.tmp 6) rfl (.array 5 144) 5 und5 rfl info5 fun a v hb hw hf => ?_
        exact ⟨q + 1, 0, r5 u, hb.2.2 6 (by kernel_rfl), (uB.up hw).r5, rfl, rfl⟩
      · refine step_callv rfl 111 _ _ rfl (by kernel_rfl) fun a v hb hw hf => ?_
        have e22 : a.tmps.getD 22 undef = ag5 u := hf 0 22 (by kernel_rfl)
        show Calls Tryd.prog 111 #[a.tmps.getD 22 undef] v _
        rw [e22]
        exact (ksettle_K v u HUK.out).mono (by rintro e w' ⟨t, rfl, h, n⟩; exact ⟨_, rfl, n, t, rfl, h⟩)
      · refine step_pure rfl fun a v hb hw hf => ?_
        have e8 : a.tmps[8]?.getD undef = .pointer (some ⟨bq, 0, none⟩) := gdv (hb.2.2 8 (by kernel_rfl))
        exact ⟨.pointer (some ⟨bq, 2, none⟩), by simp [go_sem, e8], rfl⟩
      · refine step_pure rfl fun a v hb hw hf => ?_
        have e24 : a.tmps[24]?.getD undef = .pointer (some ⟨bq, 2, none⟩) := gdv (hf 2 24 (by kernel_rfl))
        have hc : v.cell? ⟨bq, 2, none⟩ = some (.int .u64 (Wd 2)) := (B8.up hw).cell (i := 2) (by simp)
        exact ⟨.int .u64 (Wd 2), by simp [go_sem, e24, hc], rfl⟩
      · refine step_pure rfl fun a v hb hw hf => ?_
        have e8 : a.tmps[8]?.getD undef = .pointer (some ⟨bq, 0, none⟩) := gdv (hb.2.2 8 (by kernel_rfl))
        exact ⟨.pointer (some ⟨bq, 3, none⟩), by simp [go_sem, e8], rfl⟩
      · refine step_pure rfl fun a v hb hw hf => ?_
        have e26 : a.tmps[26]?.getD undef = .pointer (some ⟨bq, 3, none⟩) := gdv (hf 4 26 (by kernel_rfl))
        have hc : v.cell? ⟨bq, 3, none⟩ = some (.int .u64 (Wd 3)) := (B8.up hw).cell (i := 3) (by simp)
        exact ⟨.int .u64 (Wd 3), by simp [go_sem, e26, hc], rfl⟩
      · refine step_callv rfl 112 _ _ rfl (by kernel_rfl) fun a v hb hw hf => ?_
        obtain ⟨t, e23, t1, t2⟩ : ∃ t, a.tmps.getD 23 undef = ag5 t ∧ Km t ∧ kv t 5 = kv u 5 % PO := hf 1 23 (by kernel_rfl)
        have e25 : a.tmps.getD 25 undef = .int .u64 (Wd 2) := hf 3 25 (by kernel_rfl)
        have e27 : a.tmps.getD 27 undef = .int .u64 (Wd 3) := hf 5 27 (by kernel_rfl)
        show Calls Tryd.prog 112 #[a.tmps.getD 23 undef, a.tmps.getD 25 undef, a.tmps.getD 27 undef] v _
        rw [e23, e25, e27]
        have h := ksum_K v t t1 (Wd 2) (Wd 3) _ wl rfl
        rw [t2, ← OV'.out] at h
        exact h.mono (by rintro e w' ⟨rfl, n⟩; exact ⟨_, rfl, n, rfl⟩)
    · intro a v hb' hw hf
      have e4 : a.eval (.tmp 4) = .pointer (some ⟨w.heap.size, 0, none⟩) := hb'.2.2 4 (by kernel_rfl)
      have e28 : a.eval (.tmp 28) = .agg (ov.map (Value.int .u8)).toArray := hf 6 28 (by kernel_rfl)
      obtain ⟨ty, H⟩ := rB.up hw
      have SR := setRow_heap v w.heap.size _ (ov.map (Value.int .u8)).toArray _ _ H
      have O2 := only_setRow v w.heap.size (ov.map (Value.int .u8)).toArray
      have O := one_ints .u8 ov
      obtain ⟨vs, hvs⟩ : ∃ vs : Nat → Value, ∀ d, a.tmps.getD d undef = vs d := ⟨_, fun _ => rfl⟩
      have ea' := puts_of (md := .any) (n := 29) (k := 7) (by kernel_rfl) rfl hb' vs hvs
      have V : Hid (ag .u8 ov = Value.agg (ov.map (Value.int .u8)).toArray) := rfl
      obtain ⟨vo, hvo⟩ : ∃ v, v = ov.map (Value.int .u8) := ⟨_, rfl⟩
      rw [← hvo] at e28 SR O2 O OL V
      refine wp_store_row 121 (.tmp 4) (.tmp 28) rfl w.heap.size vo.toArray e4 e28 ty _ H (by rw [List.size_toArray, OL.out]; exact infoP16) (by rw [List.size_toArray, List.size_toArray, OL.out]; rfl) O ?_
      dsimp only [Act.put]
      rw [ea']
      clear ea' hvs e4 e28 hf hb'
      simp only [puts, Act.put, List.setIfInBounds_toArray, List.set_cons_succ, List.set_cons_zero]
      have hK2 := (O2.block D (by omega)).trans ((hw.block D (Array.getElem?_eq_some_iff.1 hK).1).trans hK)
      have N2 : Below w.heap.size w (v.setRow w.heap.size vo.toArray) := be.trans ((hw.mono be.size).trans (O2.below (Nat.le_refl _)))
      have N3 : Below w.heap.size w ((v.setRow w.heap.size vo.toArray).putObj D (.deferred none)) := N2.trans (belowK_b (w := w) (Nat.le_refl _) _ D _ _ (by omega) hK2 rfl rfl)
      have SR2 : ((v.setRow w.heap.size vo.toArray).putObj D (.deferred none)).heap[w.heap.size]? = some (.cells vo.toArray ty (0, 0)) := (World.putObj_heap_other (by omega)).trans SR
      generalize v.setRow w.heap.size vo.toArray = W9 at *
      go_wp2
      refine ⟨by simp, .inl ⟨_, _, rfl, run_takeDeferred hK2, ?_⟩⟩
      exact ⟨_, results_cell_row Tryd.results96 _ _ w.heap.size ty vo.toArray (0, 0) (.array 16 5) rfl SR2 undP16 rfl (by rw [List.size_toArray, OL.out]; exact infoP16), by rw [← HOV.out, V.out], N3⟩
  case stop =>
    rintro D c pre W hD hs h hK
    exact h.elim
end Go.Proofs.YtbdecibgejmelaaDoor

/-
  The model's product.
-/
namespace Go.Proofs.YtbdecibgejmelaaDoor
set_option maxRecDepth 100000
open Go.RowKit

theorem Tryd.info2 : (Tryd.prog.info? 2).map (fun i => (i.zero, i.size, i.bytes)) = some (some (.int .i64 0), 1, 8) := by kernel_rfl

set_option maxRecDepth 100000 in
set_option maxHeartbeats 4000000 in
theorem l1Mul_any (w : World) (g g' : Nat) (a b : Option Addr) (ca cb : Nat) (xs us : List Int) (ha : Rd w g a .u8 xs) (hb : Rd w g' b .u8 us) (hx : Byt xs) (hu : Byt us)
    (hn : xs.length ≤ 4096) (hm : us.length ≤ 4096) :
    Calls Tryd.prog 100 #[.slice a xs.length ca, .slice b us.length cb] w fun e w' => ∃ ys, Canon ys (bval xs * bval us) ∧ NewRow w.heap.size w' e .u8 ys ∧ Below w.heap.size w w' := by
  obtain ⟨i0, hi, hz0, hz1, hz2⟩ := info_parts Tryd.info5
  obtain ⟨j0, ji, jz0, jz1, jz2⟩ := info_parts Tryd.info2
  go_enter Tryd.func100, Tryd.ntmps100
  go_wp2_with (at_make; refine wpList_make_full _ rfl _ _ 153 rfl w.heap.size 2 j0 (.int .i64 0) 1 Tryd.underlying153 ji jz0 jz1 .i64 .i64 _ _ (xs.length + us.length + 1) rfl rfl (by omega) (by omega) (by rw [jz2]; omega) (by unfold maxLen; omega) (Nat.le_refl _) ?_; intro w1 hown hgrow)
  have hB0 := Blk.of_made hown
  have hN0 : Below w.heap.size w w1 := (Below.refl _ _).grown hgrow (Nat.le_refl _) (by simp)
  clear hown hgrow
  go_loopw [6] (fun i wr => ∃ (k : Nat) (cs : List Int), k ≤ xs.length ∧ i = .int .i64 k ∧ ColTo xs us cs (xs.length + us.length + 1) k 0 ∧ Blk wr w.heap.size .i64 cs ∧ Below w.heap.size w wr) (fun i _ => xs.length - (intOf i).toNat)
  case atStart => exact ⟨0, _, Nat.zero_le _, rfl, ColTo.zero xs us _, hB0, hN0⟩
  case round =>
    obtain ⟨k, cs, hk, rfl, hA, hB, hN⟩ := hrel
    by_cases hlt : k < xs.length
    · go_wp2
      go_loopw [7] (fun i wq => ∃ (j : Nat) (qs : List Int), j ≤ us.length ∧ i = .int .i64 j ∧ ColTo xs us qs (xs.length + us.length + 1) k j ∧ Blk wq w.heap.size .i64 qs ∧ Below w.heap.size w wq) (fun i _ => us.length - (intOf i).toNat)
      case atStart => exact ⟨0, cs, Nat.zero_le _, rfl, hA, hB, hN⟩
      case round =>
        obtain ⟨j, qs, hj', rfl, hA2, hB2, hN2⟩ := hrel
        by_cases hjl : j < us.length
        · have R := hA2.step hx hu (by omega)
          have hl := hA2.1
          have qb := hA2.2.1 (k + j)
          rw [if_neg (by omega)] at qb
          have c3 : wr.cell? ⟨w.heap.size, k + j, none⟩ = some (.int .i64 (qs.getD (k + j) 0)) := hB2.cell (by omega)
          have f3 := hB2.free (k + j)
          have S := hB2.store (k + j) (qs.getD (k + j) 0 + dig xs k * dig us j)
          have Sn : ∀ n v, Below w.heap.size w ((wr.drewN n).setCell ⟨w.heap.size, k + j, none⟩ v) := fun n v => (below_drewN hN2 n).setCell (Nat.le_refl _) v
          have d1 := dig_byt hx k
          have d2 := dig_byt hu j
          have u0 : 0 ≤ dig xs k * dig us j := Int.mul_nonneg d1.1 d2.1
          have u1 : dig xs k * dig us j ≤ 65025 := Int.le_trans (Int.mul_le_mul_of_nonneg_right d1.2 d2.1) (Int.mul_le_mul_of_nonneg_left d2.2 (by decide))
          have i1 : (k : Int) + (j : Int) < (xs.length : Int) + (us.length : Int) + 1 := by omega
          have i2 : ((k : Int) + (j : Int)).toNat = k + j := by omega
          have i5 : (0 : Int) ≤ (k : Int) + (j : Int) := by omega
          have i6 : (k : Int) + (j : Int) < ((xs.length + us.length + 1 : Nat) : Int) := by omega
          have ha' := fun n => ha.up (below_drewN hN2 n)
          have hb' := fun n => hb.up (below_drewN hN2 n)
          have L1 : ∀ W, (∃ n, W = wr.drewN n) → Calls Tryd.prog 98 #[.slice a xs.length ca, .int .i64 (k : Int)] W fun e w' => e = .returned (.int .i64 (dig xs k)) ∧ w' = W := by
            rintro W ⟨n, rfl⟩
            have := l1Digit_any (wr.drewN n) g a ca xs (k : Int) (ha' n) hx (by omega) (by omega) (by omega)
            rwa [Int.toNat_natCast] at this
          have L2 : ∀ W, (∃ n, W = wr.drewN n) → Calls Tryd.prog 98 #[.slice b us.length cb, .int .i64 (j : Int)] W fun e w' => e = .returned (.int .i64 (dig us j)) ∧ w' = W := by
            rintro W ⟨n, rfl⟩
            have := l1Digit_any (wr.drewN n) g' b cb us (j : Int) (hb' n) hu (by omega) (by omega) (by omega)
            rwa [Int.toNat_natCast] at this
          have e1 : IntKind.i64.wrap ((k : Int) + (j : Int)) = (k : Int) + (j : Int) := by rw [IntKind.wrap_i64]; omega
          have e2 : IntKind.i64.wrap (dig xs k * dig us j) = dig xs k * dig us j := by rw [IntKind.wrap_i64]; omega
          have e3 : IntKind.i64.wrap (qs.getD (k + j) 0 + dig xs k * dig us j) = qs.getD (k + j) 0 + dig xs k * dig us j := by rw [IntKind.wrap_i64]; omega
          have H1 := hide L1
          have H2 := hide L2
          have R' := hide R
          generalize dig xs k = x at *
          generalize dig us j = y at *
          generalize qs.getD (k + j) 0 = p at *
          clear hA hB hN hA2 hB2 hN2 L1 L2 ha' hb' hl R
          go_wp2
          go_region_with (first | (go_at_call_of 98 (Value.slice a xs.length ca); refine ((unhide H1) _ ?_).mono ?_; exact ⟨1, rfl⟩; rintro e w' ⟨rfl, rfl⟩) | (go_at_call_of 98 (Value.slice b us.length cb); refine ((unhide H2) _ ?_).mono ?_; exact ⟨1, rfl⟩; rintro e w' ⟨rfl, rfl⟩))
          all_goals
            clear e1 e2 e3
            go_wp2
            go_roundw
            case rel => exact ⟨j + 1, _, by omega, by go_num, R'.out, S, Sn 1 _⟩
            case measure => simp [intOf]; omega
        · obtain rfl : j = us.length := by omega
          have R' := hide hA2.row
          clear hA hB hN hA2
          go_wp2
          go_roundw
          case rel => exact ⟨k + 1, _, by omega, by go_num, R'.out, hB2, hN2⟩
          case measure => simp [intOf]; omega
    · obtain rfl : k = xs.length := by omega
      have hlt2 := hB.lt
      have hs := hN.size
      go_wp2_with (at_make; refine wpList_make_full _ rfl _ _ 22 rfl wr.heap.size 5 i0 (.int .u8 0) 1 Tryd.underlying22 hi hz0 hz1 .i64 .i64 _ _ (xs.length + us.length + 1) rfl rfl (by omega) (by omega) (by rw [hz2]; omega) (by unfold maxLen; omega) (Nat.le_refl _) ?_; intro w3 hown hgrow)
      have hB3 := Blk.of_made hown
      have hN3 : Below wr.heap.size wr w3 := (Below.refl _ _).grown hgrow (Nat.le_refl _) (by simp)
      have HC := hide hA
      have hcb := hA.2.1
      have hcl := hide hA.1
      clear hown hgrow hA
      obtain ⟨wv, rfl⟩ : ∃ wv, wv = wr := ⟨_, rfl⟩
      go_loopw [9, 10] (fun q i wq => ∃ (t : Nat) (c : Int) (ys : List Int), t ≤ xs.length + us.length + 1 ∧ i = .int .i64 t ∧ q = .int .i64 c ∧ (0 ≤ c ∧ c ≤ 1099511627776) ∧ OutTo cs ys (xs.length + us.length + 1) t c ∧ Blk wq wv.heap.size .u8 ys ∧ Below wv.heap.size wv wq) (fun _ i _ => xs.length + us.length + 1 - (intOf i).toNat)
      case atStart => exact ⟨0, 0, _, Nat.zero_le _, rfl, rfl, ⟨by omega, by omega⟩, ⟨by simp, byt_zeros _, rfl⟩, hB3, hN3⟩
      case round =>
        obtain ⟨t, c, ys, ht, rfl, rfl, hc, hO, hBq, hNq⟩ := hrel
        by_cases htl : t < xs.length + us.length + 1
        · have R := hide (hO.step htl)
          have hyl := hO.1
          have cb := hcb t
          have cb2 : cs.getD t 0 ≤ 266407425 := by
            have h2 := cb.2
            split at h2 <;> omega
          have cb1 := cb.1
          have c1 : wr.cell? ⟨w.heap.size, t, none⟩ = some (.int .i64 (cs.getD t 0)) := (hNq.cell (p := ⟨w.heap.size, t, none⟩) hlt2).trans (hB.cell (by rw [hcl.out]; exact htl))
          have c2 : wr.cell? ⟨wv.heap.size, xs.length + us.length + 1 - 1 - t, none⟩ = some (.int .u8 (ys.getD (xs.length + us.length + 1 - 1 - t) 0)) := hBq.cell (by omega)
          have f2 := hBq.free (xs.length + us.length + 1 - 1 - t)
          have S := hBq.store (xs.length + us.length + 1 - 1 - t) ((cs.getD t 0 + c) % 256)
          have Sn : Below wv.heap.size wv (wr.setCell ⟨wv.heap.size, xs.length + us.length + 1 - 1 - t, none⟩ (.int .u8 ((cs.getD t 0 + c) % 256))) := hNq.setCell (Nat.le_refl _) _
          obtain ⟨p, hp⟩ : ∃ p : Nat, xs.length + us.length + 1 - 1 - t = p := ⟨_, rfl⟩
          rw [hp] at c2 f2 S Sn R
          have p1 : (xs.length : Int) + (us.length : Int) + 1 - 1 - (t : Int) = (p : Int) := by omega
          have p1' : (xs.length : Int) + (us.length : Int) - (t : Int) = (p : Int) := by omega
          have p2 : (p : Int) < (xs.length : Int) + (us.length : Int) + 1 := by omega
          have i1 : (t : Int) < (xs.length : Int) + (us.length : Int) + 1 := by omega
          generalize cs.getD t 0 = x at *
          have m1 : (x + c) % 256 % 256 = (x + c) % 256 := by omega
          clear hB hN hO hBq hNq hp cb hcb hyl HC hcl
          go_wp2
          go_roundw
          case rel => exact ⟨t + 1, _, _, by omega, by go_num, rfl, ⟨by omega, by omega⟩, R.out, S, Sn⟩
          case measure => simp [intOf]; omega
        · obtain rfl : t = xs.length + us.length + 1 := by omega
          have V := hide (hO.done hc.1 HC.out hx hu)
          have L := hide hO.1
          have hyb := hO.2.1
          clear hO hB hcb hcl HC
          go_wp2_with fail
          rw [← L.out]
          refine (l1Trim_any wr _ _ _ ys hBq.own0.rd hyb (by simp) (Nat.le_refl _) (by rw [L.out]; omega)).mono ?_
          rintro e w4 ⟨zs, C, _, ⟨a1, c1, g1, rfl, o1, q1, q2, q3⟩, n4⟩
          rw [V.out] at C
          have sq := hNq.size
          have nn := nxt (nxt hN hNq) n4
          go_wp2
          go_ret
          exact ⟨zs, C, ⟨_, _, _, rfl, o1, q1, q2, by omega⟩, nn⟩

end Go.Proofs.YtbdecibgejmelaaDoor

/-
  Zeros appended to an owned row of bytes ('append(s, make([]byte, m)...)'), in its room or in a new row. No program in sight.
-/
namespace Go.Proofs.YtbdecibgejmelaaDoor
set_option maxRecDepth 100000
open Go.RowKit

theorem zeroCells_one (v : Value) (m : Nat) : (Builtin.zeroCells #[v] m).toList = List.replicate m v := by
  apply List.ext_getElem
  · simp [Builtin.zeroCells]
  · intro i h1 h2
    simp [Builtin.zeroCells, Nat.mod_one]
theorem run_append_room_zeros {P : Program} (w : World) (t tn ty e : TypeId) (i : TypeInfo) (z : Value) (kq kn : IntKind) (ht : P.underlying t = some (.slice e)) (htn : P.underlying tn = some (.int kn)) (hi : P.info? e = some i) (hz : i.zero = some z)
    (g sLen sCap : Nat) (cur : Array Value) (hg : w.heap[g]? = some (.cells cur e (0, 0))) (m : Nat) (h0 : 0 < m) (hs : 0 < i.size) (h1 : ∀ u ∈ (Builtin.zeroCells z.cells m).toList, u.oneCell' = true)
    (h63 : (m : Int) ≤ 9223372036854775807) (h48 : m * i.bytes ≤ 281474976710656) (hroom : sLen + m ≤ sCap) (hfit : sLen * i.size + (Builtin.zeroCells z.cells m).toList.length ≤ cur.size) :
    (Builtin.append_ #[t, tn] ty #[.slice (some ⟨g, 0, none⟩) sLen sCap, .int kq m]).run P w =
      .ok (.slice (some ⟨g, 0, none⟩) (sLen + m) sCap) (w.setRow g (cur.toList.take (sLen * i.size) ++ (Builtin.zeroCells z.cells m).toList ++ cur.toList.drop (sLen * i.size + (Builtin.zeroCells z.cells m).toList.length)).toArray) := by
  have hst := run_storeCells_at P g (sLen * i.size) e (Builtin.zeroCells z.cells m).toList 0 cur w hg (by simpa using hfit) h1
  simp only [Nat.add_zero] at hst
  have hw : IntKind.i64.wrap (m : Int) = m := by rw [IntKind.wrap_i64]; omega
  have h48i : ¬ (281474976710656 < (m : Int) * (i.bytes : Int)) := by
    rw [← Int.natCast_mul]
    omega
  have hneg : ¬ ((m : Int) < 0) := by omega
  have hm : m ≠ 0 := by omega
  have hns : ¬ (m * i.size = 0) := Nat.mul_ne_zero hm (by omega)
  simp [Builtin.append_, run_underlying ht, run_underlying htn, sizeOf, typeInfo, zeroValue, hi, hz, asInt, asIntOf, hw, hneg, hns, h48i, hroom, Addr.add_lit, hst]
theorem append_zeros_own {P : Program} (w : World) (t tn ty e : TypeId) (i : TypeInfo) (kq kn : IntKind) (ht : P.underlying t = some (.slice e)) (htn : P.underlying tn = some (.int kn)) (hi : P.info? e = some i) (hz : i.zero = some (.int .u8 0)) (hsize : i.size = 1) (hby : i.bytes = 1)
    (base : Nat) (v : Value) (n : Nat) (xs : List Value) (hown : w.ownsRow base e 1 v n xs) (hv : v ≠ .slice none 0 0) (m : Nat) (h0 : 0 < m) (hsm : n + m ≤ 1048576) (hbase : base ≤ w.heap.size) :
    ∃ v' w', (Builtin.append_ #[t, tn] ty #[v, .int kq m]).run P w = .ok v' w' ∧ w'.ownsRow base e 1 v' (n + m) (xs ++ List.replicate m (.int .u8 0)) ∧ w.grownBy w' v.ownBlock ∧ v' ≠ .slice none 0 0 := by
  have hzc : (Value.int .u8 0).cells = #[.int .u8 0] := rfl
  have hzl := zeroCells_one (.int .u8 0) m
  have hlen : (xs ++ List.replicate m (Value.int .u8 0)).length = (n + m) * 1 := by rw [List.length_append, hown.1, List.length_replicate]; omega
  rcases hown.2 with ⟨rfl, rfl⟩ | ⟨g, cap, cur, rfl, hbg, hg, hnc, hcm, hcs, htake⟩
  · exact absurd rfl hv
  · by_cases hroom : n + m ≤ cap
    · have hr := run_append_room_zeros (P := P) w t tn ty e i (.int .u8 0) kq kn ht htn hi hz g n cap cur hg m h0 (by omega) (by rw [hzc, hzl]; intro u hu; rw [(List.mem_replicate.1 hu).2]; rfl) (by omega) (by rw [hby]; omega) hroom (by rw [hzc, hzl, hsize, List.length_replicate]; omega)
      rw [hzc, hzl, hsize, List.length_replicate] at hr
      refine ⟨_, _, hr, ⟨hlen, .inr ⟨g, cap, _, rfl, hbg, setRow_heap w g cur _ e _ hg, hroom, hcm, ?_, ?_⟩⟩, ⟨rfl, rfl, rfl, by simp, fun k _ hk => setRow_other w g k _ (fun e => hk (by simp [Value.ownBlock, e]))⟩, by simp⟩
      · simp only [List.size_toArray, List.length_append, List.length_take, List.length_drop, Array.length_toList, List.length_replicate]
        omega
      · rw [htake, ← hlen]
        exact List.take_left
    · have holds : ∀ j u, xs[j]? = some u → w.drew.cell? ((⟨g, 0, none⟩ : Addr).add j) = some u := hown.cells (g := g) rfl
      have hf := run_firstCells_some (P := P) w.drew i.size n ⟨g, 0, none⟩ n cap xs (by rw [hsize]; exact hown.1) holds
      have hr := Lib.run_append_grow_zeros (P := P) w t tn ty e i (.int .u8 0) kq kn ht htn hi hz (some ⟨g, 0, none⟩) n cap xs hf m h0 (by omega) (by omega) (by omega) (by rw [hby]; omega) (growslice_fits (by omega) (by rw [hby]; omega))
      have hge := grownCap_ge w (n + m) cap e
      have hcm' : grownCap w (n + m) cap e ≤ maxLen := grownCap_le_maxLen w (n + m) cap e (by unfold maxLen; omega)
      refine ⟨_, _, hr, ⟨hlen, .inr ⟨w.heap.size, _, _, rfl, hbase, _root_.Go.heap_alloc_new w.drew _, hge, hcm', ?_, ?_⟩⟩, ⟨rfl, rfl, rfl, by simp, fun k hk _ => _root_.Go.heap_alloc_old w.drew _ hk⟩, by simp⟩
      · have h1 := hown.1
        simp only [Array.size_append, List.size_toArray, size_zeroCells, hzc, h1]
        simp
        omega
      · simp only [Array.toList_append, List.append_assoc]
        rw [← List.append_assoc, ← hlen, hzc, hzl]
        exact List.take_left
end Go.Proofs.YtbdecibgejmelaaDoor

/-
  The model's l1Shift by 130: out of SpO.
-/
namespace Go.Proofs.YtbdecibgejmelaaDoor
set_option maxRecDepth 100000
open Go.RowKit

set_option maxRecDepth 100000 in
set_option maxHeartbeats 400000 in
theorem l1Copy_own (w : World) (g : Nat) (ad : Addr) (cap : Nat) (xs : List Int) (hr : Rd w g (some ad) .u8 xs) (hn : xs.length ≤ 1048576) (h0 : 0 < xs.length) :
    Calls Tryd.prog 37 #[.slice (some ad) xs.length cap] w fun e w' => ∃ v, e = .returned v ∧ v ≠ .slice none 0 0 ∧ w'.ownsRow w.heap.size 5 1 v xs.length (xs.map (Value.int .u8)) ∧ Below w.heap.size w w' := by
  obtain ⟨i0, hi, hz0, hz1, hz2⟩ := info_parts Tryd.info5
  have hown : (w.alloc (.cells #[] 5)).ownsRow w.heap.size 5 1 (.slice (some ⟨w.heap.size, 0, none⟩) 0 0) 0 [] := World.ownsRow_lit w #[] 0 (Nat.le_refl _) (by unfold maxLen; omega) (by simp)
  have hal : Below w.heap.size w (w.alloc (.cells #[] 5)) := (Below.refl _ _).alloc (Nat.le_refl _) _
  have hcell : ∀ j u, (xs.map (Value.int .u8))[j]? = some u → (w.alloc (.cells #[] 5)).cell? (ad.add j) = some u := by
    intro j u hj
    have hjl : j < xs.length := by
      have := (List.getElem?_eq_some_iff.1 hj).1
      simpa using this
    obtain ⟨off, ha, hcc⟩ := (hr.up hal) (by omega)
    simp only [Option.some.injEq] at ha
    subst ha
    rw [Addr.add_mid, hcc j hjl]
    simpa [hjl] using hj
  have hone : ∀ u ∈ xs.map (Value.int .u8), u.oneCell' = true := oneCells _ _
  go_enter Tryd.func37, Tryd.ntmps37
  go_wp2_with (at_builtin; refine wpList_append_own _ rfl _ _ 22 rfl w.heap.size 5 i0 (.int .u8 0) 1 1 Tryd.underlying22 hi hz0 hz1 hz2 rfl (by decide) (.slice (some ⟨w.heap.size, 0, none⟩) 0 0) 0 [] rfl hown ad xs.length cap (xs.map (Value.int .u8)) rfl (by simp) hcell hone (by unfold maxLen; omega) (by omega) (by simp) ?_; intro v' w1 hown' hgrow hnil)
  simp only [Nat.zero_add, List.nil_append] at hown'
  have hB : Below w.heap.size w w1 := hal.grown hgrow (by simp) (by intro k hk; simp [Value.ownBlock] at hk; omega)
  have hv : v' ≠ .slice none 0 0 := fun h => by have := (hnil.1 h).1; simp at this
  clear hgrow hown hnil
  go_wp2
  go_ret
  exact ⟨_, rfl, hv, hown', hB⟩

theorem bval_zeros (xs : List Int) : ∀ m, bval (xs ++ List.replicate m 0) = bval xs * 256 ^ m
  | 0 => by simp
  | m + 1 => by
    rw [List.replicate_succ', ← List.append_assoc, bval_snoc, bval_zeros xs m, Int.pow_succ, Int.mul_assoc]
    omega

theorem byt_addz {xs : List Int} (h : Byt xs) (m : Nat) : Byt (xs ++ List.replicate m 0) := by
  intro i
  by_cases e : i < xs.length
  · have := h i
    simpa [List.getElem?_append, e] using this
  · rw [List.getD_eq_getElem?_getD, List.getElem?_append, if_neg e, List.getElem?_replicate]
    split <;> simp

set_option maxRecDepth 100000 in
set_option maxHeartbeats 1000000 in
theorem l1Shift130_any (w : World) (g : Nat) (ad : Addr) (c : Nat) (xs : List Int) (ha : Rd w g (some ad) .u8 xs) (hb : Byt xs) (hl : xs.length ≤ 64) (h0 : 0 < xs.length) :
    Calls Tryd.prog 84 #[.slice (some ad) xs.length c, .int .i64 130] w fun e w' => ∃ ys, Canon ys (bval xs * 1361129467683753853853498429727072845824) ∧ NewRow w.heap.size w' e .u8 ys ∧ Below w.heap.size w w' := by
  obtain ⟨i0, hi, hz0, hz1, hz2⟩ := info_parts Tryd.info5
  go_enter Tryd.func84, Tryd.ntmps84
  go_wp2_with fail
  refine (l1Copy_own w g ad c xs ha (by omega) h0).mono ?_
  rintro e w1 ⟨v, rfl, hv, o1, n1⟩
  obtain ⟨v', w2, hap, o2, hgr, hv'⟩ := append_zeros_own (P := Tryd.prog) w1 22 3 22 5 i0 .i64 .i64 Tryd.underlying22 Tryd.underlying3 hi hz0 hz1 hz2 w.heap.size v xs.length _ o1 hv 16 (by omega) (by omega) n1.size
  have n2 : Below w.heap.size w w2 := n1.grown hgr (n1.size) (fun i hi => (o1.lt i hi).1)
  have o2' : w2.ownsRow w.heap.size 5 1 v' (xs ++ List.replicate 16 0).length ((xs ++ List.replicate 16 0).map (Value.int .u8)) := by simpa using o2
  obtain ⟨a3, c3, g3, rfl, o3, p3, q3, r3⟩ := Own.of_ownsRow o2'
  have V := hide (bval_zeros xs 16)
  have Z := byt_addz hb 16
  have L : (xs ++ List.replicate 16 (0 : Int)).length ≤ 128 := by simp; omega
  generalize xs ++ List.replicate 16 (0 : Int) = zs at *
  clear o1 o2 o2' hgr hv hv'
  go_wp2_with (at_builtin; refine Lib.wpList_append_run _ rfl _ _ 22 3 rfl _ _ rfl rfl _ _ hap ?_)
  have n3 : Below w2.heap.size w2 (w2.alloc (.cells #[.int .u8 4] 5)) := (Below.refl _ _).alloc (Nat.le_refl _) _
  have B2 : Blk (w2.alloc (.cells #[.int .u8 4] 5)) w2.heap.size .u8 [4] := ⟨5, by rw [heap_alloc_last]; rfl⟩
  generalize w2.alloc (.cells #[.int .u8 4] 5) = w4 at *
  have hb2 : Byt [4] := fun i => by
    match i with
    | 0 => decide
    | i + 1 => simp
  refine (l1Mul_any w4 g3 _ _ _ c3 1 zs [4] (o3.up n3).rd B2.own0.rd Z hb2 (by omega) (by decide)).mono ?_
  rintro e w5 ⟨ys, C, ⟨a5, c5, g5, rfl, o5, p5, q5, r5⟩, n5⟩
  have N5 := nxt (nxt n2 n3) n5
  have z := (nxt n2 n3).size
  have C' : Canon ys (bval xs * 1361129467683753853853498429727072845824) := by
    rw [V.out] at C
    have e1 : bval [4] = 4 := by decide
    have e2 : (256 : Int) ^ 16 * 4 = 1361129467683753853853498429727072845824 := by decide
    rw [e1, Int.mul_assoc, e2] at C
    exact C
  clear hap C
  go_wp2
  go_ret
  exact ⟨ys, C', ⟨a5, c5, g5, rfl, o5, p5, q5, by omega⟩, N5⟩

theorem byt_one {d : Int} (h0 : 0 ≤ d) (h1 : d < 256) : Byt [d] := fun i => by
  match i with
  | 0 => exact ⟨h0, h1⟩
  | i + 1 => simp

end Go.Proofs.YtbdecibgejmelaaDoor

/-
  The model's difference.
-/
namespace Go.Proofs.YtbdecibgejmelaaDoor
set_option maxRecDepth 100000
open Go.RowKit

set_option maxRecDepth 100000 in
set_option maxHeartbeats 2000000 in
theorem l1Sub_any (w : World) (g g' : Nat) (a b : Option Addr) (ca cb : Nat) (xs us : List Int) (ha : Rd w g a .u8 xs) (hb : Rd w g' b .u8 us) (hx : Byt xs) (hu : Byt us)
    (hn : xs.length ≤ 4096) (hm : us.length ≤ xs.length) (hle : bval us ≤ bval xs) :
    Calls Tryd.prog 83 #[.slice a xs.length ca, .slice b us.length cb] w fun e w' => ∃ ys, Canon ys (bval xs - bval us) ∧ NewRow w.heap.size w' e .u8 ys ∧ Below w.heap.size w w' := by
  obtain ⟨i0, hi, hz0, hz1, hz2⟩ := info_parts Tryd.info5
  go_enter Tryd.func83, Tryd.ntmps83
  go_wp2_with (at_make; refine wpList_make_full _ rfl _ _ 22 rfl w.heap.size 5 i0 (.int .u8 0) 1 Tryd.underlying22 hi hz0 hz1 .i64 .i64 _ _ xs.length rfl rfl rfl rfl (by rw [hz2]; omega) (by unfold maxLen; omega) (Nat.le_refl _) ?_; intro w1 hown hgrow)
  have hB0 := Blk.of_made hown
  have hN0 : Below w.heap.size w w1 := (Below.refl _ _).grown hgrow (Nat.le_refl _) (by simp)
  clear hown hgrow
  go_loopw [7, 8] (fun q i wr => ∃ (k : Nat) (c : Int) (ys : List Int), k ≤ xs.length ∧ i = .int .i64 k ∧ q = .int .i64 c ∧ (0 ≤ c ∧ c ≤ 1) ∧ SubTo xs us ys k c ∧ Blk wr w.heap.size .u8 ys ∧ Below w.heap.size w wr) (fun _ i _ => xs.length - (intOf i).toNat)
  case atStart => exact ⟨0, 0, _, Nat.zero_le _, rfl, rfl, ⟨by omega, by omega⟩, ⟨by simp, byt_zeros _, ⟨by omega, by omega⟩, rfl⟩, hB0, hN0⟩
  case round =>
    obtain ⟨k, c, ys, hk, rfl, rfl, hc, hA, hB, hN⟩ := hrel
    by_cases hlt : k < xs.length
    · have R := hA.step hlt
      have hl : ys.length = xs.length := hA.1
      have hS := fun v => hB.store (xs.length - 1 - k) v
      have hSn : ∀ v, Below w.heap.size w (wr.setCell ⟨w.heap.size, xs.length - 1 - k, none⟩ v) := fun v => hN.setCell (Nat.le_refl _) v
      have hcy : wr.cell? ⟨w.heap.size, xs.length - 1 - k, none⟩ = some (.int .u8 (ys.getD (xs.length - 1 - k) 0)) := hB.cell (by omega)
      have hfy := hB.free (xs.length - 1 - k)
      have d1 := dig_byt hx k
      have d2 := dig_byt hu k
      obtain ⟨p, hp⟩ : ∃ p : Nat, xs.length - 1 - k = p := ⟨_, rfl⟩
      rw [hp] at hcy hfy R
      simp only [hp] at hS hSn
      have p1 : (xs.length : Int) - 1 - (k : Int) = (p : Int) := by omega
      have p2 : (p : Int) < (xs.length : Int) := by omega
      have ha' := ha.up hN
      have hb' := hb.up hN
      have R' := hide R
      clear hB hN hA hl hp R
      go_wp2_with fail
      refine (l1Digit_any wr g a ca xs _ ha' hx (by omega) (by omega) (by omega)).mono ?_
      rintro e w' ⟨rfl, rfl⟩
      rw [Int.toNat_natCast]
      go_wp2_with fail
      refine (l1Digit_any w' g' b cb us _ hb' hu (by omega) (by omega) (by omega)).mono ?_
      rintro e w'' ⟨rfl, rfl⟩
      rw [Int.toNat_natCast]
      generalize dig xs k = x at *
      generalize dig us k = y at *
      by_cases hv : x - y - c < 0
      · have tv : decide (x - y - c < 0) = true := by simp; omega
        have m1 : (x - y - c + 256) % 256 = x - y - c + 256 := by omega
        go_wp2
        go_roundw
        case rel => exact ⟨k + 1, _, _, by omega, by go_num, rfl, ⟨by omega, by omega⟩, R'.out (x - y - c + 256) 1 (by omega) (by omega) (by omega) ⟨by omega, by omega⟩, hS _, hSn _⟩
        case measure => simp [intOf]; omega
      · have tv : decide (x - y - c < 0) = false := by simp; omega
        have m1 : (x - y - c) % 256 = x - y - c := by omega
        go_wp2
        go_roundw
        case rel => exact ⟨k + 1, _, _, by omega, by go_num, rfl, ⟨by omega, by omega⟩, R'.out (x - y - c) 0 (by omega) (by omega) (by omega) ⟨by omega, by omega⟩, hS _, hSn _⟩
        case measure => simp [intOf]; omega
    · obtain rfl : k = xs.length := by omega
      have V := hide (hA.done hm hle)
      have L := hide hA.1
      have hyb := hA.2.1
      clear hA
      go_wp2_with fail
      rw [← L.out]
      refine (l1Trim_any wr _ _ _ ys hB.own0.rd hyb (by simp) (Nat.le_refl _) (by rw [L.out]; omega)).mono ?_
      rintro e w2 ⟨zs, C, _, ⟨a1, c1, g1, rfl, o1, q1, q2, q3⟩, n2⟩
      rw [V.out] at C
      go_wp2
      go_ret
      exact ⟨zs, C, ⟨_, _, _, rfl, o1, q1, q2, by have := hN.size; omega⟩, nxt hN n2⟩

end Go.Proofs.YtbdecibgejmelaaDoor

/-
  The model's OneTime (written by gens/pot.py).
-/
namespace Go.Proofs.YtbdecibgejmelaaDoor
set_option maxRecDepth 100000
open Go Go.RowKit

/-- What OneTime answers. -/
def otA (key data : List Int) : List Int := if key.length = 32 then otB key data else []
/-- The factor, byte by byte. -/
def rl (key : List Int) : List Int := fill (fun j => if j < 16 then cl j (key.getD j 0) else 0) 17
theorem rl_len (key : List Int) : (rl key).length = 17 := fill_len _ _
theorem rl_byt {key : List Int} (h : Byt key) : Byt (rl key) := fill_byt _ _ fun i => by
  show 0 ≤ (if i < 16 then cl i (key.getD i 0) else 0) ∧ (if i < 16 then cl i (key.getD i 0) else 0) < 256
  split
  · exact cl_byt i (h i)
  · decide
theorem rl_val (key : List Int) : lsum (fun j => (rl key).getD j 0) 17 = rv key := by
  unfold rl
  rw [lsum_congr 17 (fun j hj => fill_get (fun j => if j < 16 then cl j (key.getD j 0) else 0) 17 j hj), lsum, if_neg (by decide), rv]
  rw [lsum_congr 16 (fun j hj => if_pos hj)]
  omega
theorem UpN.rl {key zs : List Int} (h : UpN 17 (fun j => cl j (key.getD j 0)) (fun _ => 0) zs 16) : zs = Go.Proofs.YtbdecibgejmelaaDoor.rl key := by
  refine eq_of_getD (by rw [h.1, rl_len]) (fun i hi => ?_)
  rw [h.1] at hi
  unfold Go.Proofs.YtbdecibgejmelaaDoor.rl
  rw [fill_get _ _ _ hi]
  by_cases c : i < 16
  · rw [h.2.1 i c, if_pos c]
  · rw [h.2.2 i (by omega) hi, if_neg c]
/-- A piece, and the byte behind it, added. -/
theorem add_piece {ss ts ps : List Int} (pl : ps.length ≤ 16) (h : UpN 17 (fun j => ss.getD j 0 + ps.getD j 0) (fun j => ss.getD j 0) ts ps.length) (sb : Byt ss) (pb' : Byt ps) :
    (∀ j, 0 ≤ (ts.set ps.length (ss.getD ps.length 0 + 1)).getD j 0 ∧ (ts.set ps.length (ss.getD ps.length 0 + 1)).getD j 0 ≤ 512) ∧ (ts.set ps.length (ss.getD ps.length 0 + 1)).length = 17 ∧
    lsum (fun j => (ts.set ps.length (ss.getD ps.length 0 + 1)).getD j 0) 17 = lsum (fun j => ss.getD j 0) 17 + pcv ps := by
  have g : ∀ j, j < 17 → (ts.set ps.length (ss.getD ps.length 0 + 1)).getD j 0 = ss.getD j 0 + 1 * (pb ps).getD j 0 := fun j hj => by
    rw [pb_get pl]
    by_cases e : ps.length = j
    · subst e
      rw [getD_set_self _ _ _ (by rw [h.1]; omega), if_neg (by omega), if_pos rfl]; omega
    · rw [getD_set_ne _ _ _ _ e]
      by_cases c : j < ps.length
      · have e1 := h.2.1 j c
        dsimp only at e1
        rw [e1, if_pos c]; omega
      · have e1 := h.2.2 j (by omega) hj
        dsimp only at e1
        rw [e1, if_neg c, if_neg (by omega)]; omega
  refine ⟨fun j => ?_, by rw [List.length_set]; exact h.1, ?_⟩
  · by_cases hj : j < 17
    · rw [g j hj]
      have := sb j
      have := pb_byt pl pb' j
      omega
    · rw [List.getD_eq_getElem?_getD, List.getElem?_eq_none (by rw [List.length_set, h.1]; omega)]; decide
  · rw [lsum_congr 17 g, lsum_lin, pb_val pl]; omega
/-- A number in a row of its own. -/
def Fact.can (v : Int) : Fact := ⟨fun x W => ∃ (ys : List Int) (a : Option Addr) (c g : Nat), x = .slice a ys.length c ∧ Own W g a .u8 ys ∧ (a = none → c = 0) ∧ ys.length ≤ c ∧ Canon ys v, fun h ⟨ys, a, c, g, e, o, p⟩ => ⟨ys, a, c, g, e, o.up h, p⟩⟩
theorem canon_po {ys : List Int} {v : Int} (h : Canon ys v) (h1 : v < 256 ^ 17) : ys.length ≤ 17 := h.len h1

set_option maxRecDepth 100000 in
set_option maxHeartbeats 16000000 in
theorem specOneTime_any (w : World) (gk : Nat) (ak : Option Addr) (ck : Nat) (key : List Int) (hk : Rd w gk ak .u8 key) (kb : Byt key) (kc : key.length ≤ ck)
    (gd : Nat) (ad : Option Addr) (cd : Nat) (data : List Int) (hd : Rd w gd ad .u8 data) (db : Byt data) (dn : data.length ≤ 4194304) :
    Calls Tryd.prog 72 #[.slice ak key.length ck, .slice ad data.length cd] w fun e w' => NewRow w.heap.size w' e .u8 (otA key data) ∧ Below w.heap.size w w' := by
  by_cases kl : key.length = 32
  · have RS : Hid (otA key data = otB key data) := by show _ = _; unfold otA; rw [if_pos kl]
    rw [RS.out]
    obtain ⟨i0, hi, hz0, hz1, hz2⟩ := info_parts Tryd.info5
    have KL := hide kl
    have KB := hide kb
    have DB := hide db
    obtain ⟨ok, rfl, hkc⟩ := hk (by omega)
    have k32 : (key.length : Int) = 32 := by omega
    have kcI : (key.length : Int) ≤ (ck : Int) := by omega
    have dnI : (data.length : Int) ≤ 4194304 := by omega
    have B0 := blk_i17 w 127
    have n0 : Below w.heap.size w (w.alloc (.cells #[.int .i64 0, .int .i64 0, .int .i64 0, .int .i64 0, .int .i64 0, .int .i64 0, .int .i64 0, .int .i64 0, .int .i64 0, .int .i64 0, .int .i64 0, .int .i64 0, .int .i64 0, .int .i64 0, .int .i64 0, .int .i64 0, .int .i64 0] 127)) := (Below.refl _ _).alloc (Nat.le_refl _) _
    have z0 : (w.alloc (.cells #[.int .i64 0, .int .i64 0, .int .i64 0, .int .i64 0, .int .i64 0, .int .i64 0, .int .i64 0, .int .i64 0, .int .i64 0, .int .i64 0, .int .i64 0, .int .i64 0, .int .i64 0, .int .i64 0, .int .i64 0, .int .i64 0, .int .i64 0] 127)).heap.size = w.heap.size + 1 := by simp
    clear RS kb db hkc kl
    go_enter Tryd.func72, Tryd.ntmps72
    go_upto_region 4 with fail
    generalize w.alloc (.cells #[.int .i64 0, .int .i64 0, .int .i64 0, .int .i64 0, .int .i64 0, .int .i64 0, .int .i64 0, .int .i64 0, .int .i64 0, .int .i64 0, .int .i64 0, .int .i64 0, .int .i64 0, .int .i64 0, .int .i64 0, .int .i64 0, .int .i64 0] 127) = wa at *
    clear k32
    have U0 : UpN 17 (fun j => cl j (key.getD j 0)) (fun _ => 0) (List.replicate 17 0) 0 := ⟨by simp, fun j h => absurd h (by omega), fun j _ hj => by rw [List.getD_eq_getElem?_getD, List.getElem?_replicate, if_pos hj]; rfl⟩
    go_wp2
    go_loopw [6] (fun v wr => ∃ (i : Nat) (zs : List Int), i ≤ 16 ∧ v = .int .i64 i ∧ Hid (UpN 17 (fun j => cl j (key.getD j 0)) (fun _ => 0) zs i) ∧ Blk wr w.heap.size .i64 zs ∧ wr.heap.size = w.heap.size + 1 ∧ Below w.heap.size w wr) (fun v _ => 16 - (intOf v).toNat)
    case atStart => exact ⟨0, _, by omega, rfl, U0, B0, z0, n0⟩
    case round =>
      clear B0 n0 z0 U0
      obtain ⟨i, zs, hi', rfl, hU, hB, hz, hN⟩ := hrel
      by_cases hlt : i < 16
      · have R := hide (hU.out.step (show i < 17 by omega))
        obtain ⟨o', eo, hkc⟩ := (hk.up hN) (by have := KL.out; omega)
        simp only [Option.some.injEq, Addr.mk.injEq, true_and, and_true] at eo
        subst eo
        have cx := hkc i (by have := KL.out; omega)
        have kbi := KB.out i
        have cz := hB.cell (i := i) (by rw [hU.out.1]; omega)
        have fz := hB.free i
        have S1 := fun x => hB.store i x
        have zl := hU.out.1
        have O := fun x => Only.setCell wr w.heap.size i x
        have d1 : (i : Int) < (key.length : Int) := by have := KL.out; omega
        clear hU hkc KL KB DB
        generalize key.getD i 0 = x at *
        rcases (show i = 0 ∨ i = 1 ∨ i = 2 ∨ i = 3 ∨ i = 4 ∨ i = 5 ∨ i = 6 ∨ i = 7 ∨ i = 8 ∨ i = 9 ∨ i = 10 ∨ i = 11 ∨ i = 12 ∨ i = 13 ∨ i = 14 ∨ i = 15 by omega) with rfl | rfl | rfl | rfl | rfl | rfl | rfl | rfl | rfl | rfl | rfl | rfl | rfl | rfl | rfl | rfl
        · have E : Hid (cl 0 x = x) := rfl
          try rw [Nat.add_zero] at cx
          have S2 := S1 x
          have O2 := O (.int .i64 x)
          rw [E.out] at R
          have Sz := O2.size.trans hz
          have Sn := hN.trans (O2.below (B := w.heap.size) (by omega))
          clear S1 O O2 E hB hz hN
          generalize zs.set 0 x = zs' at *
          go_wp2
          go_roundw
          case rel => exact ⟨0 + 1, zs', by omega, by go_num, R, S2, Sz, Sn⟩
          case measure => simp [intOf]
        · have E : Hid (cl 1 x = x) := rfl
          try rw [Nat.add_zero] at cx
          have S2 := S1 x
          have O2 := O (.int .i64 x)
          rw [E.out] at R
          have Sz := O2.size.trans hz
          have Sn := hN.trans (O2.below (B := w.heap.size) (by omega))
          clear S1 O O2 E hB hz hN
          generalize zs.set 1 x = zs' at *
          go_wp2
          go_roundw
          case rel => exact ⟨1 + 1, zs', by omega, by go_num, R, S2, Sz, Sn⟩
          case measure => simp [intOf]
        · have E : Hid (cl 2 x = x) := rfl
          try rw [Nat.add_zero] at cx
          have S2 := S1 x
          have O2 := O (.int .i64 x)
          rw [E.out] at R
          have Sz := O2.size.trans hz
          have Sn := hN.trans (O2.below (B := w.heap.size) (by omega))
          clear S1 O O2 E hB hz hN
          generalize zs.set 2 x = zs' at *
          go_wp2
          go_roundw
          case rel => exact ⟨2 + 1, zs', by omega, by go_num, R, S2, Sz, Sn⟩
          case measure => simp [intOf]
        · have E : Hid (cl 3 x = x % 16) := rfl
          have S2 := (S1 x).store 3 (x % 16)
          rw [List.set_set] at S2
          have c2 := (S1 x).cell (i := 3) (by rw [List.length_set, zl]; omega)
          rw [getD_set_self _ _ _ (by rw [zl]; omega)] at c2
          have f2 := (S1 x).free 3
          have O2 := (O (.int .i64 x)).trans (Only.setCell _ w.heap.size 3 (.int .i64 (x % 16)))
          rw [E.out] at R
          have Sz := O2.size.trans hz
          have Sn := hN.trans (O2.below (B := w.heap.size) (by omega))
          have t1 : x.tmod 16 = x % 16 := Int.tmod_eq_emod_of_nonneg (by omega)
          clear S1 O O2 E hB hz hN
          generalize zs.set 3 (x % 16) = zs' at *
          go_wp2
          go_roundw
          case rel => exact ⟨3 + 1, zs', by omega, by go_num, R, S2, Sz, Sn⟩
          case measure => simp [intOf]
        · have E : Hid (cl 4 x = x - x % 4) := rfl
          have S2 := (S1 x).store 4 (x - x % 4)
          rw [List.set_set] at S2
          have c2 := (S1 x).cell (i := 4) (by rw [List.length_set, zl]; omega)
          rw [getD_set_self _ _ _ (by rw [zl]; omega)] at c2
          have f2 := (S1 x).free 4
          have O2 := (O (.int .i64 x)).trans (Only.setCell _ w.heap.size 4 (.int .i64 (x - x % 4)))
          rw [E.out] at R
          have Sz := O2.size.trans hz
          have Sn := hN.trans (O2.below (B := w.heap.size) (by omega))
          have t1 : x.tmod 4 = x % 4 := Int.tmod_eq_emod_of_nonneg (by omega)
          clear S1 O O2 E hB hz hN
          generalize zs.set 4 (x - x % 4) = zs' at *
          go_wp2
          go_region
          all_goals
            go_wp2
            go_roundw
            case rel => exact ⟨4 + 1, zs', by omega, by go_num, R, S2.drew, Sz, Sn.drew⟩
            case measure => simp [intOf]
        · have E : Hid (cl 5 x = x) := rfl
          try rw [Nat.add_zero] at cx
          have S2 := S1 x
          have O2 := O (.int .i64 x)
          rw [E.out] at R
          have Sz := O2.size.trans hz
          have Sn := hN.trans (O2.below (B := w.heap.size) (by omega))
          clear S1 O O2 E hB hz hN
          generalize zs.set 5 x = zs' at *
          go_wp2
          go_roundw
          case rel => exact ⟨5 + 1, zs', by omega, by go_num, R, S2, Sz, Sn⟩
          case measure => simp [intOf]
        · have E : Hid (cl 6 x = x) := rfl
          try rw [Nat.add_zero] at cx
          have S2 := S1 x
          have O2 := O (.int .i64 x)
          rw [E.out] at R
          have Sz := O2.size.trans hz
          have Sn := hN.trans (O2.below (B := w.heap.size) (by omega))
          clear S1 O O2 E hB hz hN
          generalize zs.set 6 x = zs' at *
          go_wp2
          go_roundw
          case rel => exact ⟨6 + 1, zs', by omega, by go_num, R, S2, Sz, Sn⟩
          case measure => simp [intOf]
        · have E : Hid (cl 7 x = x % 16) := rfl
          have S2 := (S1 x).store 7 (x % 16)
          rw [List.set_set] at S2
          have c2 := (S1 x).cell (i := 7) (by rw [List.length_set, zl]; omega)
          rw [getD_set_self _ _ _ (by rw [zl]; omega)] at c2
          have f2 := (S1 x).free 7
          have O2 := (O (.int .i64 x)).trans (Only.setCell _ w.heap.size 7 (.int .i64 (x % 16)))
          rw [E.out] at R
          have Sz := O2.size.trans hz
          have Sn := hN.trans (O2.below (B := w.heap.size) (by omega))
          have t1 : x.tmod 16 = x % 16 := Int.tmod_eq_emod_of_nonneg (by omega)
          clear S1 O O2 E hB hz hN
          generalize zs.set 7 (x % 16) = zs' at *
          go_wp2
          go_roundw
          case rel => exact ⟨7 + 1, zs', by omega, by go_num, R, S2, Sz, Sn⟩
          case measure => simp [intOf]
        · have E : Hid (cl 8 x = x - x % 4) := rfl
          have S2 := (S1 x).store 8 (x - x % 4)
          rw [List.set_set] at S2
          have c2 := (S1 x).cell (i := 8) (by rw [List.length_set, zl]; omega)
          rw [getD_set_self _ _ _ (by rw [zl]; omega)] at c2
          have f2 := (S1 x).free 8
          have O2 := (O (.int .i64 x)).trans (Only.setCell _ w.heap.size 8 (.int .i64 (x - x % 4)))
          rw [E.out] at R
          have Sz := O2.size.trans hz
          have Sn := hN.trans (O2.below (B := w.heap.size) (by omega))
          have t1 : x.tmod 4 = x % 4 := Int.tmod_eq_emod_of_nonneg (by omega)
          clear S1 O O2 E hB hz hN
          generalize zs.set 8 (x - x % 4) = zs' at *
          go_wp2
          go_region
          all_goals
            go_wp2
            go_roundw
            case rel => exact ⟨8 + 1, zs', by omega, by go_num, R, S2.drew, Sz, Sn.drew⟩
            case measure => simp [intOf]
        · have E : Hid (cl 9 x = x) := rfl
          try rw [Nat.add_zero] at cx
          have S2 := S1 x
          have O2 := O (.int .i64 x)
          rw [E.out] at R
          have Sz := O2.size.trans hz
          have Sn := hN.trans (O2.below (B := w.heap.size) (by omega))
          clear S1 O O2 E hB hz hN
          generalize zs.set 9 x = zs' at *
          go_wp2
          go_roundw
          case rel => exact ⟨9 + 1, zs', by omega, by go_num, R, S2, Sz, Sn⟩
          case measure => simp [intOf]
        · have E : Hid (cl 10 x = x) := rfl
          try rw [Nat.add_zero] at cx
          have S2 := S1 x
          have O2 := O (.int .i64 x)
          rw [E.out] at R
          have Sz := O2.size.trans hz
          have Sn := hN.trans (O2.below (B := w.heap.size) (by omega))
          clear S1 O O2 E hB hz hN
          generalize zs.set 10 x = zs' at *
          go_wp2
          go_roundw
          case rel => exact ⟨10 + 1, zs', by omega, by go_num, R, S2, Sz, Sn⟩
          case measure => simp [intOf]
        · have E : Hid (cl 11 x = x % 16) := rfl
          have S2 := (S1 x).store 11 (x % 16)
          rw [List.set_set] at S2
          have c2 := (S1 x).cell (i := 11) (by rw [List.length_set, zl]; omega)
          rw [getD_set_self _ _ _ (by rw [zl]; omega)] at c2
          have f2 := (S1 x).free 11
          have O2 := (O (.int .i64 x)).trans (Only.setCell _ w.heap.size 11 (.int .i64 (x % 16)))
          rw [E.out] at R
          have Sz := O2.size.trans hz
          have Sn := hN.trans (O2.below (B := w.heap.size) (by omega))
          have t1 : x.tmod 16 = x % 16 := Int.tmod_eq_emod_of_nonneg (by omega)
          clear S1 O O2 E hB hz hN
          generalize zs.set 11 (x % 16) = zs' at *
          go_wp2
          go_roundw
          case rel => exact ⟨11 + 1, zs', by omega, by go_num, R, S2, Sz, Sn⟩
          case measure => simp [intOf]
        · have E : Hid (cl 12 x = x - x % 4) := rfl
          have S2 := (S1 x).store 12 (x - x % 4)
          rw [List.set_set] at S2
          have c2 := (S1 x).cell (i := 12) (by rw [List.length_set, zl]; omega)
          rw [getD_set_self _ _ _ (by rw [zl]; omega)] at c2
          have f2 := (S1 x).free 12
          have O2 := (O (.int .i64 x)).trans (Only.setCell _ w.heap.size 12 (.int .i64 (x - x % 4)))
          rw [E.out] at R
          have Sz := O2.size.trans hz
          have Sn := hN.trans (O2.below (B := w.heap.size) (by omega))
          have t1 : x.tmod 4 = x % 4 := Int.tmod_eq_emod_of_nonneg (by omega)
          clear S1 O O2 E hB hz hN
          generalize zs.set 12 (x - x % 4) = zs' at *
          go_wp2
          go_region
          all_goals
            go_wp2
            go_roundw
            case rel => exact ⟨12 + 1, zs', by omega, by go_num, R, S2.drew, Sz, Sn.drew⟩
            case measure => simp [intOf]
        · have E : Hid (cl 13 x = x) := rfl
          try rw [Nat.add_zero] at cx
          have S2 := S1 x
          have O2 := O (.int .i64 x)
          rw [E.out] at R
          have Sz := O2.size.trans hz
          have Sn := hN.trans (O2.below (B := w.heap.size) (by omega))
          clear S1 O O2 E hB hz hN
          generalize zs.set 13 x = zs' at *
          go_wp2
          go_roundw
          case rel => exact ⟨13 + 1, zs', by omega, by go_num, R, S2, Sz, Sn⟩
          case measure => simp [intOf]
        · have E : Hid (cl 14 x = x) := rfl
          try rw [Nat.add_zero] at cx
          have S2 := S1 x
          have O2 := O (.int .i64 x)
          rw [E.out] at R
          have Sz := O2.size.trans hz
          have Sn := hN.trans (O2.below (B := w.heap.size) (by omega))
          clear S1 O O2 E hB hz hN
          generalize zs.set 14 x = zs' at *
          go_wp2
          go_roundw
          case rel => exact ⟨14 + 1, zs', by omega, by go_num, R, S2, Sz, Sn⟩
          case measure => simp [intOf]
        · have E : Hid (cl 15 x = x % 16) := rfl
          have S2 := (S1 x).store 15 (x % 16)
          rw [List.set_set] at S2
          have c2 := (S1 x).cell (i := 15) (by rw [List.length_set, zl]; omega)
          rw [getD_set_self _ _ _ (by rw [zl]; omega)] at c2
          have f2 := (S1 x).free 15
          have O2 := (O (.int .i64 x)).trans (Only.setCell _ w.heap.size 15 (.int .i64 (x % 16)))
          rw [E.out] at R
          have Sz := O2.size.trans hz
          have Sn := hN.trans (O2.below (B := w.heap.size) (by omega))
          have t1 : x.tmod 16 = x % 16 := Int.tmod_eq_emod_of_nonneg (by omega)
          clear S1 O O2 E hB hz hN
          generalize zs.set 15 (x % 16) = zs' at *
          go_wp2
          go_roundw
          case rel => exact ⟨15 + 1, zs', by omega, by go_num, R, S2, Sz, Sn⟩
          case measure => simp [intOf]
      · obtain rfl : i = 16 := by omega
        have RL := hide hU.out.rl
        rw [RL.out] at hB
        clear hU hlt hi' RL
        have B1 := blk_i17 wr 127
        have n1 : Below wr.heap.size wr (wr.alloc (.cells #[.int .i64 0, .int .i64 0, .int .i64 0, .int .i64 0, .int .i64 0, .int .i64 0, .int .i64 0, .int .i64 0, .int .i64 0, .int .i64 0, .int .i64 0, .int .i64 0, .int .i64 0, .int .i64 0, .int .i64 0, .int .i64 0, .int .i64 0] 127)) := (Below.refl _ _).alloc (Nat.le_refl _) _
        rw [hz] at B1
        have hB' := hB.up n1
        have N1 := hN.trans (n1.mono hN.size)
        clear hB hN
        go_wp2
        try rw [hz]
        simp only [Int.cast_ofNat_Int]
        generalize wr.alloc (.cells #[.int .i64 0, .int .i64 0, .int .i64 0, .int .i64 0, .int .i64 0, .int .i64 0, .int .i64 0, .int .i64 0, .int .i64 0, .int .i64 0, .int .i64 0, .int .i64 0, .int .i64 0, .int .i64 0, .int .i64 0, .int .i64 0, .int .i64 0] 127) = wb at *
        clear n1 hz
        have RLL := hide (rl_len key)
        have RLB := hide (rl_byt KB.out)
        have RLV := hide (rl_val key)
        generalize rl key = fr at *
        go_loopw [8] (fun v wr => ∃ (k : Nat) (ss : List Int), 16 * k < data.length + 16 ∧ v = .int .i64 ((16 * k : Nat) : Int) ∧ Hid (ss.length = 17 ∧ Byt ss ∧ lsum (fun j => ss.getD j 0) 17 % PO = pv (rv key) data k % PO) ∧ Blk wr (w.heap.size + 1) .i64 ss ∧ Blk wr w.heap.size .i64 fr ∧ Below w.heap.size w wr) (fun v _ => data.length + 16 - (intOf v).toNat)
        case atStart =>
          refine ⟨0, _, by omega, rfl, ⟨by simp, fun i => ?_, ?_⟩, B1, hB', N1⟩
          · rw [List.getD_eq_getElem?_getD, List.getElem?_replicate]; split <;> decide
          · have : lsum (fun j => (List.replicate 17 (0 : Int)).getD j 0) 17 = 0 := by decide +kernel
            rw [this]; rfl
        case round =>
          clear B1 hB' N1
          obtain ⟨k, ss, hk16, rfl, hS, hB1, hB0, hN⟩ := hrel
          by_cases hlt : 16 * k < data.length
          · obtain ⟨pe, hpe⟩ : ∃ e, e = pcL16 data.length k := ⟨_, rfl⟩
            have pe1 : pe ≤ 16 := by rw [hpe]; unfold pcL16; omega
            have pe2 : 16 * k + pe ≤ data.length := by rw [hpe]; unfold pcL16; omega
            have pe3 : decide (((16 * k : Nat) : Int) + 16 > (data.length : Int)) = true → pe = data.length - 16 * k := fun h => by rw [hpe]; unfold pcL16; simp at h; omega
            have pe4 : decide (((16 * k : Nat) : Int) + 16 > (data.length : Int)) = false → pe = 16 := fun h => by rw [hpe]; unfold pcL16; simp at h; omega
            have PL : Hid (((data.drop (16 * k)).take 16).length = pe) := by show _ = _; rw [hpe, List.length_take, List.length_drop]; unfold pcL16; rfl
            have PB := hide (byt_part DB.out (16 * k) 16)
            have PG : Hid (∀ j, j < 16 → ((data.drop (16 * k)).take 16).getD j 0 = data.getD (16 * k + j) 0) := fun j hj => part_get data (16 * k) 16 j hj
            have PV : Hid (pv (rv key) data (k + 1) = (pv (rv key) data k + pcv ((data.drop (16 * k)).take 16)) * rv key % PO) := rfl
            obtain ⟨ps, hps⟩ : ∃ p, p = (data.drop (16 * k)).take 16 := ⟨_, rfl⟩
            rw [← hps] at PL PB PG PV
            clear hps hpe
            have ad' := off_of hd (show 0 < data.length by omega)
            have hc' : ∀ W, Below w.heap.size w W → ∀ j, j < data.length → W.cell? ⟨gd, offOf ad + j, none⟩ = some (.int .u8 (data.getD j 0)) := fun W n j hj => by
              obtain ⟨o', e', hcc⟩ := (hd.up n) (by omega)
              have : offOf ad = o' := by rw [e']; rfl
              rw [this]
              exact hcc j hj
            have U0 : UpN 17 (fun j => ss.getD j 0 + ps.getD j 0) (fun j => ss.getD j 0) ss 0 := ⟨hS.out.1, fun j h => absurd h (by omega), fun j _ _ => rfl⟩
            generalize hoa : offOf ad = oa at *
            subst ad'
            clear hoa
            have g16 : ((16 * k : Nat) : Int) < (data.length : Int) := by omega
            have m1 : ((data.length : Int) - ((16 * k : Nat) : Int)) = ((data.length - 16 * k : Nat) : Int) := by omega
            have SB : ∀ j, Hid (0 ≤ ss.getD j 0 ∧ ss.getD j 0 < 256) := fun j => hS.out.2.1 j
            generalize h16 : 16 * k = s16 at *
            have H16 := hide h16
            clear h16
            have HN := hide hN
            have HS := hide hS
            have HB1 := hide hB1
            have HB0 := hide hB0
            have HC := hide hc'
            clear hN hB1 hB0 hc' hS
            have lt16 : (s16 : Int) < 4194304 := by omega
            have w16 : IntKind.i64.wrap ((s16 : Int) + 16) = (s16 : Int) + 16 := by rw [IntKind.wrap_i64]; omega
            by_cases h17 : data.length < s16 + 16
            · obtain rfl : pe = data.length - s16 := pe3 (by simp; omega)
              generalize data.length - s16 = pe at *
              have t17 : decide ((s16 : Int) + 16 > (data.length : Int)) = true := by simp; omega
              have t18 : (data.length : Int) < (s16 : Int) + 16 := by omega
              clear pe3 pe4 h17
              go_wp2
              go_loopw [10] (fun v wq => ∃ (i : Nat) (ts : List Int), i ≤ pe ∧ v = .int .i64 i ∧ Hid (UpN 17 (fun j => ss.getD j 0 + ps.getD j 0) (fun j => ss.getD j 0) ts i) ∧ Blk wq (w.heap.size + 1) .i64 ts ∧ Blk wq w.heap.size .i64 fr ∧ Below w.heap.size w wq) (fun v _ => pe - (intOf v).toNat)
              case atStart => exact ⟨0, ss, by omega, rfl, U0, HB1.out, HB0.out, HN.out⟩
              case round =>
                clear U0 HB1 HB0 HN
                obtain ⟨i, ts, hi', rfl, hU, hB1, hB0, hN⟩ := hrel
                by_cases ilt : i < pe
                · have R := hide (hU.out.step (show i < 17 by omega))
                  have c1 := hB1.cell (i := i) (by rw [hU.out.1]; omega)
                  rw [hU.out.2.2 i (Nat.le_refl _) (by omega)] at c1
                  dsimp only at c1
                  have f1 := hB1.free i
                  have cd1 := HC.out wr hN (s16 + i) (by omega)
                  rw [← PG.out i (by omega)] at cd1
                  have sb := (SB i).out
                  have pbi := PB.out i
                  have S1 := hB1.store i (ss.getD i 0 + ps.getD i 0)
                  have O := Only.setCell wr (w.heap.size + 1) i (.int .i64 (ss.getD i 0 + ps.getD i 0))
                  have S0 := hB0.of_block (O.block _ (by omega))
                  have Sn := hN.trans (O.below (B := w.heap.size) (by omega))
                  have d1 : (s16 : Int) + (i : Int) = ((s16 + i : Nat) : Int) := by omega
                  have d2 : ((s16 + i : Nat) : Int) < (data.length : Int) := by omega
                  have d3 : (i : Int) < 17 := by omega
                  have d4 : (i : Int) < (pe : Int) := by omega
                  have d5 : ((s16 + i : Nat) : Int) < 4194304 := by omega
                  have d6 : IntKind.i64.wrap ((s16 + i : Nat) : Int) = ((s16 + i : Nat) : Int) := by rw [IntKind.wrap_i64]; omega
                  clear hU hB1 hB0 hN O HC PG PB SB HS PV PL RLL RLB RLV DB KB KL
                  generalize ss.getD i 0 = x at *
                  generalize ps.getD i 0 = y at *
                  generalize ts.set i (x + y) = ts' at *
                  generalize s16 + i = si at *
                  obtain ⟨sb0, sb1⟩ := sb
                  obtain ⟨pb0, pb1⟩ := pbi
                  go_wp2
                  go_region
                  all_goals
                    go_wp2
                    go_roundw
                    case rel => exact ⟨i + 1, ts', by omega, by go_num, R, S1.drew, S0.drew, Sn.drew⟩
                    case measure => simp [intOf]; omega
                · obtain rfl : pe = i := by omega
                  have AP := add_piece (ss := ss) (ts := ts) (ps := ps) (by rw [PL.out]; omega) (by rw [PL.out]; exact hU.out) (fun j => (SB j).out) PB.out
                  rw [PL.out] at AP
                  obtain ⟨ap1, ap2, ap3⟩ := AP
                  have c1 := hB1.cell (i := pe) (by rw [hU.out.1]; omega)
                  rw [hU.out.2.2 pe (Nat.le_refl _) (by omega)] at c1
                  dsimp only at c1
                  have f1 := hB1.free pe
                  have sb := (SB pe).out
                  have S1 := hB1.store pe (ss.getD pe 0 + 1)
                  have O := Only.setCell wr (w.heap.size + 1) pe (.int .i64 (ss.getD pe 0 + 1))
                  have S0 := hB0.of_block (O.block _ (by omega))
                  have Sn := hN.trans (O.below (B := w.heap.size) (by omega))
                  have d3 : ((pe : Int) : Int) < 17 := by omega
                  have L1 : Hid (((ts.set pe (ss.getD pe 0 + 1)).map (Value.int .i64)).length = 17) := by show _ = _; rw [List.length_map]; exact ap2
                  have L4 : Hid (((ts.set pe (ss.getD pe 0 + 1)).map (Value.int .i64)).length = 17) := by show _ = _; rw [List.length_map]; exact ap2
                  have L2 : Hid ((fr.map (Value.int .i64)).length = 17) := by show _ = _; rw [List.length_map]; exact RLL.out
                  have TI := fun W => hide (l8Times_any W (ts.set pe (ss.getD pe 0 + 1)) fr ap2 RLL.out ap1 RLB.out)
                  have AP3 := hide ap3
                  clear hU hB1 hB0 hN O ap1 ap2 ap3
                  generalize ts.set pe (ss.getD pe 0 + 1) = vs at *
                  generalize ss.getD pe 0 = x at *
                  go_upto_region 24 with fail
                  generalize wr.setCell ⟨w.heap.size + 1, pe, none⟩ (.int .i64 (x + 1)) = wz at *
                  have RG1 := (Seg.blk S1).range
                  have RG2 := (Seg.blk S0).range
                  have V1 : Hid (ag .i64 vs = Value.agg (vs.map (Value.int .i64)).toArray) := rfl
                  have V2 : Hid (ag .i64 fr = Value.agg (fr.map (Value.int .i64)).toArray) := rfl
                  simp only [V1.out, V2.out] at TI
                  obtain ⟨v1, hv1⟩ : ∃ v, v = vs.map (Value.int .i64) := ⟨_, rfl⟩
                  obtain ⟨v2, hv2⟩ : ∃ v, v = fr.map (Value.int .i64) := ⟨_, rfl⟩
                  rw [← hv1] at L1 RG1
                  rw [← hv2] at L2 RG2
                  simp only [← hv1, ← hv2] at TI
                  clear hv1 hv2 V1 V2 c1 f1
                  go_wp2_with (first
                    | (refine wpList_load_mid rfl 127 (.tmp 7) rfl (w.heap.size + 1) 0 rfl v1 (.array 17 2) RG1 undL rfl (by rw [L1.out]; exact infoL) ?_)
                    | (refine wpList_load_mid rfl 127 (.tmp 5) rfl w.heap.size 0 rfl v2 (.array 17 2) RG2 undL rfl (by rw [L2.out]; exact infoL) ?_))
                  refine (TI wz).out.mono ?_
                  rintro e wy ⟨rs, rfl, hR, ny⟩
                  have HR := hide hR
                  have L3 : Hid ((rs.map (Value.int .i64)).length = 17) := by show _ = _; rw [List.length_map]; exact hR.1
                  clear hR
                  have O5 := one_ints .i64 rs
                  obtain ⟨t5, H5⟩ := S1.up ny
                  have SR := blk_setRow (k := .i64) (zs := rs) ⟨t5, H5⟩
                  have OR := only_setRow wy (w.heap.size + 1) (rs.map (Value.int .i64)).toArray
                  have S0' := (S0.up ny).of_block (OR.block w.heap.size (by omega))
                  have Sn' := (Sn.trans (ny.mono Sn.size)).trans (OR.below (B := w.heap.size) (by omega))
                  have V3 : Hid (ag .i64 rs = Value.agg (rs.map (Value.int .i64)).toArray) := rfl
                  rw [V3.out]
                  obtain ⟨v3, hv3⟩ : ∃ v, v = rs.map (Value.int .i64) := ⟨_, rfl⟩
                  rw [← hv3] at L3 O5 SR OR S0' Sn' ⊢
                  have FIN : Hid (rs.length = 17 ∧ Byt rs ∧ lsum (fun j => rs.getD j 0) 17 % PO = pv (rv key) data (k + 1) % PO) := by
                    refine ⟨HR.out.1, HR.out.2.1, ?_⟩
                    rw [HR.out.2.2, AP3.out, RLV.out, PV.out, Int.emod_emod, Int.mul_emod, Int.add_emod, HS.out.out.2.2, ← Int.add_emod, ← Int.mul_emod]
                  have N16 : Hid (((16 * (k + 1) : Nat) : Int) = (s16 : Int) + 16) := by show _ = _; have := H16.out; omega
                  have N17 : Hid (16 * (k + 1) < data.length + 16) := by show _ < _; have := H16.out; omega
                  clear hv3 V3 TI RG1 RG2 S1 S0 Sn ny HR AP3 L1 L2 HS PV RLV
                  go_wp2_with (refine wpList_store_row rfl 127 (.tmp 7) (.tmp 101) rfl (w.heap.size + 1) v3.toArray rfl rfl t5 _ H5 (by rw [List.size_toArray, L3.out]; exact infoL) (by rw [List.size_toArray, List.size_toArray, L3.out, L4.out]) O5 ?_)
                  go_roundw
                  case rel => exact ⟨k + 1, rs, N17.out, by rw [N16.out], FIN, SR, S0', Sn'⟩
                  case measure => have := H16.out; simp [intOf]; omega
            · obtain rfl : pe = 16 := pe4 (by simp; omega)
              have t17 : decide ((s16 : Int) + 16 > (data.length : Int)) = false := by simp; omega
              have t18 : ¬ (data.length : Int) < (s16 : Int) + 16 := by omega
              clear pe3 pe4 h17
              go_wp2
              go_loopw [10] (fun v wq => ∃ (i : Nat) (ts : List Int), i ≤ 16 ∧ v = .int .i64 i ∧ Hid (UpN 17 (fun j => ss.getD j 0 + ps.getD j 0) (fun j => ss.getD j 0) ts i) ∧ Blk wq (w.heap.size + 1) .i64 ts ∧ Blk wq w.heap.size .i64 fr ∧ Below w.heap.size w wq) (fun v _ => 16 - (intOf v).toNat)
              case atStart => exact ⟨0, ss, by omega, rfl, U0, HB1.out, HB0.out, HN.out⟩
              case round =>
                clear U0 HB1 HB0 HN
                obtain ⟨i, ts, hi', rfl, hU, hB1, hB0, hN⟩ := hrel
                by_cases ilt : i < 16
                · have R := hide (hU.out.step (show i < 17 by omega))
                  have c1 := hB1.cell (i := i) (by rw [hU.out.1]; omega)
                  rw [hU.out.2.2 i (Nat.le_refl _) (by omega)] at c1
                  dsimp only at c1
                  have f1 := hB1.free i
                  have cd1 := HC.out wr hN (s16 + i) (by omega)
                  rw [← PG.out i (by omega)] at cd1
                  have sb := (SB i).out
                  have pbi := PB.out i
                  have S1 := hB1.store i (ss.getD i 0 + ps.getD i 0)
                  have O := Only.setCell wr (w.heap.size + 1) i (.int .i64 (ss.getD i 0 + ps.getD i 0))
                  have S0 := hB0.of_block (O.block _ (by omega))
                  have Sn := hN.trans (O.below (B := w.heap.size) (by omega))
                  have d1 : (s16 : Int) + (i : Int) = ((s16 + i : Nat) : Int) := by omega
                  have d2 : ((s16 + i : Nat) : Int) < (data.length : Int) := by omega
                  have d3 : (i : Int) < 17 := by omega
                  have d4 : (i : Int) < 16 := by omega
                  have d5 : ((s16 + i : Nat) : Int) < 4194304 := by omega
                  have d6 : IntKind.i64.wrap ((s16 + i : Nat) : Int) = ((s16 + i : Nat) : Int) := by rw [IntKind.wrap_i64]; omega
                  clear hU hB1 hB0 hN O HC PG PB SB HS PV PL RLL RLB RLV DB KB KL
                  generalize ss.getD i 0 = x at *
                  generalize ps.getD i 0 = y at *
                  generalize ts.set i (x + y) = ts' at *
                  generalize s16 + i = si at *
                  obtain ⟨sb0, sb1⟩ := sb
                  obtain ⟨pb0, pb1⟩ := pbi
                  go_wp2
                  go_region
                  all_goals
                    go_wp2
                    go_roundw
                    case rel => exact ⟨i + 1, ts', by omega, by go_num, R, S1.drew, S0.drew, Sn.drew⟩
                    case measure => simp [intOf]; omega
                · obtain rfl : i = 16 := by omega
                  have AP := add_piece (ss := ss) (ts := ts) (ps := ps) (by rw [PL.out]; omega) (by rw [PL.out]; exact hU.out) (fun j => (SB j).out) PB.out
                  rw [PL.out] at AP
                  obtain ⟨ap1, ap2, ap3⟩ := AP
                  have c1 := hB1.cell (i := 16) (by rw [hU.out.1]; omega)
                  rw [hU.out.2.2 16 (Nat.le_refl _) (by omega)] at c1
                  dsimp only at c1
                  have f1 := hB1.free 16
                  have sb := (SB 16).out
                  have S1 := hB1.store 16 (ss.getD 16 0 + 1)
                  have O := Only.setCell wr (w.heap.size + 1) 16 (.int .i64 (ss.getD 16 0 + 1))
                  have S0 := hB0.of_block (O.block _ (by omega))
                  have Sn := hN.trans (O.below (B := w.heap.size) (by omega))
                  have d3 : (16 : Int) < 17 := by omega
                  have L1 : Hid (((ts.set 16 (ss.getD 16 0 + 1)).map (Value.int .i64)).length = 17) := by show _ = _; rw [List.length_map]; exact ap2
                  have L4 : Hid (((ts.set 16 (ss.getD 16 0 + 1)).map (Value.int .i64)).length = 17) := by show _ = _; rw [List.length_map]; exact ap2
                  have L2 : Hid ((fr.map (Value.int .i64)).length = 17) := by show _ = _; rw [List.length_map]; exact RLL.out
                  have TI := fun W => hide (l8Times_any W (ts.set 16 (ss.getD 16 0 + 1)) fr ap2 RLL.out ap1 RLB.out)
                  have AP3 := hide ap3
                  clear hU hB1 hB0 hN O ap1 ap2 ap3
                  generalize ts.set 16 (ss.getD 16 0 + 1) = vs at *
                  generalize ss.getD 16 0 = x at *
                  go_upto_region 24 with fail
                  generalize wr.setCell ⟨w.heap.size + 1, 16, none⟩ (.int .i64 (x + 1)) = wz at *
                  have RG1 := (Seg.blk S1).range
                  have RG2 := (Seg.blk S0).range
                  have V1 : Hid (ag .i64 vs = Value.agg (vs.map (Value.int .i64)).toArray) := rfl
                  have V2 : Hid (ag .i64 fr = Value.agg (fr.map (Value.int .i64)).toArray) := rfl
                  simp only [V1.out, V2.out] at TI
                  obtain ⟨v1, hv1⟩ : ∃ v, v = vs.map (Value.int .i64) := ⟨_, rfl⟩
                  obtain ⟨v2, hv2⟩ : ∃ v, v = fr.map (Value.int .i64) := ⟨_, rfl⟩
                  rw [← hv1] at L1 RG1
                  rw [← hv2] at L2 RG2
                  simp only [← hv1, ← hv2] at TI
                  clear hv1 hv2 V1 V2 c1 f1
                  go_wp2_with (first
                    | (refine wpList_load_mid rfl 127 (.tmp 7) rfl (w.heap.size + 1) 0 rfl v1 (.array 17 2) RG1 undL rfl (by rw [L1.out]; exact infoL) ?_)
                    | (refine wpList_load_mid rfl 127 (.tmp 5) rfl w.heap.size 0 rfl v2 (.array 17 2) RG2 undL rfl (by rw [L2.out]; exact infoL) ?_))
                  refine (TI wz).out.mono ?_
                  rintro e wy ⟨rs, rfl, hR, ny⟩
                  have HR := hide hR
                  have L3 : Hid ((rs.map (Value.int .i64)).length = 17) := by show _ = _; rw [List.length_map]; exact hR.1
                  clear hR
                  have O5 := one_ints .i64 rs
                  obtain ⟨t5, H5⟩ := S1.up ny
                  have SR := blk_setRow (k := .i64) (zs := rs) ⟨t5, H5⟩
                  have OR := only_setRow wy (w.heap.size + 1) (rs.map (Value.int .i64)).toArray
                  have S0' := (S0.up ny).of_block (OR.block w.heap.size (by omega))
                  have Sn' := (Sn.trans (ny.mono Sn.size)).trans (OR.below (B := w.heap.size) (by omega))
                  have V3 : Hid (ag .i64 rs = Value.agg (rs.map (Value.int .i64)).toArray) := rfl
                  rw [V3.out]
                  obtain ⟨v3, hv3⟩ : ∃ v, v = rs.map (Value.int .i64) := ⟨_, rfl⟩
                  rw [← hv3] at L3 O5 SR OR S0' Sn' ⊢
                  have FIN : Hid (rs.length = 17 ∧ Byt rs ∧ lsum (fun j => rs.getD j 0) 17 % PO = pv (rv key) data (k + 1) % PO) := by
                    refine ⟨HR.out.1, HR.out.2.1, ?_⟩
                    rw [HR.out.2.2, AP3.out, RLV.out, PV.out, Int.emod_emod, Int.mul_emod, Int.add_emod, HS.out.out.2.2, ← Int.add_emod, ← Int.mul_emod]
                  have N16 : Hid (((16 * (k + 1) : Nat) : Int) = (s16 : Int) + 16) := by show _ = _; have := H16.out; omega
                  have N17 : Hid (16 * (k + 1) < data.length + 16) := by show _ < _; have := H16.out; omega
                  clear hv3 V3 TI RG1 RG2 S1 S0 Sn ny HR AP3 L1 L2 HS PV RLV
                  go_wp2_with (refine wpList_store_row rfl 127 (.tmp 7) (.tmp 101) rfl (w.heap.size + 1) v3.toArray rfl rfl t5 _ H5 (by rw [List.size_toArray, L3.out]; exact infoL) (by rw [List.size_toArray, List.size_toArray, L3.out, L4.out]) O5 ?_)
                  go_roundw
                  case rel => exact ⟨k + 1, rs, N17.out, by rw [N16.out], FIN, SR, S0', Sn'⟩
                  case measure => have := H16.out; simp [intOf]; omega
          · have kk : k = (data.length + 15) / 16 := by omega
            have HV : Hid (lsum (fun j => ss.getD j 0) 17 % PO = pv (rv key) data ((data.length + 15) / 16) % PO) := by show _ = _; rw [← kk]; exact hS.out.2.2
            have SL := hide hS.out.1
            have SBy := hide hS.out.2.1
            have e1 : ¬ ((16 * k : Nat) : Int) < (data.length : Int) := by omega
            obtain ⟨wo, rfl⟩ : ∃ v, v = wr := ⟨_, rfl⟩
            have own0 : (wo.alloc (.cells #[] 5)).ownsRow wo.heap.size 5 1 (.slice (some ⟨wo.heap.size, 0, none⟩) 0 0) 0 [] := World.ownsRow_lit wo #[] 0 (Nat.le_refl _) (by unfold maxLen; omega) (by simp)
            have hal : Below wo.heap.size wo (wo.alloc (.cells #[] 5)) := (Below.refl _ _).alloc (Nat.le_refl _) _
            have wl : w.heap.size + 1 < wo.heap.size := hB1.lt
            clear hS hB0 kk hlt
            generalize 16 * k = s16 at *
            go_wp2
            go_loopw [11, 12] (fun v i wq => ∃ (j : Nat) (t : Int) (nb : List Int), i = .int .i64 t ∧ t + (j : Int) + 1 = 17 ∧ -1 ≤ t ∧ Hid (TurnTo ss nb j ∧ Byt nb) ∧ wq.ownsRow wo.heap.size 5 1 v j (nb.map (Value.int .u8)) ∧ Below wo.heap.size wo wq) (fun _ i _ => (intOf i + 1).toNat)
            case atStart => exact ⟨0, 16, [], rfl, by omega, by omega, ⟨⟨rfl, fun i h => absurd h (by omega)⟩, byt_nil⟩, own0, hal⟩
            case round =>
              clear own0 hal
              obtain ⟨j, t, nb, rfl, ht, ht0, hT, hown, hN2⟩ := hrel
              have hob := hown.lt
              by_cases hlt : 0 ≤ t
              · obtain ⟨p, rfl⟩ := Int.eq_ofNat_of_zero_le hlt
                have cx := (hB1.up hN2).cell (i := p) (by rw [SL.out]; omega)
                have xb := SBy.out p
                have hT' := hide hT.out.1.step
                rw [show ss.length - 1 - j = p by have := SL.out; omega] at hT'
                have hb3 := hide (byt_app1 hT.out.2 (ss.getD p 0) xb.1 xb.2)
                generalize ss.getD p 0 = x at *
                have j1 : (p : Int) < 17 := by omega
                have xm : x % 256 = x := by omega
                have HT := hide ht
                clear ht hT
                go_wp2_with (at_builtin; refine wpList_append_own _ rfl _ _ 22 rfl wo.heap.size 5 i0 (.int .u8 0) 1 1 Tryd.underlying22 hi hz0 hz1 hz2 rfl (by decide) _ j (nb.map (Value.int .u8)) rfl (hown.alloc _) ⟨wr.heap.size, 0, none⟩ 1 1 [.int .u8 x] rfl rfl ?c1 ?c2 ?c3 ?c4 ?c5 ?_)
                case c1 =>
                  intro j u hj
                  match j, hj with
                  | 0, hj => simp at hj; subst hj; simp [Addr.add]
                case c2 => intro u hu; simp at hu; subst hu; rfl
                case c3 => unfold maxLen; have := HT.out; omega
                case c4 => have := HT.out; omega
                case c5 => simp; have := hN2.size; omega
                · intro v' w2 hown2 hgrow _
                  have nA : Below wo.heap.size wo (wr.alloc (.cells #[.int .u8 x] 5)) := hN2.alloc hN2.size _
                  have N2 : Below wo.heap.size wo w2 := nA.grown hgrow (by simp; have := hN2.size; omega) (fun i hi => (hob i hi).1)
                  have hown3 : w2.ownsRow wo.heap.size 5 1 v' (j + 1) ((nb ++ [x]).map (Value.int .u8)) := by simpa using hown2
                  clear hown hown2 hgrow nA hob
                  go_wp2
                  go_roundw
                  case rel => exact ⟨j + 1, (p : Int) - 1, nb ++ [x], rfl, by have := HT.out; omega, by omega, ⟨hT'.out, hb3.out⟩, hown3, N2⟩
                  case measure => simp [intOf]
              · obtain rfl : t = -1 := by omega
                obtain rfl : j = 17 := by omega
                have NL : Hid (nb.length = 17) := hT.out.1.1
                have NV : Hid (bval nb = lsum (fun j => ss.getD j 0) 17) := by
                  have h1 := hT.out.1
                  rw [← SL.out] at h1
                  have h2 := h1.val
                  rw [SL.out] at h2
                  exact h2
                have NB := hide hT.out.2
                have hown' := hown
                rw [← NL.out] at hown'
                obtain ⟨a1, c1, g1, hv, o1, q1, l1, r1⟩ := Own.of_ownsRow hown'
                subst hv
                have N3 : Below w.heap.size w wr := hN.trans (hN2.mono (by omega))
                have wz : w.heap.size ≤ g1 := by omega
                clear hown hown' hT ht ht0 hlt hob hB1 hN hN2 SL SBy r1 wl e1
                have n4 : Below wr.heap.size wr (wr.alloc (.cells #[.int .u8 1] 5)) := (Below.refl _ _).alloc (Nat.le_refl _) _
                have B4 : Blk (wr.alloc (.cells #[.int .u8 1] 5)) wr.heap.size .u8 [1] := ⟨5, by rw [heap_alloc_last]; rfl⟩
                have SH := fun W (h : Blk W wr.heap.size .u8 [1]) => hide (l1Shift130_any W wr.heap.size ⟨wr.heap.size, 0, none⟩ 1 [1] h.own0.rd (byt_one (by omega) (by omega)) (by decide) (by decide))
                go_wp2_with fail
                generalize wr.alloc (.cells #[.int .u8 1] 5) = w4 at *
                refine (SH w4 B4).out.mono ?_
                rintro e w5 ⟨ys, C5, ⟨a5, c5, g5, rfl, o5, p5, q5, r5'⟩, n5⟩
                have N5 := nxt (nxt N3 n4) n5
                have o1 := (o1.up n4).up n5
                have n6 : Below w5.heap.size w5 (w5.alloc (.cells #[.int .u8 5] 5)) := (Below.refl _ _).alloc (Nat.le_refl _) _
                have B6 : Blk (w5.alloc (.cells #[.int .u8 5] 5)) w5.heap.size .u8 [5] := ⟨5, by rw [heap_alloc_last]; rfl⟩
                have b1 : bval [1] = 1 := by decide
                have b5 : bval [5] = 5 := by decide
                rw [b1, Int.one_mul] at C5
                have y17 := C5.len (n := 17) (by decide)
                have y1 : 1 ≤ ys.length := by
                  rcases Nat.eq_zero_or_pos ys.length with h | h
                  · have h1 := C5.2.1
                    rw [List.eq_nil_of_length_eq_zero h] at h1
                    exact absurd h1 (by decide)
                  · exact h
                have SU := fun W (h1 : Own W g5 a5 .u8 ys) (h2 : Blk W w5.heap.size .u8 [5]) => hide (l1Sub_any W g5 w5.heap.size a5 (some ⟨w5.heap.size, 0, none⟩) c5 1 ys [5] h1.rd h2.own0.rd C5.1 (byt_one (by omega) (by omega)) (by omega) (by simpa using y1) (by rw [C5.2.1, b5]; decide))
                rw [C5.2.1, b5] at SU
                clear SH B4 n4 C5 n5 N3
                go_wp2_with fail
                generalize w5.alloc (.cells #[.int .u8 5] 5) = w6 at *
                refine (SU w6 (o5.up n6) B6).out.mono ?_
                rintro e w7 ⟨zs, C7, ⟨a7, c7, g7, rfl, o7, p7, q7, r7⟩, n7⟩
                have N7 := nxt (nxt N5 n6) n7
                have o1 := (o1.up n6).up n7
                have C7' : Canon zs PO := C7
                have HC7 := hide C7'
                have z17 := C7'.len (n := 17) (by decide)
                have Z17 := hide z17
                have kr' := hk.up N7
                clear SU B6 n6 n7 N5 C7 C7' o5 p5 q5 r5' b1 b5 y17 y1 z17
                have KR : Hid (∀ W, Below w7.heap.size w7 W → Rd W gk (some ⟨gk, ok + 16, none⟩) .u8 (key.drop 16)) := fun W n => by
                  have h := rd_part (kr'.up n) 16 16 (by rw [KL.out]; omega)
                  rwa [List.take_of_length_le (by rw [List.length_drop, KL.out]; omega)] at h
                have KD : Hid ((key.drop 16).length = 16) := by show _ = _; rw [List.length_drop, KL.out]
                have KDV : Hid (lsum (fun j => (key.drop 16).getD j 0) 16 = lsum (fun j => key.getD (16 + j) 0) 16) := by
                  show _ = _
                  exact lsum_congr 16 (fun j _ => by simp only [List.getD_eq_getElem?_getD, List.getElem?_drop])
                have KDB := hide (byt_drop KB.out 16)
                have VB : Hid (0 ≤ lsum (fun j => key.getD (16 + j) 0) 16 ∧ lsum (fun j => key.getD (16 + j) 0) 16 < 256 ^ 16) := lsum_bd 16 (fun j _ => KB.out (16 + j))
                obtain ⟨kv', hkv⟩ : ∃ v, v = lsum (fun j => key.getD (16 + j) 0) 16 := ⟨_, rfl⟩
                obtain ⟨mv, hmv⟩ : ∃ v, v = bval nb % PO := ⟨_, rfl⟩
                have RES : Hid (otB key data = fill (byt (mv + kv')) 16) := by show _ = _; unfold otB; rw [hmv, hkv, NV.out, HV.out]
                rw [← hkv] at KDV VB
                have mb : 0 ≤ mv ∧ mv < 1361129467683753853853498429727072845819 := by rw [hmv]; exact ⟨Int.emod_nonneg _ (by decide), Int.emod_lt_of_pos _ (by decide)⟩
                have HMV := hide hmv
                have MB := hide mb
                clear hmv hkv mb NV HV
                have d16 : (16 : Int) ≤ (key.length : Int) := by have := KL.out; omega
                have LE : Hid (key.length - 16 = 16) := by show _ = _; rw [KL.out]
                have ne1 : Hid (¬ ck = 16) := by show ¬ _; have := KL.out; omega
                go_wp2_with fail
                refine region_end 8 (fun i => [Fact.eq (.slice a1 nb.length c1), Fact.eq (.slice a7 zs.length c7), Fact.can mv, Fact.eq (.slice (some ⟨gk, ok, none⟩) key.length ck), Fact.eq (.slice (some ⟨gk, ok + 16, none⟩) 16 (ck - 16)), Fact.can kv', Fact.can (mv + kv'), Fact.can (mv + kv')].getD i Fact.no) (by kernel_rfl) (by kernel_rfl) rfl ?_ ?_
                · intro i hi'
                  obtain rfl | rfl | rfl | rfl | rfl | rfl | rfl | rfl : i = 0 ∨ i = 1 ∨ i = 2 ∨ i = 3 ∨ i = 4 ∨ i = 5 ∨ i = 6 ∨ i = 7 := by omega
                  · refine step_pure rfl fun a u hb hw hf => ?_
                    have e11 : a.tmps[11]?.getD undef = .slice a1 nb.length c1 := gdv (hb.2.2 11 (by kernel_rfl))
                    exact ⟨.slice a1 nb.length c1, by simp [go_sem, e11], rfl⟩
                  · refine step_pure rfl fun a u hb hw hf => ?_
                    have e13 : a.tmps[13]?.getD undef = .slice a7 zs.length c7 := gdv (hb.2.2 13 (by kernel_rfl))
                    exact ⟨.slice a7 zs.length c7, by simp [go_sem, e13], rfl⟩
                  · refine step_callv rfl 86 _ _ rfl (by kernel_rfl) fun a u hb hw hf => ?_
                    have e118 : a.tmps.getD 118 undef = .slice a1 nb.length c1 := hf 0 118 (by kernel_rfl)
                    have e119 : a.tmps.getD 119 undef = .slice a7 zs.length c7 := hf 1 119 (by kernel_rfl)
                    show Calls Tryd.prog 86 #[a.tmps.getD 118 undef, a.tmps.getD 119 undef] u _
                    rw [e118, e119]
                    have h := l1Mod_any u g1 g7 a1 a7 c1 c7 nb zs (o1.up hw).rd (o7.up hw).rd NB.out HC7.out.1 p7 q7 (by rw [NL.out]; omega) (by have := Z17.out; omega) (by rw [HC7.out.2.1]; decide)
                    rw [HC7.out.2.1, ← HMV.out] at h
                    exact h.mono (by rintro e w' ⟨⟨ys, a, c, g, rfl, o, p, q, r, C⟩, n⟩; exact ⟨_, rfl, n, ys, a, c, g, rfl, o, p, q, C⟩)
                  · refine step_pure rfl fun a u hb hw hf => ?_
                    have e0 : a.tmps[0]?.getD undef = .slice (some ⟨gk, ok, none⟩) key.length ck := gdv (hb.2.2 0 (by kernel_rfl))
                    exact ⟨.slice (some ⟨gk, ok, none⟩) key.length ck, by simp [go_sem, e0], rfl⟩
                  · refine step_pure rfl fun a u hb hw hf => ?_
                    have e121 : a.tmps[121]?.getD undef = .slice (some ⟨gk, ok, none⟩) key.length ck := gdv (hf 3 121 (by kernel_rfl))
                    exact ⟨.slice (some ⟨gk, ok + 16, none⟩) 16 (ck - 16), by simp [go_sem, e121, d16, LE.out, ne1.out], rfl⟩
                  · refine step_callv rfl 87 _ _ rfl (by kernel_rfl) fun a u hb hw hf => ?_
                    have e122 : a.tmps.getD 122 undef = .slice (some ⟨gk, ok + 16, none⟩) 16 (ck - 16) := hf 4 122 (by kernel_rfl)
                    show Calls Tryd.prog 87 #[a.tmps.getD 122 undef] u _
                    rw [e122]
                    have h := l2Num_any u gk (some ⟨gk, ok + 16, none⟩) (ck - 16) (key.drop 16) (KR.out u hw) KDB.out (by rw [KD.out]; omega)
                    rw [KD.out, KDV.out] at h
                    exact h.mono (by rintro e w' ⟨ys, C, l, ⟨a, c, g, rfl, o, p, q, r⟩, n⟩; exact ⟨_, rfl, n, ys, a, c, g, rfl, o, p, q, C⟩)
                  · refine step_callv rfl 85 _ _ rfl (by kernel_rfl) fun a u hb hw hf => ?_
                    obtain ⟨ys, x1, y1, z1, e120, R1, -, -, D1⟩ := hf 2 120 (by kernel_rfl)
                    obtain ⟨us, x2, y2, z2, e123, R2, -, -, D2⟩ := hf 5 123 (by kernel_rfl)
                    show Calls Tryd.prog 85 #[a.tmps.getD 120 undef, a.tmps.getD 123 undef] u _
                    rw [e120, e123]
                    have f1 := D1.len (n := 17) (by have := MB.out; omega)
                    have f2 := D2.len (n := 16) VB.out.2
                    have h := l1Add_any u z1 z2 x1 x2 y1 y2 ys us R1.rd R2.rd D1.1 D2.1 (by omega) (by omega)
                    rw [D1.2.1, D2.2.1] at h
                    exact h.mono (by rintro e w' ⟨ys, C, ⟨a, c, g, rfl, o, p, q, r⟩, n⟩; exact ⟨_, rfl, n, ys, a, c, g, rfl, o, p, q, C⟩)
                  · refine step_pure rfl fun a u hb hw hf => ?_
                    obtain ⟨ys, x1, y1, z1, e124, R1, s1, t1, D1⟩ := hf 6 124 (by kernel_rfl)
                    have e124' : a.tmps[124]?.getD undef = .slice x1 ys.length y1 := gdv e124
                    exact ⟨.slice x1 ys.length y1, by simp [go_sem, e124'], ys, x1, y1, z1, rfl, R1, s1, t1, D1⟩
                · intro a w8 hb K8 hF
                  obtain ⟨ts, x8, y8, z8, e14, R8, -, -, D8⟩ := hF 7 14 (by kernel_rfl)
                  obtain ⟨vs', hvs'⟩ : ∃ vs : Nat → Value, ∀ d, a.tmps.getD d undef = vs d := ⟨_, fun _ => rfl⟩
                  have ea := puts_of (md := .any) (n := 127) (k := 8) (by kernel_rfl) rfl hb vs' hvs'
                  have v14 : vs' 14 = .slice x8 ts.length y8 := (hvs' 14).symm.trans e14
                  have t18 := D8.len (n := 18) (by have := MB.out; have := VB.out; have e : (256 : Int) ^ 16 = 340282366920938463463374607431768211456 := by decide
                                                   rw [e] at this
                                                   have e' : (256 : Int) ^ 18 = 22300745198530623141535718272648361505980416 := by decide
                                                   rw [e']; omega)
                  have LT := hide (l1Little_any w8 z8 x8 y8 ts 16 R8.rd D8.1 (by omega) (by omega))
                  have FD : Hid (fill (dig ts) 16 = otB key data) := by
                    show _ = _
                    rw [RES.out]
                    exact fill_congr fun i _ => by rw [dig_of D8.1, D8.2.1]
                  rw [FD.out] at LT
                  rw [ea]
                  clear ea hvs' hF hb e14 t18 D8 R8 RES MB VB KDV KDB KD KR HMV NB NL HC7 Z17 LE ne1 FD
                  simp only [puts, v14, Act.put, List.setIfInBounds_toArray, List.set_cons_succ, List.set_cons_zero]
                  have N8 := nxt N7 K8
                  have s8 := N8.size
                  have OL := hide (otB_len key data)
                  go_wp2_with fail
                  refine LT.out.mono ?_
                  rintro e w9 ⟨rfl, B9, n9⟩
                  go_wp2
                  go_ret
                  exact ⟨⟨some ⟨w8.heap.size, 0, none⟩, 16, w8.heap.size, by rw [OL.out]; rfl, B9.own0, by simp, by rw [OL.out]; exact Nat.le_refl _, s8⟩, nxt N8 n9⟩
  · have RS : Hid (otA key data = []) := by show _ = _; unfold otA; rw [if_neg kl]
    rw [RS.out]
    have k32 : decide ((key.length : Int) = 32) = false := by simp; omega
    go_enter Tryd.func72, Tryd.ntmps72
    go_wp2
    go_ret
    exact ⟨newRow_lit w .u8, (Below.refl _ _).alloc (Nat.le_refl _) _⟩
end Go.Proofs.YtbdecibgejmelaaDoor

/-
  The program's OneTime (written by gens/pou.py).
-/
namespace Go.Proofs.YtbdecibgejmelaaDoor
set_option maxRecDepth 100000
open Go Go.RowKit

end Go.Proofs.YtbdecibgejmelaaDoor

/-
  The program's StreamXor.
-/
namespace Go.Proofs.YtbdecibgejmelaaDoor
set_option maxRecDepth 100000
open Go Go.RowKit

/-- The counters are enough. -/
def hasC (c : Int) (n : Nat) : Bool := decide ((n : Int) ≤ (4294967296 - c) * 64)
theorem hasC_any (w : World) (c : Int) (h0 : 0 ≤ c) (h1 : c ≤ 4294967295) (a : Option Addr) (n cp : Nat) : Calls Tryd.prog 75 #[.int .i64 c, .slice a n cp] w fun e w' => e = .returned (.bool (hasC c n)) ∧ w' = w := by
  have b1 : 0 ≤ 4294967296 - c := by omega
  have b2 : 4294967296 - c ≤ 4294967296 := by omega
  unfold hasC
  go_enter Tryd.func75, Tryd.ntmps75
  go_wp2
  go_ret
  refine ⟨?_, rfl⟩
  show Ending.returned (Value.bool (decide ((n : Int) ≤ (4294967295 - c + 1) * 64))) = _
  rw [show (4294967295 : Int) - c + 1 = 4294967296 - c by omega]
/-- What StreamXor answers. -/
def sxA (key : List Int) (c : Int) (non data : List Int) : List Int :=
  if fitB key c non = true ∧ hasC c data.length = true then xoG (nsW key non) c data ((data.length + 63) / 64) else []
theorem sxA_len (key : List Int) (c : Int) (non data : List Int) (h : data.length ≤ 1048576) : (sxA key c non data).length ≤ 1048576 := by
  unfold sxA
  split
  · rw [xoG_len]; exact h
  · decide
end Go.Proofs.YtbdecibgejmelaaDoor

/-
  The program's sealSum (written by gens/pzb.py).
-/
namespace Go.Proofs.YtbdecibgejmelaaDoor
set_option maxRecDepth 100000
open Go Go.RowKit

/-- The sum of a sealed text, by the words of key and nonce. -/
def ssB (ys extra text : List Int) : List Int := otB ((stB (ys.set 12 0)).take 32) (smd extra text)
theorem ssB_len (ys extra text : List Int) : (ssB ys extra text).length = 16 := otB_len _ _
theorem ssB_byt (ys extra text : List Int) : Byt (ssB ys extra text) := otB_byt _ _
theorem byt_app {xs ys : List Int} (h : Byt xs) (k : Byt ys) : Byt (xs ++ ys) := fun i => by
  rw [List.getD_eq_getElem?_getD, List.getElem?_append]
  split
  · have := h i; rwa [List.getD_eq_getElem?_getD] at this
  · have := k (i - xs.length); rwa [List.getD_eq_getElem?_getD] at this
theorem smd_byt {extra text : List Int} (h : Byt extra) (k : Byt text) : Byt (smd extra text) :=
  byt_app (byt_app (byt_app (byt_app (byt_app h (zpad_byt _)) k) (zpad_byt _)) (len8_byt _)) (len8_byt _)
theorem smd_len (extra text : List Int) : 16 ≤ (smd extra text).length ∧ (smd extra text).length ≤ extra.length + text.length + 46 := by
  have h1 := zpad_len extra.length
  have h2 := zpad_len text.length
  unfold smd
  simp only [List.length_append, len8_len]
  omega
theorem lsts_six (w : World) (t : TypeId) (l0 l1 l2 l3 l4 l5 : Lst) : Lsts (w.alloc (.cells #[.slice l0.a l0.xs.length l0.c, .slice l1.a l1.xs.length l1.c, .slice l2.a l2.xs.length l2.c, .slice l3.a l3.xs.length l3.c, .slice l4.a l4.xs.length l4.c, .slice l5.a l5.xs.length l5.c] t)) w.heap.size [l0, l1, l2, l3, l4, l5] := fun j l hj => by
  have hl : j < 6 := by have := (List.getElem?_eq_some_iff.1 hj).1; simpa using this
  obtain rfl | rfl | rfl | rfl | rfl | rfl : j = 0 ∨ j = 1 ∨ j = 2 ∨ j = 3 ∨ j = 4 ∨ j = 5 := by omega
  all_goals
    simp only [List.getElem?_cons_zero, List.getElem?_cons_succ, Option.some.injEq] at hj
    subst hj
    simp [World.cell?_alloc_at]
theorem rd_take {w : World} {g : Nat} {ys : List Int} (h : Blk w g .u8 ys) (n : Nat) (hn : n ≤ ys.length) : Rd w g (some ⟨g, 0, none⟩) .u8 (ys.take n) :=
  (h.own (xs := ys.take n) 0 (by rw [List.length_take]; omega) (fun i hi => by
    rw [List.length_take] at hi
    rw [Nat.zero_add, List.getD_eq_getElem?_getD, List.getD_eq_getElem?_getD, List.getElem?_take, if_pos (by omega)])).rd
theorem byt_take {ys : List Int} (h : Byt ys) (n : Nat) : Byt (ys.take n) := by
  have := byt_part h 0 n
  rwa [List.drop_zero] at this
set_option maxRecDepth 100000 in
set_option maxHeartbeats 8000000 in
theorem sealSum_any (w : World) (ys : List Int) (hw : Ws ys) (hl : ys.length = 16) (ge : Nat) (ae : Option Addr) (ce : Nat) (ex : List Int) (he : Rd w ge ae .u8 ex) (eb : Byt ex) (en : ae = none → ce = 0)
    (gt : Nat) (at' : Option Addr) (ct : Nat) (tx : List Int) (ht : Rd w gt at' .u8 tx) (tb : Byt tx) (tn : at' = none → ct = 0) (hs : ex.length + tx.length ≤ 4000000) :
    Calls Tryd.prog 78 #[ag .u32 ys, .slice ae ex.length ce, .slice at' tx.length ct] w fun e w' => e = .returned (ag .u8 (ssB ys ex tx)) ∧ Below w.heap.size w w' := by
  have B0 := blk_alloc w .u32 118 ys
  have n0 : Below w.heap.size w (w.alloc (.cells (ys.map (Value.int .u32)).toArray 118)) := (Below.refl _ _).alloc (Nat.le_refl _) _
  have z0 : (w.alloc (.cells (ys.map (Value.int .u32)).toArray 118)).heap.size = w.heap.size + 1 := by simp
  have BA := fun W => hide (block_any W ys hw hl 0 ⟨by omega, by omega⟩)
  have L0 : Hid ((ys.map (Value.int .u32)).length = 16) := by show _ = _; rw [List.length_map]; exact hl
  have VY : Hid (ag .u32 ys = Value.agg (ys.map (Value.int .u32)).toArray) := rfl
  simp only [VY.out] at BA
  rw [VY.out]
  have SSB : Hid (ssB ys ex tx = otB ((stB (ys.set 12 0)).take 32) (smd ex tx)) := rfl
  have SL := hide (ssB_len ys ex tx)
  have KB := hide (stB_byt (ys.set 12 0))
  have KL := hide (stB_len (ys.set 12 0))
  generalize stB (ys.set 12 0) = ks at *
  obtain ⟨vy, hvy⟩ : ∃ v, v = ys.map (Value.int .u32) := ⟨_, rfl⟩
  have RGf : ∀ W, Blk W w.heap.size .u32 ys → W.rangeAt w.heap.size 0 vy := fun W h => by rw [hvy]; exact (Seg.blk h).range
  rw [← hvy] at B0 n0 z0 L0 ⊢
  simp only [← hvy] at BA
  clear hvy VY hw hl
  go_enter Tryd.func78, Tryd.ntmps78
  go_upto_region 1 with fail
  generalize w.alloc (.cells vy.toArray 118) = wa at *
  have B1 := blk_y16 wa 121
  have n1 : Below wa.heap.size wa (wa.alloc (.cells #[.int .u8 0, .int .u8 0, .int .u8 0, .int .u8 0, .int .u8 0, .int .u8 0, .int .u8 0, .int .u8 0, .int .u8 0, .int .u8 0, .int .u8 0, .int .u8 0, .int .u8 0, .int .u8 0, .int .u8 0, .int .u8 0] 121)) := (Below.refl _ _).alloc (Nat.le_refl _) _
  have z1 : (wa.alloc (.cells #[.int .u8 0, .int .u8 0, .int .u8 0, .int .u8 0, .int .u8 0, .int .u8 0, .int .u8 0, .int .u8 0, .int .u8 0, .int .u8 0, .int .u8 0, .int .u8 0, .int .u8 0, .int .u8 0, .int .u8 0, .int .u8 0] 121)).heap.size = w.heap.size + 1 + 1 := by simp [z0]
  generalize wa.alloc (.cells #[.int .u8 0, .int .u8 0, .int .u8 0, .int .u8 0, .int .u8 0, .int .u8 0, .int .u8 0, .int .u8 0, .int .u8 0, .int .u8 0, .int .u8 0, .int .u8 0, .int .u8 0, .int .u8 0, .int .u8 0, .int .u8 0] 121) = wb at *
  rw [z0] at B1
  have B0 := B0.up n1
  have N1 := nxt n0 n1
  have RG := RGf wb B0
  clear n0 n1 z0
  go_wp2_with (refine wpList_load_mid rfl 118 (.tmp 3) rfl w.heap.size 0 rfl vy (.array 16 116) RG undS rfl (by rw [L0.out]; exact infoS) ?_)
  refine (BA wb).out.mono ?_
  rintro e wc ⟨rfl, n2⟩
  have z2 := n2.size
  have B1 := B1.up n2
  have N2 := nxt N1 n2
  clear RG RGf BA N1 n2 B0
  have n3 : Below wc.heap.size wc (wc.alloc (.cells #[.int .u8 0, .int .u8 0, .int .u8 0, .int .u8 0, .int .u8 0, .int .u8 0, .int .u8 0, .int .u8 0, .int .u8 0, .int .u8 0, .int .u8 0, .int .u8 0, .int .u8 0, .int .u8 0, .int .u8 0, .int .u8 0, .int .u8 0, .int .u8 0, .int .u8 0, .int .u8 0, .int .u8 0, .int .u8 0, .int .u8 0, .int .u8 0, .int .u8 0, .int .u8 0, .int .u8 0, .int .u8 0, .int .u8 0, .int .u8 0, .int .u8 0, .int .u8 0, .int .u8 0, .int .u8 0, .int .u8 0, .int .u8 0, .int .u8 0, .int .u8 0, .int .u8 0, .int .u8 0, .int .u8 0, .int .u8 0, .int .u8 0, .int .u8 0, .int .u8 0, .int .u8 0, .int .u8 0, .int .u8 0, .int .u8 0, .int .u8 0, .int .u8 0, .int .u8 0, .int .u8 0, .int .u8 0, .int .u8 0, .int .u8 0, .int .u8 0, .int .u8 0, .int .u8 0, .int .u8 0, .int .u8 0, .int .u8 0, .int .u8 0, .int .u8 0] 134)) := (Below.refl _ _).alloc (Nat.le_refl _) _
  obtain ⟨t3, H3⟩ := blk_z64 wc 134
  have SR := blk_setRow (zs := ks) ⟨t3, H3⟩
  have OR := only_setRow (wc.alloc (.cells #[.int .u8 0, .int .u8 0, .int .u8 0, .int .u8 0, .int .u8 0, .int .u8 0, .int .u8 0, .int .u8 0, .int .u8 0, .int .u8 0, .int .u8 0, .int .u8 0, .int .u8 0, .int .u8 0, .int .u8 0, .int .u8 0, .int .u8 0, .int .u8 0, .int .u8 0, .int .u8 0, .int .u8 0, .int .u8 0, .int .u8 0, .int .u8 0, .int .u8 0, .int .u8 0, .int .u8 0, .int .u8 0, .int .u8 0, .int .u8 0, .int .u8 0, .int .u8 0, .int .u8 0, .int .u8 0, .int .u8 0, .int .u8 0, .int .u8 0, .int .u8 0, .int .u8 0, .int .u8 0, .int .u8 0, .int .u8 0, .int .u8 0, .int .u8 0, .int .u8 0, .int .u8 0, .int .u8 0, .int .u8 0, .int .u8 0, .int .u8 0, .int .u8 0, .int .u8 0, .int .u8 0, .int .u8 0, .int .u8 0, .int .u8 0, .int .u8 0, .int .u8 0, .int .u8 0, .int .u8 0, .int .u8 0, .int .u8 0, .int .u8 0, .int .u8 0] 134)) wc.heap.size (ks.map (Value.int .u8)).toArray
  have L3 : Hid ((ks.map (Value.int .u8)).length = 64) := by show _ = _; rw [List.length_map]; exact KL.out
  have O3 := one_ints .u8 ks
  have V3 : Hid (ag .u8 ks = Value.agg (ks.map (Value.int .u8)).toArray) := rfl
  rw [V3.out]
  obtain ⟨v3, hv3⟩ : ∃ v, v = ks.map (Value.int .u8) := ⟨_, rfl⟩
  rw [← hv3] at SR OR L3 O3 ⊢
  have z3 : (wc.alloc (.cells #[.int .u8 0, .int .u8 0, .int .u8 0, .int .u8 0, .int .u8 0, .int .u8 0, .int .u8 0, .int .u8 0, .int .u8 0, .int .u8 0, .int .u8 0, .int .u8 0, .int .u8 0, .int .u8 0, .int .u8 0, .int .u8 0, .int .u8 0, .int .u8 0, .int .u8 0, .int .u8 0, .int .u8 0, .int .u8 0, .int .u8 0, .int .u8 0, .int .u8 0, .int .u8 0, .int .u8 0, .int .u8 0, .int .u8 0, .int .u8 0, .int .u8 0, .int .u8 0, .int .u8 0, .int .u8 0, .int .u8 0, .int .u8 0, .int .u8 0, .int .u8 0, .int .u8 0, .int .u8 0, .int .u8 0, .int .u8 0, .int .u8 0, .int .u8 0, .int .u8 0, .int .u8 0, .int .u8 0, .int .u8 0, .int .u8 0, .int .u8 0, .int .u8 0, .int .u8 0, .int .u8 0, .int .u8 0, .int .u8 0, .int .u8 0, .int .u8 0, .int .u8 0, .int .u8 0, .int .u8 0, .int .u8 0, .int .u8 0, .int .u8 0, .int .u8 0] 134)).heap.size = wc.heap.size + 1 := by simp
  have B1 := (B1.up n3).of_block (OR.block (w.heap.size + 1) (by omega))
  have N3 := N2.trans ((n3.mono N2.size).trans (OR.below (B := w.heap.size) (by have := N2.size; omega)))
  have z4 := OR.size.trans z3
  clear hv3 V3 N2
  go_upto_region 2 with (refine wpList_store_row rfl 134 (.tmp 7) (.tmp 10) rfl wc.heap.size v3.toArray rfl rfl t3 _ H3 (by rw [List.size_toArray, L3.out]; exact infoB) (by rw [List.size_toArray, List.size_toArray, L3.out]; rfl) O3 ?_)
  generalize (wc.alloc (.cells #[.int .u8 0, .int .u8 0, .int .u8 0, .int .u8 0, .int .u8 0, .int .u8 0, .int .u8 0, .int .u8 0, .int .u8 0, .int .u8 0, .int .u8 0, .int .u8 0, .int .u8 0, .int .u8 0, .int .u8 0, .int .u8 0, .int .u8 0, .int .u8 0, .int .u8 0, .int .u8 0, .int .u8 0, .int .u8 0, .int .u8 0, .int .u8 0, .int .u8 0, .int .u8 0, .int .u8 0, .int .u8 0, .int .u8 0, .int .u8 0, .int .u8 0, .int .u8 0, .int .u8 0, .int .u8 0, .int .u8 0, .int .u8 0, .int .u8 0, .int .u8 0, .int .u8 0, .int .u8 0, .int .u8 0, .int .u8 0, .int .u8 0, .int .u8 0, .int .u8 0, .int .u8 0, .int .u8 0, .int .u8 0, .int .u8 0, .int .u8 0, .int .u8 0, .int .u8 0, .int .u8 0, .int .u8 0, .int .u8 0, .int .u8 0, .int .u8 0, .int .u8 0, .int .u8 0, .int .u8 0, .int .u8 0, .int .u8 0, .int .u8 0, .int .u8 0] 134)).setRow wc.heap.size v3.toArray = wd at *
  generalize hq : wc.heap.size = q at *
  clear n3 OR H3 O3 L3 z3 hq
  have he := he.up N3
  have ht := ht.up N3
  have eL : ex.length ≤ 4194304 := by omega
  have tL : tx.length ≤ 4194304 := by omega
  go_wp2_with fail
  refine (zerosBehind_any wd ae ex.length ce eL).mono ?_
  rintro e w4 ⟨⟨a4, c4, g4, rfl, o4, p4, q4, r4⟩, n4⟩
  have he := he.up n4
  have ht := ht.up n4
  have SR := SR.up n4
  have B1 := B1.up n4
  have N4 := nxt N3 n4
  clear N3 n4
  go_wp2_with fail
  refine (zerosBehind_any w4 at' tx.length ct tL).mono ?_
  rintro e w5 ⟨⟨a5, c5, g5, rfl, o5, p5, q5, r5'⟩, n5⟩
  have he := he.up n5
  have ht := ht.up n5
  have SR := SR.up n5
  have B1 := B1.up n5
  have N5 := nxt N4 n5
  have o4 := o4.up n5
  clear N4 n5
  go_wp2_with fail
  refine (lengthBytes_any w5 ae ex.length ce eL).mono ?_
  rintro e w6 ⟨⟨a6, c6, g6, rfl, o6, p6, q6, r6⟩, n6⟩
  have he := he.up n6
  have ht := ht.up n6
  have SR := SR.up n6
  have B1 := B1.up n6
  have N6 := nxt N5 n6
  have o4 := o4.up n6
  have o5 := o5.up n6
  clear N5 n6
  go_wp2_with fail
  refine (lengthBytes_any w6 at' tx.length ct tL).mono ?_
  rintro e w7 ⟨⟨a7, c7, g7, rfl, o7, p7, q7, r7⟩, n7⟩
  have he := he.up n7
  have ht := ht.up n7
  have SR := SR.up n7
  have B1 := B1.up n7
  have N7 := nxt N6 n7
  have o4 := o4.up n7
  have o5 := o5.up n7
  have o6 := o6.up n7
  clear N6 n7
  obtain ⟨l0, hl0⟩ : ∃ l : Lst, l = ⟨ge, ae, ce, ex⟩ := ⟨_, rfl⟩
  obtain ⟨l1, hl1⟩ : ∃ l : Lst, l = ⟨g4, a4, c4, zpad ex.length⟩ := ⟨_, rfl⟩
  obtain ⟨l2, hl2⟩ : ∃ l : Lst, l = ⟨gt, at', ct, tx⟩ := ⟨_, rfl⟩
  obtain ⟨l3, hl3⟩ : ∃ l : Lst, l = ⟨g5, a5, c5, zpad tx.length⟩ := ⟨_, rfl⟩
  obtain ⟨l4, hl4⟩ : ∃ l : Lst, l = ⟨g6, a6, c6, len8 ex.length⟩ := ⟨_, rfl⟩
  obtain ⟨l5, hl5⟩ : ∃ l : Lst, l = ⟨g7, a7, c7, len8 tx.length⟩ := ⟨_, rfl⟩
  have CT : Hid (cat [l0, l1, l2, l3, l4, l5] = smd ex tx) := by
    show _ = _
    unfold cat smd
    rw [hl0, hl1, hl2, hl3, hl4, hl5]
    simp
  have LS := fun t => lsts_six w7 t l0 l1 l2 l3 l4 l5
  have LR : ∀ W, Below w7.heap.size w7 W → ∀ l ∈ [l0, l1, l2, l3, l4, l5], Rd W l.g l.a .u8 l.xs ∧ (l.a = none → l.c = 0) := fun W n l hm => by
    simp only [List.mem_cons, List.not_mem_nil, or_false] at hm
    rcases hm with rfl | rfl | rfl | rfl | rfl | rfl
    · rw [hl0]; exact ⟨he.up n, en⟩
    · rw [hl1]; exact ⟨(o4.up n).rd, p4⟩
    · rw [hl2]; exact ⟨ht.up n, tn⟩
    · rw [hl3]; exact ⟨(o5.up n).rd, p5⟩
    · rw [hl4]; exact ⟨(o6.up n).rd, p6⟩
    · rw [hl5]; exact ⟨(o7.up n).rd, p7⟩
  have sl := smd_len ex tx
  have CC := fun W b (h1 : Lsts W b [l0, l1, l2, l3, l4, l5]) (h2 : Below w7.heap.size w7 W) => hide (concat_any W b 6 6 [l0, l1, l2, l3, l4, l5] rfl (by omega) h1 (LR W h2) (by rw [CT.out]; omega) (by rw [CT.out]; omega))
  simp only [CT.out] at CC
  have SMB := hide (smd_byt eb tb)
  have SML : Hid ((smd ex tx).length ≤ 4194304) := by show _ ≤ _; omega
  have E0 : Hid (Value.slice ae ex.length ce = Value.slice l0.a l0.xs.length l0.c) := by show _ = _; rw [hl0]
  have E1 : Hid (Value.slice a4 (zpad ex.length).length c4 = Value.slice l1.a l1.xs.length l1.c) := by show _ = _; rw [hl1]
  have E2 : Hid (Value.slice at' tx.length ct = Value.slice l2.a l2.xs.length l2.c) := by show _ = _; rw [hl2]
  have E3 : Hid (Value.slice a5 (zpad tx.length).length c5 = Value.slice l3.a l3.xs.length l3.c) := by show _ = _; rw [hl3]
  have E4 : Hid (Value.slice a6 (len8 ex.length).length c6 = Value.slice l4.a l4.xs.length l4.c) := by show _ = _; rw [hl4]
  have E5 : Hid (Value.slice a7 (len8 tx.length).length c7 = Value.slice l5.a l5.xs.length l5.c) := by show _ = _; rw [hl5]
  have LS := LS 22
  have n8 : Below w7.heap.size w7 (w7.alloc (.cells #[.slice ae ex.length ce, .slice a4 (zpad ex.length).length c4, .slice at' tx.length ct, .slice a5 (zpad tx.length).length c5, .slice a6 (len8 ex.length).length c6, .slice a7 (len8 tx.length).length c7] 22)) := (Below.refl _ _).alloc (Nat.le_refl _) _
  rw [← E0.out, ← E1.out, ← E2.out, ← E3.out, ← E4.out, ← E5.out] at LS
  clear hl0 hl1 hl2 hl3 hl4 hl5 LR CT sl o4 o5 o6 o7 E0 E1 E2 E3 E4 E5
  go_wp2_with fail
  generalize w7.alloc (.cells #[.slice ae ex.length ce, .slice a4 (zpad ex.length).length c4, .slice at' tx.length ct, .slice a5 (zpad tx.length).length c5, .slice a6 (len8 ex.length).length c6, .slice a7 (len8 tx.length).length c7] 22) = w8 at *
  refine (CC w8 w7.heap.size LS n8).out.mono ?_
  rintro e w9 ⟨⟨a9, c9, g9, rfl, o9, p9, q9, r9⟩, n9⟩
  have SR := (SR.up n8).up n9
  have B1 := (B1.up n8).up n9
  have N9 := nxt (nxt N7 n8) n9
  clear CC LS n8 n9 N7 he ht
  have TK : Hid ((ks.take 32).length = 32) := by show _ = _; rw [List.length_take, KL.out]; omega
  have OS := hide (oneTimeSum_any w9 q (some ⟨q, 0, none⟩) 64 (ks.take 32) (rd_take SR 32 (by rw [KL.out]; omega)) (byt_take KB.out 32) TK.out g9 a9 c9 (smd ex tx) o9.rd SMB.out q9 SML.out)
  rw [TK.out, ← SSB.out] at OS
  have L6 : Hid (((ssB ys ex tx).map (Value.int .u8)).length = 16) := by show _ = _; rw [List.length_map]; exact SL.out
  have O6 := one_ints .u8 (ssB ys ex tx)
  have V6 : Hid (ag .u8 (ssB ys ex tx) = Value.agg ((ssB ys ex tx).map (Value.int .u8)).toArray) := rfl
  go_wp2_with fail
  refine OS.out.mono ?_
  rintro e wy ⟨rfl, ny⟩
  obtain ⟨t7, H7⟩ := B1.up ny
  have N10 := nxt N9 ny
  have SR7 := setRow_heap wy (w.heap.size + 1) _ ((ssB ys ex tx).map (Value.int .u8)).toArray _ _ H7
  have SN7 : Below w.heap.size w (wy.setRow (w.heap.size + 1) ((ssB ys ex tx).map (Value.int .u8)).toArray) := N10.trans ((only_setRow wy (w.heap.size + 1) _).below (by omega))
  rw [V6.out]
  obtain ⟨vs', hv⟩ : ∃ v, v = (ssB ys ex tx).map (Value.int .u8) := ⟨_, rfl⟩
  rw [← hv] at L6 O6 SR7 SN7 V6 ⊢
  clear hv OS
  go_wp2_with (refine wpList_store_row rfl 121 (.tmp 6) (.tmp 25) rfl (w.heap.size + 1) vs'.toArray rfl rfl t7 _ H7 (by rw [List.size_toArray, L6.out]; exact infoP16) (by rw [List.size_toArray, List.size_toArray, L6.out]; rfl) O6 ?_)
  exact bodyPost_ret (v := .agg vs'.toArray) (results_cell_row Tryd.results78 _ _ (w.heap.size + 1) t7 vs'.toArray (0, 0) (.array 16 5) rfl SR7 undP16 rfl (by rw [List.size_toArray, L6.out]; exact infoP16)) rfl ⟨by rw [V6.out], SN7⟩
end Go.Proofs.YtbdecibgejmelaaDoor

/-
  The program's layOver answers a row that may be appended to (written by gens/ccr.py).
-/
namespace Go.Proofs.YtbdecibgejmelaaDoor
set_option maxRecDepth 100000
open Go Go.RowKit Go.Shelf
attribute [local go_sem] Oper.semAt_some

/-- A block of just these bytes. -/
def B5 (w : World) (g : Nat) (ys : List Int) : Prop := w.heap[g]? = some (.cells (ys.map (Value.int .u8)).toArray 5 (0, 0))
theorem B5.blk {w : World} {g : Nat} {ys : List Int} (h : B5 w g ys) : Blk w g .u8 ys := ⟨5, h⟩
theorem B5.lt {w : World} {g : Nat} {ys : List Int} (h : B5 w g ys) : g < w.heap.size := h.blk.lt
theorem B5.cell {w : World} {g : Nat} {ys : List Int} (h : B5 w g ys) {i : Nat} (hi : i < ys.length) : w.cell? ⟨g, i, none⟩ = some (.int .u8 (ys.getD i 0)) := h.blk.cell hi
theorem B5.free {w : World} {g : Nat} {ys : List Int} (h : B5 w g ys) (i : Nat) : w.frozen? ⟨g, i, none⟩ = false := h.blk.free i
theorem B5.store {w : World} {g : Nat} {ys : List Int} (h : B5 w g ys) (i : Nat) (z : Int) : B5 (w.setCell ⟨g, i, none⟩ (.int .u8 z)) g (ys.set i z) := by
  unfold B5
  rw [heap_setCell_same w g i _ 5 _ h]
  simp [List.map_set]
theorem B5.of_block {w w' : World} {g : Nat} {ys : List Int} (h : B5 w g ys) (hb : w'.heap[g]? = w.heap[g]?) : B5 w' g ys := hb.trans h
theorem B5.up {w w' : World} {g : Nat} {ys : List Int} (h : B5 w g ys) (hb : Below w.heap.size w w') : B5 w' g ys := h.of_block (hb.block g h.lt)
theorem B5.of_made {w : World} {base g n : Nat} (h : w.ownsRow base 5 1 (.slice (some ⟨g, 0, none⟩) n n) n (madeCells (Value.int .u8 0).cells (n * 1)).toList) : B5 w g (List.replicate n 0) := by
  obtain ⟨e, hb⟩ := Blk.of_made h
  rcases h.2 with ⟨h', _⟩ | ⟨g', cap', cur, h', _, hg, _⟩
  · simp at h'
  · simp only [Value.slice.injEq, Option.some.injEq, Addr.mk.injEq, and_true, true_and] at h'
    obtain ⟨rfl, rfl⟩ := h'
    have := hg.symm.trans hb
    simp only [Option.some.injEq, Obj.cells.injEq, and_true] at this
    obtain ⟨rfl, rfl⟩ := this
    exact hg
theorem B5.row {w : World} {g B : Nat} {ys : List Int} (h : B5 w g ys) (hB : B ≤ g) (hl : ys.length ≤ 4194304) : RowB w B (.slice (some ⟨g, 0, none⟩) ys.length ys.length) ys := by
  refine ⟨by simp, .inr ⟨g, ys.length, _, rfl, hB, h, Nat.le_refl _, by unfold maxLen; omega, by simp, ?_⟩⟩
  show List.take (ys.length * 1) (List.map (Value.int .u8) ys) = _
  exact List.take_of_length_le (by simp)
theorem b5_ofK {W W' : World} {row : Option Nat} {g : Nat} {xs : List Int} (h : B5 W g xs) (hg : W.grownBy W' row) (hr : ∀ r, row = some r → ∃ o : Obj, W.heap[r]? = some o ∧ o.isCells = false) : B5 W' g xs := (grownBy_keeps_cells hg hr h rfl).trans h
theorem copy_b5 {P : Program} (w : World) (ty rt e : TypeId) (hu : P.underlying ty = some (.slice e)) (hsz : (P.info? e).map (·.size) = some 1) {g : Nat} {zs : List Int} (hB : B5 w g zs)
    (gs : Nat) (sp : Option Addr) (ys : List Int) (hr : Rd w gs sp .u8 ys) (hl : ys.length ≤ zs.length) (dc sc : Nat) :
    ∃ w2, (Builtin.copy_ #[ty, ty] rt #[.slice (some ⟨g, 0, none⟩) zs.length dc, .slice sp ys.length sc]).run P w = .ok (goInt ys.length) w2 ∧ B5 w2 g (ys ++ zs.drop ys.length) ∧ Only g w w2 := by
  by_cases h0 : 0 < ys.length
  · obtain ⟨off, rfl, hc⟩ := hr h0
    have hrun := run_copy_row (P := P) w ty ty rt e g 0 zs.length dc ⟨gs, off, none⟩ ys.length sc _ 5 (ys.map (Value.int .u8)) hu hsz hB (by rw [List.length_map]; exact (Nat.min_eq_left hl).symm)
      (fun j v hj => by
        have hjl : j < ys.length := by
          have := (List.getElem?_eq_some_iff.1 hj).1
          simpa using this
        rw [Go.Proofs.YtbdecibgejmelaaDoor.add_mid, hc j hjl]
        simpa [hjl] using hj) (by simp; omega) (oneCells _ _)
    rw [List.length_map] at hrun
    refine ⟨_, hrun, ?_, ⟨rfl, rfl, rfl, by simp, fun i hi => setRow_other w g i _ hi⟩⟩
    unfold B5
    rw [setRow_heap w g _ _ 5 _ hB]
    simp
  · obtain rfl : ys = [] := List.eq_nil_of_length_eq_zero (by omega)
    exact ⟨w, run_copy_none (P := P) w ty ty rt e _ _ _ _ _ _ hu hsz (by simp), by simpa using hB, Only.refl _ _⟩
/-- What holds between two rounds. -/
structure LyJ (w : World) (ys : List Int) (c : Int) (data : List Int) (Z : Nat) (pre : List (PcN64 data.length)) (W : World) : Prop where
  told : ∃ zs : List Int, zs.length = data.length ∧ B5 W (w.heap.size + 1 + 1) zs ∧ (pre.map (·.1) = List.range pre.length → zs = xoG ys c data pre.length)
  wds : Blk W w.heap.size .u32 ys
  num : W.cell? ⟨w.heap.size + 1, 0, none⟩ = some (.int .i64 (c + (pre.length : Int)))
  numF : W.frozen? ⟨w.heap.size + 1, 0, none⟩ = false
  siz : Z ≤ W.heap.size
  bel : Below w.heap.size w W
theorem lyJ_own {w : World} {ys : List Int} {c : Int} {data : List Int} {Z B : Nat} (hB : w.heap.size ≤ B) : OwnFrom B (LyJ w ys c data Z) := by
  intro s W W' row h hg hr
  have hr' : ∀ r, row = some r → ∃ o : Obj, W.heap[r]? = some o ∧ o.isCells = false := fun r e => (hr r e).2
  obtain ⟨zs, z1, z2, z3⟩ := h.told
  refine ⟨⟨zs, z1, b5_ofK z2 hg hr', z3⟩, blk_ofK h.wds hg hr', cell_kept h.num hg hr', (frozen_kept h.num hg hr').trans h.numF, Nat.le_trans h.siz hg.size, ?_⟩
  exact h.bel.grown hg h.bel.size (fun k e => Nat.le_trans hB (hr k e).1)
set_option maxRecDepth 100000 in
set_option maxHeartbeats 8000000 in
theorem layOverR_any (w : World) (ys : List Int) (hw : Ws ys) (yl : ys.length = 16) (ct : Int) (h0 : 0 ≤ ct) (g : Nat) (a : Option Addr) (c : Nat) (data : List Int) (hr : Rd w g a .u8 data) (hn : data.length ≤ 4194304) (h1 : ct + (((data.length + 63) / 64 : Nat) : Int) ≤ 4294967296) :
    Calls Tryd.prog 77 #[ag .u32 ys, .int .i64 ct, .slice a data.length c] w fun e w' => (∃ v, e = .returned v ∧ RowB w' w.heap.size v (xoG ys ct data ((data.length + 63) / 64))) ∧ Below w.heap.size w w' := by
  obtain ⟨i0, hi0, hz0, hz1, hz2⟩ := info_parts Tryd.info5
  have HYL := hide yl
  have VY : Hid (ag .u32 ys = Value.agg (ys.map (Value.int .u32)).toArray) := rfl
  rw [VY.out]
  have B0 := blk_alloc w .u32 118 ys
  have n0 : Below w.heap.size w (w.alloc (.cells (ys.map (Value.int .u32)).toArray 118)) := (Below.refl _ _).alloc (Nat.le_refl _) _
  have z0 : (w.alloc (.cells (ys.map (Value.int .u32)).toArray 118)).heap.size = w.heap.size + 1 := by simp
  have L16 : Hid ((ys.map (Value.int .u32)).length = 16) := by show _ = _; rw [List.length_map]; exact yl
  obtain ⟨vs, hvs⟩ : ∃ vs, vs = ys.map (Value.int .u32) := ⟨_, rfl⟩
  rw [← hvs] at B0 n0 z0 L16 ⊢
  have HVS := hide hvs
  clear hvs yl
  refine (callsIn_wide (n := 5)).1 (callsIn_of_wp_marks Tryd.func77 rfl trivial ?_ rfl)
  refine wpIn_wide.2 ?_
  simp only [Tryd.ntmps77, List.size_toArray, List.length_cons, List.length_nil, Nat.reduceAdd, Nat.reduceSub, Array.replicate_succ, Array.replicate_zero, List.push_toArray, List.append_toArray, List.nil_append, List.cons_append]
  go_upto_region 1 with fail
  generalize w.alloc (.cells vs.toArray 118) = w1 at *
  have n2 : Below w1.heap.size w1 (w1.alloc (.cells #[.int .i64 ct] 2)) := (Below.refl _ _).alloc (Nat.le_refl _) _
  have C2 : (w1.alloc (.cells #[.int .i64 ct] 2)).cell? ⟨w1.heap.size, 0, none⟩ = some (.int .i64 ct) := by simp [World.cell?_alloc_at]
  have F2 : (w1.alloc (.cells #[.int .i64 ct] 2)).frozen? ⟨w1.heap.size, 0, none⟩ = false := by simp [World.frozen?_alloc_at]
  have z2 : (w1.alloc (.cells #[.int .i64 ct] 2)).heap.size = w1.heap.size + 1 := by simp
  generalize w1.alloc (.cells #[.int .i64 ct] 2) = w2 at *
  rw [z0] at C2 F2 z2
  have B0 := B0.up n2
  have N2 := nxt n0 n2
  clear n0 n2 z0
  have dn : (data.length : Int) ≤ 4194304 := by omega
  go_upto_region 2 with (at_make; refine wpList_make_full _ rfl _ _ 22 rfl w2.heap.size 5 i0 (.int .u8 0) 1 Tryd.underlying22 hi0 hz0 hz1 .i64 .i64 _ _ data.length rfl rfl rfl rfl (by rw [hz2]; omega) (by unfold maxLen; omega) (Nat.le_refl _) ?_; intro w3 hown hgrow)
  have B3 := B5.of_made hown
  have n3 : Below w2.heap.size w2 w3 := (Below.refl _ _).grown hgrow (Nat.le_refl _) (by simp)
  clear hown hgrow
  rw [z2] at B3
  have g3 := B3.lt
  have B0 := B0.up n3
  have C2 := (World.cell?_of_block (a := ⟨w.heap.size + 1, 0, none⟩) (n3.block (w.heap.size + 1) (by omega))).trans C2
  have F2 := (World.frozen?_of_block (a := ⟨w.heap.size + 1, 0, none⟩) (n3.block (w.heap.size + 1) (by omega))).trans F2
  have N3 := nxt N2 n3
  obtain ⟨w4, hcopy, B4, O4⟩ := copy_b5 (P := Tryd.prog) w3 22 3 5 Tryd.underlying22 rowU8 B3 g a data (hr.up N3) (by rw [List.length_replicate]; exact Nat.le_refl _) data.length c
  rw [List.length_replicate] at hcopy
  have ed : data ++ (List.replicate data.length (0 : Int)).drop data.length = data := by simp
  rw [ed] at B4
  have B0 := B0.of_block (O4.block w.heap.size (by omega))
  have C2 := (World.cell?_of_block (a := ⟨w.heap.size + 1, 0, none⟩) (O4.block (w.heap.size + 1) (by omega))).trans C2
  have F2 := (World.frozen?_of_block (a := ⟨w.heap.size + 1, 0, none⟩) (O4.block (w.heap.size + 1) (by omega))).trans F2
  have N4 := N3.trans (O4.below (B := w.heap.size) (by omega))
  have z4 := O4.size
  clear n3 N2 N3 B3 O4 ed z2
  go_wp2_with (at_builtin; refine wpList_copy_run rfl (.tmp 14) (.tmp 15) 22 22 rfl _ _ rfl rfl _ _ hcopy ?_)
  refine (chunk_any64 w4 (some ⟨w.heap.size + 1 + 1, 0, none⟩) data.length data.length).mono ?_
  rintro e w6 ⟨rfl, rfl⟩
  have n5 : Below w4.heap.size w4 (w4.alloc (.cells #[.slice (some ⟨w.heap.size + 1 + 1, 0, none⟩) data.length data.length] 22)) := (Below.refl _ _).alloc (Nat.le_refl _) _
  have C5 : (w4.alloc (.cells #[.slice (some ⟨w.heap.size + 1 + 1, 0, none⟩) data.length data.length] 22)).cell? ⟨w4.heap.size, 0, none⟩ = some (.slice (some ⟨w.heap.size + 1 + 1, 0, none⟩) data.length data.length) := by simp [World.cell?_alloc_at]
  have z5 : (w4.alloc (.cells #[.slice (some ⟨w.heap.size + 1 + 1, 0, none⟩) data.length data.length] 22)).heap.size = w4.heap.size + 1 := by simp
  generalize w4.alloc (.cells #[.slice (some ⟨w.heap.size + 1 + 1, 0, none⟩) data.length data.length] 22) = w5 at *
  have n6 : Below w5.heap.size w5 (w5.alloc (.cells #[.int .i64 64] 3)) := (Below.refl _ _).alloc (Nat.le_refl _) _
  have C6 : (w5.alloc (.cells #[.int .i64 64] 3)).cell? ⟨w5.heap.size, 0, none⟩ = some (.int .i64 64) := by simp [World.cell?_alloc_at]
  have z6 : (w5.alloc (.cells #[.int .i64 64] 3)).heap.size = w5.heap.size + 1 := by simp
  generalize w5.alloc (.cells #[.int .i64 64] 3) = w6 at *
  generalize hq : w4.heap.size = q at *
  rw [z5] at C6 z6
  have yq : w.heap.size + 1 + 1 < q := by omega
  have n56 : Below q w4 w6 := n5.trans (n6.mono (by omega))
  have N6 : Below w.heap.size w w6 := N4.trans (n56.mono (by omega))
  have I0 : LyJ w ys ct data (q + 2) [] w6 :=
    ⟨⟨data, rfl, B4.of_block (n56.block (w.heap.size + 1 + 1) (by omega)), fun _ => rfl⟩, B0.of_block (n56.block w.heap.size (by omega)), by have := (World.cell?_of_block (a := ⟨w.heap.size + 1, 0, none⟩) (n56.block (w.heap.size + 1) (by omega))).trans C2; simpa using this, (World.frozen?_of_block (a := ⟨w.heap.size + 1, 0, none⟩) (n56.block (w.heap.size + 1) (by omega))).trans F2, by omega, N6⟩
  have D5 : w6.cell? ⟨q, 0, none⟩ = some (.slice (some ⟨w.heap.size + 1 + 1, 0, none⟩) data.length data.length) := (World.cell?_of_block (a := ⟨q, 0, none⟩) (n6.block q (by omega))).trans C5
  have S6 : Hid (w6.heap.size = q + 1 + 1) := z6
  have YQ := hide yq
  clear n5 n6 n56 C2 C5 F2 z5 z6 N4 B0 B4 hq hcopy g3 z4
  go_wp2
  refine (wpIn_wide (n := 5)).1 (wpIn_rangeFunc_ownG (n := 5) rfl (by omega) (gf := 104) (lb := #[.pointer (some ⟨q, 0, none⟩), .pointer (some ⟨q + 1, 0, none⟩)]) rfl trivial (enters_of Tryd.func104 (by kernel_rfl) rfl)
    (chunk_stops64 4 (by omega) q (q + 1) (w.heap.size + 1 + 1) 0 data.length data.length (some ⟨w.heap.size + 1 + 1, 0, none⟩) (fun _ => rfl) (Nat.le_refl _) hn w6 (by have := S6.out; omega) (by have := S6.out; omega) D5 C6) KpB.t (KpB.b (by have := S6.out; omega) (by have := S6.out; omega)) (Below.refl _ _) (fun _ => rfl)
    (LyJ w ys ct data (q + 2)) (fun _ _ _ => False) (lyJ_own (by have := N6.size; omega)) (fun _ _ _ _ _ h _ _ => h) I0
    (fun x => { tmps := #[.agg vs.toArray, .int .i64 ct, .slice a data.length c, .pointer (some ⟨w.heap.size, 0, none⟩), .pointer (some ⟨w.heap.size + 1, 0, none⟩), undef, .slice none 0 0, .slice (some ⟨w.heap.size + 1 + 1, 0, none⟩) data.length data.length, .slice (some ⟨w.heap.size + 1 + 1, 64 * x.1, none⟩) (pcL64 data.length x.1) (pcL64 data.length x.1), undef, undef, .slice a data.length c, .int .i64 (data.length : Int), .slice (some ⟨w.heap.size + 1 + 1, 0, none⟩) data.length data.length, .slice (some ⟨w.heap.size + 1 + 1, 0, none⟩) data.length data.length, .slice a data.length c, (.int .i64 (data.length : Int)), .slice (some ⟨w.heap.size + 1 + 1, 0, none⟩) data.length data.length, Value.func (Fn.func 104) #[] #[Value.pointer (some ⟨q, 0, none⟩), Value.pointer (some ⟨q + 1, 0, none⟩)], .slice (some ⟨w.heap.size + 1 + 1, 64 * x.1, none⟩) (pcL64 data.length x.1) (pcL64 data.length x.1), undef, undef, undef, undef, undef, undef, undef, undef, undef, undef, undef, undef, undef, undef, undef, undef, undef, undef, undef, undef, undef], defers := [] }) ?assign ?body ?done ?stop)
  case assign =>
    intro l x W K hK
    unfold pcE64
    gi_wp2
    exact hK
  case body =>
    rintro l pre x W hI hlen
    obtain ⟨zs, zl, zB, z3⟩ := hI.told
    have hs := hI.wds
    have im := hI.num
    have nf := hI.numF
    have sz := hI.siz
    have yq := YQ.out
    have be := hI.bel
    clear hI
    have xl := x.2
    obtain ⟨pe, hpe⟩ : ∃ e, e = pcL64 data.length x.1 := ⟨_, rfl⟩
    have pe0 : 0 < pe := by rw [hpe]; unfold pcL64; omega
    have pe1 : pe ≤ 64 := by rw [hpe]; unfold pcL64; omega
    have pe2 : 64 * x.1 + pe ≤ data.length := by rw [hpe]; unfold pcL64; omega
    rw [← hpe]
    obtain ⟨cv, hcv⟩ : ∃ v, v = ct + (pre.length : Int) := ⟨_, rfl⟩
    rw [← hcv] at im
    have cw : W4 cv := ⟨by omega, by omega⟩
    have BA := fun u => hide (block_any u ys hw HYL.out cv cw)
    simp only [VY.out, ← HVS.out] at BA
    have RG := (Seg.blk hs).range
    rw [← HVS.out] at RG
    have L64 : Hid (((stB (ys.set 12 cv)).map (Value.int .u8)).length = 64) := by show _ = _; rw [List.length_map]; exact stB_len _
    have BL : Hid ((stB (ys.set 12 cv)).length = 64) := stB_len _
    have O64 := one_ints .u8 (stB (ys.set 12 cv))
    have V64 : Hid (ag .u8 (stB (ys.set 12 cv)) = Value.agg ((stB (ys.set 12 cv)).map (Value.int .u8)).toArray) := rfl
    simp only [V64.out] at BA
    obtain ⟨Bk, hBk⟩ : ∃ b, b = stB (ys.set 12 cv) := ⟨_, rfl⟩
    rw [← hBk] at L64 BL O64
    simp only [← hBk] at BA
    have HBK := hide hBk
    have HCV := hide hcv
    have HPE := hide hpe
    have cvb : 0 ≤ cv ∧ cv < 4294967296 := cw
    clear hBk hcv hpe V64 cw
    obtain ⟨cv0, cv1⟩ := cvb
    gi_wp2_with (refine listIn_load rfl 118 (.tmp 3) rfl w.heap.size 0 rfl vs (.array 16 116) RG undS rfl (by rw [L16.out]; exact infoS) ?_)
    refine ⟨trivial, (CallsIn.inRound l (callsIn_wide.2 (BA W).out)).mono ?_⟩
    rintro e W3 ⟨rfl, n3⟩
    have n4 : Below W3.heap.size W3 (W3.alloc (.cells #[.int .u8 0, .int .u8 0, .int .u8 0, .int .u8 0, .int .u8 0, .int .u8 0, .int .u8 0, .int .u8 0, .int .u8 0, .int .u8 0, .int .u8 0, .int .u8 0, .int .u8 0, .int .u8 0, .int .u8 0, .int .u8 0, .int .u8 0, .int .u8 0, .int .u8 0, .int .u8 0, .int .u8 0, .int .u8 0, .int .u8 0, .int .u8 0, .int .u8 0, .int .u8 0, .int .u8 0, .int .u8 0, .int .u8 0, .int .u8 0, .int .u8 0, .int .u8 0, .int .u8 0, .int .u8 0, .int .u8 0, .int .u8 0, .int .u8 0, .int .u8 0, .int .u8 0, .int .u8 0, .int .u8 0, .int .u8 0, .int .u8 0, .int .u8 0, .int .u8 0, .int .u8 0, .int .u8 0, .int .u8 0, .int .u8 0, .int .u8 0, .int .u8 0, .int .u8 0, .int .u8 0, .int .u8 0, .int .u8 0, .int .u8 0, .int .u8 0, .int .u8 0, .int .u8 0, .int .u8 0, .int .u8 0, .int .u8 0, .int .u8 0, .int .u8 0] 134)) := (Below.refl _ _).alloc (Nat.le_refl _) _
    have B4 := blk_z64 W3 134
    have z4 : (W3.alloc (.cells #[.int .u8 0, .int .u8 0, .int .u8 0, .int .u8 0, .int .u8 0, .int .u8 0, .int .u8 0, .int .u8 0, .int .u8 0, .int .u8 0, .int .u8 0, .int .u8 0, .int .u8 0, .int .u8 0, .int .u8 0, .int .u8 0, .int .u8 0, .int .u8 0, .int .u8 0, .int .u8 0, .int .u8 0, .int .u8 0, .int .u8 0, .int .u8 0, .int .u8 0, .int .u8 0, .int .u8 0, .int .u8 0, .int .u8 0, .int .u8 0, .int .u8 0, .int .u8 0, .int .u8 0, .int .u8 0, .int .u8 0, .int .u8 0, .int .u8 0, .int .u8 0, .int .u8 0, .int .u8 0, .int .u8 0, .int .u8 0, .int .u8 0, .int .u8 0, .int .u8 0, .int .u8 0, .int .u8 0, .int .u8 0, .int .u8 0, .int .u8 0, .int .u8 0, .int .u8 0, .int .u8 0, .int .u8 0, .int .u8 0, .int .u8 0, .int .u8 0, .int .u8 0, .int .u8 0, .int .u8 0, .int .u8 0, .int .u8 0, .int .u8 0, .int .u8 0] 134)).heap.size = W3.heap.size + 1 := by simp
    obtain ⟨t4, H4⟩ := B4
    have SR := blk_setRow (zs := Bk) ⟨t4, H4⟩
    have OR := only_setRow (W3.alloc (.cells #[.int .u8 0, .int .u8 0, .int .u8 0, .int .u8 0, .int .u8 0, .int .u8 0, .int .u8 0, .int .u8 0, .int .u8 0, .int .u8 0, .int .u8 0, .int .u8 0, .int .u8 0, .int .u8 0, .int .u8 0, .int .u8 0, .int .u8 0, .int .u8 0, .int .u8 0, .int .u8 0, .int .u8 0, .int .u8 0, .int .u8 0, .int .u8 0, .int .u8 0, .int .u8 0, .int .u8 0, .int .u8 0, .int .u8 0, .int .u8 0, .int .u8 0, .int .u8 0, .int .u8 0, .int .u8 0, .int .u8 0, .int .u8 0, .int .u8 0, .int .u8 0, .int .u8 0, .int .u8 0, .int .u8 0, .int .u8 0, .int .u8 0, .int .u8 0, .int .u8 0, .int .u8 0, .int .u8 0, .int .u8 0, .int .u8 0, .int .u8 0, .int .u8 0, .int .u8 0, .int .u8 0, .int .u8 0, .int .u8 0, .int .u8 0, .int .u8 0, .int .u8 0, .int .u8 0, .int .u8 0, .int .u8 0, .int .u8 0, .int .u8 0, .int .u8 0] 134)) W3.heap.size (Bk.map (Value.int .u8)).toArray
    obtain ⟨vr, hvr⟩ : ∃ v, v = Bk.map (Value.int .u8) := ⟨_, rfl⟩
    rw [← hvr] at L64 O64 SR OR ⊢
    clear hvr BA RG
    gi_wp2_with (refine listIn_store rfl 134 (.tmp 9) (.tmp 22) rfl W3.heap.size vr.toArray rfl rfl t4 _ H4 (by rw [List.size_toArray, L64.out]; exact infoB) (by rw [List.size_toArray, List.size_toArray, L64.out]; rfl) O64 ?_)
    have s3 := n3.size
    have U5 : ∀ b, b < W.heap.size → ((W3.alloc (.cells #[.int .u8 0, .int .u8 0, .int .u8 0, .int .u8 0, .int .u8 0, .int .u8 0, .int .u8 0, .int .u8 0, .int .u8 0, .int .u8 0, .int .u8 0, .int .u8 0, .int .u8 0, .int .u8 0, .int .u8 0, .int .u8 0, .int .u8 0, .int .u8 0, .int .u8 0, .int .u8 0, .int .u8 0, .int .u8 0, .int .u8 0, .int .u8 0, .int .u8 0, .int .u8 0, .int .u8 0, .int .u8 0, .int .u8 0, .int .u8 0, .int .u8 0, .int .u8 0, .int .u8 0, .int .u8 0, .int .u8 0, .int .u8 0, .int .u8 0, .int .u8 0, .int .u8 0, .int .u8 0, .int .u8 0, .int .u8 0, .int .u8 0, .int .u8 0, .int .u8 0, .int .u8 0, .int .u8 0, .int .u8 0, .int .u8 0, .int .u8 0, .int .u8 0, .int .u8 0, .int .u8 0, .int .u8 0, .int .u8 0, .int .u8 0, .int .u8 0, .int .u8 0, .int .u8 0, .int .u8 0, .int .u8 0, .int .u8 0, .int .u8 0, .int .u8 0] 134)).setRow W3.heap.size vr.toArray).heap[b]? = W.heap[b]? := fun b hb => (OR.block b (by omega)).trans ((n4.block b (by omega)).trans (n3.block b hb))
    have s5 : ((W3.alloc (.cells #[.int .u8 0, .int .u8 0, .int .u8 0, .int .u8 0, .int .u8 0, .int .u8 0, .int .u8 0, .int .u8 0, .int .u8 0, .int .u8 0, .int .u8 0, .int .u8 0, .int .u8 0, .int .u8 0, .int .u8 0, .int .u8 0, .int .u8 0, .int .u8 0, .int .u8 0, .int .u8 0, .int .u8 0, .int .u8 0, .int .u8 0, .int .u8 0, .int .u8 0, .int .u8 0, .int .u8 0, .int .u8 0, .int .u8 0, .int .u8 0, .int .u8 0, .int .u8 0, .int .u8 0, .int .u8 0, .int .u8 0, .int .u8 0, .int .u8 0, .int .u8 0, .int .u8 0, .int .u8 0, .int .u8 0, .int .u8 0, .int .u8 0, .int .u8 0, .int .u8 0, .int .u8 0, .int .u8 0, .int .u8 0, .int .u8 0, .int .u8 0, .int .u8 0, .int .u8 0, .int .u8 0, .int .u8 0, .int .u8 0, .int .u8 0, .int .u8 0, .int .u8 0, .int .u8 0, .int .u8 0, .int .u8 0, .int .u8 0, .int .u8 0, .int .u8 0] 134)).setRow W3.heap.size vr.toArray).heap.size = W3.heap.size + 1 := OR.size.trans z4
    have N5 : Below W.heap.size W ((W3.alloc (.cells #[.int .u8 0, .int .u8 0, .int .u8 0, .int .u8 0, .int .u8 0, .int .u8 0, .int .u8 0, .int .u8 0, .int .u8 0, .int .u8 0, .int .u8 0, .int .u8 0, .int .u8 0, .int .u8 0, .int .u8 0, .int .u8 0, .int .u8 0, .int .u8 0, .int .u8 0, .int .u8 0, .int .u8 0, .int .u8 0, .int .u8 0, .int .u8 0, .int .u8 0, .int .u8 0, .int .u8 0, .int .u8 0, .int .u8 0, .int .u8 0, .int .u8 0, .int .u8 0, .int .u8 0, .int .u8 0, .int .u8 0, .int .u8 0, .int .u8 0, .int .u8 0, .int .u8 0, .int .u8 0, .int .u8 0, .int .u8 0, .int .u8 0, .int .u8 0, .int .u8 0, .int .u8 0, .int .u8 0, .int .u8 0, .int .u8 0, .int .u8 0, .int .u8 0, .int .u8 0, .int .u8 0, .int .u8 0, .int .u8 0, .int .u8 0, .int .u8 0, .int .u8 0, .int .u8 0, .int .u8 0, .int .u8 0, .int .u8 0, .int .u8 0, .int .u8 0] 134)).setRow W3.heap.size vr.toArray) := n3.trans ((n4.mono (by omega)).trans (OR.below (by omega)))
    generalize (W3.alloc (.cells #[.int .u8 0, .int .u8 0, .int .u8 0, .int .u8 0, .int .u8 0, .int .u8 0, .int .u8 0, .int .u8 0, .int .u8 0, .int .u8 0, .int .u8 0, .int .u8 0, .int .u8 0, .int .u8 0, .int .u8 0, .int .u8 0, .int .u8 0, .int .u8 0, .int .u8 0, .int .u8 0, .int .u8 0, .int .u8 0, .int .u8 0, .int .u8 0, .int .u8 0, .int .u8 0, .int .u8 0, .int .u8 0, .int .u8 0, .int .u8 0, .int .u8 0, .int .u8 0, .int .u8 0, .int .u8 0, .int .u8 0, .int .u8 0, .int .u8 0, .int .u8 0, .int .u8 0, .int .u8 0, .int .u8 0, .int .u8 0, .int .u8 0, .int .u8 0, .int .u8 0, .int .u8 0, .int .u8 0, .int .u8 0, .int .u8 0, .int .u8 0, .int .u8 0, .int .u8 0, .int .u8 0, .int .u8 0, .int .u8 0, .int .u8 0, .int .u8 0, .int .u8 0, .int .u8 0, .int .u8 0, .int .u8 0, .int .u8 0, .int .u8 0, .int .u8 0] 134)).setRow W3.heap.size vr.toArray = W5 at *
    generalize W3.heap.size = bq at *
    clear OR n4 n3 H4 z4 O64 L64
    have T5 := zB.up N5
    have bW : W.heap.size ≤ bq := s3
    have peI : (pe : Int) ≤ 64 := by omega
    gi_loopw [25] (fun v wr => ∃ (j : Nat) (us : List Int), j ≤ pe ∧ v = .int .i64 j ∧ Hid (us = xorTo zs (64 * x.1) Bk j) ∧ B5 wr (w.heap.size + 1 + 1) us ∧ Blk wr bq .u8 Bk ∧ (∀ b, b < W.heap.size → b ≠ w.heap.size + 1 + 1 → wr.heap[b]? = W.heap[b]?) ∧ bq + 1 ≤ wr.heap.size ∧ KeepsFrom w6.heap.size W wr ∧ Below w.heap.size w wr) (fun v _ => pe - (intOf v).toNat)
    case atStart => exact ⟨0, zs, Nat.zero_le _, rfl, rfl, T5, SR, fun b hb _ => U5 b hb, by omega, keeps_below N5, be.trans (N5.mono be.size)⟩
    case round =>
      obtain ⟨j, us, hj, rfl, HU, hT, hK, hO, hZ, hF, hN⟩ := hrel
      clear T5 SR U5 N5 s5
      by_cases jl : j < pe
      · have pzl : 64 * x.1 + j < zs.length := by rw [zl]; omega
        have ul : us.length = zs.length := by rw [HU.out, xorTo_len]
        have ug : us.getD (64 * x.1 + j) 0 = zs.getD (64 * x.1 + j) 0 := by rw [HU.out, xorTo_get _ _ _ _ pzl, if_neg (by omega)]
        have cz0 : ∀ u, Below wr.heap.size wr u → u.cell? ⟨w.heap.size + 1 + 1, 64 * x.1 + j, none⟩ = some (.int .u8 (zs.getD (64 * x.1 + j) 0)) := fun u hu => by
          have := (hT.up hu).cell (i := 64 * x.1 + j) (by rw [ul]; exact pzl)
          rw [ug] at this
          exact this
        have cb0 : ∀ u, Below wr.heap.size wr u → u.cell? ⟨bq, j, none⟩ = some (.int .u8 (Bk.getD j 0)) := fun u hu => (hK.up hu).cell (i := j) (by rw [BL.out]; omega)
        have XS : Hid (us.set (64 * x.1 + j) (xr (zs.getD (64 * x.1 + j) 0) (Bk.getD j 0)) = xorTo zs (64 * x.1) Bk (j + 1)) := by show _ = _; rw [HU.out]; rfl
        have XV0 : Hid (bits BinOp.xor IntKind.u8 (zs.getD (64 * x.1 + j) 0) (Bk.getD j 0) = xr (zs.getD (64 * x.1 + j) 0) (Bk.getD j 0)) := rfl
        obtain ⟨pz, hpz⟩ : ∃ p, p = 64 * x.1 + j := ⟨_, rfl⟩
        have epz : 64 * x.1 + j = pz := hpz.symm
        rw [← hpz] at pzl ug XS XV0
        simp only [← hpz] at cz0
        clear hpz
        generalize zs.getD pz 0 = zv at *
        generalize Bk.getD j 0 = bv at *
        generalize xr zv bv = xv at *
        have XV := XV0
        have cz := cz0
        have cb := cb0
        have jpe : (j : Int) < (pe : Int) := by omega
        have j64 : (j : Int) < 64 := by omega
        clear XV0 cz0 cb0
        gi_wp2_with fail
        refine region_store_in 9 _ (fun i => [Fact.eq (.slice (some ⟨w.heap.size + 1 + 1, 64 * x.1, none⟩) pe pe), Fact.eq (.int .i64 (j : Int)), Fact.eq (.pointer (some ⟨w.heap.size + 1 + 1, pz, none⟩)), Fact.eq (.int .u8 zv), Fact.eq (.int .i64 (j : Int)), Fact.eq (.pointer (some ⟨bq, j, none⟩)), Fact.eq (.int .u8 bv), Fact.eq (.int .u8 xv), Fact.eq (.pointer (some ⟨w.heap.size + 1 + 1, pz, none⟩))].getD i Fact.no) (by kernel_rfl) (by rintro ⟨_, _, h⟩; exact h) (by kernel_rfl) (by kernel_rfl) rfl rfl ?_ ?_
        · skip
          intro i hi
          obtain rfl | rfl | rfl | rfl | rfl | rfl | rfl | rfl | rfl : i = 0 ∨ i = 1 ∨ i = 2 ∨ i = 3 ∨ i = 4 ∨ i = 5 ∨ i = 6 ∨ i = 7 ∨ i = 8 := by omega
          · refine step_pure rfl fun a u hb hw hf => ?_
            have e8 : a.tmps[8]?.getD undef = .slice (some ⟨w.heap.size + 1 + 1, 64 * x.1, none⟩) pe pe := gdv (hb.2.2 8 (by kernel_rfl))
            exact ⟨.slice (some ⟨w.heap.size + 1 + 1, 64 * x.1, none⟩) pe pe, by simp [go_sem, e8], rfl⟩
          · refine step_pure rfl fun a u hb hw hf => ?_
            have e10 : a.tmps[10]?.getD undef = .int .i64 (j : Int) := gdv (hb.2.2 10 (by kernel_rfl))
            exact ⟨.int .i64 (j : Int), by simp [go_sem, e10], rfl⟩
          · refine step_pure rfl fun a u hb hw hf => ?_
            have e28 : a.tmps[28]?.getD undef = .slice (some ⟨w.heap.size + 1 + 1, 64 * x.1, none⟩) pe pe := gdv (hf 0 28 (by kernel_rfl))
            have e29 : a.tmps[29]?.getD undef = .int .i64 (j : Int) := gdv (hf 1 29 (by kernel_rfl))
            exact ⟨.pointer (some ⟨w.heap.size + 1 + 1, pz, none⟩), by simp [go_sem, e28, e29, jpe, epz], rfl⟩
          · refine step_pure rfl fun a u hb hw hf => ?_
            have e30 : a.tmps[30]?.getD undef = .pointer (some ⟨w.heap.size + 1 + 1, pz, none⟩) := gdv (hf 2 30 (by kernel_rfl))
            have hc := cz _ hw
            exact ⟨.int .u8 zv, by simp [go_sem, e30, hc], rfl⟩
          · refine step_pure rfl fun a u hb hw hf => ?_
            have e10 : a.tmps[10]?.getD undef = .int .i64 (j : Int) := gdv (hb.2.2 10 (by kernel_rfl))
            exact ⟨.int .i64 (j : Int), by simp [go_sem, e10], rfl⟩
          · refine step_pure rfl fun a u hb hw hf => ?_
            have e9 : a.tmps[9]?.getD undef = .pointer (some ⟨bq, 0, none⟩) := gdv (hb.2.2 9 (by kernel_rfl))
            have e32 : a.tmps[32]?.getD undef = .int .i64 (j : Int) := gdv (hf 4 32 (by kernel_rfl))
            exact ⟨.pointer (some ⟨bq, j, none⟩), by simp [go_sem, e9, e32, j64], rfl⟩
          · refine step_pure rfl fun a u hb hw hf => ?_
            have e33 : a.tmps[33]?.getD undef = .pointer (some ⟨bq, j, none⟩) := gdv (hf 5 33 (by kernel_rfl))
            have hc := cb _ hw
            exact ⟨.int .u8 bv, by simp [go_sem, e33, hc], rfl⟩
          · refine step_pure rfl fun a u hb hw hf => ?_
            have e31 : a.tmps[31]?.getD undef = .int .u8 zv := gdv (hf 3 31 (by kernel_rfl))
            have e34 : a.tmps[34]?.getD undef = .int .u8 bv := gdv (hf 6 34 (by kernel_rfl))
            exact ⟨.int .u8 xv, by simp [go_sem, e31, e34, XV.out], rfl⟩
          · refine step_pure rfl fun a u hb hw hf => ?_
            have e28 : a.tmps[28]?.getD undef = .slice (some ⟨w.heap.size + 1 + 1, 64 * x.1, none⟩) pe pe := gdv (hf 0 28 (by kernel_rfl))
            have e29 : a.tmps[29]?.getD undef = .int .i64 (j : Int) := gdv (hf 1 29 (by kernel_rfl))
            exact ⟨.pointer (some ⟨w.heap.size + 1 + 1, pz, none⟩), by simp [go_sem, e28, e29, jpe, epz], rfl⟩
        · intro a u hb' hw' hf
          have e36 : a.tmps[36]?.getD undef = .pointer (some ⟨w.heap.size + 1 + 1, pz, none⟩) := gdv (hf 8 36 (by kernel_rfl))
          have e35 : a.tmps[35]?.getD undef = .int .u8 xv := gdv (hf 7 35 (by kernel_rfl))
          have hcz := cz u hw'
          have hfz := (hT.up hw').free pz
          have O2 := Only.setCell u (w.heap.size + 1 + 1) pz (.int .u8 xv)
          have T2 := (hT.up hw').store pz xv
          have K2 := (hK.up hw').of_block (O2.block bq (by omega))
          have U2 : ∀ b, b < W.heap.size → b ≠ w.heap.size + 1 + 1 → (u.setCell ⟨w.heap.size + 1 + 1, pz, none⟩ (.int .u8 xv)).heap[b]? = W.heap[b]? := fun b h1 h2 => (O2.block b h2).trans ((hw'.block b (by omega)).trans (hO b h1 h2))
          have F2 : KeepsFrom w6.heap.size W (u.setCell ⟨w.heap.size + 1 + 1, pz, none⟩ (.int .u8 xv)) := (hF.trans (keeps_below hw')).trans ((KeepsOthers.setCell _ _ _).from _)
          have s2 := O2.size
          have s1 := hw'.size
          have N2 := hN.trans ((hw'.mono hN.size).trans (O2.below (B := w.heap.size) (by omega)))
          obtain ⟨vs', hvs'⟩ : ∃ vs : Nat → Value, ∀ d, a.tmps.getD d undef = vs d := ⟨_, fun _ => rfl⟩
          have ea := puts_of (md := .any) (n := 41) (k := 9) (by kernel_rfl) rfl hb' vs' hvs'
          unfold Oper.wp
          simp [go_sem, e36, e35, hcz, hfz]
          rw [ea]
          clear ea hvs' e36 e35 hf hb' hcz hfz cz cb
          simp only [puts, Act.put, List.setIfInBounds_toArray, List.set_cons_succ, List.set_cons_zero]
          generalize u.setCell ⟨w.heap.size + 1 + 1, pz, none⟩ (.int .u8 xv) = W2 at *
          gi_wp2
          go_roundw
          case rel => exact ⟨j + 1, us.set pz xv, by omega, by go_num, XS, T2, K2, U2, by omega, F2, N2⟩
          case measure => simp [intOf]; omega
      · have jI : ¬ ((j : Int) < (pe : Int)) := by omega
        have HJ := hide (show j = pe by omega)
        have c2 := (World.cell?_of_block (a := ⟨w.heap.size + 1, 0, none⟩) (hO (w.heap.size + 1) (by omega) (by omega))).trans im
        have f2 := (World.frozen?_of_block (a := ⟨w.heap.size + 1, 0, none⟩) (hO (w.heap.size + 1) (by omega) (by omega))).trans nf
        have c3 : (wr.setCell ⟨w.heap.size + 1, 0, none⟩ (.int .i64 (cv + 1))).cell? ⟨w.heap.size + 1, 0, none⟩ = some (.int .i64 (cv + 1)) := World.cell?_setCell_same _ _ _ c2
        have f3 : (wr.setCell ⟨w.heap.size + 1, 0, none⟩ (.int .i64 (cv + 1))).frozen? ⟨w.heap.size + 1, 0, none⟩ = false := by rw [frozen_setCell]; exact f2
        have O3 := Only.setCell wr (w.heap.size + 1) 0 (.int .i64 (cv + 1))
        gi_wp2
        have lx : (pre ++ [x]).length = pre.length + 1 := by simp
        have K3 := hF.trans ((KeepsOthers.setCell wr ⟨w.heap.size + 1, 0, none⟩ (.int .i64 (cv + 1))).from w6.heap.size)
        have U3 : ∀ b, b < W.heap.size → b ≠ w.heap.size + 1 + 1 → b ≠ w.heap.size + 1 → (wr.setCell ⟨w.heap.size + 1, 0, none⟩ (.int .i64 (cv + 1))).heap[b]? = W.heap[b]? := fun b h1 h2 h3 => (O3.block b h3).trans (hO b h1 h2)
        have s6 := S6.out
        refine ⟨K3, ⟨U3 _ (by omega) (by omega) (by omega), U3 _ (by omega) (by omega) (by omega)⟩, ?_⟩
        refine ⟨⟨us, by rw [HU.out, xorTo_len]; exact zl, hT.of_block (O3.block (w.heap.size + 1 + 1) (by omega)), fun h => ?_⟩, hs.of_block (U3 w.heap.size (by omega) (by omega) (by omega)), ?_, f3, by have := O3.size; omega, hN.trans (O3.below (by omega))⟩
        · rw [lx, List.map_append, List.range_succ] at h
          obtain ⟨h1', h2'⟩ := List.append_inj' h rfl
          have h3' : x.1 = pre.length := by simpa using h2'
          rw [lx, HU.out, z3 h1', xoG, HBK.out, HCV.out, HJ.out, HPE.out, h3']
        · rw [lx, c3, HCV.out]
          congr 2
          omega
  case done =>
    rintro D xx W hD hS hI hK
    have yl : xx.length = (data.length + 63) / 64 := by have := congrArg List.length hS; simpa using this
    obtain ⟨zs, z1, z2, z3⟩ := hI.told
    rw [← yl] at hS
    have ez := z3 hS
    rw [yl] at ez
    have hdd : w.heap.size + 1 + 1 < D := by have := S6.out; have := YQ.out; omega
    have B9 : B5 (W.putObj D (.deferred none)) (w.heap.size + 1 + 1) zs := z2.of_block (World.putObj_heap_other (by omega))
    have N9 : Below w.heap.size w (W.putObj D (.deferred none)) := hI.bel.trans (belowK_b (w := w) (Nat.le_refl _) W D _ _ (by omega) hK rfl rfl)
    have EZ := hide ez
    have ZL := hide z1
    clear z1 z2 z3 ez hI yl hS
    go_wp2
    refine ⟨by simp, .inl ⟨_, _, rfl, run_takeDeferred hK, ?_⟩⟩
    have RB := B9.row (B := w.heap.size) (by omega) (by rw [ZL.out]; exact hn)
    rw [EZ.out, xoG_len] at RB
    exact ⟨_, results_tmp rfl _ _ _, ⟨.slice (some ⟨w.heap.size + 1 + 1, 0, none⟩) data.length data.length, by rfl, RB⟩, N9⟩
  case stop =>
    rintro D c pre W hD hs h hK
    exact h.elim
end Go.Proofs.YtbdecibgejmelaaDoor

/-
  The stream laid over twice, and the part behind a multiple of 64 bytes, as numbers.
-/
namespace Go.Proofs.YtbdecibgejmelaaDoor
set_option maxRecDepth 100000
open Go Go.RowKit

theorem xr_byt {d b : Int} (hd : 0 ≤ d ∧ d < 256) (hb : 0 ≤ b ∧ b < 256) : 0 ≤ xr d b ∧ xr d b < 256 := by
  unfold xr
  obtain ⟨n, rfl⟩ := Int.eq_ofNat_of_zero_le hd.1
  obtain ⟨m, rfl⟩ := Int.eq_ofNat_of_zero_le hb.1
  have h1 := hd.2
  have h2 := hb.2
  rw [u8_xor_nat n m (by omega) (by omega)]
  have : n ^^^ m < 2 ^ 8 := Nat.xor_lt_two_pow (by omega) (by omega)
  exact ⟨by omega, by omega⟩
theorem xr_xr {d b : Int} (hd : 0 ≤ d ∧ d < 256) (hb : 0 ≤ b ∧ b < 256) : xr (xr d b) b = d := by
  unfold xr
  obtain ⟨n, rfl⟩ := Int.eq_ofNat_of_zero_le hd.1
  obtain ⟨m, rfl⟩ := Int.eq_ofNat_of_zero_le hb.1
  have h1 := hd.2
  have h2 := hb.2
  have h3 : n ^^^ m < 2 ^ 8 := Nat.xor_lt_two_pow (by omega) (by omega)
  rw [u8_xor_nat n m (by omega) (by omega), u8_xor_nat (n ^^^ m) m (by omega) (by omega), Nat.xor_assoc, Nat.xor_self, Nat.xor_zero]
theorem xoG_byt (ys : List Int) (c : Int) {data : List Int} (hb : Byt data) (k : Nat) : Byt (xoG ys c data k) := by
  intro i
  by_cases hi : i < data.length
  · rw [xoG_get _ _ _ _ hi]
    split
    · exact xr_byt (hb i) (stB_byt _ _)
    · exact hb i
  · rw [List.getD_eq_getElem?_getD, List.getElem?_eq_none (by rw [xoG_len]; omega)]; decide
theorem xoG_xoG (ys : List Int) (c : Int) {data : List Int} (hb : Byt data) : xoG ys c (xoG ys c data ((data.length + 63) / 64)) ((data.length + 63) / 64) = data := by
  refine eq_of_getD (by rw [xoG_len, xoG_len]) (fun i hi => ?_)
  rw [xoG_len, xoG_len] at hi
  rw [xoG_get _ _ _ _ (by rw [xoG_len]; exact hi), if_pos (by omega), xoG_get _ _ _ _ hi, if_pos (by omega)]
  exact xr_xr (hb i) (stB_byt _ _)
theorem xoG_drop (ys : List Int) (c : Int) (data : List Int) (b : Nat) (h : 64 * b ≤ data.length) : xoG ys (c + (b : Int)) (data.drop (64 * b)) ((data.length - 64 * b + 63) / 64) = (xoG ys c data ((data.length + 63) / 64)).drop (64 * b) := by
  refine eq_of_getD (by rw [xoG_len, List.length_drop, List.length_drop, xoG_len]) (fun i hi => ?_)
  rw [xoG_len, List.length_drop] at hi
  have e : ∀ l : List Int, (l.drop (64 * b)).getD i 0 = l.getD (64 * b + i) 0 := fun l => by rw [List.getD_eq_getElem?_getD, List.getElem?_drop, List.getD_eq_getElem?_getD]
  rw [xoG_get _ _ _ _ (by rw [List.length_drop]; exact hi), if_pos (by omega), e, e, xoG_get _ _ _ _ (by omega), if_pos (by omega), show (64 * b + i) % 64 = i % 64 by omega, show (64 * b + i) / 64 = b + i / 64 by omega]
  congr 4
  omega
theorem sxA_len_or (key : List Int) (c : Int) (non data : List Int) : (sxA key c non data).length = data.length ∨ sxA key c non data = [] := by
  unfold sxA
  split
  · exact .inl (xoG_len _ _ _ _)
  · exact .inr rfl
/-- The two parts of the law. -/
theorem sxA_twice {key : List Int} {c : Int} {non data : List Int} (hb : Byt data) (h0 : 0 < data.length) (h : (sxA key c non data).length = data.length) : sxA key c non (sxA key c non data) = data := by
  unfold sxA at h ⊢
  by_cases hc : fitB key c non = true ∧ hasC c data.length = true
  · rw [if_pos hc, xoG_len, if_pos hc]
    exact xoG_xoG _ _ hb
  · rw [if_neg hc] at h
    simp at h
    omega
theorem sxA_part {key : List Int} {c : Int} {non data : List Int} (h : (sxA key c non data).length = data.length) (b : Nat) (hb : 64 * b < data.length) : sxA key (c + (b : Int)) non (data.drop (64 * b)) = (sxA key c non data).drop (64 * b) := by
  unfold sxA at h ⊢
  by_cases hc : fitB key c non = true ∧ hasC c data.length = true
  · rw [if_pos hc]
    obtain ⟨h1, h2⟩ := hc
    unfold hasC at h2
    simp only [decide_eq_true_eq] at h2
    unfold fitB at h1
    simp only [Bool.and_eq_true, decide_eq_true_eq] at h1
    rw [if_pos, List.length_drop]
    · exact xoG_drop _ _ _ b (by omega)
    · unfold fitB hasC
      simp only [Bool.and_eq_true, decide_eq_true_eq, List.length_drop]
      exact ⟨⟨h1.1, by omega, by omega⟩, by omega⟩
  · rw [if_neg hc] at h
    simp at h
    omega
end Go.Proofs.YtbdecibgejmelaaDoor

/-
  The program's Seal (written by gens/pzc.py).
-/
namespace Go.Proofs.YtbdecibgejmelaaDoor
set_option maxRecDepth 100000
open Go Go.RowKit

/-- Key and nonce have their lengths. -/
def fitK (key non : List Int) : Bool := decide (key.length = 32) && decide (non.length = 12)
/-- The stream from the first block on, laid over a text. -/
def xt (key non data : List Int) : List Int := xoG (nsW key non) 1 data ((data.length + 63) / 64)
theorem xt_len (key non data : List Int) : (xt key non data).length = data.length := xoG_len _ _ _ _
theorem xt_byt (key non : List Int) {data : List Int} (h : Byt data) : Byt (xt key non data) := xoG_byt _ _ h _
theorem xt_xt (key non : List Int) {data : List Int} (h : Byt data) : xt key non (xt key non data) = data := by
  show xoG _ _ (xt key non data) (((xt key non data).length + 63) / 64) = _
  rw [xt_len]
  exact xoG_xoG _ _ h
/-- What Seal answers. -/
def seA (key non ex plain : List Int) : List Int := if fitK key non = true then xt key non plain ++ ssB (nsW key non) ex (xt key non plain) else []
theorem seA_len (key non ex plain : List Int) : (seA key non ex plain).length ≤ plain.length + 16 := by
  unfold seA
  split
  · rw [List.length_append, xt_len, ssB_len]; exact Nat.le_refl _
  · simp
theorem seA_byt {key non ex plain : List Int} (h : Byt plain) : Byt (seA key non ex plain) := by
  unfold seA
  split
  · exact byt_app (xt_byt _ _ h) (ssB_byt _ _ _)
  · exact byt_nil
theorem hasC_short (n : Nat) (h : n ≤ 4194304) : hasC 1 n = true := by unfold hasC; simp; omega

theorem RowB.of_block5 {w w' : World} {base q : Nat} {v : Value} {xs : List Int} (h : RowB w base v xs) (ho : Only q w w') (hq : ∀ k, v.ownBlock = some k → k ≠ q) : RowB w' base v xs := by
  refine ⟨h.1, ?_⟩
  rcases h.2 with h' | ⟨g, cap, cur, rfl, hbg, hg, hnc, hcm, hcs, ht⟩
  · exact .inl h'
  · exact .inr ⟨g, cap, cur, rfl, hbg, by rw [ho.block g (hq g rfl)]; exact hg, hnc, hcm, hcs, ht⟩
set_option maxRecDepth 100000 in
set_option maxHeartbeats 8000000 in
theorem implSeal_any (w : World) (g : Nat) (a : Option Addr) (c : Nat) (key : List Int) (hr : Rd w g a .u8 key) (hb : Byt key) (hc : key.length ≤ c) (g' : Nat) (a' : Option Addr) (c' : Nat) (non : List Int) (hr' : Rd w g' a' .u8 non) (hb' : Byt non) (hc' : non.length ≤ c')
    (ge : Nat) (ae : Option Addr) (ce : Nat) (ex : List Int) (he : Rd w ge ae .u8 ex) (eb : Byt ex) (en : ae = none → ce = 0)
    (g2 : Nat) (a2 : Option Addr) (c2 : Nat) (data : List Int) (hr2 : Rd w g2 a2 .u8 data) (db : Byt data) (hs : ex.length + data.length ≤ 4000000) :
    Calls Tryd.prog 69 #[.slice a key.length c, .slice a' non.length c', .slice ae ex.length ce, .slice a2 data.length c2] w fun e w' => (∃ v, e = .returned v ∧ RowB w' w.heap.size v (seA key non ex data)) ∧ Below w.heap.size w w' := by
  obtain ⟨i0, hi, hz0, hz1, hz2⟩ := info_parts Tryd.info5
  have IK := isKey_any w a a' key.length non.length c c'
  by_cases h1 : (decide (key.length = 32) && decide (non.length = 12)) = true
  · rw [h1] at IK
    have HC := hasC_any w 1 (by omega) (by omega) a2 data.length c2
    rw [hasC_short data.length (by omega)] at HC
    have RS : Hid (seA key non ex data = xt key non data ++ ssB (nsW key non) ex (xt key non data)) := by show _ = _; unfold seA fitK; rw [if_pos h1]
    rw [RS.out]
    simp only [Bool.and_eq_true, decide_eq_true_eq] at h1
    have NW := hide (newWords_any w g a c key hr hb h1.1 hc g' a' c' non hr' hb' h1.2 hc')
    have LY := fun W (n : Below w.heap.size w W) => hide (layOverR_any W _ (nsW_ws hb hb') (nsW_len key non) 1 (by omega) g2 a2 c2 data (hr2.up n) (by omega) (by omega))
    have XB := hide (xt_byt key non db)
    have XL := hide (xt_len key non data)
    have XT : Hid (xt key non data = xoG (nsW key non) 1 data ((data.length + 63) / 64)) := rfl
    simp only [← XT.out] at LY
    generalize xt key non data = T at *
    have SS := fun W (n : Below w.heap.size w W) gt at' ct (h : Rd W gt at' .u8 T) (p : at' = none → ct = 0) => hide (sealSum_any W _ (nsW_ws hb hb') (nsW_len key non) ge ae ce ex (he.up n) eb en gt at' ct T h XB.out p (by rw [XL.out]; exact hs))
    have SL := hide (ssB_len (nsW key non) ex T)
    have W16 : Hid (((nsW key non).map (Value.int .u32)).length = 16) := by show _ = _; rw [List.length_map]; exact nsW_len key non
    have OW := one_ints .u32 (nsW key non)
    have VW : Hid (ag .u32 (nsW key non) = Value.agg ((nsW key non).map (Value.int .u32)).toArray) := rfl
    have TL : T.length ≤ 4000000 := by rw [XL.out]; omega
    have HTL := hide TL
    clear RS h1 XT XB XL TL
    generalize ssB (nsW key non) ex T = sm at *
    rw [VW.out] at NW
    simp only [VW.out] at LY SS
    obtain ⟨nw, hnw⟩ : ∃ l, l = nsW key non := ⟨_, rfl⟩
    rw [← hnw] at W16 OW NW
    simp only [← hnw] at LY SS
    clear hnw VW
    go_enter Tryd.func69, Tryd.ntmps69
    go_wp2_with fail
    refine IK.mono ?_
    rintro e w1 ⟨rfl, h⟩
    have h := h.symm
    subst h
    go_wp2_with fail
    refine HC.mono ?_
    rintro e w1 ⟨rfl, h⟩
    have h := h.symm
    subst h
    go_wp2_with fail
    refine NW.out.mono ?_
    rintro e w2 ⟨rfl, n2⟩
    have n3 : Below w2.heap.size w2 (w2.alloc (.cells #[.int .u32 0, .int .u32 0, .int .u32 0, .int .u32 0, .int .u32 0, .int .u32 0, .int .u32 0, .int .u32 0, .int .u32 0, .int .u32 0, .int .u32 0, .int .u32 0, .int .u32 0, .int .u32 0, .int .u32 0, .int .u32 0] 118)) := (Below.refl _ _).alloc (Nat.le_refl _) _
    obtain ⟨t3, H3⟩ := blk_z16 w2 118
    have SR := blk_setRow (zs := nw) ⟨t3, H3⟩
    have OR := only_setRow (w2.alloc (.cells #[.int .u32 0, .int .u32 0, .int .u32 0, .int .u32 0, .int .u32 0, .int .u32 0, .int .u32 0, .int .u32 0, .int .u32 0, .int .u32 0, .int .u32 0, .int .u32 0, .int .u32 0, .int .u32 0, .int .u32 0, .int .u32 0] 118)) w2.heap.size (nw.map (Value.int .u32)).toArray
    obtain ⟨vw, hvw⟩ : ∃ v, v = nw.map (Value.int .u32) := ⟨_, rfl⟩
    have RGf : ∀ W q, Blk W q .u32 nw → W.rangeAt q 0 vw := fun W q h => by rw [hvw]; exact (Seg.blk h).range
    rw [← hvw] at W16 OW SR OR ⊢
    simp only [← hvw] at LY SS
    clear hvw NW IK HC
    have s2 := n2.size
    have N3 : Below w.heap.size w ((w2.alloc (.cells #[.int .u32 0, .int .u32 0, .int .u32 0, .int .u32 0, .int .u32 0, .int .u32 0, .int .u32 0, .int .u32 0, .int .u32 0, .int .u32 0, .int .u32 0, .int .u32 0, .int .u32 0, .int .u32 0, .int .u32 0, .int .u32 0] 118)).setRow w2.heap.size vw.toArray) := n2.trans ((n3.mono s2).trans (OR.below (B := w.heap.size) s2))
    have z3 : ((w2.alloc (.cells #[.int .u32 0, .int .u32 0, .int .u32 0, .int .u32 0, .int .u32 0, .int .u32 0, .int .u32 0, .int .u32 0, .int .u32 0, .int .u32 0, .int .u32 0, .int .u32 0, .int .u32 0, .int .u32 0, .int .u32 0, .int .u32 0] 118)).setRow w2.heap.size vw.toArray).heap.size = w2.heap.size + 1 := OR.size.trans (by simp)
    go_upto_region 4 with (refine wpList_store_row rfl 118 (.tmp 9) (.tmp 23) rfl w2.heap.size vw.toArray rfl rfl t3 _ H3 (by rw [List.size_toArray, W16.out]; exact infoS) (by rw [List.size_toArray, List.size_toArray, W16.out]; rfl) OW ?_)
    generalize (w2.alloc (.cells #[.int .u32 0, .int .u32 0, .int .u32 0, .int .u32 0, .int .u32 0, .int .u32 0, .int .u32 0, .int .u32 0, .int .u32 0, .int .u32 0, .int .u32 0, .int .u32 0, .int .u32 0, .int .u32 0, .int .u32 0, .int .u32 0] 118)).setRow w2.heap.size vw.toArray = w3 at *
    generalize w2.heap.size = q at *
    have RG := RGf w3 q SR
    clear n3 OR H3 OW
    go_wp2_with (refine wpList_load_mid rfl 118 (.tmp 9) rfl q 0 rfl vw (.array 16 116) RG undS rfl (by rw [W16.out]; exact infoS) ?_)
    refine (LY w3 N3).out.mono ?_
    rintro e w4 ⟨⟨v4, rfl, R4⟩, n4⟩
    obtain ⟨a4, c4, g4, rfl, o4, p4, q4, r4⟩ := R4.own
    have N4 := nxt N3 n4
    have SR4 := SR.up n4
    have RG4 := RGf w4 q SR4
    have SM := SS w4 N4 g4 a4 c4 o4.rd p4
    have s3 := N3.size
    have R4 := R4.base (base' := w.heap.size) s3
    clear LY SS SR RG n4
    go_wp2_with (refine wpList_load_mid rfl 118 (.tmp 9) rfl q 0 rfl vw (.array 16 116) RG4 undS rfl (by rw [W16.out]; exact infoS) ?_)
    refine SM.out.mono ?_
    rintro e w5 ⟨rfl, n5⟩
    have N5 := nxt N4 n5
    have R5 := R4.up n5
    clear SM RG4 SR4 RGf N4 n5 R4 o4
    have n6 : Below w5.heap.size w5 (w5.alloc (.cells #[.int .u8 0, .int .u8 0, .int .u8 0, .int .u8 0, .int .u8 0, .int .u8 0, .int .u8 0, .int .u8 0, .int .u8 0, .int .u8 0, .int .u8 0, .int .u8 0, .int .u8 0, .int .u8 0, .int .u8 0, .int .u8 0] 121)) := (Below.refl _ _).alloc (Nat.le_refl _) _
    obtain ⟨t6, H6⟩ := blk_y16 w5 121
    have SR6 := blk_setRow (zs := sm) ⟨t6, H6⟩
    have OR6 := only_setRow (w5.alloc (.cells #[.int .u8 0, .int .u8 0, .int .u8 0, .int .u8 0, .int .u8 0, .int .u8 0, .int .u8 0, .int .u8 0, .int .u8 0, .int .u8 0, .int .u8 0, .int .u8 0, .int .u8 0, .int .u8 0, .int .u8 0, .int .u8 0] 121)) w5.heap.size (sm.map (Value.int .u8)).toArray
    have L6 : Hid ((sm.map (Value.int .u8)).length = 16) := by show _ = _; rw [List.length_map]; exact SL.out
    have O6 := one_ints .u8 sm
    have V6 : Hid (ag .u8 sm = Value.agg (sm.map (Value.int .u8)).toArray) := rfl
    rw [V6.out]
    obtain ⟨v6, hv6⟩ : ∃ v, v = sm.map (Value.int .u8) := ⟨_, rfl⟩
    rw [← hv6] at SR6 OR6 L6 O6 ⊢
    clear hv6 V6
    have s5 := N5.size
    have N6 : Below w.heap.size w ((w5.alloc (.cells #[.int .u8 0, .int .u8 0, .int .u8 0, .int .u8 0, .int .u8 0, .int .u8 0, .int .u8 0, .int .u8 0, .int .u8 0, .int .u8 0, .int .u8 0, .int .u8 0, .int .u8 0, .int .u8 0, .int .u8 0, .int .u8 0] 121)).setRow w5.heap.size v6.toArray) := N5.trans ((n6.mono s5).trans (OR6.below (B := w.heap.size) s5))
    have z6 : ((w5.alloc (.cells #[.int .u8 0, .int .u8 0, .int .u8 0, .int .u8 0, .int .u8 0, .int .u8 0, .int .u8 0, .int .u8 0, .int .u8 0, .int .u8 0, .int .u8 0, .int .u8 0, .int .u8 0, .int .u8 0, .int .u8 0, .int .u8 0] 121)).setRow w5.heap.size v6.toArray).heap.size = w5.heap.size + 1 := OR6.size.trans (by simp)
    have R6 := RowB.of_block5 (R5.up n6) OR6 (fun k hk => by have := (World.ownsRow.lt R5 k hk).2; omega)
    go_upto_region 6 with (refine wpList_store_row rfl 121 (.tmp 11) (.tmp 30) rfl w5.heap.size v6.toArray rfl rfl t6 _ H6 (by rw [List.size_toArray, L6.out]; exact infoP16) (by rw [List.size_toArray, List.size_toArray, L6.out]; rfl) O6 ?_)
    generalize (w5.alloc (.cells #[.int .u8 0, .int .u8 0, .int .u8 0, .int .u8 0, .int .u8 0, .int .u8 0, .int .u8 0, .int .u8 0, .int .u8 0, .int .u8 0, .int .u8 0, .int .u8 0, .int .u8 0, .int .u8 0, .int .u8 0, .int .u8 0] 121)).setRow w5.heap.size v6.toArray = w6 at *
    obtain ⟨v7, w7, hap, o7, n7⟩ := append_any (P := Tryd.prog) w6 22 i0 Tryd.underlying22 hi hz0 hz1 hz2 w.heap.size w.heap.size _ T R6 w5.heap.size (some ⟨w5.heap.size, 0, none⟩) 16 sm SR6.own0.rd (by simp) (by have := HTL.out; have := SL.out; omega) (Nat.le_refl _) N6.size
    rw [SL.out] at hap
    have N7 := N6.trans n7
    clear n6 OR6 H6 O6 L6 N5 R5 R6 SR6 z6
    go_wp2_with (at_builtin; refine Lib.wpList_append_run _ rfl _ _ 22 22 rfl _ _ rfl rfl _ _ hap ?_)
    go_ret
    exact ⟨⟨_, rfl, o7⟩, N7⟩
  · have h1' : (decide (key.length = 32) && decide (non.length = 12)) = false := by simpa using h1
    rw [h1'] at IK
    have RS : Hid (seA key non ex data = []) := by show _ = _; unfold seA fitK; rw [if_neg h1]
    rw [RS.out]
    clear h1 h1' RS
    go_enter Tryd.func69, Tryd.ntmps69
    go_wp2_with fail
    refine IK.mono ?_
    rintro e w1 ⟨rfl, h⟩
    have h := h.symm
    subst h
    go_wp2
    go_ret
    exact ⟨⟨_, rfl, ⟨rfl, .inl ⟨rfl, rfl⟩⟩⟩, Below.refl _ _⟩
end Go.Proofs.YtbdecibgejmelaaDoor

/-
  Blocks of just these cells; a struct copied field by field. No program in sight.
-/
namespace Go.Proofs.YtbdecibgejmelaaDoor
set_option maxRecDepth 100000
open Go Go.RowKit

/-- A block of just these cells. -/
def RwC (w : World) (q : Nat) (cs : List Value) (t : TypeId) : Prop := w.heap[q]? = some (.cells cs.toArray t (0, 0))
theorem RwC.new (w : World) (cs : List Value) (t : TypeId) : RwC (w.alloc (.cells cs.toArray t)) w.heap.size cs t := heap_alloc_new w _
theorem RwC.lt {w : World} {q : Nat} {cs : List Value} {t : TypeId} (h : RwC w q cs t) : q < w.heap.size := (Array.getElem?_eq_some_iff.1 h).1
theorem RwC.up {w w' : World} {q : Nat} {cs : List Value} {t : TypeId} (h : RwC w q cs t) (n : Below w.heap.size w w') : RwC w' q cs t := (n.block q h.lt).trans h
theorem RwC.cell {w : World} {q : Nat} {cs : List Value} {t : TypeId} (h : RwC w q cs t) (i : Nat) : w.cell? ⟨q, i, none⟩ = cs[i]? := by
  rw [cell_of_row w q i _ _ (0, 0) h]
  simp
theorem RwC.free {w : World} {q : Nat} {cs : List Value} {t : TypeId} (h : RwC w q cs t) (i : Nat) : w.frozen? ⟨q, i, none⟩ = false := frozen_of_row w q i _ t h
theorem RwC.set {w : World} {q : Nat} {cs : List Value} {t : TypeId} (h : RwC w q cs t) (i : Nat) (v : Value) : RwC (w.setCell ⟨q, i, none⟩ v) q (cs.set i v) t := by
  show (w.heap.modify q _)[q]? = _
  rw [Array.getElem?_modify, if_pos rfl, show w.heap[q]? = _ from h]
  simp
theorem RwC.push {w : World} {q : Nat} {cs : List Value} {t : TypeId} (h : RwC w q cs t) (o : Obj) : RwC (w.alloc o) q cs t := h.up ((Below.refl _ _).alloc (Nat.le_refl _) o)
theorem RwC.drew1 {w : World} {q : Nat} {cs : List Value} {t : TypeId} (h : RwC w q cs t) : RwC w.drew q cs t := h
theorem RwC.drews {w : World} {q : Nat} {cs : List Value} {t : TypeId} (h : RwC w q cs t) (n : Nat) : RwC (w.drewN n) q cs t := h
/-- Where a copy of a struct stands: its source, the place of its answer, and the copy so far. -/
structure TMs (w W : World) (tL tM : TypeId) (src zer cs : List Value) : Prop where
  S : RwC W w.heap.size src tL
  U : RwC W (w.heap.size + 1) zer tM
  T : RwC W (w.heap.size + 1 + 1) cs tM
  N : Below w.heap.size w W
theorem TMs.new (w : World) (tL tM : TypeId) (src zer : List Value) : TMs w (((w.alloc (.cells src.toArray tL)).alloc (.cells zer.toArray tM)).alloc (.cells zer.toArray tM)) tL tM src zer zer := by
  have z1 : (w.alloc (.cells src.toArray tL)).heap.size = w.heap.size + 1 := by simp
  have n1 : Below w.heap.size w (w.alloc (.cells src.toArray tL)) := (Below.refl _ _).alloc (Nat.le_refl _) _
  have s1 := RwC.new w src tL
  generalize w.alloc (.cells src.toArray tL) = a at *
  have z2 : (a.alloc (.cells zer.toArray tM)).heap.size = a.heap.size + 1 := by simp
  have n2 : Below a.heap.size a (a.alloc (.cells zer.toArray tM)) := (Below.refl _ _).alloc (Nat.le_refl _) _
  have s2 := RwC.new a zer tM
  generalize a.alloc (.cells zer.toArray tM) = b at *
  have n3 : Below b.heap.size b (b.alloc (.cells zer.toArray tM)) := (Below.refl _ _).alloc (Nat.le_refl _) _
  have s3 := RwC.new b zer tM
  rw [z2, z1] at s3
  rw [z1] at s2
  exact ⟨(s1.up n2).up n3, s2.up n3, s3, nxt (nxt n1 n2) n3⟩
theorem TMs.up {w W W' : World} {tL tM : TypeId} {src zer cs : List Value} (h : TMs w W tL tM src zer cs) (m : Below W.heap.size W W') : TMs w W' tL tM src zer cs := ⟨h.S.up m, h.U.up m, h.T.up m, nxt h.N m⟩
theorem RwC.onl {w w' : World} {q r : Nat} {cs : List Value} {t : TypeId} (h : RwC w q cs t) (O : Only r w w') (hne : q ≠ r) : RwC w' q cs t := (O.block q hne).trans h
theorem TMs.set {w W : World} {tL tM : TypeId} {src zer cs : List Value} (h : TMs w W tL tM src zer cs) (i : Nat) (v : Value) : TMs w (W.setCell ⟨w.heap.size + 1 + 1, i, none⟩ v) tL tM src zer (cs.set i v) := by
  have O := Only.setCell W (w.heap.size + 1 + 1) i v
  exact ⟨h.S.onl O (by omega), h.U.onl O (by omega), h.T.set i v, h.N.trans (O.below (by omega))⟩
theorem only_setG (w : World) (q : Nat) : ∀ (vs : List Value) (o : Nat), Only q w (w.setCells q o vs)
  | [], _ => Only.refl _ _
  | v :: vs, o => (Only.setCell w q o v).trans (only_setG _ q vs (o + 1))
theorem RwC.thereG {w : World} {q : Nat} {cs : List Value} {t : TypeId} (h : RwC w q cs t) : w.there q 0 cs.length := fun j hj => by
  rw [Nat.zero_add, h.cell j, h.free j]
  exact ⟨by simp [hj], rfl⟩
theorem results_cellG {P : Program} {fn : Func} {p : Tmp} {ty : TypeId} (h : fn.results = #[.cell p ty]) (tmps : Array Value) (w : World) (g : Nat) (cs : List Value) (d : TypeDesc)
    (hp : tmps.getD p undef = .pointer (some ⟨g, 0, none⟩)) (hc : w.rangeAt g 0 cs) (hu : P.underlying ty = some d) (hd : d.isRow = true) (hi : (P.info? ty).map (·.size) = some cs.length) :
    (results fn tmps).run P w = .ok (.agg cs.toArray) w := by
  have hp' : tmps[p]?.getD undef = .pointer (some ⟨g, 0, none⟩) := by simpa using hp
  simp [results, h, hp', asAddr, run_loadVar_mid w g 0 ty cs d hc hu hd hi]
theorem RwC.rangeG {w : World} {q : Nat} {cs : List Value} {t : TypeId} (h : RwC w q cs t) : w.rangeAt q 0 cs := fun j v hj => by
  rw [Nat.zero_add]
  exact (h.cell j).trans hj
end Go.Proofs.YtbdecibgejmelaaDoor

/-
  Worlds that differ in what was made and in some blocks; cells of a struct's block. No program in sight.
-/
namespace Go.Proofs.YtbdecibgejmelaaDoor
set_option maxRecDepth 100000
open Go Go.RowKit

/-- Of what was there the blocks S alone have changed. -/
structure Tch (S : List Nat) (w w' : World) : Prop where
  os : w'.os = w.os
  tape : w'.tape = w.tape
  output : w'.output = w.output
  size : w.heap.size ≤ w'.heap.size
  block : ∀ b, b < w.heap.size → b ∉ S → w'.heap[b]? = w.heap[b]?
theorem Tch.of_below {w w' : World} {S : List Nat} (h : Below w.heap.size w w') : Tch S w w' := ⟨h.os, h.tape, h.output, h.size, fun b hb _ => h.block b hb⟩
theorem Tch.of_only {w w' : World} {g : Nat} (h : Only g w w') : Tch [g] w w' := ⟨h.os, h.tape, h.output, Nat.le_of_eq h.size.symm, fun b _ hn => h.block b (by simpa using hn)⟩
theorem Tch.trans {a b c : World} {S T : List Nat} (h : Tch S a b) (k : Tch T b c) : Tch (S ++ T) a c :=
  ⟨k.os.trans h.os, k.tape.trans h.tape, k.output.trans h.output, Nat.le_trans h.size k.size, fun x hx hn => (k.block x (Nat.lt_of_lt_of_le hx h.size) (fun m => hn (List.mem_append_right _ m))).trans (h.block x hx (fun m => hn (List.mem_append_left _ m)))⟩
theorem Tch.below {w w' : World} {S : List Nat} {B : Nat} (h : Tch S w w') (hB : B ≤ w.heap.size) (hS : ∀ s ∈ S, B ≤ s) : Below B w w' := ⟨h.os, h.tape, h.output, h.size, fun k hk => h.block k (by omega) (fun m => by have := hS k m; omega)⟩
theorem Tch.mono {w w' : World} {S T : List Nat} (h : Tch S w w') (hs : ∀ s ∈ S, s ∈ T) : Tch T w w' := ⟨h.os, h.tape, h.output, h.size, fun b hb hn => h.block b hb (fun m => hn (hs b m))⟩
theorem Own.tch {w w' : World} {S : List Nat} {g : Nat} {a : Option Addr} {k : IntKind} {xs : List Int} (h : Own w g a k xs) (t : Tch S w w') (hne : 0 < xs.length → g ∉ S) : Own w' g a k xs := by
  by_cases h0 : 0 < xs.length
  · exact h.of_block (t.block g (h.rd.lt h0) (hne h0))
  · exact fun q => absurd q h0
theorem Blk.tch {w w' : World} {S : List Nat} {g : Nat} {k : IntKind} {ys : List Int} (h : Blk w g k ys) (t : Tch S w w') (hne : g ∉ S) : Blk w' g k ys := h.of_block (t.block g h.lt hne)
theorem RwC.tch {w w' : World} {S : List Nat} {q : Nat} {cs : List Value} {t : TypeId} (h : RwC w q cs t) (m : Tch S w w') (hne : q ∉ S) : RwC w' q cs t := (m.block q h.lt hne).trans h
theorem RwC.c0 {w : World} {q : Nat} {x : Value} {cs : List Value} {t : TypeId} (h : RwC w q (x :: cs) t) : w.cell? ⟨q, 0, none⟩ = some x := h.cell 0
theorem RwC.c1 {w : World} {q : Nat} {x y : Value} {cs : List Value} {t : TypeId} (h : RwC w q (x :: y :: cs) t) : w.cell? ⟨q, 1, none⟩ = some y := h.cell 1
theorem RwC.c2 {w : World} {q : Nat} {x y z : Value} {cs : List Value} {t : TypeId} (h : RwC w q (x :: y :: z :: cs) t) : w.cell? ⟨q, 2, none⟩ = some z := h.cell 2
end Go.Proofs.YtbdecibgejmelaaDoor

/-
  A sealed record made, and sealed; the program's newSealedRecord and seal.
-/
namespace Go.Proofs.YtbdecibgejmelaaDoor
set_option maxRecDepth 100000
open Go Go.RowKit

theorem results_twoN {P : Program} {fn : Func} {p t : Tmp} {ty : TypeId} (h : fn.results = #[.cell p ty, .tmp t]) (tmps : Array Value) (w : World) (g : Nat) (cs : List Value) (d : TypeDesc) (v : Value)
    (hp : tmps.getD p undef = .pointer (some ⟨g, 0, none⟩)) (ht : tmps.getD t undef = v) (hc : w.rangeAt g 0 cs) (hu : P.underlying ty = some d) (hd : d.isRow = true) (hi : (P.info? ty).map (·.size) = some cs.length) :
    (results fn tmps).run P w = .ok (.tuple #[.agg cs.toArray, v]) w := by
  have hp' : tmps[p]?.getD undef = .pointer (some ⟨g, 0, none⟩) := by simpa using hp
  have ht' : tmps[t]?.getD undef = v := by simpa using ht
  simp [results, h, hp', ht', asAddr, run_loadVar_mid w g 0 ty cs d hc hu hd hi]
theorem iSr : (Tryd.prog.info? 80).map (·.size) = some 4 := by kernel_rfl
theorem rowSr : ∃ d, Tryd.prog.underlying 80 = some d ∧ d.isRow = true := ⟨_, Tryd.underlying80, rfl⟩
theorem oneSr (k n : Int) (a a' : Option Addr) (m c m' c' : Nat) : ([.int .i64 k, .int .i64 n, .slice a m c, .slice a' m' c'] : List Value).toArray.all (·.oneCell') = true := all_oneCell_toArray fun v hv => by
  simp only [List.mem_cons, List.not_mem_nil, or_false] at hv
  rcases hv with rfl | rfl | rfl | rfl
  all_goals rfl
/-- The struct that newSealedRecord answers beside an error. -/
abbrev srZ : List Value := [.int .i64 0, .int .i64 0, .slice none 0 0, .slice none 0 0]
set_option maxHeartbeats 4000000 in
theorem newSealed_any (w : World) (ak : Option Addr) (kl ck : Nat) (gi : Nat) (ai : Option Addr) (ci : Nat) (V : List Int) (hi : Rd w gi ai .u8 V) (zi : ai = none → ci = 0) (q n : Int) (a2 a3 : Addr) (h2 : Sen w 2 a2) (h3 : Sen w 5 a3) :
    Calls Tryd.prog 55 #[.agg #[.slice ak kl ck, .slice ai V.length ci], .int .i64 q, .int .i64 n] w fun e w' => Below w.heap.size w w' ∧ 
      ((kl = 32 ∧ (rnA V q).length = 12 ∧ 17 ≤ n ∧ n ≤ 2321 ∧ ∃ an cn, e = .returned (.tuple #[.agg #[.int .i64 23, .int .i64 n, .slice ak kl ck, .slice an (rnA V q).length cn], .nilIface]) ∧ RowB w' w.heap.size (.slice an (rnA V q).length cn) (rnA V q))
       ∨ (¬ (kl = 32 ∧ (rnA V q).length = 12) ∧ e = .returned (.tuple #[.agg srZ.toArray, erV a3]))
       ∨ ((kl = 32 ∧ (rnA V q).length = 12) ∧ ¬ (17 ≤ n ∧ n ≤ 2321) ∧ e = .returned (.tuple #[.agg srZ.toArray, erV a2]))) := by
  obtain ⟨d1, hd1, hrow1⟩ := rowSr
  have NC := hide fun W (m : Below w.heap.size w W) => implNonce_any W gi ai ci V (hi.up m) zi q
  clear hi
  obtain ⟨R, hR⟩ : ∃ R, R = rnA V q := ⟨_, rfl⟩
  rw [← hR] at NC ⊢
  clear hR
  have n1 : Below w.heap.size w (w.alloc (.cells #[.slice ak kl ck, .slice ai V.length ci] 48)) := (Below.refl _ _).alloc (Nat.le_refl _) _
  have B0 : RwC (w.alloc (.cells #[.slice ak kl ck, .slice ai V.length ci] 48)) w.heap.size [.slice ak kl ck, .slice ai V.length ci] 48 := RwC.new w _ _
  have z1 : (w.alloc (.cells #[.slice ak kl ck, .slice ai V.length ci] 48)).heap.size = w.heap.size + 1 := by simp
  go_enter Tryd.func55, Tryd.ntmps55
  go_upto_region 1 with fail
  generalize w.alloc (.cells #[.slice ak kl ck, .slice ai V.length ci] 48) = wa at *
  have n2 : Below wa.heap.size wa (wa.alloc (.cells #[.int .i64 0, .int .i64 0, .slice none 0 0, .slice none 0 0] 80)) := (Below.refl _ _).alloc (Nat.le_refl _) _
  have Z0 : RwC (wa.alloc (.cells #[.int .i64 0, .int .i64 0, .slice none 0 0, .slice none 0 0] 80)) wa.heap.size srZ 80 := RwC.new wa _ _
  replace B0 := B0.up n2
  have N := nxt n1 n2
  generalize wa.alloc (.cells #[.int .i64 0, .int .i64 0, .slice none 0 0, .slice none 0 0] 80) = wb at *
  rw [z1] at Z0
  clear n1 n2 z1
  have lZ := Z0.lt
  have b0 := B0.c0
  have b1 := B0.c1
  go_wp2_with fail
  refine (NC.out wb N).mono ?_
  rintro e w1 ⟨v1, rfl, R1, m1⟩
  clear b0 b1
  replace B0 := B0.up m1
  replace Z0 := Z0.up m1
  replace N := nxt N m1
  have zm := m1.size
  obtain ⟨an, cn, gn, rfl, o1, _, _, gn1⟩ := R1.own
  have KD := hide (isKey_any w1 ak an kl R.length ck cn)
  have b0 := B0.c0
  have b1 := B0.c1
  go_wp2_with fail
  refine KD.out.mono ?_
  rintro e w2 ⟨rfl, hw⟩
  have hw := hw.symm
  subst hw
  have z0 : w1.cell? ⟨w.heap.size + 1, 0, none⟩ = some (.int .i64 0) := Z0.cell 0
  have z1 : w1.cell? ⟨w.heap.size + 1, 1, none⟩ = some (.int .i64 0) := Z0.cell 1
  have z2 : w1.cell? ⟨w.heap.size + 1, 2, none⟩ = some (.slice none 0 0) := Z0.cell 2
  have z3 : w1.cell? ⟨w.heap.size + 1, 3, none⟩ = some (.slice none 0 0) := Z0.cell 3
  have f0 := Z0.free 0
  have f1 := Z0.free 1
  have f2 := Z0.free 2
  have f3 := Z0.free 3
  have c2 := (h2.up N).c
  have c3 := (h3.up N).c
  unfold erV at c2 c3
  by_cases hg : kl = 32 ∧ R.length = 12
  · have hkd : (decide (kl = 32) && decide (R.length = 12)) = true := by simp [hg]
    have HG := hide hg
    clear hg
    rw [hkd]
    clear hkd
    by_cases hn : 17 ≤ n ∧ n ≤ 2321
    · have q1 : decide (n < 17) = false := by simp; omega
      have q2 : decide (2321 < n) = false := by simp; omega
      have HN := hide hn
      clear hn
      have ZF : RwC ((((w1.setCell ⟨w.heap.size + 1, 0, none⟩ (.int .i64 23)).setCell ⟨w.heap.size + 1, 1, none⟩ (.int .i64 n)).setCell ⟨w.heap.size + 1, 2, none⟩ (.slice ak kl ck)).setCell ⟨w.heap.size + 1, 3, none⟩ (.slice an R.length cn)) (w.heap.size + 1) [.int .i64 23, .int .i64 n, .slice ak kl ck, .slice an R.length cn] 80 := (((Z0.set 0 _).set 1 _).set 2 _).set 3 _
      have OF : Only (w.heap.size + 1) w1 ((((w1.setCell ⟨w.heap.size + 1, 0, none⟩ (.int .i64 23)).setCell ⟨w.heap.size + 1, 1, none⟩ (.int .i64 n)).setCell ⟨w.heap.size + 1, 2, none⟩ (.slice ak kl ck)).setCell ⟨w.heap.size + 1, 3, none⟩ (.slice an R.length cn)) := (((Only.setCell w1 (w.heap.size + 1) 0 _).trans (Only.setCell _ (w.heap.size + 1) 1 _)).trans (Only.setCell _ (w.heap.size + 1) 2 _)).trans (Only.setCell _ (w.heap.size + 1) 3 _)
      have RR := ZF.rangeG
      have NF := N.trans (OF.below (B := w.heap.size) (by omega))
      have RF := (R1.only OF (by omega)).base (show w.heap.size ≤ wb.heap.size by omega)
      clear OF ZF R1 o1
      go_wp2
      exact bodyPost_ret (v := .tuple #[.agg #[.int .i64 23, .int .i64 n, .slice ak kl ck, .slice an R.length cn], .nilIface]) (results_twoN Tryd.results55 _ _ (w.heap.size + 1) [.int .i64 23, .int .i64 n, .slice ak kl ck, .slice an R.length cn] d1 .nilIface rfl rfl RR hd1 hrow1 iSr) rfl ⟨NF, .inl ⟨HG.out.1, HG.out.2, HN.out.1, HN.out.2, an, cn, rfl, RF⟩⟩
    · have HN := hide hn
      rcases (by omega : n < 17 ∨ 2321 < n) with h | h
      · have q1 : decide (n < 17) = true := by simpa using h
        clear hn h
        have ZF : RwC ((((w1.setCell ⟨w.heap.size + 1, 0, none⟩ (.int .i64 0)).setCell ⟨w.heap.size + 1, 1, none⟩ (.int .i64 0)).setCell ⟨w.heap.size + 1, 2, none⟩ (.slice none 0 0)).setCell ⟨w.heap.size + 1, 3, none⟩ (.slice none 0 0)) (w.heap.size + 1) [.int .i64 0, .int .i64 0, .slice none 0 0, .slice none 0 0] 80 := (((Z0.set 0 _).set 1 _).set 2 _).set 3 _
        have OF : Only (w.heap.size + 1) w1 ((((w1.setCell ⟨w.heap.size + 1, 0, none⟩ (.int .i64 0)).setCell ⟨w.heap.size + 1, 1, none⟩ (.int .i64 0)).setCell ⟨w.heap.size + 1, 2, none⟩ (.slice none 0 0)).setCell ⟨w.heap.size + 1, 3, none⟩ (.slice none 0 0)) := (((Only.setCell w1 (w.heap.size + 1) 0 _).trans (Only.setCell _ (w.heap.size + 1) 1 _)).trans (Only.setCell _ (w.heap.size + 1) 2 _)).trans (Only.setCell _ (w.heap.size + 1) 3 _)
        have kg : ((((w1.setCell ⟨w.heap.size + 1, 0, none⟩ (.int .i64 0)).setCell ⟨w.heap.size + 1, 1, none⟩ (.int .i64 0)).setCell ⟨w.heap.size + 1, 2, none⟩ (.slice none 0 0)).setCell ⟨w.heap.size + 1, 3, none⟩ (.slice none 0 0)).cell? ⟨2, 0, none⟩ = some (.iface 163 (.pointer (some a2))) := (World.cell?_of_block (a := ⟨2, 0, none⟩) (OF.block 2 (by have : 2 < w.heap.size := block_lt_of_cell h2.c; omega))).trans c2
        have RR := ZF.rangeG
        have NF := N.trans (OF.below (B := w.heap.size) (by omega))
        clear OF ZF
        go_wp2
        go_region
        all_goals
          go_wp2
          exact bodyPost_ret (v := .tuple #[.agg srZ.toArray, erV a2]) (results_twoN Tryd.results55 _ _ (w.heap.size + 1) srZ d1 (erV a2) rfl rfl RR hd1 hrow1 iSr) rfl ⟨NF.drew, .inr (.inr ⟨HG.out, HN.out, rfl⟩)⟩
      · have q1 : decide (n < 17) = false := by simp; omega
        have q2 : decide (2321 < n) = true := by simpa using h
        clear hn h
        have ZF : RwC ((((w1.setCell ⟨w.heap.size + 1, 0, none⟩ (.int .i64 0)).setCell ⟨w.heap.size + 1, 1, none⟩ (.int .i64 0)).setCell ⟨w.heap.size + 1, 2, none⟩ (.slice none 0 0)).setCell ⟨w.heap.size + 1, 3, none⟩ (.slice none 0 0)) (w.heap.size + 1) [.int .i64 0, .int .i64 0, .slice none 0 0, .slice none 0 0] 80 := (((Z0.set 0 _).set 1 _).set 2 _).set 3 _
        have OF : Only (w.heap.size + 1) w1 ((((w1.setCell ⟨w.heap.size + 1, 0, none⟩ (.int .i64 0)).setCell ⟨w.heap.size + 1, 1, none⟩ (.int .i64 0)).setCell ⟨w.heap.size + 1, 2, none⟩ (.slice none 0 0)).setCell ⟨w.heap.size + 1, 3, none⟩ (.slice none 0 0)) := (((Only.setCell w1 (w.heap.size + 1) 0 _).trans (Only.setCell _ (w.heap.size + 1) 1 _)).trans (Only.setCell _ (w.heap.size + 1) 2 _)).trans (Only.setCell _ (w.heap.size + 1) 3 _)
        have kg : ((((w1.setCell ⟨w.heap.size + 1, 0, none⟩ (.int .i64 0)).setCell ⟨w.heap.size + 1, 1, none⟩ (.int .i64 0)).setCell ⟨w.heap.size + 1, 2, none⟩ (.slice none 0 0)).setCell ⟨w.heap.size + 1, 3, none⟩ (.slice none 0 0)).cell? ⟨2, 0, none⟩ = some (.iface 163 (.pointer (some a2))) := (World.cell?_of_block (a := ⟨2, 0, none⟩) (OF.block 2 (by have : 2 < w.heap.size := block_lt_of_cell h2.c; omega))).trans c2
        have RR := ZF.rangeG
        have NF := N.trans (OF.below (B := w.heap.size) (by omega))
        clear OF ZF
        go_wp2
        go_region
        all_goals
          go_wp2
          exact bodyPost_ret (v := .tuple #[.agg srZ.toArray, erV a2]) (results_twoN Tryd.results55 _ _ (w.heap.size + 1) srZ d1 (erV a2) rfl rfl RR hd1 hrow1 iSr) rfl ⟨NF.drew, .inr (.inr ⟨HG.out, HN.out, rfl⟩)⟩
  · have hkd : (decide (kl = 32) && decide (R.length = 12)) = false := by simpa using hg
    have HG := hide hg
    clear hg
    rw [hkd]
    clear hkd
    have ZF : RwC ((((w1.setCell ⟨w.heap.size + 1, 0, none⟩ (.int .i64 0)).setCell ⟨w.heap.size + 1, 1, none⟩ (.int .i64 0)).setCell ⟨w.heap.size + 1, 2, none⟩ (.slice none 0 0)).setCell ⟨w.heap.size + 1, 3, none⟩ (.slice none 0 0)) (w.heap.size + 1) [.int .i64 0, .int .i64 0, .slice none 0 0, .slice none 0 0] 80 := (((Z0.set 0 _).set 1 _).set 2 _).set 3 _
    have OF : Only (w.heap.size + 1) w1 ((((w1.setCell ⟨w.heap.size + 1, 0, none⟩ (.int .i64 0)).setCell ⟨w.heap.size + 1, 1, none⟩ (.int .i64 0)).setCell ⟨w.heap.size + 1, 2, none⟩ (.slice none 0 0)).setCell ⟨w.heap.size + 1, 3, none⟩ (.slice none 0 0)) := (((Only.setCell w1 (w.heap.size + 1) 0 _).trans (Only.setCell _ (w.heap.size + 1) 1 _)).trans (Only.setCell _ (w.heap.size + 1) 2 _)).trans (Only.setCell _ (w.heap.size + 1) 3 _)
    have kg : ((((w1.setCell ⟨w.heap.size + 1, 0, none⟩ (.int .i64 0)).setCell ⟨w.heap.size + 1, 1, none⟩ (.int .i64 0)).setCell ⟨w.heap.size + 1, 2, none⟩ (.slice none 0 0)).setCell ⟨w.heap.size + 1, 3, none⟩ (.slice none 0 0)).cell? ⟨5, 0, none⟩ = some (.iface 163 (.pointer (some a3))) := (World.cell?_of_block (a := ⟨5, 0, none⟩) (OF.block 5 (by have : 5 < w.heap.size := block_lt_of_cell h3.c; omega))).trans c3
    have RR := ZF.rangeG
    have NF := N.trans (OF.below (B := w.heap.size) (by omega))
    clear OF ZF
    go_wp2
    go_region
    all_goals
      go_wp2
      exact bodyPost_ret (v := .tuple #[.agg srZ.toArray, erV a3]) (results_twoN Tryd.results55 _ _ (w.heap.size + 1) srZ d1 (erV a3) rfl rfl RR hd1 hrow1 iSr) rfl ⟨NF.drew, .inr (.inl ⟨HG.out, rfl⟩)⟩
theorem bs2_runN (w : World) (a1 a2 : Option Addr) (n1 n2 c1 c2 : Nat) : (Instr.buildSlice 113 2 #[(0, .slice a1 n1 c1), (1, .slice a2 n2 c2)]).run Tryd.prog w = .ok (.slice (some ⟨w.heap.size, 0, none⟩) 2 2) (w.alloc (.cells #[.slice a1 n1 c1, .slice a2 n2 c2] 22)) := by
  kernel_rfl
theorem lsts_twoN (w : World) (t : TypeId) (a b : Lst) : Lsts (w.alloc (.cells #[.slice a.a a.xs.length a.c, .slice b.a b.xs.length b.c] t)) w.heap.size [a, b] := by
  intro j x hj
  match j, hj with
  | 0, hj => simp at hj; subst hj; simp [World.cell?_alloc_at]
  | 1, hj => simp at hj; subst hj; simp [World.cell?_alloc_at]
theorem cat2N (a b : Lst) : cat [a, b] = a.xs ++ b.xs := by simp [cat]
set_option maxHeartbeats 4000000 in
theorem seal_any (w : World) (n : Int) (gk : Nat) (ak : Option Addr) (ck : Nat) (K : List Int) (hk : Rd w gk ak .u8 K) (bk : Byt K) (kk : K.length ≤ ck) (gn : Nat) (an : Option Addr) (cn : Nat) (M : List Int) (hm : Rd w gn an .u8 M) (bm : Byt M) (km : M.length ≤ cn)
    (gx : Nat) (ax : Option Addr) (cx : Nat) (xs : List Int) (hx : Rd w gx ax .u8 xs) (bx : Byt xs) (lx : xs.length ≤ 1048576) :
    Calls Tryd.prog 56 #[.agg #[.int .i64 23, .int .i64 n, .slice ak K.length ck, .slice an M.length cn], .slice ax xs.length cx] w fun e w' => ∃ v, e = .returned v ∧ RowB w' w.heap.size v (hdL 23 n ++ seA K M (hdL 23 n) xs) ∧ Below w.heap.size w w' := by
  have N : Below w.heap.size w (w.alloc (.cells #[.int .i64 23, .int .i64 n, .slice ak K.length ck, .slice an M.length cn] 80)) := (Below.refl _ _).alloc (Nat.le_refl _) _
  have B0 : RwC (w.alloc (.cells #[.int .i64 23, .int .i64 n, .slice ak K.length ck, .slice an M.length cn] 80)) w.heap.size [.int .i64 23, .int .i64 n, .slice ak K.length ck, .slice an M.length cn] 80 := RwC.new w _ _
  have HB := fun W => hide (headBytes_any W 23 n)
  have hdb : Byt (hdL 23 n) := byt_apd (bigL_byt _ _) (bigL_byt _ _)
  have hdl := hdL_len 23 n
  generalize hdL 23 n = H at *
  have SE := hide fun W (m : Below w.heap.size w W) ge ae ce (he : Rd W ge ae .u8 H) (en : ae = none → ce = 0) => implSeal_any W gk ak ck K (hk.up m) bk kk gn an cn M (hm.up m) bm km ge ae ce H he hdb en gx ax cx xs (hx.up m) bx (by omega)
  have SL : Hid ((seA K M H xs).length ≤ 1048592) := Nat.le_trans (seA_len _ _ _ _) (by omega)
  generalize seA K M H xs = T at *
  have HDL := hide hdl
  clear hk hm hx bk bm bx kk km lx hdl hdb
  go_enter Tryd.func56, Tryd.ntmps56
  go_wp2_with fail
  generalize w.alloc (.cells #[.int .i64 23, .int .i64 n, .slice ak K.length ck, .slice an M.length cn] 80) = wa at *
  refine (HB _).out.mono ?_
  rintro e w1 ⟨v1, rfl, R1, m1⟩
  replace N := nxt N m1
  replace B0 := B0.up m1
  obtain ⟨a1, c1, g1, rfl, D1, z1, -, -⟩ := R1.rd
  have b2 : w1.cell? ⟨w.heap.size, 2, none⟩ = some (.slice ak K.length ck) := B0.cell 2
  have b3 : w1.cell? ⟨w.heap.size, 3, none⟩ = some (.slice an M.length cn) := B0.cell 3
  go_wp2_with fail
  refine (SE.out w1 N g1 a1 c1 D1 z1).mono ?_
  rintro e w2 ⟨⟨v2, rfl, R2⟩, m2⟩
  replace N := nxt N m2
  replace D1 := D1.up m2
  obtain ⟨a2, c2, g2, rfl, D2, z2, -, -⟩ := R2.rd
  clear b2 b3 B0 R1 R2 SE HB m1 m2
  have n3 : Below w2.heap.size w2 (w2.alloc (.cells #[.slice a1 H.length c1, .slice a2 T.length c2] 22)) := (Below.refl _ _).alloc (Nat.le_refl _) _
  have LS := lsts_twoN w2 22 ⟨g1, a1, c1, H⟩ ⟨g2, a2, c2, T⟩
  have CC := concatB_any (w2.alloc (.cells #[.slice a1 H.length c1, .slice a2 T.length c2] 22)) w2.heap.size 2 2 [⟨g1, a1, c1, H⟩, ⟨g2, a2, c2, T⟩] rfl (by omega) LS (by
    intro x hx
    simp only [List.mem_cons, List.not_mem_nil, or_false] at hx
    rcases hx with rfl | rfl
    · exact ⟨D1.up n3, z1⟩
    · exact ⟨D2.up n3, z2⟩) (by rw [cat2N, List.length_append]; have := HDL.out; show 0 < H.length + T.length; omega) (by rw [cat2N, List.length_append]; have := HDL.out; have := SL.out; show H.length + T.length ≤ _; omega)
  rw [cat2N] at CC
  replace CC := hide CC
  replace N := nxt N n3
  clear D1 D2 LS n3
  go_wp2_with fail
  refine CC.out.mono ?_
  rintro e w3 ⟨⟨v3, rfl, R3⟩, m3⟩
  go_wp2
  go_ret
  exact ⟨_, rfl, R3.base N.size, nxt N m3⟩
end Go.Proofs.YtbdecibgejmelaaDoor

/-
  The program's Protect.
-/
namespace Go.Proofs.YtbdecibgejmelaaDoor
set_option maxRecDepth 100000
open Go Go.RowKit

theorem rnA_12 (V : List Int) (q : Int) : (rnA V q).length = 12 ↔ V.length = 12 ∧ 0 ≤ q ∧ q ≤ 4294967295 := by
  unfold rnA
  split
  · next h => rw [nzT_len]; exact ⟨fun _ => h, fun _ => h.1⟩
  · next h => exact ⟨fun e => by simp at e, fun e => absurd e h⟩
theorem xrB_byt {a b : Int} (h1 : 0 ≤ a ∧ a < 256) (h2 : 0 ≤ b ∧ b < 256) : 0 ≤ xrB a b ∧ xrB a b < 256 := xr_byt h1 h2
theorem byt_setN {zs : List Int} (h : Byt zs) (i : Nat) (z : Int) (hz : 0 ≤ z ∧ z < 256) : Byt (zs.set i z) := fun j => by
  by_cases e : i = j
  · subst e
    by_cases l : i < zs.length
    · rw [getD_set_self _ _ _ l]; exact hz
    · rw [List.getD_eq_getElem?_getD, List.getElem?_eq_none (by rw [List.length_set]; omega)]; simp
  · rw [getD_set_ne _ _ _ _ e]; exact h j
theorem nzT_byt {zs B : List Int} (h : Byt zs) (hb : Byt B) : ∀ j, Byt (nzT zs B j)
  | 0 => h
  | j + 1 => byt_setN (nzT_byt h hb j) _ _ (xrB_byt (nzT_byt h hb j _) (hb j))
theorem rnA_byt {V : List Int} (h : Byt V) (q : Int) : Byt (rnA V q) := by
  unfold rnA
  split
  · exact nzT_byt h (bigL_byt _ _) 8
  · intro i; simp
theorem rep0_byt (n : Nat) : Byt (List.replicate n (0 : Int)) := byt_rep0 n
theorem inL_byt (k : Int) {xs : List Int} (h : Byt xs) (pad : Nat) : Byt (inL k xs pad) := byt_apd h (byt_apd (bigL_byt _ _) (byt_rep0 _))
/-- May it be sealed? -/
def okI (k : Int) (n : Nat) : Prop := isK k = true ∧ n ≤ 2048 ∧ ¬ (n = 0 ∧ k ≠ 23)
def okP (K V : List Int) (q k : Int) (n : Nat) (pad : Int) : Prop := (K.length = 32 ∧ (rnA V q).length = 12) ∧ okI k n ∧ 0 ≤ pad ∧ pad ≤ 256
/-- The sealed record's length field. -/
def szP (n : Nat) (pad : Int) : Int := (n : Int) + 1 + pad + 16
/-- The whole record. -/
def prL (K M : List Int) (k : Int) (xs : List Int) (pad : Int) : List Int := hdL 23 (szP xs.length pad) ++ seA K M (hdL 23 (szP xs.length pad)) (inL k xs pad.toNat)
def okD (K V : List Int) (q k : Int) (n : Nat) (pad : Int) : Decidable (okP K V q k n pad) := by unfold okP okI; infer_instance
def prA (K V : List Int) (q k : Int) (xs : List Int) (pad : Int) : List Int := @ite _ (okP K V q k xs.length pad) (okD K V q k xs.length pad) (prL K (rnA V q) k xs pad) []
theorem prA_len (K V : List Int) (q k : Int) (xs : List Int) (pad : Int) : (prA K V q k xs pad).length ≤ 2324 := by
  unfold prA
  split
  · next h =>
    have := seA_len K (rnA V q) (hdL 23 (szP xs.length pad)) (inL k xs pad.toNat)
    rw [inL_len] at this
    rw [prL, List.length_append, hdL_len]
    have h1 := h.2.1.2.1
    have h2 := h.2.2
    omega
  · simp
theorem ifV_ok {a1 a6 a7 : Addr} {k : Int} {n : Nat} (h : okI k n) : ifV a1 a6 a7 k n = .nilIface := by
  unfold ifV
  rw [if_pos h.1, if_neg (by have := h.2.1; omega), if_neg h.2.2]
theorem ifV_bad {a1 a6 a7 : Addr} {k : Int} {n : Nat} (h : ¬ okI k n) : ∃ a', ifV a1 a6 a7 k n = .iface 163 (.pointer (some a')) := by
  unfold ifV
  by_cases hk : isK k = true
  · rw [if_pos hk]
    by_cases hm : 2048 < n
    · rw [if_pos hm]; exact ⟨a6, rfl⟩
    · rw [if_neg hm, if_pos (Classical.byContradiction fun c => h ⟨hk, by omega, c⟩)]
      exact ⟨a7, rfl⟩
  · rw [if_neg hk]; exact ⟨a1, rfl⟩
set_option maxHeartbeats 4000000 in
theorem implProtect_any (w : World) (gk : Nat) (ak : Option Addr) (ck : Nat) (K : List Int) (hk : Rd w gk ak .u8 K) (bk : Byt K) (kk : K.length ≤ ck) (gi : Nat) (ai : Option Addr) (ci : Nat) (V : List Int) (hi : Rd w gi ai .u8 V) (bi : Byt V) (zi : ai = none → ci = 0) (q k : Int)
    (gx : Nat) (ax : Option Addr) (cx : Nat) (xs : List Int) (hx : Rd w gx ax .u8 xs) (bx : Byt xs) (zx : ax = none → cx = 0) (pad : Int) (a1 a2 a3 a6 a7 : Addr) (h1 : Sen w 1 a1) (h2 : Sen w 2 a2) (h3 : Sen w 5 a3) (h6 : Sen w 3 a6) (h7 : Sen w 4 a7) :
    Calls Tryd.prog 29 #[.agg #[.slice ak K.length ck, .slice ai V.length ci], .int .i64 q, .int .i64 k, .slice ax xs.length cx, .int .i64 pad] w fun e w' => ∃ v, e = .returned v ∧ RowB w' w.heap.size v (prA K V q k xs pad) ∧ Below w.heap.size w w' := by
  have n1 : Below w.heap.size w (w.alloc (.cells #[.slice ak K.length ck, .slice ai V.length ci] 48)) := (Below.refl _ _).alloc (Nat.le_refl _) _
  have B0 : RwC (w.alloc (.cells #[.slice ak K.length ck, .slice ai V.length ci] 48)) w.heap.size [.slice ak K.length ck, .slice ai V.length ci] 48 := RwC.new w _ _
  have FA := hide fun W (m : Below w.heap.size w W) => partFault_any W k ax xs.length cx a1 a6 a7 (h1.up m) (h6.up m) (h7.up m)
  have PD := hide fun W (m : Below w.heap.size w W) (hp : 0 ≤ pad ∧ pad ≤ 256) (l : xs.length ≤ 2048) => padded_any W k ⟨gx, ax, cx, xs⟩ (hx.up m) zx (by show xs.length ≤ _; omega) pad.toNat (by omega)
  have NS := hide fun W (m : Below w.heap.size w W) n => newSealed_any W ak K.length ck gi ai ci V (hi.up m) zi q n a2 a3 (h2.up m) (h3.up m)
  have SL := hide fun W (m : Below w.heap.size w W) n gn an cn (hm : Rd W gn an .u8 (rnA V q)) (km : (rnA V q).length ≤ cn) gy ay cy ys (hy : Rd W gy ay .u8 ys) (by' : Byt ys) (ly : ys.length ≤ 1048576) => seal_any W n gk ak ck K (hk.up m) bk kk gn an cn (rnA V q) hm (rnA_byt bi q) km gy ay cy ys hy by' ly
  have IB := hide (inL_byt k bx)
  clear hk bk kk hi bi hx bx zx h1 h2 h3 h6 h7 zi
  by_cases hI : okI k xs.length
  · rw [ifV_ok hI] at FA
    by_cases hp : 0 ≤ pad ∧ pad ≤ 256
    · have q1 : decide (pad < 0) = false := by simp; omega
      have q2 : decide (256 < pad) = false := by simp; omega
      have hq := nil_neq
      have ep : Hid ((pad.toNat : Int) = pad) := by show _ = _; omega
      have HI := hide hI
      have HP := hide hp
      clear hI hp
      go_enter Tryd.func29, Tryd.ntmps29
      go_upto_region 1 with fail
      generalize w.alloc (.cells #[.slice ak K.length ck, .slice ai V.length ci] 48) = wa at *
      have n2 : Below wa.heap.size wa (wa.alloc (.cells #[.int .i64 k, .slice ax xs.length cx] 77)) := (Below.refl _ _).alloc (Nat.le_refl _) _
      have P0 : RwC (wa.alloc (.cells #[.int .i64 k, .slice ax xs.length cx] 77)) wa.heap.size [.int .i64 k, .slice ax xs.length cx] 77 := RwC.new wa _ _
      replace B0 := B0.up n2
      have N := nxt n1 n2
      clear n1 n2
      go_wp2_with fail
      generalize wa.alloc (.cells #[.int .i64 k, .slice ax xs.length cx] 77) = wb at *
      refine (FA.out wb N).mono ?_
      rintro e w1 ⟨rfl, m1⟩
      replace N := nxt N m1
      replace B0 := B0.up m1
      replace P0 := P0.up m1
      have p0 := P0.c0
      have p1 := P0.c1
      have PD1 := PD.out w1 N HP.out HI.out.2.1
      rw [ep.out] at PD1
      replace PD1 := hide PD1
      go_wp2_with fail
      refine PD1.out.mono ?_
      rintro e w2 ⟨v2, rfl, R2, m2⟩
      replace N := nxt N m2
      replace B0 := B0.up m2
      clear p0 p1 P0 PD1 m1 m2 FA PD
      have IL : Hid ((inL k xs pad.toNat).length = xs.length + 1 + pad.toNat) := inL_len k xs pad.toNat
      have IBy := hide (IB.out pad.toNat)
      have eA : Hid (prL K (rnA V q) k xs pad = hdL 23 (szP xs.length pad) ++ seA K (rnA V q) (hdL 23 (szP xs.length pad)) (inL k xs pad.toNat)) := rfl
      obtain ⟨a2', c2', g2', ev, D2, z2, -, -⟩ := R2.rd
      subst ev
      have eS : Hid (((inL k xs pad.toNat).length : Int) + 16 = szP xs.length pad) := by
        show _ = _
        unfold szP
        have := IL.out
        have := ep.out
        omega
      obtain ⟨Y, hY⟩ : ∃ Y, Y = inL k xs pad.toNat := ⟨_, rfl⟩
      rw [← hY] at R2 IL IBy eA D2 eS ⊢
      clear hY
      have b0 := B0.c0
      have b1 := B0.c1
      have NS1 := NS.out w2 N ((Y.length : Int) + 16)
      replace NS1 := hide NS1
      have sb : (Y.length : Int) ≤ 10000 := by have := IL.out; have := HI.out.2.1; have := HP.out; omega
      have n3 : ∀ vs : List Value, Below w2.heap.size w2 w2 := fun _ => Below.refl _ _
      clear n3
      go_wp2_with fail
      refine NS1.out.mono ?_
      rintro e w3 ⟨m3, hc⟩
      have N3 := nxt N m3
      have D3 := D2.up m3
      clear b0 b1 B0 NS1 NS sb
      rcases hc with ⟨g1, g2, g3, g4, an, cn, rfl, R3⟩ | ⟨hb, rfl⟩ | ⟨hg, hb, rfl⟩
      · have eP : Hid (prA K V q k xs pad = prL K (rnA V q) k xs pad) := by show _ = _; rw [prA, if_pos ⟨⟨g1, g2⟩, HI.out, HP.out⟩]
        obtain ⟨an', cn', gn, ev, D4, z4, k4, -⟩ := R3.rd
        simp only [Value.slice.injEq] at ev
        obtain ⟨rfl, -, rfl⟩ := ev
        have G := hide (⟨g1, g2, g3, g4⟩ : _ ∧ _ ∧ _ ∧ _)
        clear g1 g2 g3 g4
        obtain ⟨s, hs⟩ : ∃ s, s = (Y.length : Int) + 16 := ⟨_, rfl⟩
        rw [← hs] at eS ⊢
        clear hs
        have n4 : Below w3.heap.size w3 (w3.alloc (.cells #[.int .i64 23, .int .i64 s, .slice ak K.length ck, .slice an (rnA V q).length cn] 80)) := (Below.refl _ _).alloc (Nat.le_refl _) _
        have S0 : RwC (w3.alloc (.cells #[.int .i64 23, .int .i64 s, .slice ak K.length ck, .slice an (rnA V q).length cn] 80)) w3.heap.size [.int .i64 23, .int .i64 s, .slice ak K.length ck, .slice an (rnA V q).length cn] 80 := RwC.new w3 _ _
        have N4 := nxt N3 n4
        have SL4 := hide (SL.out _ N4 s gn an cn (D4.up n4) k4 g2' a2' c2' Y (D3.up n4) IBy.out (by have := IL.out; have := HI.out.2.1; have := HP.out; omega))
        rw [eS.out] at SL4
        clear D3 D4 R3 R2 D2 SL n4
        have s0 := S0.c0
        have s1 := S0.c1
        have s2 := S0.c2
        have s3 : (w3.alloc (.cells #[.int .i64 23, .int .i64 s, .slice ak K.length ck, .slice an (rnA V q).length cn] 80)).cell? ⟨w3.heap.size, 3, none⟩ = some (.slice an (rnA V q).length cn) := S0.cell 3
        rw [eS.out] at *
        go_wp2_with fail
        refine SL4.out.mono ?_
        rintro e w5 ⟨v5, rfl, R5, m5⟩
        go_wp2
        go_ret
        exact ⟨_, rfl, by rw [eP.out, eA.out]; exact R5.base N4.size, nxt N4 m5⟩
      · have eP : Hid (prA K V q k xs pad = []) := by show _ = _; rw [prA, if_neg (fun h => hb h.1)]
        have he := er_neq a3
        have n4 : Below w3.heap.size w3 (w3.alloc (.cells #[.int .i64 0, .int .i64 0, .slice none 0 0, .slice none 0 0] 80)) := (Below.refl _ _).alloc (Nat.le_refl _) _
        clear D3 R2 D2 SL hb
        unfold erV
        go_wp2
        go_ret
        exact ⟨_, rfl, by rw [eP.out]; exact RowB.nilN _ _, nxt N3 n4⟩
      · exfalso
        have := IL.out
        have := HI.out.2.1
        have := HP.out
        omega
    · have eP : Hid (prA K V q k xs pad = []) := by show _ = _; rw [prA, if_neg (fun h => hp h.2.2)]
      have hq := nil_neq
      clear PD NS SL IB
      rcases (by omega : pad < 0 ∨ 256 < pad) with h | h
      · have q1 : decide (pad < 0) = true := by simpa using h
        clear hp h hI
        go_enter Tryd.func29, Tryd.ntmps29
        go_upto_region 1 with fail
        generalize w.alloc (.cells #[.slice ak K.length ck, .slice ai V.length ci] 48) = wa at *
        have n2 : Below wa.heap.size wa (wa.alloc (.cells #[.int .i64 k, .slice ax xs.length cx] 77)) := (Below.refl _ _).alloc (Nat.le_refl _) _
        have N := nxt n1 n2
        clear n1 n2 B0
        go_wp2_with fail
        generalize wa.alloc (.cells #[.int .i64 k, .slice ax xs.length cx] 77) = wb at *
        refine (FA.out wb N).mono ?_
        rintro e w1 ⟨rfl, m1⟩
        go_wp2
        go_ret
        exact ⟨_, rfl, by rw [eP.out]; exact RowB.nilN _ _, nxt N m1⟩
      · have q1 : decide (pad < 0) = false := by simp; omega
        have q2 : decide (256 < pad) = true := by simpa using h
        clear hp h hI
        go_enter Tryd.func29, Tryd.ntmps29
        go_upto_region 1 with fail
        generalize w.alloc (.cells #[.slice ak K.length ck, .slice ai V.length ci] 48) = wa at *
        have n2 : Below wa.heap.size wa (wa.alloc (.cells #[.int .i64 k, .slice ax xs.length cx] 77)) := (Below.refl _ _).alloc (Nat.le_refl _) _
        have N := nxt n1 n2
        clear n1 n2 B0
        go_wp2_with fail
        generalize wa.alloc (.cells #[.int .i64 k, .slice ax xs.length cx] 77) = wb at *
        refine (FA.out wb N).mono ?_
        rintro e w1 ⟨rfl, m1⟩
        go_wp2
        go_ret
        exact ⟨_, rfl, by rw [eP.out]; exact RowB.nilN _ _, nxt N m1⟩
  · have eP : Hid (prA K V q k xs pad = []) := by show _ = _; rw [prA, if_neg (fun h => hI h.2.1)]
    obtain ⟨a', e1⟩ := ifV_bad (a1 := a1) (a6 := a6) (a7 := a7) hI
    rw [e1] at FA
    have hq := er_neq a'
    clear PD NS SL IB hI e1
    go_enter Tryd.func29, Tryd.ntmps29
    go_upto_region 1 with fail
    generalize w.alloc (.cells #[.slice ak K.length ck, .slice ai V.length ci] 48) = wa at *
    have n2 : Below wa.heap.size wa (wa.alloc (.cells #[.int .i64 k, .slice ax xs.length cx] 77)) := (Below.refl _ _).alloc (Nat.le_refl _) _
    have N := nxt n1 n2
    clear n1 n2 B0
    go_wp2_with fail
    generalize wa.alloc (.cells #[.int .i64 k, .slice ax xs.length cx] 77) = wb at *
    refine (FA.out wb N).mono ?_
    rintro e w1 ⟨rfl, m1⟩
    go_wp2
    go_ret
    exact ⟨_, rfl, by rw [eP.out]; exact RowB.nilN _ _, nxt N m1⟩
end Go.Proofs.YtbdecibgejmelaaDoor

/-
  The model's l1Big and l1Copy as owned rows.
-/
namespace Go.Proofs.YtbdecibgejmelaaDoor
set_option maxRecDepth 100000
open Go Go.RowKit

def TyB (w : World) (g : Nat) : Prop := ∃ cur, w.heap[g]? = some (.cells cur 5 (0, 0))
theorem TyB.of_made {w : World} {base g n : Nat} {xs : List Value} (h : w.ownsRow base 5 1 (.slice (some ⟨g, 0, none⟩) n n) n xs) : TyB w g := by
  rcases h.2 with ⟨h', _⟩ | ⟨g', cap', cur, h', _, hg, _⟩
  · simp at h'
  · simp only [Value.slice.injEq, Option.some.injEq, Addr.mk.injEq, and_true, true_and] at h'
    obtain ⟨rfl, rfl⟩ := h'
    exact ⟨cur, hg⟩
theorem TyB.set {w : World} {g : Nat} (h : TyB w g) (i : Nat) (v : Value) : TyB (w.setCell ⟨g, i, none⟩ v) g := by
  obtain ⟨cur, h⟩ := h
  exact ⟨_, heap_setCell_same w g i _ 5 _ h⟩
theorem RowB.of_tyb {w : World} {g B : Nat} {ys : List Int} (h : Blk w g .u8 ys) (t : TyB w g) (hB : B ≤ g) (hl : ys.length ≤ 1048576) : RowB w B (.slice (some ⟨g, 0, none⟩) ys.length ys.length) ys := by
  obtain ⟨e, h⟩ := h
  obtain ⟨cur, t⟩ := t
  rw [t] at h
  simp only [Option.some.injEq, Obj.cells.injEq, and_true] at h
  obtain ⟨rfl, rfl⟩ := h
  refine ⟨by simp, .inr ⟨g, ys.length, _, rfl, hB, t, Nat.le_refl _, by unfold maxLen; omega, by simp, ?_⟩⟩
  show List.take (ys.length * 1) (List.map (Value.int .u8) ys) = _
  exact List.take_of_length_le (by simp)
set_option maxHeartbeats 1000000 in
theorem l1BigB_any (w : World) (v : Int) (t : Nat) (h0 : 0 ≤ v) (h1 : v < 9223372036854775808) (ht : t ≤ 1048576) :
    Calls Tryd.prog 57 #[.int .i64 v, .int .i64 (t : Int)] w fun e w' => e = .returned (.slice (some ⟨w.heap.size, 0, none⟩) t t) ∧ RowB w' w.heap.size (.slice (some ⟨w.heap.size, 0, none⟩) t t) (bigL v t) ∧ Below w.heap.size w w' := by
  obtain ⟨i0, hi, hz0, hz1, hz2⟩ := info_parts Tryd.info5
  go_enter Tryd.func57, Tryd.ntmps57
  go_wp2_with (at_make; refine wpList_make_full _ rfl _ _ 22 rfl w.heap.size 5 i0 (.int .u8 0) 1 Tryd.underlying22 hi hz0 hz1 .i64 .i64 _ _ t rfl rfl rfl rfl (by rw [hz2]; omega) (by unfold maxLen; omega) (Nat.le_refl _) ?_; intro w1 hown hgrow)
  have hB0 := Blk.of_made hown
  have T0 := TyB.of_made hown
  have hN0 : Below w.heap.size w w1 := (Below.refl _ _).grown hgrow (Nat.le_refl _) (by simp)
  clear hown hgrow
  go_loopw [0, 6] (fun q i wr => ∃ (k : Nat) (u j : Int) (ys : List Int), k ≤ t ∧ q = .int .i64 u ∧ i = .int .i64 j ∧ j + (k : Int) + 1 = (t : Int) ∧ 0 ≤ u ∧ u < 9223372036854775808 ∧ Hid (u = v / 256 ^ k) ∧ BigTo v t ys k ∧ Blk wr w.heap.size .u8 ys ∧ TyB wr w.heap.size ∧ Below w.heap.size w wr) (fun _ i _ => (intOf i + 1).toNat)
  case atStart => exact ⟨0, v, (t : Int) - 1, _, Nat.zero_le _, rfl, by go_num, by omega, h0, h1, by show _ = _; simp, BigTo.zero v t, hB0, T0, hN0⟩
  case round =>
    obtain ⟨k, u, j, ys, hk, rfl, rfl, hj, u0, u1, hu, hT, hB, hTy, hN⟩ := hrel
    by_cases hlt : 0 ≤ j
    · obtain ⟨p, rfl⟩ := Int.eq_ofNat_of_zero_le hlt
      have R := hT.step (by omega)
      rw [show t - 1 - k = p by omega, ← hu.out] at R
      have hl : p < ys.length := by rw [hT.1]; omega
      have hcy := hB.cell hl
      have hfy := hB.free p
      have hB' := hB.store p (u % 256)
      have hTy' := hTy.set p (.int .u8 (u % 256))
      have hN' : Below w.heap.size w (wr.setCell ⟨w.heap.size, p, none⟩ (.int .u8 (u % 256))) := hN.setCell (Nat.le_refl _) _
      have hu' : Hid (u / 256 = v / 256 ^ (k + 1)) := by show _ = _; rw [hu.out, div256]
      have p1 : (p : Int) < (t : Int) := by omega
      have HJ := hide hj
      clear hB hN hu hT hj
      go_wp2
      go_roundw
      case rel => exact ⟨k + 1, u / 256, (p : Int) - 1, _, by have := HJ.out; omega, by go_num, by go_num, by have := HJ.out; omega, by omega, by omega, hu', R, hB', hTy', hN'⟩
      case measure => simp [intOf]
    · obtain rfl : k = t := by omega
      have K := hide hT.all
      obtain rfl : j = -1 := by omega
      clear hj hu hT
      go_wp2
      go_ret
      have RB := RowB.of_tyb (B := w.heap.size) hB hTy (Nat.le_refl _) (by rw [K.out, bigL_len]; exact ht)
      rw [K.out, bigL_len] at RB
      exact ⟨rfl, RB, hN⟩
set_option maxHeartbeats 1000000 in
theorem l1CopyN_any (w : World) (g : Nat) (a : Option Addr) (c : Nat) (xs : List Int) (hr : Rd w g a .u8 xs) (hc : a = none → c = 0) (hn : xs.length ≤ 1099511627776) :
    Calls Tryd.prog 37 #[.slice a xs.length c] w fun e w' => ∃ v, e = .returned v ∧ RowB w' w.heap.size v xs ∧ Below w.heap.size w w' := by
  obtain ⟨i0, hi, hz0, hz1, hz2⟩ := info_parts Tryd.info5
  have hal : Below w.heap.size w (w.alloc (.cells #[] 5)) := (Below.refl _ _).alloc (Nat.le_refl _) _
  obtain ⟨v', w2, hap, o2, n2⟩ := append_any (P := Tryd.prog) (w.alloc (.cells #[] 5)) 22 i0 Tryd.underlying22 hi hz0 hz1 hz2 w.heap.size w.heap.size _ [] (RowB.lit0 w) g a c xs (hr.up hal) hc (by simp; omega) (Nat.le_refl _) (by simp)
  rw [List.nil_append] at o2
  go_enter Tryd.func37, Tryd.ntmps37
  go_wp2_with (at_builtin; refine Lib.wpList_append_run _ rfl _ _ 22 22 rfl _ _ rfl rfl _ _ hap ?_)
  go_ret
  exact ⟨_, rfl, o2, hal.trans n2⟩
end Go.Proofs.YtbdecibgejmelaaDoor

/-
  The nonce of a record: the model's RecordNonce.
-/
namespace Go.Proofs.YtbdecibgejmelaaDoor
set_option maxRecDepth 100000
open Go Go.RowKit

set_option maxRecDepth 100000 in
set_option maxHeartbeats 4000000 in
theorem specNonce_any (w : World) (g : Nat) (a : Option Addr) (c : Nat) (iv : List Int) (hr : Rd w g a .u8 iv) (hc : a = none → c = 0) (n : Int) :
    Calls Tryd.prog 52 #[.slice a iv.length c, .int .i64 n] w fun e w' => ∃ v', e = .returned v' ∧ RowB w' w.heap.size v' (rnA iv n) ∧ Below w.heap.size w w' := by
  have E0 : Below w.heap.size w (w.alloc (.cells #[] 5)) := (Below.refl _ _).alloc (Nat.le_refl _) _
  by_cases h12 : iv.length = 12
  · by_cases hn0 : n < 0
    · have q0 : rnA iv n = [] := by unfold rnA; rw [if_neg (by omega)]
      rw [q0, h12]
      clear h12 hr q0
      have q1 : decide (n < 0) = true := by simpa using hn0
      go_enter Tryd.func52, Tryd.ntmps52
      go_wp2
      go_ret
      exact ⟨_, rfl, RowB.lit0 _, E0⟩
    · by_cases hn1 : 4294967295 < n
      · have q0 : rnA iv n = [] := by unfold rnA; rw [if_neg (by omega)]
        rw [q0, h12]
        clear h12 hr q0
        have q1 : decide (n < 0) = false := by simpa using hn0
        have q2 : decide (4294967295 < n) = true := by simpa using hn1
        go_enter Tryd.func52, Tryd.ntmps52
        go_wp2
        go_ret
        exact ⟨_, rfl, RowB.lit0 _, E0⟩
      · have q0 : Hid (rnA iv n = nzT iv (bigL n 8) 8) := by show _ = _; unfold rnA; rw [if_pos (by omega)]
        have q1 : decide (n < 0) = false := by simpa using hn0
        have q2 : decide (4294967295 < n) = false := by simpa using hn1
        have CL := hide (l1CopyN_any w g a c iv hr hc (by omega))
        have AN := fun W => hide (l1BigB_any W n 8 (by omega) (by omega) (by decide))
        rw [h12] at CL ⊢
        have H12 := hide h12
        clear h12 hr hn0 hn1 E0
        have BL : Hid ((bigL n 8).length = 8) := bigL_len n 8
        obtain ⟨B, hB⟩ : ∃ B, B = bigL n 8 := ⟨_, rfl⟩
        simp only [← hB] at AN BL q0
        clear hB
        go_enter Tryd.func52, Tryd.ntmps52
        go_wp2_with fail
        refine CL.out.mono ?_
        rintro e w1 ⟨v1, rfl, R1, n1⟩
        clear CL
        obtain ⟨g1, cap, rfl, hg1, hcap, -⟩ := R1.parts (by rw [H12.out]; decide)
        rw [H12.out] at R1 hcap ⊢
        have l1 := ownBlock_lt R1
        have AN1 := AN w1
        go_wp2_with fail
        refine AN1.out.mono ?_
        rintro e w2 ⟨rfl, R2, n2⟩
        clear AN AN1
        obtain ⟨g2, c2, e2, -, -, D2c, -⟩ := R2.parts (by rw [BL.out]; decide)
        simp only [Value.slice.injEq, Option.some.injEq, Addr.mk.injEq, and_true] at e2
        obtain ⟨e2, -, e3⟩ := e2
        have CB : Hid (∀ k, k < 8 → w2.cell? ⟨w1.heap.size, k, none⟩ = some (.int .u8 (B.getD k 0))) := fun k hk => by rw [e2]; exact D2c k (by rw [BL.out]; exact hk)
        have R1' := R1.up n2
        have N2 := nxt n1 n2
        obtain ⟨g2, hg2⟩ : ∃ g2, g2 = w1.heap.size := ⟨_, rfl⟩
        rw [← hg2] at CB l1 ⊢
        clear R1 R2 D2c n1 n2 BL e2 e3 hg2
        go_wp2
        go_loopw [7] (fun i wr => ∃ k : Nat, k ≤ 8 ∧ i = .int .i64 k ∧ RowB wr w.heap.size (.slice (some ⟨g1, 0, none⟩) 12 cap) (nzT iv B k) ∧ Hid (wr.heap[g2]? = w2.heap[g2]?) ∧ Below w.heap.size w wr) (fun i _ => 8 - (intOf i).toNat)
        case atStart => exact ⟨0, Nat.zero_le _, rfl, R1', rfl, N2⟩
        case round =>
          obtain ⟨k, hk, rfl, R, hbk, hN⟩ := hrel
          by_cases hlt : k < 8
          · have cb := (World.cell?_of_block (a := ⟨g2, k, none⟩) hbk.out).trans (CB.out k hlt)
            have hL : Hid ((nzT iv B k).length = 12) := by show _ = _; rw [nzT_len]; exact H12.out
            obtain ⟨g1', cap', e1, -, -, cz, fz, sz, -⟩ := R.parts (by rw [hL.out]; decide)
            simp only [Value.slice.injEq, Option.some.injEq, Addr.mk.injEq, and_true] at e1
            obtain ⟨e1, -, e2⟩ := e1
            subst e1 e2
            have cz1 := cz (4 + k) (by rw [hL.out]; omega)
            have fz1 := fz (4 + k)
            have R' := sz (4 + k) (xrB ((nzT iv B k).getD (4 + k) 0) (B.getD k 0)) (by rw [hL.out]; omega)
            have hR : RowB (wr.setCell ⟨g1, 4 + k, none⟩ (.int .u8 (xrB ((nzT iv B k).getD (4 + k) 0) (B.getD k 0)))) w.heap.size (.slice (some ⟨g1, 0, none⟩) 12 cap) (nzT iv B (k + 1)) := R'
            have hbk' : Hid ((wr.setCell ⟨g1, 4 + k, none⟩ (.int .u8 (xrB ((nzT iv B k).getD (4 + k) 0) (B.getD k 0)))).heap[g2]? = w2.heap[g2]?) := ((Only.setCell wr g1 (4 + k) _).block g2 (by omega)).trans hbk.out
            have hN' : Below w.heap.size w (wr.setCell ⟨g1, 4 + k, none⟩ (.int .u8 (xrB ((nzT iv B k).getD (4 + k) 0) (B.getD k 0)))) := hN.setCell hg1 _
            unfold xrB at hR hbk' hN'
            clear R R' cz fz sz hN hbk hL
            have k1 : (k : Int) < 8 := by omega
            have e4 : (4 : Int) + (k : Int) = ((4 + k : Nat) : Int) := by omega
            have i4 : ((4 + k : Nat) : Int) < 12 := by omega
            generalize (nzT iv B k).getD (4 + k) 0 = x at *
            generalize B.getD k 0 = y at *
            obtain ⟨m, hm⟩ : ∃ m, m = 4 + k := ⟨_, rfl⟩
            rw [← hm] at cz1 fz1 hR hbk' hN' e4 i4
            clear hm
            go_wp2
            go_region
            go_wp2
            go_roundw
            case rel => exact ⟨k + 1, by omega, by go_num, hR, hbk', hN'.drew⟩
            case measure => simp [intOf]; omega
          · obtain rfl : k = 8 := by omega
            rw [show (((8 : Nat) : Int)) = 8 from rfl]
            go_wp2
            go_ret
            exact ⟨_, rfl, by rw [q0.out]; exact R, hN⟩
  · have q0 : rnA iv n = [] := by unfold rnA; rw [if_neg (by omega)]
    rw [q0]
    have q1 : decide ((iv.length : Int) = 12) = false := by simp; omega
    have q3 : ((iv.length : Int) != 12) = true := by simp; omega
    clear h12 hr q0
    go_enter Tryd.func52, Tryd.ntmps52
    go_wp2
    go_ret
    exact ⟨_, rfl, RowB.lit0 _, E0⟩
end Go.Proofs.YtbdecibgejmelaaDoor

/-
  Records: the model's l15Known, l15Head, EncodeRecord.
-/
namespace Go.Proofs.YtbdecibgejmelaaDoor
set_option maxRecDepth 100000
open Go Go.RowKit

theorem known_any (w : World) (k : Int) : Calls Tryd.prog 33 #[.int .i64 k] w fun e w' => e = .returned (.bool (isK k)) ∧ w' = w := by
  by_cases h0 : k = 21
  · subst h0
    go_enter Tryd.func33, Tryd.ntmps33
    go_wp2
    go_ret
    exact ⟨rfl, rfl⟩
  by_cases h1 : k = 22
  · subst h1
    go_enter Tryd.func33, Tryd.ntmps33
    go_wp2
    go_ret
    exact ⟨rfl, rfl⟩
  by_cases h2 : k = 23
  · subst h2
    go_enter Tryd.func33, Tryd.ntmps33
    go_wp2
    go_ret
    exact ⟨rfl, rfl⟩
  have e : isK k = false := by simp [isK, h0, h1, h2]
  have q0 : (k == 21) = false := by simp [h0]
  have q1 : (k == 22) = false := by simp [h1]
  have q2 : (k == 23) = false := by simp [h2]
  have q3 : Hid ((k == 21 || k == 22 || k == 23) = false) := by show _ = _; rw [q0, q1, q2]; rfl
  rw [e]
  go_enter Tryd.func33, Tryd.ntmps33
  go_wp2
  go_ret
  exact ⟨by first | rfl | (rw [show false = (k == 21 || k == 22 || k == 23) from q3.out.symm]; rfl), rfl⟩
set_option maxHeartbeats 1000000 in
theorem l15Head_any (w : World) (k n : Int) (h0 : 0 ≤ n) (h1 : n < 9223372036854775808) :
    Calls Tryd.prog 34 #[.int .i64 k, .int .i64 n] w fun e w' => ∃ v, e = .returned v ∧ RowB w' w.heap.size v (hdL k n) ∧ Below w.heap.size w w' := by
  obtain ⟨i0, hi, hz0, hz1, hz2⟩ := info_parts Tryd.info5
  obtain ⟨x, hx⟩ : ∃ x, k % 256 = x := ⟨_, rfl⟩
  have BK : Hid (bigL k 1 = [x]) := by show _ = _; simp [bigL, ← hx]
  have n0 : Below w.heap.size w (w.alloc (.cells #[.int .u8 x] 5)) := (Below.refl _ _).alloc (Nat.le_refl _) _
  have R0 := RowB.lit1 w x
  have AN := fun W => hide (l1BigB_any W n 2 h0 h1 (by decide))
  have HD : Hid (hdL k n = [x] ++ bigL n 2) := by show _ = _; rw [hdL, BK.out]
  have BL : Hid ((bigL n 2).length = 2) := bigL_len n 2
  generalize bigL n 2 = B at *
  go_enter Tryd.func34, Tryd.ntmps34
  go_wp2_with fail
  generalize w.alloc (.cells #[.int .u8 x] 5) = wa at *
  refine (AN _).out.mono ?_
  rintro e w1 ⟨rfl, R1, n1⟩
  obtain ⟨a1, c1, g1, e1, D1, z1, q1, r1⟩ := R1.rd
  rw [BL.out] at e1
  simp only [Value.slice.injEq] at e1
  obtain ⟨rfl, -, rfl⟩ := e1
  obtain ⟨v2, w2, hap, R2, n2⟩ := append_any (P := Tryd.prog) w1 22 i0 Tryd.underlying22 hi hz0 hz1 hz2 w.heap.size w.heap.size _ _ (R0.up n1) g1 _ 2 B D1 (by simp) (by rw [BL.out]; simp) (Nat.le_refl _) (by have := n0.size; have := n1.size; omega)
  rw [← HD.out] at R2
  rw [BL.out] at hap
  go_wp2_with (at_builtin; refine Lib.wpList_append_run _ rfl _ _ 22 22 rfl _ _ rfl rfl _ _ hap ?_)
  go_ret
  exact ⟨_, rfl, R2, (nxt n0 n1).trans n2⟩
end Go.Proofs.YtbdecibgejmelaaDoor
