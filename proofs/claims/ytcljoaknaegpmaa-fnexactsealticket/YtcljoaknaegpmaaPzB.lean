
/-
  The program's sealSum (written by gens/pzb.py).
-/
import Derived.Test.YtcljoaknaegpmaaPzA
import Derived.Test.YtcljoaknaegpmaaPoU
import Derived.Test.YtcljoaknaegpmaaCcH
namespace Go.Proofs.Ytcljoaknaegpmaa
open Go Go.RowKit

/-- The sum of a sealed text, by the words of key and nonce. -/
def ssB (ys extra text : List Int) : List Int := otB ((stB (ys.set 12 0)).take 32) (smd extra text)
theorem ssB_len (ys extra text : List Int) : (ssB ys extra text).length = 16 := otB_len _ _
theorem ssB_byt (ys extra text : List Int) : Byt (ssB ys extra text) := otB_byt _ _
theorem byt_app {xs ys : List Int} (h : Byt xs) (k : Byt ys) : Byt (xs ++ ys) := fun i => by
  rw [List.getD_eq_getElem?_getD, List.getElem?_append]
  split
  · have := h i; rwa [List.getD_eq_getElem?_getD] at this
  · have := k (i - xs.length); rwa [List.getD_eq_getElem?_getD] at this
theorem smd_byt {extra text : List Int} (h : Byt extra) (k : Byt text) : Byt (smd extra text) :=
  byt_app (byt_app (byt_app (byt_app (byt_app h (zpad_byt _)) k) (zpad_byt _)) (len8_byt _)) (len8_byt _)
theorem smd_len (extra text : List Int) : 16 ≤ (smd extra text).length ∧ (smd extra text).length ≤ extra.length + text.length + 46 := by
  have h1 := zpad_len extra.length
  have h2 := zpad_len text.length
  unfold smd
  simp only [List.length_append, len8_len]
  omega
theorem lsts_six (w : World) (t : TypeId) (l0 l1 l2 l3 l4 l5 : Lst) : Lsts (w.alloc (.cells #[.slice l0.a l0.xs.length l0.c, .slice l1.a l1.xs.length l1.c, .slice l2.a l2.xs.length l2.c, .slice l3.a l3.xs.length l3.c, .slice l4.a l4.xs.length l4.c, .slice l5.a l5.xs.length l5.c] t)) w.heap.size [l0, l1, l2, l3, l4, l5] := fun j l hj => by
  have hl : j < 6 := by have := (List.getElem?_eq_some_iff.1 hj).1; simpa using this
  obtain rfl | rfl | rfl | rfl | rfl | rfl : j = 0 ∨ j = 1 ∨ j = 2 ∨ j = 3 ∨ j = 4 ∨ j = 5 := by omega
  all_goals
    simp only [List.getElem?_cons_zero, List.getElem?_cons_succ, Option.some.injEq] at hj
    subst hj
    simp [World.cell?_alloc_at]
theorem rd_take {w : World} {g : Nat} {ys : List Int} (h : Blk w g .u8 ys) (n : Nat) (hn : n ≤ ys.length) : Rd w g (some ⟨g, 0, none⟩) .u8 (ys.take n) :=
  (h.own (xs := ys.take n) 0 (by rw [List.length_take]; omega) (fun i hi => by
    rw [List.length_take] at hi
    rw [Nat.zero_add, List.getD_eq_getElem?_getD, List.getD_eq_getElem?_getD, List.getElem?_take, if_pos (by omega)])).rd
theorem byt_take {ys : List Int} (h : Byt ys) (n : Nat) : Byt (ys.take n) := by
  have := byt_part h 0 n
  rwa [List.drop_zero] at this
set_option maxRecDepth 100000 in
set_option maxHeartbeats 8000000 in
theorem sealSum_any (w : World) (ys : List Int) (hw : Ws ys) (hl : ys.length = 16) (ge : Nat) (ae : Option Addr) (ce : Nat) (ex : List Int) (he : Rd w ge ae .u8 ex) (eb : Byt ex) (en : ae = none → ce = 0)
    (gt : Nat) (at' : Option Addr) (ct : Nat) (tx : List Int) (ht : Rd w gt at' .u8 tx) (tb : Byt tx) (tn : at' = none → ct = 0) (hs : ex.length + tx.length ≤ 4000000) :
    Calls Try.prog 47 #[ag .u32 ys, .slice ae ex.length ce, .slice at' tx.length ct] w fun e w' => e = .returned (ag .u8 (ssB ys ex tx)) ∧ Below w.heap.size w w' := by
  have B0 := blk_alloc w .u32 59 ys
  have n0 : Below w.heap.size w (w.alloc (.cells (ys.map (Value.int .u32)).toArray 59)) := (Below.refl _ _).alloc (Nat.le_refl _) _
  have z0 : (w.alloc (.cells (ys.map (Value.int .u32)).toArray 59)).heap.size = w.heap.size + 1 := by simp
  have BA := fun W => hide (block_any W ys hw hl 0 ⟨by omega, by omega⟩)
  have L0 : Hid ((ys.map (Value.int .u32)).length = 16) := by show _ = _; rw [List.length_map]; exact hl
  have VY : Hid (ag .u32 ys = Value.agg (ys.map (Value.int .u32)).toArray) := rfl
  simp only [VY.out] at BA
  rw [VY.out]
  have SSB : Hid (ssB ys ex tx = otB ((stB (ys.set 12 0)).take 32) (smd ex tx)) := rfl
  have SL := hide (ssB_len ys ex tx)
  have KB := hide (stB_byt (ys.set 12 0))
  have KL := hide (stB_len (ys.set 12 0))
  generalize stB (ys.set 12 0) = ks at *
  obtain ⟨vy, hvy⟩ : ∃ v, v = ys.map (Value.int .u32) := ⟨_, rfl⟩
  have RGf : ∀ W, Blk W w.heap.size .u32 ys → W.rangeAt w.heap.size 0 vy := fun W h => by rw [hvy]; exact (Seg.blk h).range
  rw [← hvy] at B0 n0 z0 L0 ⊢
  simp only [← hvy] at BA
  clear hvy VY hw hl
  go_enter Try.func47, Try.ntmps47
  go_upto_region 1 with fail
  generalize w.alloc (.cells vy.toArray 59) = wa at *
  have B1 := blk_y16 wa 62
  have n1 : Below wa.heap.size wa (wa.alloc (.cells #[.int .u8 0, .int .u8 0, .int .u8 0, .int .u8 0, .int .u8 0, .int .u8 0, .int .u8 0, .int .u8 0, .int .u8 0, .int .u8 0, .int .u8 0, .int .u8 0, .int .u8 0, .int .u8 0, .int .u8 0, .int .u8 0] 62)) := (Below.refl _ _).alloc (Nat.le_refl _) _
  have z1 : (wa.alloc (.cells #[.int .u8 0, .int .u8 0, .int .u8 0, .int .u8 0, .int .u8 0, .int .u8 0, .int .u8 0, .int .u8 0, .int .u8 0, .int .u8 0, .int .u8 0, .int .u8 0, .int .u8 0, .int .u8 0, .int .u8 0, .int .u8 0] 62)).heap.size = w.heap.size + 1 + 1 := by simp [z0]
  generalize wa.alloc (.cells #[.int .u8 0, .int .u8 0, .int .u8 0, .int .u8 0, .int .u8 0, .int .u8 0, .int .u8 0, .int .u8 0, .int .u8 0, .int .u8 0, .int .u8 0, .int .u8 0, .int .u8 0, .int .u8 0, .int .u8 0, .int .u8 0] 62) = wb at *
  rw [z0] at B1
  have B0 := B0.up n1
  have N1 := nxt n0 n1
  have RG := RGf wb B0
  clear n0 n1 z0
  go_wp2_with (refine wpList_load_mid rfl 59 (.tmp 3) rfl w.heap.size 0 rfl vy (.array 16 57) RG undS rfl (by rw [L0.out]; exact infoS) ?_)
  refine (BA wb).out.mono ?_
  rintro e wc ⟨rfl, n2⟩
  have z2 := n2.size
  have B1 := B1.up n2
  have N2 := nxt N1 n2
  clear RG RGf BA N1 n2 B0
  have n3 : Below wc.heap.size wc (wc.alloc (.cells #[.int .u8 0, .int .u8 0, .int .u8 0, .int .u8 0, .int .u8 0, .int .u8 0, .int .u8 0, .int .u8 0, .int .u8 0, .int .u8 0, .int .u8 0, .int .u8 0, .int .u8 0, .int .u8 0, .int .u8 0, .int .u8 0, .int .u8 0, .int .u8 0, .int .u8 0, .int .u8 0, .int .u8 0, .int .u8 0, .int .u8 0, .int .u8 0, .int .u8 0, .int .u8 0, .int .u8 0, .int .u8 0, .int .u8 0, .int .u8 0, .int .u8 0, .int .u8 0, .int .u8 0, .int .u8 0, .int .u8 0, .int .u8 0, .int .u8 0, .int .u8 0, .int .u8 0, .int .u8 0, .int .u8 0, .int .u8 0, .int .u8 0, .int .u8 0, .int .u8 0, .int .u8 0, .int .u8 0, .int .u8 0, .int .u8 0, .int .u8 0, .int .u8 0, .int .u8 0, .int .u8 0, .int .u8 0, .int .u8 0, .int .u8 0, .int .u8 0, .int .u8 0, .int .u8 0, .int .u8 0, .int .u8 0, .int .u8 0, .int .u8 0, .int .u8 0] 83)) := (Below.refl _ _).alloc (Nat.le_refl _) _
  obtain ⟨t3, H3⟩ := blk_z64 wc 83
  have SR := blk_setRow (zs := ks) ⟨t3, H3⟩
  have OR := only_setRow (wc.alloc (.cells #[.int .u8 0, .int .u8 0, .int .u8 0, .int .u8 0, .int .u8 0, .int .u8 0, .int .u8 0, .int .u8 0, .int .u8 0, .int .u8 0, .int .u8 0, .int .u8 0, .int .u8 0, .int .u8 0, .int .u8 0, .int .u8 0, .int .u8 0, .int .u8 0, .int .u8 0, .int .u8 0, .int .u8 0, .int .u8 0, .int .u8 0, .int .u8 0, .int .u8 0, .int .u8 0, .int .u8 0, .int .u8 0, .int .u8 0, .int .u8 0, .int .u8 0, .int .u8 0, .int .u8 0, .int .u8 0, .int .u8 0, .int .u8 0, .int .u8 0, .int .u8 0, .int .u8 0, .int .u8 0, .int .u8 0, .int .u8 0, .int .u8 0, .int .u8 0, .int .u8 0, .int .u8 0, .int .u8 0, .int .u8 0, .int .u8 0, .int .u8 0, .int .u8 0, .int .u8 0, .int .u8 0, .int .u8 0, .int .u8 0, .int .u8 0, .int .u8 0, .int .u8 0, .int .u8 0, .int .u8 0, .int .u8 0, .int .u8 0, .int .u8 0, .int .u8 0] 83)) wc.heap.size (ks.map (Value.int .u8)).toArray
  have L3 : Hid ((ks.map (Value.int .u8)).length = 64) := by show _ = _; rw [List.length_map]; exact KL.out
  have O3 := one_ints .u8 ks
  have V3 : Hid (ag .u8 ks = Value.agg (ks.map (Value.int .u8)).toArray) := rfl
  rw [V3.out]
  obtain ⟨v3, hv3⟩ : ∃ v, v = ks.map (Value.int .u8) := ⟨_, rfl⟩
  rw [← hv3] at SR OR L3 O3 ⊢
  have z3 : (wc.alloc (.cells #[.int .u8 0, .int .u8 0, .int .u8 0, .int .u8 0, .int .u8 0, .int .u8 0, .int .u8 0, .int .u8 0, .int .u8 0, .int .u8 0, .int .u8 0, .int .u8 0, .int .u8 0, .int .u8 0, .int .u8 0, .int .u8 0, .int .u8 0, .int .u8 0, .int .u8 0, .int .u8 0, .int .u8 0, .int .u8 0, .int .u8 0, .int .u8 0, .int .u8 0, .int .u8 0, .int .u8 0, .int .u8 0, .int .u8 0, .int .u8 0, .int .u8 0, .int .u8 0, .int .u8 0, .int .u8 0, .int .u8 0, .int .u8 0, .int .u8 0, .int .u8 0, .int .u8 0, .int .u8 0, .int .u8 0, .int .u8 0, .int .u8 0, .int .u8 0, .int .u8 0, .int .u8 0, .int .u8 0, .int .u8 0, .int .u8 0, .int .u8 0, .int .u8 0, .int .u8 0, .int .u8 0, .int .u8 0, .int .u8 0, .int .u8 0, .int .u8 0, .int .u8 0, .int .u8 0, .int .u8 0, .int .u8 0, .int .u8 0, .int .u8 0, .int .u8 0] 83)).heap.size = wc.heap.size + 1 := by simp
  have B1 := (B1.up n3).of_block (OR.block (w.heap.size + 1) (by omega))
  have N3 := N2.trans ((n3.mono N2.size).trans (OR.below (B := w.heap.size) (by have := N2.size; omega)))
  have z4 := OR.size.trans z3
  clear hv3 V3 N2
  go_upto_region 2 with (refine wpList_store_row rfl 83 (.tmp 7) (.tmp 10) rfl wc.heap.size v3.toArray rfl rfl t3 _ H3 (by rw [List.size_toArray, L3.out]; exact infoB) (by rw [List.size_toArray, List.size_toArray, L3.out]; rfl) O3 ?_)
  generalize (wc.alloc (.cells #[.int .u8 0, .int .u8 0, .int .u8 0, .int .u8 0, .int .u8 0, .int .u8 0, .int .u8 0, .int .u8 0, .int .u8 0, .int .u8 0, .int .u8 0, .int .u8 0, .int .u8 0, .int .u8 0, .int .u8 0, .int .u8 0, .int .u8 0, .int .u8 0, .int .u8 0, .int .u8 0, .int .u8 0, .int .u8 0, .int .u8 0, .int .u8 0, .int .u8 0, .int .u8 0, .int .u8 0, .int .u8 0, .int .u8 0, .int .u8 0, .int .u8 0, .int .u8 0, .int .u8 0, .int .u8 0, .int .u8 0, .int .u8 0, .int .u8 0, .int .u8 0, .int .u8 0, .int .u8 0, .int .u8 0, .int .u8 0, .int .u8 0, .int .u8 0, .int .u8 0, .int .u8 0, .int .u8 0, .int .u8 0, .int .u8 0, .int .u8 0, .int .u8 0, .int .u8 0, .int .u8 0, .int .u8 0, .int .u8 0, .int .u8 0, .int .u8 0, .int .u8 0, .int .u8 0, .int .u8 0, .int .u8 0, .int .u8 0, .int .u8 0, .int .u8 0] 83)).setRow wc.heap.size v3.toArray = wd at *
  generalize hq : wc.heap.size = q at *
  clear n3 OR H3 O3 L3 z3 hq
  have he := he.up N3
  have ht := ht.up N3
  have eL : ex.length ≤ 4194304 := by omega
  have tL : tx.length ≤ 4194304 := by omega
  go_wp2_with fail
  refine (zerosBehind_any wd ae ex.length ce eL).mono ?_
  rintro e w4 ⟨⟨a4, c4, g4, rfl, o4, p4, q4, r4⟩, n4⟩
  have he := he.up n4
  have ht := ht.up n4
  have SR := SR.up n4
  have B1 := B1.up n4
  have N4 := nxt N3 n4
  clear N3 n4
  go_wp2_with fail
  refine (zerosBehind_any w4 at' tx.length ct tL).mono ?_
  rintro e w5 ⟨⟨a5, c5, g5, rfl, o5, p5, q5, r5'⟩, n5⟩
  have he := he.up n5
  have ht := ht.up n5
  have SR := SR.up n5
  have B1 := B1.up n5
  have N5 := nxt N4 n5
  have o4 := o4.up n5
  clear N4 n5
  go_wp2_with fail
  refine (lengthBytes_any w5 ae ex.length ce eL).mono ?_
  rintro e w6 ⟨⟨a6, c6, g6, rfl, o6, p6, q6, r6⟩, n6⟩
  have he := he.up n6
  have ht := ht.up n6
  have SR := SR.up n6
  have B1 := B1.up n6
  have N6 := nxt N5 n6
  have o4 := o4.up n6
  have o5 := o5.up n6
  clear N5 n6
  go_wp2_with fail
  refine (lengthBytes_any w6 at' tx.length ct tL).mono ?_
  rintro e w7 ⟨⟨a7, c7, g7, rfl, o7, p7, q7, r7⟩, n7⟩
  have he := he.up n7
  have ht := ht.up n7
  have SR := SR.up n7
  have B1 := B1.up n7
  have N7 := nxt N6 n7
  have o4 := o4.up n7
  have o5 := o5.up n7
  have o6 := o6.up n7
  clear N6 n7
  obtain ⟨l0, hl0⟩ : ∃ l : Lst, l = ⟨ge, ae, ce, ex⟩ := ⟨_, rfl⟩
  obtain ⟨l1, hl1⟩ : ∃ l : Lst, l = ⟨g4, a4, c4, zpad ex.length⟩ := ⟨_, rfl⟩
  obtain ⟨l2, hl2⟩ : ∃ l : Lst, l = ⟨gt, at', ct, tx⟩ := ⟨_, rfl⟩
  obtain ⟨l3, hl3⟩ : ∃ l : Lst, l = ⟨g5, a5, c5, zpad tx.length⟩ := ⟨_, rfl⟩
  obtain ⟨l4, hl4⟩ : ∃ l : Lst, l = ⟨g6, a6, c6, len8 ex.length⟩ := ⟨_, rfl⟩
  obtain ⟨l5, hl5⟩ : ∃ l : Lst, l = ⟨g7, a7, c7, len8 tx.length⟩ := ⟨_, rfl⟩
  have CT : Hid (cat [l0, l1, l2, l3, l4, l5] = smd ex tx) := by
    show _ = _
    unfold cat smd
    rw [hl0, hl1, hl2, hl3, hl4, hl5]
    simp
  have LS := fun t => lsts_six w7 t l0 l1 l2 l3 l4 l5
  have LR : ∀ W, Below w7.heap.size w7 W → ∀ l ∈ [l0, l1, l2, l3, l4, l5], Rd W l.g l.a .u8 l.xs ∧ (l.a = none → l.c = 0) := fun W n l hm => by
    simp only [List.mem_cons, List.not_mem_nil, or_false] at hm
    rcases hm with rfl | rfl | rfl | rfl | rfl | rfl
    · rw [hl0]; exact ⟨he.up n, en⟩
    · rw [hl1]; exact ⟨(o4.up n).rd, p4⟩
    · rw [hl2]; exact ⟨ht.up n, tn⟩
    · rw [hl3]; exact ⟨(o5.up n).rd, p5⟩
    · rw [hl4]; exact ⟨(o6.up n).rd, p6⟩
    · rw [hl5]; exact ⟨(o7.up n).rd, p7⟩
  have sl := smd_len ex tx
  have CC := fun W b (h1 : Lsts W b [l0, l1, l2, l3, l4, l5]) (h2 : Below w7.heap.size w7 W) => hide (concat_any W b 6 6 [l0, l1, l2, l3, l4, l5] rfl (by omega) h1 (LR W h2) (by rw [CT.out]; omega) (by rw [CT.out]; omega))
  simp only [CT.out] at CC
  have SMB := hide (smd_byt eb tb)
  have SML : Hid ((smd ex tx).length ≤ 4194304) := by show _ ≤ _; omega
  have E0 : Hid (Value.slice ae ex.length ce = Value.slice l0.a l0.xs.length l0.c) := by show _ = _; rw [hl0]
  have E1 : Hid (Value.slice a4 (zpad ex.length).length c4 = Value.slice l1.a l1.xs.length l1.c) := by show _ = _; rw [hl1]
  have E2 : Hid (Value.slice at' tx.length ct = Value.slice l2.a l2.xs.length l2.c) := by show _ = _; rw [hl2]
  have E3 : Hid (Value.slice a5 (zpad tx.length).length c5 = Value.slice l3.a l3.xs.length l3.c) := by show _ = _; rw [hl3]
  have E4 : Hid (Value.slice a6 (len8 ex.length).length c6 = Value.slice l4.a l4.xs.length l4.c) := by show _ = _; rw [hl4]
  have E5 : Hid (Value.slice a7 (len8 tx.length).length c7 = Value.slice l5.a l5.xs.length l5.c) := by show _ = _; rw [hl5]
  have LS := LS 22
  have n8 : Below w7.heap.size w7 (w7.alloc (.cells #[.slice ae ex.length ce, .slice a4 (zpad ex.length).length c4, .slice at' tx.length ct, .slice a5 (zpad tx.length).length c5, .slice a6 (len8 ex.length).length c6, .slice a7 (len8 tx.length).length c7] 22)) := (Below.refl _ _).alloc (Nat.le_refl _) _
  rw [← E0.out, ← E1.out, ← E2.out, ← E3.out, ← E4.out, ← E5.out] at LS
  clear hl0 hl1 hl2 hl3 hl4 hl5 LR CT sl o4 o5 o6 o7 E0 E1 E2 E3 E4 E5
  go_wp2_with fail
  generalize w7.alloc (.cells #[.slice ae ex.length ce, .slice a4 (zpad ex.length).length c4, .slice at' tx.length ct, .slice a5 (zpad tx.length).length c5, .slice a6 (len8 ex.length).length c6, .slice a7 (len8 tx.length).length c7] 22) = w8 at *
  refine (CC w8 w7.heap.size LS n8).out.mono ?_
  rintro e w9 ⟨⟨a9, c9, g9, rfl, o9, p9, q9, r9⟩, n9⟩
  have SR := (SR.up n8).up n9
  have B1 := (B1.up n8).up n9
  have N9 := nxt (nxt N7 n8) n9
  clear CC LS n8 n9 N7 he ht
  have TK : Hid ((ks.take 32).length = 32) := by show _ = _; rw [List.length_take, KL.out]; omega
  have OS := hide (oneTimeSum_any w9 q (some ⟨q, 0, none⟩) 64 (ks.take 32) (rd_take SR 32 (by rw [KL.out]; omega)) (byt_take KB.out 32) TK.out g9 a9 c9 (smd ex tx) o9.rd SMB.out q9 SML.out)
  rw [TK.out, ← SSB.out] at OS
  have L6 : Hid (((ssB ys ex tx).map (Value.int .u8)).length = 16) := by show _ = _; rw [List.length_map]; exact SL.out
  have O6 := one_ints .u8 (ssB ys ex tx)
  have V6 : Hid (ag .u8 (ssB ys ex tx) = Value.agg ((ssB ys ex tx).map (Value.int .u8)).toArray) := rfl
  go_wp2_with fail
  refine OS.out.mono ?_
  rintro e wy ⟨rfl, ny⟩
  obtain ⟨t7, H7⟩ := B1.up ny
  have N10 := nxt N9 ny
  have SR7 := setRow_heap wy (w.heap.size + 1) _ ((ssB ys ex tx).map (Value.int .u8)).toArray _ _ H7
  have SN7 : Below w.heap.size w (wy.setRow (w.heap.size + 1) ((ssB ys ex tx).map (Value.int .u8)).toArray) := N10.trans ((only_setRow wy (w.heap.size + 1) _).below (by omega))
  rw [V6.out]
  obtain ⟨vs', hv⟩ : ∃ v, v = (ssB ys ex tx).map (Value.int .u8) := ⟨_, rfl⟩
  rw [← hv] at L6 O6 SR7 SN7 V6 ⊢
  clear hv OS
  go_wp2_with (refine wpList_store_row rfl 62 (.tmp 6) (.tmp 25) rfl (w.heap.size + 1) vs'.toArray rfl rfl t7 _ H7 (by rw [List.size_toArray, L6.out]; exact infoP16) (by rw [List.size_toArray, List.size_toArray, L6.out]; rfl) O6 ?_)
  exact bodyPost_ret (v := .agg vs'.toArray) (results_cell_row Try.results47 _ _ (w.heap.size + 1) t7 vs'.toArray (0, 0) (.array 16 5) rfl SR7 undP16 rfl (by rw [List.size_toArray, L6.out]; exact infoP16)) rfl ⟨by rw [V6.out], SN7⟩
end Go.Proofs.Ytcljoaknaegpmaa
