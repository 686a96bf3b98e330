import Derived.Test.YtjfggcefdobooaaGreatDoorGR23
import Derived.Test.YtjfggcefdobooaaGreatDoorGR41
import Derived.Test.YtjfggcefdobooaaGreatDoorGR40
import Derived.Test.YtjfggcefdobooaaGreatDoorGR2
import Derived.Test.YtjfggcefdobooaaGreatDoorGR1
import Derived.Test.YtjfggcefdobooaaGreatDoorRows
import Derived.Stop.LaidTwo
import Derived.LaidMore
import Derived.Test.YtjfggcefdobooaaGreatDoorGR5
import Derived.Test.YtjfggcefdobooaaGreatDoorGR3
import Derived.Deep.RegionHeld3
import Derived.Deep.DeepCutAuto
import Derived.WalkLawsBesides
namespace Go.Proofs.YtjfggcefdobooaaGreatDoor
set_option maxRecDepth 100000
open Go Go.RowKit
def ssB (ys extra text : List Int) : List Int := otB ((stB (ys.set 12 0)).take 32) (smd extra text)
theorem ssB_len (ys extra text : List Int) : (ssB ys extra text).length = 16 := otB_len _ _
theorem ssB_byt (ys extra text : List Int) : Byt (ssB ys extra text) := otB_byt _ _
theorem byt_app {xs ys : List Int} (h : Byt xs) (k : Byt ys) : Byt (xs ++ ys) := fun i => by
  rw [List.getD_eq_getElem?_getD, List.getElem?_append]
  split
  · have := h i; rwa [List.getD_eq_getElem?_getD] at this
  · have := k (i - xs.length); rwa [List.getD_eq_getElem?_getD] at this
theorem smd_byt {extra text : List Int} (h : Byt extra) (k : Byt text) : Byt (smd extra text) :=
  byt_app (byt_app (byt_app (byt_app (byt_app h (zpad_byt _)) k) (zpad_byt _)) (len8_byt _)) (len8_byt _)
theorem smd_len (extra text : List Int) : 16 ≤ (smd extra text).length ∧ (smd extra text).length ≤ extra.length + text.length + 46 := by
  have h1 := zpad_len extra.length
  have h2 := zpad_len text.length
  unfold smd
  simp only [List.length_append, len8_len]
  omega
theorem lsts_six (w : World) (t : TypeId) (l0 l1 l2 l3 l4 l5 : Lst) : Lsts (w.alloc (.cells #[.slice l0.a l0.xs.length l0.c, .slice l1.a l1.xs.length l1.c, .slice l2.a l2.xs.length l2.c, .slice l3.a l3.xs.length l3.c, .slice l4.a l4.xs.length l4.c, .slice l5.a l5.xs.length l5.c] t)) w.heap.size [l0, l1, l2, l3, l4, l5] := fun j l hj => by
  have hl : j < 6 := by have := (List.getElem?_eq_some_iff.1 hj).1; simpa using this
  obtain rfl | rfl | rfl | rfl | rfl | rfl : j = 0 ∨ j = 1 ∨ j = 2 ∨ j = 3 ∨ j = 4 ∨ j = 5 := by omega
  all_goals
    simp only [List.getElem?_cons_zero, List.getElem?_cons_succ, Option.some.injEq] at hj
    subst hj
    simp [World.cell?_alloc_at]
theorem rd_take {w : World} {g : Nat} {ys : List Int} (h : Blk w g .u8 ys) (n : Nat) (hn : n ≤ ys.length) : Rd w g (some ⟨g, 0, none⟩) .u8 (ys.take n) :=
  (h.own (xs := ys.take n) 0 (by rw [List.length_take]; omega) (fun i hi => by
    rw [List.length_take] at hi
    rw [Nat.zero_add, List.getD_eq_getElem?_getD, List.getD_eq_getElem?_getD, List.getElem?_take, if_pos (by omega)])).rd
theorem byt_take {ys : List Int} (h : Byt ys) (n : Nat) : Byt (ys.take n) := by
  have := byt_part h 0 n
  rwa [List.drop_zero] at this
set_option maxRecDepth 100000 in
set_option maxHeartbeats 8000000 in
theorem sealSum_any (w : World) (ys : List Int) (hw : Ws ys) (hl : ys.length = 16) (ge : Nat) (ae : Option Addr) (ce : Nat) (ex : List Int) (he : Rd w ge ae .u8 ex) (eb : Byt ex) (en : ae = none → ce = 0)
    (gt : Nat) (at' : Option Addr) (ct : Nat) (tx : List Int) (ht : Rd w gt at' .u8 tx) (tb : Byt tx) (tn : at' = none → ct = 0) (hs : ex.length + tx.length ≤ 4000000) :
    Calls Tryz.prog 60 #[ag .u32 ys, .slice ae ex.length ce, .slice at' tx.length ct] w fun e w' => e = .returned (ag .u8 (ssB ys ex tx)) ∧ Below w.heap.size w w' := by
  have B0 := blk_alloc w .u32 95 ys
  have n0 : Below w.heap.size w (w.alloc (.cells (ys.map (Value.int .u32)).toArray 95)) := (Below.refl _ _).alloc (Nat.le_refl _) _
  have z0 : (w.alloc (.cells (ys.map (Value.int .u32)).toArray 95)).heap.size = w.heap.size + 1 := by simp
  have BA := fun W => hide (block_any W ys hw hl 0 ⟨by omega, by omega⟩)
  have L0 : Hid ((ys.map (Value.int .u32)).length = 16) := by show _ = _; rw [List.length_map]; exact hl
  have VY : Hid (ag .u32 ys = Value.agg (ys.map (Value.int .u32)).toArray) := rfl
  simp only [VY.out] at BA
  rw [VY.out]
  have SSB : Hid (ssB ys ex tx = otB ((stB (ys.set 12 0)).take 32) (smd ex tx)) := rfl
  have SL := hide (ssB_len ys ex tx)
  have KB := hide (stB_byt (ys.set 12 0))
  have KL := hide (stB_len (ys.set 12 0))
  generalize stB (ys.set 12 0) = ks at *
  obtain ⟨vy, hvy⟩ : ∃ v, v = ys.map (Value.int .u32) := ⟨_, rfl⟩
  have RGf : ∀ W, Blk W w.heap.size .u32 ys → W.rangeAt w.heap.size 0 vy := fun W h => by rw [hvy]; exact (Seg.blk h).range
  rw [← hvy] at B0 n0 z0 L0 ⊢
  simp only [← hvy] at BA
  clear hvy VY hw hl
  go_enter Tryz.func60, Tryz.ntmps60
  go_upto_region 1 with fail
  generalize w.alloc (.cells vy.toArray 95) = wa at *
  have B1 := blk_y16 wa 98
  have n1 : Below wa.heap.size wa (wa.alloc (.cells #[.int .u8 0, .int .u8 0, .int .u8 0, .int .u8 0, .int .u8 0, .int .u8 0, .int .u8 0, .int .u8 0, .int .u8 0, .int .u8 0, .int .u8 0, .int .u8 0, .int .u8 0, .int .u8 0, .int .u8 0, .int .u8 0] 98)) := (Below.refl _ _).alloc (Nat.le_refl _) _
  have z1 : (wa.alloc (.cells #[.int .u8 0, .int .u8 0, .int .u8 0, .int .u8 0, .int .u8 0, .int .u8 0, .int .u8 0, .int .u8 0, .int .u8 0, .int .u8 0, .int .u8 0, .int .u8 0, .int .u8 0, .int .u8 0, .int .u8 0, .int .u8 0] 98)).heap.size = w.heap.size + 1 + 1 := by simp [z0]
  generalize wa.alloc (.cells #[.int .u8 0, .int .u8 0, .int .u8 0, .int .u8 0, .int .u8 0, .int .u8 0, .int .u8 0, .int .u8 0, .int .u8 0, .int .u8 0, .int .u8 0, .int .u8 0, .int .u8 0, .int .u8 0, .int .u8 0, .int .u8 0] 98) = wb at *
  rw [z0] at B1
  have B0 := B0.up n1
  have N1 := nxt n0 n1
  have RG := RGf wb B0
  clear n0 n1 z0
  go_wp2_with (refine wpList_load_mid rfl 95 (.tmp 3) rfl w.heap.size 0 rfl vy (.array 16 93) RG undS rfl (by rw [L0.out]; exact infoS) ?_)
  refine (BA wb).out.mono ?_
  rintro e wc ⟨rfl, n2⟩
  have z2 := n2.size
  have B1 := B1.up n2
  have N2 := nxt N1 n2
  clear RG RGf BA N1 n2 B0
  have n3 : Below wc.heap.size wc (wc.alloc (.cells #[.int .u8 0, .int .u8 0, .int .u8 0, .int .u8 0, .int .u8 0, .int .u8 0, .int .u8 0, .int .u8 0, .int .u8 0, .int .u8 0, .int .u8 0, .int .u8 0, .int .u8 0, .int .u8 0, .int .u8 0, .int .u8 0, .int .u8 0, .int .u8 0, .int .u8 0, .int .u8 0, .int .u8 0, .int .u8 0, .int .u8 0, .int .u8 0, .int .u8 0, .int .u8 0, .int .u8 0, .int .u8 0, .int .u8 0, .int .u8 0, .int .u8 0, .int .u8 0, .int .u8 0, .int .u8 0, .int .u8 0, .int .u8 0, .int .u8 0, .int .u8 0, .int .u8 0, .int .u8 0, .int .u8 0, .int .u8 0, .int .u8 0, .int .u8 0, .int .u8 0, .int .u8 0, .int .u8 0, .int .u8 0, .int .u8 0, .int .u8 0, .int .u8 0, .int .u8 0, .int .u8 0, .int .u8 0, .int .u8 0, .int .u8 0, .int .u8 0, .int .u8 0, .int .u8 0, .int .u8 0, .int .u8 0, .int .u8 0, .int .u8 0, .int .u8 0] 124)) := (Below.refl _ _).alloc (Nat.le_refl _) _
  obtain ⟨t3, H3⟩ := blk_z64 wc 124
  have SR := blk_setRow (zs := ks) ⟨t3, H3⟩
  have OR := only_setRow (wc.alloc (.cells #[.int .u8 0, .int .u8 0, .int .u8 0, .int .u8 0, .int .u8 0, .int .u8 0, .int .u8 0, .int .u8 0, .int .u8 0, .int .u8 0, .int .u8 0, .int .u8 0, .int .u8 0, .int .u8 0, .int .u8 0, .int .u8 0, .int .u8 0, .int .u8 0, .int .u8 0, .int .u8 0, .int .u8 0, .int .u8 0, .int .u8 0, .int .u8 0, .int .u8 0, .int .u8 0, .int .u8 0, .int .u8 0, .int .u8 0, .int .u8 0, .int .u8 0, .int .u8 0, .int .u8 0, .int .u8 0, .int .u8 0, .int .u8 0, .int .u8 0, .int .u8 0, .int .u8 0, .int .u8 0, .int .u8 0, .int .u8 0, .int .u8 0, .int .u8 0, .int .u8 0, .int .u8 0, .int .u8 0, .int .u8 0, .int .u8 0, .int .u8 0, .int .u8 0, .int .u8 0, .int .u8 0, .int .u8 0, .int .u8 0, .int .u8 0, .int .u8 0, .int .u8 0, .int .u8 0, .int .u8 0, .int .u8 0, .int .u8 0, .int .u8 0, .int .u8 0] 124)) wc.heap.size (ks.map (Value.int .u8)).toArray
  have L3 : Hid ((ks.map (Value.int .u8)).length = 64) := by show _ = _; rw [List.length_map]; exact KL.out
  have O3 := one_ints .u8 ks
  have V3 : Hid (ag .u8 ks = Value.agg (ks.map (Value.int .u8)).toArray) := rfl
  rw [V3.out]
  obtain ⟨v3, hv3⟩ : ∃ v, v = ks.map (Value.int .u8) := ⟨_, rfl⟩
  rw [← hv3] at SR OR L3 O3 ⊢
  have z3 : (wc.alloc (.cells #[.int .u8 0, .int .u8 0, .int .u8 0, .int .u8 0, .int .u8 0, .int .u8 0, .int .u8 0, .int .u8 0, .int .u8 0, .int .u8 0, .int .u8 0, .int .u8 0, .int .u8 0, .int .u8 0, .int .u8 0, .int .u8 0, .int .u8 0, .int .u8 0, .int .u8 0, .int .u8 0, .int .u8 0, .int .u8 0, .int .u8 0, .int .u8 0, .int .u8 0, .int .u8 0, .int .u8 0, .int .u8 0, .int .u8 0, .int .u8 0, .int .u8 0, .int .u8 0, .int .u8 0, .int .u8 0, .int .u8 0, .int .u8 0, .int .u8 0, .int .u8 0, .int .u8 0, .int .u8 0, .int .u8 0, .int .u8 0, .int .u8 0, .int .u8 0, .int .u8 0, .int .u8 0, .int .u8 0, .int .u8 0, .int .u8 0, .int .u8 0, .int .u8 0, .int .u8 0, .int .u8 0, .int .u8 0, .int .u8 0, .int .u8 0, .int .u8 0, .int .u8 0, .int .u8 0, .int .u8 0, .int .u8 0, .int .u8 0, .int .u8 0, .int .u8 0] 124)).heap.size = wc.heap.size + 1 := by simp
  have B1 := (B1.up n3).of_block (OR.block (w.heap.size + 1) (by omega))
  have N3 := N2.trans ((n3.mono N2.size).trans (OR.below (B := w.heap.size) (by have := N2.size; omega)))
  have z4 := OR.size.trans z3
  clear hv3 V3 N2
  go_upto_region 2 with (refine wpList_store_row rfl 124 (.tmp 7) (.tmp 10) rfl wc.heap.size v3.toArray rfl rfl t3 _ H3 (by rw [List.size_toArray, L3.out]; exact infoB) (by rw [List.size_toArray, List.size_toArray, L3.out]; rfl) O3 ?_)
  generalize (wc.alloc (.cells #[.int .u8 0, .int .u8 0, .int .u8 0, .int .u8 0, .int .u8 0, .int .u8 0, .int .u8 0, .int .u8 0, .int .u8 0, .int .u8 0, .int .u8 0, .int .u8 0, .int .u8 0, .int .u8 0, .int .u8 0, .int .u8 0, .int .u8 0, .int .u8 0, .int .u8 0, .int .u8 0, .int .u8 0, .int .u8 0, .int .u8 0, .int .u8 0, .int .u8 0, .int .u8 0, .int .u8 0, .int .u8 0, .int .u8 0, .int .u8 0, .int .u8 0, .int .u8 0, .int .u8 0, .int .u8 0, .int .u8 0, .int .u8 0, .int .u8 0, .int .u8 0, .int .u8 0, .int .u8 0, .int .u8 0, .int .u8 0, .int .u8 0, .int .u8 0, .int .u8 0, .int .u8 0, .int .u8 0, .int .u8 0, .int .u8 0, .int .u8 0, .int .u8 0, .int .u8 0, .int .u8 0, .int .u8 0, .int .u8 0, .int .u8 0, .int .u8 0, .int .u8 0, .int .u8 0, .int .u8 0, .int .u8 0, .int .u8 0, .int .u8 0, .int .u8 0] 124)).setRow wc.heap.size v3.toArray = wd at *
  generalize hq : wc.heap.size = q at *
  clear n3 OR H3 O3 L3 z3 hq
  have he := he.up N3
  have ht := ht.up N3
  have eL : ex.length ≤ 4194304 := by omega
  have tL : tx.length ≤ 4194304 := by omega
  go_wp2_with fail
  refine (zerosBehind_any wd ae ex.length ce eL).mono ?_
  rintro e w4 ⟨⟨a4, c4, g4, rfl, o4, p4, q4, r4⟩, n4⟩
  have he := he.up n4
  have ht := ht.up n4
  have SR := SR.up n4
  have B1 := B1.up n4
  have N4 := nxt N3 n4
  clear N3 n4
  go_wp2_with fail
  refine (zerosBehind_any w4 at' tx.length ct tL).mono ?_
  rintro e w5 ⟨⟨a5, c5, g5, rfl, o5, p5, q5, r5'⟩, n5⟩
  have he := he.up n5
  have ht := ht.up n5
  have SR := SR.up n5
  have B1 := B1.up n5
  have N5 := nxt N4 n5
  have o4 := o4.up n5
  clear N4 n5
  go_wp2_with fail
  refine (lengthBytes_any w5 ae ex.length ce eL).mono ?_
  rintro e w6 ⟨⟨a6, c6, g6, rfl, o6, p6, q6, r6⟩, n6⟩
  have he := he.up n6
  have ht := ht.up n6
  have SR := SR.up n6
  have B1 := B1.up n6
  have N6 := nxt N5 n6
  have o4 := o4.up n6
  have o5 := o5.up n6
  clear N5 n6
  go_wp2_with fail
  refine (lengthBytes_any w6 at' tx.length ct tL).mono ?_
  rintro e w7 ⟨⟨a7, c7, g7, rfl, o7, p7, q7, r7⟩, n7⟩
  have he := he.up n7
  have ht := ht.up n7
  have SR := SR.up n7
  have B1 := B1.up n7
  have N7 := nxt N6 n7
  have o4 := o4.up n7
  have o5 := o5.up n7
  have o6 := o6.up n7
  clear N6 n7
  obtain ⟨l0, hl0⟩ : ∃ l : Lst, l = ⟨ge, ae, ce, ex⟩ := ⟨_, rfl⟩
  obtain ⟨l1, hl1⟩ : ∃ l : Lst, l = ⟨g4, a4, c4, zpad ex.length⟩ := ⟨_, rfl⟩
  obtain ⟨l2, hl2⟩ : ∃ l : Lst, l = ⟨gt, at', ct, tx⟩ := ⟨_, rfl⟩
  obtain ⟨l3, hl3⟩ : ∃ l : Lst, l = ⟨g5, a5, c5, zpad tx.length⟩ := ⟨_, rfl⟩
  obtain ⟨l4, hl4⟩ : ∃ l : Lst, l = ⟨g6, a6, c6, len8 ex.length⟩ := ⟨_, rfl⟩
  obtain ⟨l5, hl5⟩ : ∃ l : Lst, l = ⟨g7, a7, c7, len8 tx.length⟩ := ⟨_, rfl⟩
  have CT : Hid (cat [l0, l1, l2, l3, l4, l5] = smd ex tx) := by
    show _ = _
    unfold cat smd
    rw [hl0, hl1, hl2, hl3, hl4, hl5]
    simp
  have LS := fun t => lsts_six w7 t l0 l1 l2 l3 l4 l5
  have LR : ∀ W, Below w7.heap.size w7 W → ∀ l ∈ [l0, l1, l2, l3, l4, l5], Rd W l.g l.a .u8 l.xs ∧ (l.a = none → l.c = 0) := fun W n l hm => by
    simp only [List.mem_cons, List.not_mem_nil, or_false] at hm
    rcases hm with rfl | rfl | rfl | rfl | rfl | rfl
    · rw [hl0]; exact ⟨he.up n, en⟩
    · rw [hl1]; exact ⟨(o4.up n).rd, p4⟩
    · rw [hl2]; exact ⟨ht.up n, tn⟩
    · rw [hl3]; exact ⟨(o5.up n).rd, p5⟩
    · rw [hl4]; exact ⟨(o6.up n).rd, p6⟩
    · rw [hl5]; exact ⟨(o7.up n).rd, p7⟩
  have sl := smd_len ex tx
  have CC := fun W b (h1 : Lsts W b [l0, l1, l2, l3, l4, l5]) (h2 : Below w7.heap.size w7 W) => hide (concat_any W b 6 6 [l0, l1, l2, l3, l4, l5] rfl (by omega) h1 (LR W h2) (by rw [CT.out]; omega) (by rw [CT.out]; omega))
  simp only [CT.out] at CC
  have SMB := hide (smd_byt eb tb)
  have SML : Hid ((smd ex tx).length ≤ 4194304) := by show _ ≤ _; omega
  have E0 : Hid (Value.slice ae ex.length ce = Value.slice l0.a l0.xs.length l0.c) := by show _ = _; rw [hl0]
  have E1 : Hid (Value.slice a4 (zpad ex.length).length c4 = Value.slice l1.a l1.xs.length l1.c) := by show _ = _; rw [hl1]
  have E2 : Hid (Value.slice at' tx.length ct = Value.slice l2.a l2.xs.length l2.c) := by show _ = _; rw [hl2]
  have E3 : Hid (Value.slice a5 (zpad tx.length).length c5 = Value.slice l3.a l3.xs.length l3.c) := by show _ = _; rw [hl3]
  have E4 : Hid (Value.slice a6 (len8 ex.length).length c6 = Value.slice l4.a l4.xs.length l4.c) := by show _ = _; rw [hl4]
  have E5 : Hid (Value.slice a7 (len8 tx.length).length c7 = Value.slice l5.a l5.xs.length l5.c) := by show _ = _; rw [hl5]
  have LS := LS 22
  have n8 : Below w7.heap.size w7 (w7.alloc (.cells #[.slice ae ex.length ce, .slice a4 (zpad ex.length).length c4, .slice at' tx.length ct, .slice a5 (zpad tx.length).length c5, .slice a6 (len8 ex.length).length c6, .slice a7 (len8 tx.length).length c7] 22)) := (Below.refl _ _).alloc (Nat.le_refl _) _
  rw [← E0.out, ← E1.out, ← E2.out, ← E3.out, ← E4.out, ← E5.out] at LS
  clear hl0 hl1 hl2 hl3 hl4 hl5 LR CT sl o4 o5 o6 o7 E0 E1 E2 E3 E4 E5
  go_wp2_with fail
  generalize w7.alloc (.cells #[.slice ae ex.length ce, .slice a4 (zpad ex.length).length c4, .slice at' tx.length ct, .slice a5 (zpad tx.length).length c5, .slice a6 (len8 ex.length).length c6, .slice a7 (len8 tx.length).length c7] 22) = w8 at *
  refine (CC w8 w7.heap.size LS n8).out.mono ?_
  rintro e w9 ⟨⟨a9, c9, g9, rfl, o9, p9, q9, r9⟩, n9⟩
  have SR := (SR.up n8).up n9
  have B1 := (B1.up n8).up n9
  have N9 := nxt (nxt N7 n8) n9
  clear CC LS n8 n9 N7 he ht
  have TK : Hid ((ks.take 32).length = 32) := by show _ = _; rw [List.length_take, KL.out]; omega
  have OS := hide (oneTimeSum_any w9 q (some ⟨q, 0, none⟩) 64 (ks.take 32) (rd_take SR 32 (by rw [KL.out]; omega)) (byt_take KB.out 32) TK.out g9 a9 c9 (smd ex tx) o9.rd SMB.out q9 SML.out)
  rw [TK.out, ← SSB.out] at OS
  have L6 : Hid (((ssB ys ex tx).map (Value.int .u8)).length = 16) := by show _ = _; rw [List.length_map]; exact SL.out
  have O6 := one_ints .u8 (ssB ys ex tx)
  have V6 : Hid (ag .u8 (ssB ys ex tx) = Value.agg ((ssB ys ex tx).map (Value.int .u8)).toArray) := rfl
  go_wp2_with fail
  refine OS.out.mono ?_
  rintro e wy ⟨rfl, ny⟩
  obtain ⟨t7, H7⟩ := B1.up ny
  have N10 := nxt N9 ny
  have SR7 := setRow_heap wy (w.heap.size + 1) _ ((ssB ys ex tx).map (Value.int .u8)).toArray _ _ H7
  have SN7 : Below w.heap.size w (wy.setRow (w.heap.size + 1) ((ssB ys ex tx).map (Value.int .u8)).toArray) := N10.trans ((only_setRow wy (w.heap.size + 1) _).below (by omega))
  rw [V6.out]
  obtain ⟨vs', hv⟩ : ∃ v, v = (ssB ys ex tx).map (Value.int .u8) := ⟨_, rfl⟩
  rw [← hv] at L6 O6 SR7 SN7 V6 ⊢
  clear hv OS
  go_wp2_with (refine wpList_store_row rfl 98 (.tmp 6) (.tmp 25) rfl (w.heap.size + 1) vs'.toArray rfl rfl t7 _ H7 (by rw [List.size_toArray, L6.out]; exact infoP16) (by rw [List.size_toArray, List.size_toArray, L6.out]; rfl) O6 ?_)
  exact bodyPost_ret (v := .agg vs'.toArray) (results_cell_row Tryz.results60 _ _ (w.heap.size + 1) t7 vs'.toArray (0, 0) (.array 16 5) rfl SR7 undP16 rfl (by rw [List.size_toArray, L6.out]; exact infoP16)) rfl ⟨by rw [V6.out], SN7⟩
end Go.Proofs.YtjfggcefdobooaaGreatDoor
namespace Go.Proofs.YtjfggcefdobooaaGreatDoor
set_option maxRecDepth 100000
open Go Go.RowKit Go.Shelf
attribute [local go_sem] Oper.semAt_some
def B5 (w : World) (g : Nat) (ys : List Int) : Prop := w.heap[g]? = some (.cells (ys.map (Value.int .u8)).toArray 5 (0, 0))
theorem B5.blk {w : World} {g : Nat} {ys : List Int} (h : B5 w g ys) : Blk w g .u8 ys := ⟨5, h⟩
theorem B5.lt {w : World} {g : Nat} {ys : List Int} (h : B5 w g ys) : g < w.heap.size := h.blk.lt
theorem B5.cell {w : World} {g : Nat} {ys : List Int} (h : B5 w g ys) {i : Nat} (hi : i < ys.length) : w.cell? ⟨g, i, none⟩ = some (.int .u8 (ys.getD i 0)) := h.blk.cell hi
theorem B5.free {w : World} {g : Nat} {ys : List Int} (h : B5 w g ys) (i : Nat) : w.frozen? ⟨g, i, none⟩ = false := h.blk.free i
theorem B5.store {w : World} {g : Nat} {ys : List Int} (h : B5 w g ys) (i : Nat) (z : Int) : B5 (w.setCell ⟨g, i, none⟩ (.int .u8 z)) g (ys.set i z) := by
  unfold B5
  rw [heap_setCell_same w g i _ 5 _ h]
  simp [List.map_set]
theorem B5.of_block {w w' : World} {g : Nat} {ys : List Int} (h : B5 w g ys) (hb : w'.heap[g]? = w.heap[g]?) : B5 w' g ys := hb.trans h
theorem B5.up {w w' : World} {g : Nat} {ys : List Int} (h : B5 w g ys) (hb : Below w.heap.size w w') : B5 w' g ys := h.of_block (hb.block g h.lt)
theorem B5.of_made {w : World} {base g n : Nat} (h : w.ownsRow base 5 1 (.slice (some ⟨g, 0, none⟩) n n) n (madeCells (Value.int .u8 0).cells (n * 1)).toList) : B5 w g (List.replicate n 0) := by
  obtain ⟨e, hb⟩ := Blk.of_made h
  rcases h.2 with ⟨h', _⟩ | ⟨g', cap', cur, h', _, hg, _⟩
  · simp at h'
  · simp only [Value.slice.injEq, Option.some.injEq, Addr.mk.injEq, and_true, true_and] at h'
    obtain ⟨rfl, rfl⟩ := h'
    have := hg.symm.trans hb
    simp only [Option.some.injEq, Obj.cells.injEq, and_true] at this
    obtain ⟨rfl, rfl⟩ := this
    exact hg
theorem B5.row {w : World} {g B : Nat} {ys : List Int} (h : B5 w g ys) (hB : B ≤ g) (hl : ys.length ≤ 4194304) : RowB w B (.slice (some ⟨g, 0, none⟩) ys.length ys.length) ys := by
  refine ⟨by simp, .inr ⟨g, ys.length, _, rfl, hB, h, Nat.le_refl _, by unfold maxLen; omega, by simp, ?_⟩⟩
  show List.take (ys.length * 1) (List.map (Value.int .u8) ys) = _
  exact List.take_of_length_le (by simp)
theorem b5_ofK {W W' : World} {row : Option Nat} {g : Nat} {xs : List Int} (h : B5 W g xs) (hg : W.grownBy W' row) (hr : ∀ r, row = some r → ∃ o : Obj, W.heap[r]? = some o ∧ o.isCells = false) : B5 W' g xs := (grownBy_keeps_cells hg hr h rfl).trans h
theorem copy_b5 {P : Program} (w : World) (ty rt e : TypeId) (hu : P.underlying ty = some (.slice e)) (hsz : (P.info? e).map (·.size) = some 1) {g : Nat} {zs : List Int} (hB : B5 w g zs)
    (gs : Nat) (sp : Option Addr) (ys : List Int) (hr : Rd w gs sp .u8 ys) (hl : ys.length ≤ zs.length) (dc sc : Nat) :
    ∃ w2, (Builtin.copy_ #[ty, ty] rt #[.slice (some ⟨g, 0, none⟩) zs.length dc, .slice sp ys.length sc]).run P w = .ok (goInt ys.length) w2 ∧ B5 w2 g (ys ++ zs.drop ys.length) ∧ Only g w w2 := by
  by_cases h0 : 0 < ys.length
  · obtain ⟨off, rfl, hc⟩ := hr h0
    have hrun := run_copy_row (P := P) w ty ty rt e g 0 zs.length dc ⟨gs, off, none⟩ ys.length sc _ 5 (ys.map (Value.int .u8)) hu hsz hB (by rw [List.length_map]; exact (Nat.min_eq_left hl).symm)
      (fun j v hj => by
        have hjl : j < ys.length := by
          have := (List.getElem?_eq_some_iff.1 hj).1
          simpa using this
        rw [Go.Proofs.YtjfggcefdobooaaGreatDoor.add_mid, hc j hjl]
        simpa [hjl] using hj) (by simp; omega) (oneCells _ _)
    rw [List.length_map] at hrun
    refine ⟨_, hrun, ?_, ⟨rfl, rfl, rfl, by simp, fun i hi => setRow_other w g i _ hi⟩⟩
    unfold B5
    rw [setRow_heap w g _ _ 5 _ hB]
    simp
  · obtain rfl : ys = [] := List.eq_nil_of_length_eq_zero (by omega)
    exact ⟨w, run_copy_none (P := P) w ty ty rt e _ _ _ _ _ _ hu hsz (by simp), by simpa using hB, Only.refl _ _⟩
structure LyJ (w : World) (ys : List Int) (c : Int) (data : List Int) (Z : Nat) (pre : List (PcN64 data.length)) (W : World) : Prop where
  told : ∃ zs : List Int, zs.length = data.length ∧ B5 W (w.heap.size + 1 + 1) zs ∧ (pre.map (·.1) = List.range pre.length → zs = xoG ys c data pre.length)
  wds : Blk W w.heap.size .u32 ys
  num : W.cell? ⟨w.heap.size + 1, 0, none⟩ = some (.int .i64 (c + (pre.length : Int)))
  numF : W.frozen? ⟨w.heap.size + 1, 0, none⟩ = false
  siz : Z ≤ W.heap.size
  bel : Below w.heap.size w W
theorem lyJ_own {w : World} {ys : List Int} {c : Int} {data : List Int} {Z B : Nat} (hB : w.heap.size ≤ B) : OwnFrom B (LyJ w ys c data Z) := by
  intro s W W' row h hg hr
  have hr' : ∀ r, row = some r → ∃ o : Obj, W.heap[r]? = some o ∧ o.isCells = false := fun r e => (hr r e).2
  obtain ⟨zs, z1, z2, z3⟩ := h.told
  refine ⟨⟨zs, z1, b5_ofK z2 hg hr', z3⟩, blk_ofK h.wds hg hr', cell_kept h.num hg hr', (frozen_kept h.num hg hr').trans h.numF, Nat.le_trans h.siz hg.size, ?_⟩
  exact h.bel.grown hg h.bel.size (fun k e => Nat.le_trans hB (hr k e).1)
set_option maxRecDepth 100000 in
set_option maxHeartbeats 8000000 in
theorem layOverR_any (w : World) (ys : List Int) (hw : Ws ys) (yl : ys.length = 16) (ct : Int) (h0 : 0 ≤ ct) (g : Nat) (a : Option Addr) (c : Nat) (data : List Int) (hr : Rd w g a .u8 data) (hn : data.length ≤ 4194304) (h1 : ct + (((data.length + 63) / 64 : Nat) : Int) ≤ 4294967296) :
    Calls Tryz.prog 59 #[ag .u32 ys, .int .i64 ct, .slice a data.length c] w fun e w' => (∃ v, e = .returned v ∧ RowB w' w.heap.size v (xoG ys ct data ((data.length + 63) / 64))) ∧ Below w.heap.size w w' := by
  obtain ⟨i0, hi0, hz0, hz1, hz2⟩ := info_parts Tryz.info5
  have HYL := hide yl
  have VY : Hid (ag .u32 ys = Value.agg (ys.map (Value.int .u32)).toArray) := rfl
  rw [VY.out]
  have B0 := blk_alloc w .u32 95 ys
  have n0 : Below w.heap.size w (w.alloc (.cells (ys.map (Value.int .u32)).toArray 95)) := (Below.refl _ _).alloc (Nat.le_refl _) _
  have z0 : (w.alloc (.cells (ys.map (Value.int .u32)).toArray 95)).heap.size = w.heap.size + 1 := by simp
  have L16 : Hid ((ys.map (Value.int .u32)).length = 16) := by show _ = _; rw [List.length_map]; exact yl
  obtain ⟨vs, hvs⟩ : ∃ vs, vs = ys.map (Value.int .u32) := ⟨_, rfl⟩
  rw [← hvs] at B0 n0 z0 L16 ⊢
  have HVS := hide hvs
  clear hvs yl
  refine (callsIn_wide (n := 5)).1 (callsIn_of_wp_marks Tryz.func59 rfl trivial ?_ rfl)
  refine wpIn_wide.2 ?_
  simp only [Tryz.ntmps59, List.size_toArray, List.length_cons, List.length_nil, Nat.reduceAdd, Nat.reduceSub, Array.replicate_succ, Array.replicate_zero, List.push_toArray, List.append_toArray, List.nil_append, List.cons_append]
  go_upto_region 1 with fail
  generalize w.alloc (.cells vs.toArray 95) = w1 at *
  have n2 : Below w1.heap.size w1 (w1.alloc (.cells #[.int .i64 ct] 2)) := (Below.refl _ _).alloc (Nat.le_refl _) _
  have C2 : (w1.alloc (.cells #[.int .i64 ct] 2)).cell? ⟨w1.heap.size, 0, none⟩ = some (.int .i64 ct) := by simp [World.cell?_alloc_at]
  have F2 : (w1.alloc (.cells #[.int .i64 ct] 2)).frozen? ⟨w1.heap.size, 0, none⟩ = false := by simp [World.frozen?_alloc_at]
  have z2 : (w1.alloc (.cells #[.int .i64 ct] 2)).heap.size = w1.heap.size + 1 := by simp
  generalize w1.alloc (.cells #[.int .i64 ct] 2) = w2 at *
  rw [z0] at C2 F2 z2
  have B0 := B0.up n2
  have N2 := nxt n0 n2
  clear n0 n2 z0
  have dn : (data.length : Int) ≤ 4194304 := by omega
  go_upto_region 2 with (at_make; refine wpList_make_full _ rfl _ _ 22 rfl w2.heap.size 5 i0 (.int .u8 0) 1 Tryz.underlying22 hi0 hz0 hz1 .i64 .i64 _ _ data.length rfl rfl rfl rfl (by rw [hz2]; omega) (by unfold maxLen; omega) (Nat.le_refl _) ?_; intro w3 hown hgrow)
  have B3 := B5.of_made hown
  have n3 : Below w2.heap.size w2 w3 := (Below.refl _ _).grown hgrow (Nat.le_refl _) (by simp)
  clear hown hgrow
  rw [z2] at B3
  have g3 := B3.lt
  have B0 := B0.up n3
  have C2 := (World.cell?_of_block (a := ⟨w.heap.size + 1, 0, none⟩) (n3.block (w.heap.size + 1) (by omega))).trans C2
  have F2 := (World.frozen?_of_block (a := ⟨w.heap.size + 1, 0, none⟩) (n3.block (w.heap.size + 1) (by omega))).trans F2
  have N3 := nxt N2 n3
  obtain ⟨w4, hcopy, B4, O4⟩ := copy_b5 (P := Tryz.prog) w3 22 3 5 Tryz.underlying22 rowU8 B3 g a data (hr.up N3) (by rw [List.length_replicate]; exact Nat.le_refl _) data.length c
  rw [List.length_replicate] at hcopy
  have ed : data ++ (List.replicate data.length (0 : Int)).drop data.length = data := by simp
  rw [ed] at B4
  have B0 := B0.of_block (O4.block w.heap.size (by omega))
  have C2 := (World.cell?_of_block (a := ⟨w.heap.size + 1, 0, none⟩) (O4.block (w.heap.size + 1) (by omega))).trans C2
  have F2 := (World.frozen?_of_block (a := ⟨w.heap.size + 1, 0, none⟩) (O4.block (w.heap.size + 1) (by omega))).trans F2
  have N4 := N3.trans (O4.below (B := w.heap.size) (by omega))
  have z4 := O4.size
  clear n3 N2 N3 B3 O4 ed z2
  go_wp2_with (at_builtin; refine wpList_copy_run rfl (.tmp 14) (.tmp 15) 22 22 rfl _ _ rfl rfl _ _ hcopy ?_)
  refine (chunk_any64 w4 (some ⟨w.heap.size + 1 + 1, 0, none⟩) data.length data.length).mono ?_
  rintro e w6 ⟨rfl, rfl⟩
  have n5 : Below w4.heap.size w4 (w4.alloc (.cells #[.slice (some ⟨w.heap.size + 1 + 1, 0, none⟩) data.length data.length] 22)) := (Below.refl _ _).alloc (Nat.le_refl _) _
  have C5 : (w4.alloc (.cells #[.slice (some ⟨w.heap.size + 1 + 1, 0, none⟩) data.length data.length] 22)).cell? ⟨w4.heap.size, 0, none⟩ = some (.slice (some ⟨w.heap.size + 1 + 1, 0, none⟩) data.length data.length) := by simp [World.cell?_alloc_at]
  have z5 : (w4.alloc (.cells #[.slice (some ⟨w.heap.size + 1 + 1, 0, none⟩) data.length data.length] 22)).heap.size = w4.heap.size + 1 := by simp
  generalize w4.alloc (.cells #[.slice (some ⟨w.heap.size + 1 + 1, 0, none⟩) data.length data.length] 22) = w5 at *
  have n6 : Below w5.heap.size w5 (w5.alloc (.cells #[.int .i64 64] 3)) := (Below.refl _ _).alloc (Nat.le_refl _) _
  have C6 : (w5.alloc (.cells #[.int .i64 64] 3)).cell? ⟨w5.heap.size, 0, none⟩ = some (.int .i64 64) := by simp [World.cell?_alloc_at]
  have z6 : (w5.alloc (.cells #[.int .i64 64] 3)).heap.size = w5.heap.size + 1 := by simp
  generalize w5.alloc (.cells #[.int .i64 64] 3) = w6 at *
  generalize hq : w4.heap.size = q at *
  rw [z5] at C6 z6
  have yq : w.heap.size + 1 + 1 < q := by omega
  have n56 : Below q w4 w6 := n5.trans (n6.mono (by omega))
  have N6 : Below w.heap.size w w6 := N4.trans (n56.mono (by omega))
  have I0 : LyJ w ys ct data (q + 2) [] w6 :=
    ⟨⟨data, rfl, B4.of_block (n56.block (w.heap.size + 1 + 1) (by omega)), fun _ => rfl⟩, B0.of_block (n56.block w.heap.size (by omega)), by have := (World.cell?_of_block (a := ⟨w.heap.size + 1, 0, none⟩) (n56.block (w.heap.size + 1) (by omega))).trans C2; simpa using this, (World.frozen?_of_block (a := ⟨w.heap.size + 1, 0, none⟩) (n56.block (w.heap.size + 1) (by omega))).trans F2, by omega, N6⟩
  have D5 : w6.cell? ⟨q, 0, none⟩ = some (.slice (some ⟨w.heap.size + 1 + 1, 0, none⟩) data.length data.length) := (World.cell?_of_block (a := ⟨q, 0, none⟩) (n6.block q (by omega))).trans C5
  have S6 : Hid (w6.heap.size = q + 1 + 1) := z6
  have YQ := hide yq
  clear n5 n6 n56 C2 C5 F2 z5 z6 N4 B0 B4 hq hcopy g3 z4
  go_wp2
  refine (wpIn_wide (n := 5)).1 (wpIn_rangeFunc_ownG (n := 5) rfl (by omega) (gf := 90) (lb := #[.pointer (some ⟨q, 0, none⟩), .pointer (some ⟨q + 1, 0, none⟩)]) rfl trivial (enters_of Tryz.func90 (by kernel_rfl) rfl)
    (chunk_stops64 4 (by omega) q (q + 1) (w.heap.size + 1 + 1) 0 data.length data.length (some ⟨w.heap.size + 1 + 1, 0, none⟩) (fun _ => rfl) (Nat.le_refl _) hn w6 (by have := S6.out; omega) (by have := S6.out; omega) D5 C6) KpB.t (KpB.b (by have := S6.out; omega) (by have := S6.out; omega)) (Below.refl _ _) (fun _ => rfl)
    (LyJ w ys ct data (q + 2)) (fun _ _ _ => False) (lyJ_own (by have := N6.size; omega)) (fun _ _ _ _ _ h _ _ => h) I0
    (fun x => { tmps := #[.agg vs.toArray, .int .i64 ct, .slice a data.length c, .pointer (some ⟨w.heap.size, 0, none⟩), .pointer (some ⟨w.heap.size + 1, 0, none⟩), undef, .slice none 0 0, .slice (some ⟨w.heap.size + 1 + 1, 0, none⟩) data.length data.length, .slice (some ⟨w.heap.size + 1 + 1, 64 * x.1, none⟩) (pcL64 data.length x.1) (pcL64 data.length x.1), undef, undef, .slice a data.length c, .int .i64 (data.length : Int), .slice (some ⟨w.heap.size + 1 + 1, 0, none⟩) data.length data.length, .slice (some ⟨w.heap.size + 1 + 1, 0, none⟩) data.length data.length, .slice a data.length c, (.int .i64 (data.length : Int)), .slice (some ⟨w.heap.size + 1 + 1, 0, none⟩) data.length data.length, Value.func (Fn.func 90) #[] #[Value.pointer (some ⟨q, 0, none⟩), Value.pointer (some ⟨q + 1, 0, none⟩)], .slice (some ⟨w.heap.size + 1 + 1, 64 * x.1, none⟩) (pcL64 data.length x.1) (pcL64 data.length x.1), undef, undef, undef, undef, undef, undef, undef, undef, undef, undef, undef, undef, undef, undef, undef, undef, undef, undef, undef, undef, undef], defers := [] }) ?assign ?body ?done ?stop)
  case assign =>
    intro l x W K hK
    unfold pcE64
    gi_wp2
    exact hK
  case body =>
    rintro l pre x W hI hlen
    obtain ⟨zs, zl, zB, z3⟩ := hI.told
    have hs := hI.wds
    have im := hI.num
    have nf := hI.numF
    have sz := hI.siz
    have yq := YQ.out
    have be := hI.bel
    clear hI
    have xl := x.2
    obtain ⟨pe, hpe⟩ : ∃ e, e = pcL64 data.length x.1 := ⟨_, rfl⟩
    have pe0 : 0 < pe := by rw [hpe]; unfold pcL64; omega
    have pe1 : pe ≤ 64 := by rw [hpe]; unfold pcL64; omega
    have pe2 : 64 * x.1 + pe ≤ data.length := by rw [hpe]; unfold pcL64; omega
    rw [← hpe]
    obtain ⟨cv, hcv⟩ : ∃ v, v = ct + (pre.length : Int) := ⟨_, rfl⟩
    rw [← hcv] at im
    have cw : W4 cv := ⟨by omega, by omega⟩
    have BA := fun u => hide (block_any u ys hw HYL.out cv cw)
    simp only [VY.out, ← HVS.out] at BA
    have RG := (Seg.blk hs).range
    rw [← HVS.out] at RG
    have L64 : Hid (((stB (ys.set 12 cv)).map (Value.int .u8)).length = 64) := by show _ = _; rw [List.length_map]; exact stB_len _
    have BL : Hid ((stB (ys.set 12 cv)).length = 64) := stB_len _
    have O64 := one_ints .u8 (stB (ys.set 12 cv))
    have V64 : Hid (ag .u8 (stB (ys.set 12 cv)) = Value.agg ((stB (ys.set 12 cv)).map (Value.int .u8)).toArray) := rfl
    simp only [V64.out] at BA
    obtain ⟨Bk, hBk⟩ : ∃ b, b = stB (ys.set 12 cv) := ⟨_, rfl⟩
    rw [← hBk] at L64 BL O64
    simp only [← hBk] at BA
    have HBK := hide hBk
    have HCV := hide hcv
    have HPE := hide hpe
    have cvb : 0 ≤ cv ∧ cv < 4294967296 := cw
    clear hBk hcv hpe V64 cw
    obtain ⟨cv0, cv1⟩ := cvb
    gi_wp2_with (refine listIn_load rfl 95 (.tmp 3) rfl w.heap.size 0 rfl vs (.array 16 93) RG undS rfl (by rw [L16.out]; exact infoS) ?_)
    refine ⟨trivial, (CallsIn.inRound l (callsIn_wide.2 (BA W).out)).mono ?_⟩
    rintro e W3 ⟨rfl, n3⟩
    have n4 : Below W3.heap.size W3 (W3.alloc (.cells #[.int .u8 0, .int .u8 0, .int .u8 0, .int .u8 0, .int .u8 0, .int .u8 0, .int .u8 0, .int .u8 0, .int .u8 0, .int .u8 0, .int .u8 0, .int .u8 0, .int .u8 0, .int .u8 0, .int .u8 0, .int .u8 0, .int .u8 0, .int .u8 0, .int .u8 0, .int .u8 0, .int .u8 0, .int .u8 0, .int .u8 0, .int .u8 0, .int .u8 0, .int .u8 0, .int .u8 0, .int .u8 0, .int .u8 0, .int .u8 0, .int .u8 0, .int .u8 0, .int .u8 0, .int .u8 0, .int .u8 0, .int .u8 0, .int .u8 0, .int .u8 0, .int .u8 0, .int .u8 0, .int .u8 0, .int .u8 0, .int .u8 0, .int .u8 0, .int .u8 0, .int .u8 0, .int .u8 0, .int .u8 0, .int .u8 0, .int .u8 0, .int .u8 0, .int .u8 0, .int .u8 0, .int .u8 0, .int .u8 0, .int .u8 0, .int .u8 0, .int .u8 0, .int .u8 0, .int .u8 0, .int .u8 0, .int .u8 0, .int .u8 0, .int .u8 0] 124)) := (Below.refl _ _).alloc (Nat.le_refl _) _
    have B4 := blk_z64 W3 124
    have z4 : (W3.alloc (.cells #[.int .u8 0, .int .u8 0, .int .u8 0, .int .u8 0, .int .u8 0, .int .u8 0, .int .u8 0, .int .u8 0, .int .u8 0, .int .u8 0, .int .u8 0, .int .u8 0, .int .u8 0, .int .u8 0, .int .u8 0, .int .u8 0, .int .u8 0, .int .u8 0, .int .u8 0, .int .u8 0, .int .u8 0, .int .u8 0, .int .u8 0, .int .u8 0, .int .u8 0, .int .u8 0, .int .u8 0, .int .u8 0, .int .u8 0, .int .u8 0, .int .u8 0, .int .u8 0, .int .u8 0, .int .u8 0, .int .u8 0, .int .u8 0, .int .u8 0, .int .u8 0, .int .u8 0, .int .u8 0, .int .u8 0, .int .u8 0, .int .u8 0, .int .u8 0, .int .u8 0, .int .u8 0, .int .u8 0, .int .u8 0, .int .u8 0, .int .u8 0, .int .u8 0, .int .u8 0, .int .u8 0, .int .u8 0, .int .u8 0, .int .u8 0, .int .u8 0, .int .u8 0, .int .u8 0, .int .u8 0, .int .u8 0, .int .u8 0, .int .u8 0, .int .u8 0] 124)).heap.size = W3.heap.size + 1 := by simp
    obtain ⟨t4, H4⟩ := B4
    have SR := blk_setRow (zs := Bk) ⟨t4, H4⟩
    have OR := only_setRow (W3.alloc (.cells #[.int .u8 0, .int .u8 0, .int .u8 0, .int .u8 0, .int .u8 0, .int .u8 0, .int .u8 0, .int .u8 0, .int .u8 0, .int .u8 0, .int .u8 0, .int .u8 0, .int .u8 0, .int .u8 0, .int .u8 0, .int .u8 0, .int .u8 0, .int .u8 0, .int .u8 0, .int .u8 0, .int .u8 0, .int .u8 0, .int .u8 0, .int .u8 0, .int .u8 0, .int .u8 0, .int .u8 0, .int .u8 0, .int .u8 0, .int .u8 0, .int .u8 0, .int .u8 0, .int .u8 0, .int .u8 0, .int .u8 0, .int .u8 0, .int .u8 0, .int .u8 0, .int .u8 0, .int .u8 0, .int .u8 0, .int .u8 0, .int .u8 0, .int .u8 0, .int .u8 0, .int .u8 0, .int .u8 0, .int .u8 0, .int .u8 0, .int .u8 0, .int .u8 0, .int .u8 0, .int .u8 0, .int .u8 0, .int .u8 0, .int .u8 0, .int .u8 0, .int .u8 0, .int .u8 0, .int .u8 0, .int .u8 0, .int .u8 0, .int .u8 0, .int .u8 0] 124)) W3.heap.size (Bk.map (Value.int .u8)).toArray
    obtain ⟨vr, hvr⟩ : ∃ v, v = Bk.map (Value.int .u8) := ⟨_, rfl⟩
    rw [← hvr] at L64 O64 SR OR ⊢
    clear hvr BA RG
    gi_wp2_with (refine listIn_store rfl 124 (.tmp 9) (.tmp 22) rfl W3.heap.size vr.toArray rfl rfl t4 _ H4 (by rw [List.size_toArray, L64.out]; exact infoB) (by rw [List.size_toArray, List.size_toArray, L64.out]; rfl) O64 ?_)
    have s3 := n3.size
    have U5 : ∀ b, b < W.heap.size → ((W3.alloc (.cells #[.int .u8 0, .int .u8 0, .int .u8 0, .int .u8 0, .int .u8 0, .int .u8 0, .int .u8 0, .int .u8 0, .int .u8 0, .int .u8 0, .int .u8 0, .int .u8 0, .int .u8 0, .int .u8 0, .int .u8 0, .int .u8 0, .int .u8 0, .int .u8 0, .int .u8 0, .int .u8 0, .int .u8 0, .int .u8 0, .int .u8 0, .int .u8 0, .int .u8 0, .int .u8 0, .int .u8 0, .int .u8 0, .int .u8 0, .int .u8 0, .int .u8 0, .int .u8 0, .int .u8 0, .int .u8 0, .int .u8 0, .int .u8 0, .int .u8 0, .int .u8 0, .int .u8 0, .int .u8 0, .int .u8 0, .int .u8 0, .int .u8 0, .int .u8 0, .int .u8 0, .int .u8 0, .int .u8 0, .int .u8 0, .int .u8 0, .int .u8 0, .int .u8 0, .int .u8 0, .int .u8 0, .int .u8 0, .int .u8 0, .int .u8 0, .int .u8 0, .int .u8 0, .int .u8 0, .int .u8 0, .int .u8 0, .int .u8 0, .int .u8 0, .int .u8 0] 124)).setRow W3.heap.size vr.toArray).heap[b]? = W.heap[b]? := fun b hb => (OR.block b (by omega)).trans ((n4.block b (by omega)).trans (n3.block b hb))
    have s5 : ((W3.alloc (.cells #[.int .u8 0, .int .u8 0, .int .u8 0, .int .u8 0, .int .u8 0, .int .u8 0, .int .u8 0, .int .u8 0, .int .u8 0, .int .u8 0, .int .u8 0, .int .u8 0, .int .u8 0, .int .u8 0, .int .u8 0, .int .u8 0, .int .u8 0, .int .u8 0, .int .u8 0, .int .u8 0, .int .u8 0, .int .u8 0, .int .u8 0, .int .u8 0, .int .u8 0, .int .u8 0, .int .u8 0, .int .u8 0, .int .u8 0, .int .u8 0, .int .u8 0, .int .u8 0, .int .u8 0, .int .u8 0, .int .u8 0, .int .u8 0, .int .u8 0, .int .u8 0, .int .u8 0, .int .u8 0, .int .u8 0, .int .u8 0, .int .u8 0, .int .u8 0, .int .u8 0, .int .u8 0, .int .u8 0, .int .u8 0, .int .u8 0, .int .u8 0, .int .u8 0, .int .u8 0, .int .u8 0, .int .u8 0, .int .u8 0, .int .u8 0, .int .u8 0, .int .u8 0, .int .u8 0, .int .u8 0, .int .u8 0, .int .u8 0, .int .u8 0, .int .u8 0] 124)).setRow W3.heap.size vr.toArray).heap.size = W3.heap.size + 1 := OR.size.trans z4
    have N5 : Below W.heap.size W ((W3.alloc (.cells #[.int .u8 0, .int .u8 0, .int .u8 0, .int .u8 0, .int .u8 0, .int .u8 0, .int .u8 0, .int .u8 0, .int .u8 0, .int .u8 0, .int .u8 0, .int .u8 0, .int .u8 0, .int .u8 0, .int .u8 0, .int .u8 0, .int .u8 0, .int .u8 0, .int .u8 0, .int .u8 0, .int .u8 0, .int .u8 0, .int .u8 0, .int .u8 0, .int .u8 0, .int .u8 0, .int .u8 0, .int .u8 0, .int .u8 0, .int .u8 0, .int .u8 0, .int .u8 0, .int .u8 0, .int .u8 0, .int .u8 0, .int .u8 0, .int .u8 0, .int .u8 0, .int .u8 0, .int .u8 0, .int .u8 0, .int .u8 0, .int .u8 0, .int .u8 0, .int .u8 0, .int .u8 0, .int .u8 0, .int .u8 0, .int .u8 0, .int .u8 0, .int .u8 0, .int .u8 0, .int .u8 0, .int .u8 0, .int .u8 0, .int .u8 0, .int .u8 0, .int .u8 0, .int .u8 0, .int .u8 0, .int .u8 0, .int .u8 0, .int .u8 0, .int .u8 0] 124)).setRow W3.heap.size vr.toArray) := n3.trans ((n4.mono (by omega)).trans (OR.below (by omega)))
    generalize (W3.alloc (.cells #[.int .u8 0, .int .u8 0, .int .u8 0, .int .u8 0, .int .u8 0, .int .u8 0, .int .u8 0, .int .u8 0, .int .u8 0, .int .u8 0, .int .u8 0, .int .u8 0, .int .u8 0, .int .u8 0, .int .u8 0, .int .u8 0, .int .u8 0, .int .u8 0, .int .u8 0, .int .u8 0, .int .u8 0, .int .u8 0, .int .u8 0, .int .u8 0, .int .u8 0, .int .u8 0, .int .u8 0, .int .u8 0, .int .u8 0, .int .u8 0, .int .u8 0, .int .u8 0, .int .u8 0, .int .u8 0, .int .u8 0, .int .u8 0, .int .u8 0, .int .u8 0, .int .u8 0, .int .u8 0, .int .u8 0, .int .u8 0, .int .u8 0, .int .u8 0, .int .u8 0, .int .u8 0, .int .u8 0, .int .u8 0, .int .u8 0, .int .u8 0, .int .u8 0, .int .u8 0, .int .u8 0, .int .u8 0, .int .u8 0, .int .u8 0, .int .u8 0, .int .u8 0, .int .u8 0, .int .u8 0, .int .u8 0, .int .u8 0, .int .u8 0, .int .u8 0] 124)).setRow W3.heap.size vr.toArray = W5 at *
    generalize W3.heap.size = bq at *
    clear OR n4 n3 H4 z4 O64 L64
    have T5 := zB.up N5
    have bW : W.heap.size ≤ bq := s3
    have peI : (pe : Int) ≤ 64 := by omega
    gi_loopw [25] (fun v wr => ∃ (j : Nat) (us : List Int), j ≤ pe ∧ v = .int .i64 j ∧ Hid (us = xorTo zs (64 * x.1) Bk j) ∧ B5 wr (w.heap.size + 1 + 1) us ∧ Blk wr bq .u8 Bk ∧ (∀ b, b < W.heap.size → b ≠ w.heap.size + 1 + 1 → wr.heap[b]? = W.heap[b]?) ∧ bq + 1 ≤ wr.heap.size ∧ KeepsFrom w6.heap.size W wr ∧ Below w.heap.size w wr) (fun v _ => pe - (intOf v).toNat)
    case atStart => exact ⟨0, zs, Nat.zero_le _, rfl, rfl, T5, SR, fun b hb _ => U5 b hb, by omega, keeps_below N5, be.trans (N5.mono be.size)⟩
    case round =>
      obtain ⟨j, us, hj, rfl, HU, hT, hK, hO, hZ, hF, hN⟩ := hrel
      clear T5 SR U5 N5 s5
      by_cases jl : j < pe
      · have pzl : 64 * x.1 + j < zs.length := by rw [zl]; omega
        have ul : us.length = zs.length := by rw [HU.out, xorTo_len]
        have ug : us.getD (64 * x.1 + j) 0 = zs.getD (64 * x.1 + j) 0 := by rw [HU.out, xorTo_get _ _ _ _ pzl, if_neg (by omega)]
        have cz0 : ∀ u, Below wr.heap.size wr u → u.cell? ⟨w.heap.size + 1 + 1, 64 * x.1 + j, none⟩ = some (.int .u8 (zs.getD (64 * x.1 + j) 0)) := fun u hu => by
          have := (hT.up hu).cell (i := 64 * x.1 + j) (by rw [ul]; exact pzl)
          rw [ug] at this
          exact this
        have cb0 : ∀ u, Below wr.heap.size wr u → u.cell? ⟨bq, j, none⟩ = some (.int .u8 (Bk.getD j 0)) := fun u hu => (hK.up hu).cell (i := j) (by rw [BL.out]; omega)
        have XS : Hid (us.set (64 * x.1 + j) (xr (zs.getD (64 * x.1 + j) 0) (Bk.getD j 0)) = xorTo zs (64 * x.1) Bk (j + 1)) := by show _ = _; rw [HU.out]; rfl
        have XV0 : Hid (bits BinOp.xor IntKind.u8 (zs.getD (64 * x.1 + j) 0) (Bk.getD j 0) = xr (zs.getD (64 * x.1 + j) 0) (Bk.getD j 0)) := rfl
        obtain ⟨pz, hpz⟩ : ∃ p, p = 64 * x.1 + j := ⟨_, rfl⟩
        have epz : 64 * x.1 + j = pz := hpz.symm
        rw [← hpz] at pzl ug XS XV0
        simp only [← hpz] at cz0
        clear hpz
        generalize zs.getD pz 0 = zv at *
        generalize Bk.getD j 0 = bv at *
        generalize xr zv bv = xv at *
        have XV := XV0
        have cz := cz0
        have cb := cb0
        have jpe : (j : Int) < (pe : Int) := by omega
        have j64 : (j : Int) < 64 := by omega
        clear XV0 cz0 cb0
        gi_wp2_with fail
        refine region_store_in 9 _ (fun i => [Fact.eq (.slice (some ⟨w.heap.size + 1 + 1, 64 * x.1, none⟩) pe pe), Fact.eq (.int .i64 (j : Int)), Fact.eq (.pointer (some ⟨w.heap.size + 1 + 1, pz, none⟩)), Fact.eq (.int .u8 zv), Fact.eq (.int .i64 (j : Int)), Fact.eq (.pointer (some ⟨bq, j, none⟩)), Fact.eq (.int .u8 bv), Fact.eq (.int .u8 xv), Fact.eq (.pointer (some ⟨w.heap.size + 1 + 1, pz, none⟩))].getD i Fact.no) (by kernel_rfl) (by rintro ⟨_, _, h⟩; exact h) (by kernel_rfl) (by kernel_rfl) rfl rfl ?_ ?_
        · skip
          intro i hi
          obtain rfl | rfl | rfl | rfl | rfl | rfl | rfl | rfl | rfl : i = 0 ∨ i = 1 ∨ i = 2 ∨ i = 3 ∨ i = 4 ∨ i = 5 ∨ i = 6 ∨ i = 7 ∨ i = 8 := by omega
          · refine step_pure rfl fun a u hb hw hf => ?_
            have e8 : a.tmps[8]?.getD undef = .slice (some ⟨w.heap.size + 1 + 1, 64 * x.1, none⟩) pe pe := gdv (hb.2.2 8 (by kernel_rfl))
            exact ⟨.slice (some ⟨w.heap.size + 1 + 1, 64 * x.1, none⟩) pe pe, by simp [go_sem, e8], rfl⟩
          · refine step_pure rfl fun a u hb hw hf => ?_
            have e10 : a.tmps[10]?.getD undef = .int .i64 (j : Int) := gdv (hb.2.2 10 (by kernel_rfl))
            exact ⟨.int .i64 (j : Int), by simp [go_sem, e10], rfl⟩
          · refine step_pure rfl fun a u hb hw hf => ?_
            have e28 : a.tmps[28]?.getD undef = .slice (some ⟨w.heap.size + 1 + 1, 64 * x.1, none⟩) pe pe := gdv (hf 0 28 (by kernel_rfl))
            have e29 : a.tmps[29]?.getD undef = .int .i64 (j : Int) := gdv (hf 1 29 (by kernel_rfl))
            exact ⟨.pointer (some ⟨w.heap.size + 1 + 1, pz, none⟩), by simp [go_sem, e28, e29, jpe, epz], rfl⟩
          · refine step_pure rfl fun a u hb hw hf => ?_
            have e30 : a.tmps[30]?.getD undef = .pointer (some ⟨w.heap.size + 1 + 1, pz, none⟩) := gdv (hf 2 30 (by kernel_rfl))
            have hc := cz _ hw
            exact ⟨.int .u8 zv, by simp [go_sem, e30, hc], rfl⟩
          · refine step_pure rfl fun a u hb hw hf => ?_
            have e10 : a.tmps[10]?.getD undef = .int .i64 (j : Int) := gdv (hb.2.2 10 (by kernel_rfl))
            exact ⟨.int .i64 (j : Int), by simp [go_sem, e10], rfl⟩
          · refine step_pure rfl fun a u hb hw hf => ?_
            have e9 : a.tmps[9]?.getD undef = .pointer (some ⟨bq, 0, none⟩) := gdv (hb.2.2 9 (by kernel_rfl))
            have e32 : a.tmps[32]?.getD undef = .int .i64 (j : Int) := gdv (hf 4 32 (by kernel_rfl))
            exact ⟨.pointer (some ⟨bq, j, none⟩), by simp [go_sem, e9, e32, j64], rfl⟩
          · refine step_pure rfl fun a u hb hw hf => ?_
            have e33 : a.tmps[33]?.getD undef = .pointer (some ⟨bq, j, none⟩) := gdv (hf 5 33 (by kernel_rfl))
            have hc := cb _ hw
            exact ⟨.int .u8 bv, by simp [go_sem, e33, hc], rfl⟩
          · refine step_pure rfl fun a u hb hw hf => ?_
            have e31 : a.tmps[31]?.getD undef = .int .u8 zv := gdv (hf 3 31 (by kernel_rfl))
            have e34 : a.tmps[34]?.getD undef = .int .u8 bv := gdv (hf 6 34 (by kernel_rfl))
            exact ⟨.int .u8 xv, by simp [go_sem, e31, e34, XV.out], rfl⟩
          · refine step_pure rfl fun a u hb hw hf => ?_
            have e28 : a.tmps[28]?.getD undef = .slice (some ⟨w.heap.size + 1 + 1, 64 * x.1, none⟩) pe pe := gdv (hf 0 28 (by kernel_rfl))
            have e29 : a.tmps[29]?.getD undef = .int .i64 (j : Int) := gdv (hf 1 29 (by kernel_rfl))
            exact ⟨.pointer (some ⟨w.heap.size + 1 + 1, pz, none⟩), by simp [go_sem, e28, e29, jpe, epz], rfl⟩
        · intro a u hb' hw' hf
          have e36 : a.tmps[36]?.getD undef = .pointer (some ⟨w.heap.size + 1 + 1, pz, none⟩) := gdv (hf 8 36 (by kernel_rfl))
          have e35 : a.tmps[35]?.getD undef = .int .u8 xv := gdv (hf 7 35 (by kernel_rfl))
          have hcz := cz u hw'
          have hfz := (hT.up hw').free pz
          have O2 := Only.setCell u (w.heap.size + 1 + 1) pz (.int .u8 xv)
          have T2 := (hT.up hw').store pz xv
          have K2 := (hK.up hw').of_block (O2.block bq (by omega))
          have U2 : ∀ b, b < W.heap.size → b ≠ w.heap.size + 1 + 1 → (u.setCell ⟨w.heap.size + 1 + 1, pz, none⟩ (.int .u8 xv)).heap[b]? = W.heap[b]? := fun b h1 h2 => (O2.block b h2).trans ((hw'.block b (by omega)).trans (hO b h1 h2))
          have F2 : KeepsFrom w6.heap.size W (u.setCell ⟨w.heap.size + 1 + 1, pz, none⟩ (.int .u8 xv)) := (hF.trans (keeps_below hw')).trans ((KeepsOthers.setCell _ _ _).from _)
          have s2 := O2.size
          have s1 := hw'.size
          have N2 := hN.trans ((hw'.mono hN.size).trans (O2.below (B := w.heap.size) (by omega)))
          obtain ⟨vs', hvs'⟩ : ∃ vs : Nat → Value, ∀ d, a.tmps.getD d undef = vs d := ⟨_, fun _ => rfl⟩
          have ea := puts_of (md := .any) (n := 41) (k := 9) (by kernel_rfl) rfl hb' vs' hvs'
          unfold Oper.wp
          simp [go_sem, e36, e35, hcz, hfz]
          rw [ea]
          clear ea hvs' e36 e35 hf hb' hcz hfz cz cb
          simp only [puts, Act.put, List.setIfInBounds_toArray, List.set_cons_succ, List.set_cons_zero]
          generalize u.setCell ⟨w.heap.size + 1 + 1, pz, none⟩ (.int .u8 xv) = W2 at *
          gi_wp2
          go_roundw
          case rel => exact ⟨j + 1, us.set pz xv, by omega, by go_num, XS, T2, K2, U2, by omega, F2, N2⟩
          case measure => simp [intOf]; omega
      · have jI : ¬ ((j : Int) < (pe : Int)) := by omega
        have HJ := hide (show j = pe by omega)
        have c2 := (World.cell?_of_block (a := ⟨w.heap.size + 1, 0, none⟩) (hO (w.heap.size + 1) (by omega) (by omega))).trans im
        have f2 := (World.frozen?_of_block (a := ⟨w.heap.size + 1, 0, none⟩) (hO (w.heap.size + 1) (by omega) (by omega))).trans nf
        have c3 : (wr.setCell ⟨w.heap.size + 1, 0, none⟩ (.int .i64 (cv + 1))).cell? ⟨w.heap.size + 1, 0, none⟩ = some (.int .i64 (cv + 1)) := World.cell?_setCell_same _ _ _ c2
        have f3 : (wr.setCell ⟨w.heap.size + 1, 0, none⟩ (.int .i64 (cv + 1))).frozen? ⟨w.heap.size + 1, 0, none⟩ = false := by rw [frozen_setCell]; exact f2
        have O3 := Only.setCell wr (w.heap.size + 1) 0 (.int .i64 (cv + 1))
        gi_wp2
        have lx : (pre ++ [x]).length = pre.length + 1 := by simp
        have K3 := hF.trans ((KeepsOthers.setCell wr ⟨w.heap.size + 1, 0, none⟩ (.int .i64 (cv + 1))).from w6.heap.size)
        have U3 : ∀ b, b < W.heap.size → b ≠ w.heap.size + 1 + 1 → b ≠ w.heap.size + 1 → (wr.setCell ⟨w.heap.size + 1, 0, none⟩ (.int .i64 (cv + 1))).heap[b]? = W.heap[b]? := fun b h1 h2 h3 => (O3.block b h3).trans (hO b h1 h2)
        have s6 := S6.out
        refine ⟨K3, ⟨U3 _ (by omega) (by omega) (by omega), U3 _ (by omega) (by omega) (by omega)⟩, ?_⟩
        refine ⟨⟨us, by rw [HU.out, xorTo_len]; exact zl, hT.of_block (O3.block (w.heap.size + 1 + 1) (by omega)), fun h => ?_⟩, hs.of_block (U3 w.heap.size (by omega) (by omega) (by omega)), ?_, f3, by have := O3.size; omega, hN.trans (O3.below (by omega))⟩
        · rw [lx, List.map_append, List.range_succ] at h
          obtain ⟨h1', h2'⟩ := List.append_inj' h rfl
          have h3' : x.1 = pre.length := by simpa using h2'
          rw [lx, HU.out, z3 h1', xoG, HBK.out, HCV.out, HJ.out, HPE.out, h3']
        · rw [lx, c3, HCV.out]
          congr 2
          omega
  case done =>
    rintro D xx W hD hS hI hK
    have yl : xx.length = (data.length + 63) / 64 := by have := congrArg List.length hS; simpa using this
    obtain ⟨zs, z1, z2, z3⟩ := hI.told
    rw [← yl] at hS
    have ez := z3 hS
    rw [yl] at ez
    have hdd : w.heap.size + 1 + 1 < D := by have := S6.out; have := YQ.out; omega
    have B9 : B5 (W.putObj D (.deferred none)) (w.heap.size + 1 + 1) zs := z2.of_block (World.putObj_heap_other (by omega))
    have N9 : Below w.heap.size w (W.putObj D (.deferred none)) := hI.bel.trans (belowK_b (w := w) (Nat.le_refl _) W D _ _ (by omega) hK rfl rfl)
    have EZ := hide ez
    have ZL := hide z1
    clear z1 z2 z3 ez hI yl hS
    go_wp2
    refine ⟨by simp, .inl ⟨_, _, rfl, run_takeDeferred hK, ?_⟩⟩
    have RB := B9.row (B := w.heap.size) (by omega) (by rw [ZL.out]; exact hn)
    rw [EZ.out, xoG_len] at RB
    exact ⟨_, results_tmp rfl _ _ _, ⟨.slice (some ⟨w.heap.size + 1 + 1, 0, none⟩) data.length data.length, by rfl, RB⟩, N9⟩
  case stop =>
    rintro D c pre W hD hs h hK
    exact h.elim
end Go.Proofs.YtjfggcefdobooaaGreatDoor
namespace Go.Proofs.YtjfggcefdobooaaGreatDoor
set_option maxRecDepth 100000
open Go Go.RowKit
theorem xr_byt {d b : Int} (hd : 0 ≤ d ∧ d < 256) (hb : 0 ≤ b ∧ b < 256) : 0 ≤ xr d b ∧ xr d b < 256 := by
  unfold xr
  obtain ⟨n, rfl⟩ := Int.eq_ofNat_of_zero_le hd.1
  obtain ⟨m, rfl⟩ := Int.eq_ofNat_of_zero_le hb.1
  have h1 := hd.2
  have h2 := hb.2
  rw [u8_xor_nat n m (by omega) (by omega)]
  have : n ^^^ m < 2 ^ 8 := Nat.xor_lt_two_pow (by omega) (by omega)
  exact ⟨by omega, by omega⟩
theorem xr_xr {d b : Int} (hd : 0 ≤ d ∧ d < 256) (hb : 0 ≤ b ∧ b < 256) : xr (xr d b) b = d := by
  unfold xr
  obtain ⟨n, rfl⟩ := Int.eq_ofNat_of_zero_le hd.1
  obtain ⟨m, rfl⟩ := Int.eq_ofNat_of_zero_le hb.1
  have h1 := hd.2
  have h2 := hb.2
  have h3 : n ^^^ m < 2 ^ 8 := Nat.xor_lt_two_pow (by omega) (by omega)
  rw [u8_xor_nat n m (by omega) (by omega), u8_xor_nat (n ^^^ m) m (by omega) (by omega), Nat.xor_assoc, Nat.xor_self, Nat.xor_zero]
theorem xoG_byt (ys : List Int) (c : Int) {data : List Int} (hb : Byt data) (k : Nat) : Byt (xoG ys c data k) := by
  intro i
  by_cases hi : i < data.length
  · rw [xoG_get _ _ _ _ hi]
    split
    · exact xr_byt (hb i) (stB_byt _ _)
    · exact hb i
  · rw [List.getD_eq_getElem?_getD, List.getElem?_eq_none (by rw [xoG_len]; omega)]; decide
theorem xoG_xoG (ys : List Int) (c : Int) {data : List Int} (hb : Byt data) : xoG ys c (xoG ys c data ((data.length + 63) / 64)) ((data.length + 63) / 64) = data := by
  refine eq_of_getD (by rw [xoG_len, xoG_len]) (fun i hi => ?_)
  rw [xoG_len, xoG_len] at hi
  rw [xoG_get _ _ _ _ (by rw [xoG_len]; exact hi), if_pos (by omega), xoG_get _ _ _ _ hi, if_pos (by omega)]
  exact xr_xr (hb i) (stB_byt _ _)
end Go.Proofs.YtjfggcefdobooaaGreatDoor
namespace Go.Proofs.YtjfggcefdobooaaGreatDoor
set_option maxRecDepth 100000
open Go Go.RowKit
def fitK (key non : List Int) : Bool := decide (key.length = 32) && decide (non.length = 12)
def xt (key non data : List Int) : List Int := xoG (nsW key non) 1 data ((data.length + 63) / 64)
theorem xt_len (key non data : List Int) : (xt key non data).length = data.length := xoG_len _ _ _ _
theorem xt_byt (key non : List Int) {data : List Int} (h : Byt data) : Byt (xt key non data) := xoG_byt _ _ h _
theorem xt_xt (key non : List Int) {data : List Int} (h : Byt data) : xt key non (xt key non data) = data := by
  show xoG _ _ (xt key non data) (((xt key non data).length + 63) / 64) = _
  rw [xt_len]
  exact xoG_xoG _ _ h
def seA (key non ex plain : List Int) : List Int := if fitK key non = true then xt key non plain ++ ssB (nsW key non) ex (xt key non plain) else []
theorem seA_len (key non ex plain : List Int) : (seA key non ex plain).length ≤ plain.length + 16 := by
  unfold seA
  split
  · rw [List.length_append, xt_len, ssB_len]; exact Nat.le_refl _
  · simp
theorem seA_byt {key non ex plain : List Int} (h : Byt plain) : Byt (seA key non ex plain) := by
  unfold seA
  split
  · exact byt_app (xt_byt _ _ h) (ssB_byt _ _ _)
  · exact byt_nil
theorem hasC_short (n : Nat) (h : n ≤ 4194304) : hasC 1 n = true := by unfold hasC; simp; omega
theorem RowB.of_block5 {w w' : World} {base q : Nat} {v : Value} {xs : List Int} (h : RowB w base v xs) (ho : Only q w w') (hq : ∀ k, v.ownBlock = some k → k ≠ q) : RowB w' base v xs := by
  refine ⟨h.1, ?_⟩
  rcases h.2 with h' | ⟨g, cap, cur, rfl, hbg, hg, hnc, hcm, hcs, ht⟩
  · exact .inl h'
  · exact .inr ⟨g, cap, cur, rfl, hbg, by rw [ho.block g (hq g rfl)]; exact hg, hnc, hcm, hcs, ht⟩
set_option maxRecDepth 100000 in
set_option maxHeartbeats 8000000 in
theorem implSeal_any (w : World) (g : Nat) (a : Option Addr) (c : Nat) (key : List Int) (hr : Rd w g a .u8 key) (hb : Byt key) (hc : key.length ≤ c) (g' : Nat) (a' : Option Addr) (c' : Nat) (non : List Int) (hr' : Rd w g' a' .u8 non) (hb' : Byt non) (hc' : non.length ≤ c')
    (ge : Nat) (ae : Option Addr) (ce : Nat) (ex : List Int) (he : Rd w ge ae .u8 ex) (eb : Byt ex) (en : ae = none → ce = 0)
    (g2 : Nat) (a2 : Option Addr) (c2 : Nat) (data : List Int) (hr2 : Rd w g2 a2 .u8 data) (db : Byt data) (hs : ex.length + data.length ≤ 4000000) :
    Calls Tryz.prog 45 #[.slice a key.length c, .slice a' non.length c', .slice ae ex.length ce, .slice a2 data.length c2] w fun e w' => (∃ v, e = .returned v ∧ RowB w' w.heap.size v (seA key non ex data)) ∧ Below w.heap.size w w' := by
  obtain ⟨i0, hi, hz0, hz1, hz2⟩ := info_parts Tryz.info5
  have IK := isKey_any w a a' key.length non.length c c'
  by_cases h1 : (decide (key.length = 32) && decide (non.length = 12)) = true
  · rw [h1] at IK
    have HC := hasC_any w 1 (by omega) (by omega) a2 data.length c2
    rw [hasC_short data.length (by omega)] at HC
    have RS : Hid (seA key non ex data = xt key non data ++ ssB (nsW key non) ex (xt key non data)) := by show _ = _; unfold seA fitK; rw [if_pos h1]
    rw [RS.out]
    simp only [Bool.and_eq_true, decide_eq_true_eq] at h1
    have NW := hide (newWords_any w g a c key hr hb h1.1 hc g' a' c' non hr' hb' h1.2 hc')
    have LY := fun W (n : Below w.heap.size w W) => hide (layOverR_any W _ (nsW_ws hb hb') (nsW_len key non) 1 (by omega) g2 a2 c2 data (hr2.up n) (by omega) (by omega))
    have XB := hide (xt_byt key non db)
    have XL := hide (xt_len key non data)
    have XT : Hid (xt key non data = xoG (nsW key non) 1 data ((data.length + 63) / 64)) := rfl
    simp only [← XT.out] at LY
    generalize xt key non data = T at *
    have SS := fun W (n : Below w.heap.size w W) gt at' ct (h : Rd W gt at' .u8 T) (p : at' = none → ct = 0) => hide (sealSum_any W _ (nsW_ws hb hb') (nsW_len key non) ge ae ce ex (he.up n) eb en gt at' ct T h XB.out p (by rw [XL.out]; exact hs))
    have SL := hide (ssB_len (nsW key non) ex T)
    have W16 : Hid (((nsW key non).map (Value.int .u32)).length = 16) := by show _ = _; rw [List.length_map]; exact nsW_len key non
    have OW := one_ints .u32 (nsW key non)
    have VW : Hid (ag .u32 (nsW key non) = Value.agg ((nsW key non).map (Value.int .u32)).toArray) := rfl
    have TL : T.length ≤ 4000000 := by rw [XL.out]; omega
    have HTL := hide TL
    clear RS h1 XT XB XL TL
    generalize ssB (nsW key non) ex T = sm at *
    rw [VW.out] at NW
    simp only [VW.out] at LY SS
    obtain ⟨nw, hnw⟩ : ∃ l, l = nsW key non := ⟨_, rfl⟩
    rw [← hnw] at W16 OW NW
    simp only [← hnw] at LY SS
    clear hnw VW
    go_enter Tryz.func45, Tryz.ntmps45
    go_wp2_with fail
    refine IK.mono ?_
    rintro e w1 ⟨rfl, h⟩
    have h := h.symm
    subst h
    go_wp2_with fail
    refine HC.mono ?_
    rintro e w1 ⟨rfl, h⟩
    have h := h.symm
    subst h
    go_wp2_with fail
    refine NW.out.mono ?_
    rintro e w2 ⟨rfl, n2⟩
    have n3 : Below w2.heap.size w2 (w2.alloc (.cells #[.int .u32 0, .int .u32 0, .int .u32 0, .int .u32 0, .int .u32 0, .int .u32 0, .int .u32 0, .int .u32 0, .int .u32 0, .int .u32 0, .int .u32 0, .int .u32 0, .int .u32 0, .int .u32 0, .int .u32 0, .int .u32 0] 95)) := (Below.refl _ _).alloc (Nat.le_refl _) _
    obtain ⟨t3, H3⟩ := blk_z16 w2 95
    have SR := blk_setRow (zs := nw) ⟨t3, H3⟩
    have OR := only_setRow (w2.alloc (.cells #[.int .u32 0, .int .u32 0, .int .u32 0, .int .u32 0, .int .u32 0, .int .u32 0, .int .u32 0, .int .u32 0, .int .u32 0, .int .u32 0, .int .u32 0, .int .u32 0, .int .u32 0, .int .u32 0, .int .u32 0, .int .u32 0] 95)) w2.heap.size (nw.map (Value.int .u32)).toArray
    obtain ⟨vw, hvw⟩ : ∃ v, v = nw.map (Value.int .u32) := ⟨_, rfl⟩
    have RGf : ∀ W q, Blk W q .u32 nw → W.rangeAt q 0 vw := fun W q h => by rw [hvw]; exact (Seg.blk h).range
    rw [← hvw] at W16 OW SR OR ⊢
    simp only [← hvw] at LY SS
    clear hvw NW IK HC
    have s2 := n2.size
    have N3 : Below w.heap.size w ((w2.alloc (.cells #[.int .u32 0, .int .u32 0, .int .u32 0, .int .u32 0, .int .u32 0, .int .u32 0, .int .u32 0, .int .u32 0, .int .u32 0, .int .u32 0, .int .u32 0, .int .u32 0, .int .u32 0, .int .u32 0, .int .u32 0, .int .u32 0] 95)).setRow w2.heap.size vw.toArray) := n2.trans ((n3.mono s2).trans (OR.below (B := w.heap.size) s2))
    have z3 : ((w2.alloc (.cells #[.int .u32 0, .int .u32 0, .int .u32 0, .int .u32 0, .int .u32 0, .int .u32 0, .int .u32 0, .int .u32 0, .int .u32 0, .int .u32 0, .int .u32 0, .int .u32 0, .int .u32 0, .int .u32 0, .int .u32 0, .int .u32 0] 95)).setRow w2.heap.size vw.toArray).heap.size = w2.heap.size + 1 := OR.size.trans (by simp)
    go_upto_region 4 with (refine wpList_store_row rfl 95 (.tmp 9) (.tmp 23) rfl w2.heap.size vw.toArray rfl rfl t3 _ H3 (by rw [List.size_toArray, W16.out]; exact infoS) (by rw [List.size_toArray, List.size_toArray, W16.out]; rfl) OW ?_)
    generalize (w2.alloc (.cells #[.int .u32 0, .int .u32 0, .int .u32 0, .int .u32 0, .int .u32 0, .int .u32 0, .int .u32 0, .int .u32 0, .int .u32 0, .int .u32 0, .int .u32 0, .int .u32 0, .int .u32 0, .int .u32 0, .int .u32 0, .int .u32 0] 95)).setRow w2.heap.size vw.toArray = w3 at *
    generalize w2.heap.size = q at *
    have RG := RGf w3 q SR
    clear n3 OR H3 OW
    go_wp2_with (refine wpList_load_mid rfl 95 (.tmp 9) rfl q 0 rfl vw (.array 16 93) RG undS rfl (by rw [W16.out]; exact infoS) ?_)
    refine (LY w3 N3).out.mono ?_
    rintro e w4 ⟨⟨v4, rfl, R4⟩, n4⟩
    obtain ⟨a4, c4, g4, rfl, o4, p4, q4, r4⟩ := R4.own
    have N4 := nxt N3 n4
    have SR4 := SR.up n4
    have RG4 := RGf w4 q SR4
    have SM := SS w4 N4 g4 a4 c4 o4.rd p4
    have s3 := N3.size
    have R4 := R4.base (base' := w.heap.size) s3
    clear LY SS SR RG n4
    go_wp2_with (refine wpList_load_mid rfl 95 (.tmp 9) rfl q 0 rfl vw (.array 16 93) RG4 undS rfl (by rw [W16.out]; exact infoS) ?_)
    refine SM.out.mono ?_
    rintro e w5 ⟨rfl, n5⟩
    have N5 := nxt N4 n5
    have R5 := R4.up n5
    clear SM RG4 SR4 RGf N4 n5 R4 o4
    have n6 : Below w5.heap.size w5 (w5.alloc (.cells #[.int .u8 0, .int .u8 0, .int .u8 0, .int .u8 0, .int .u8 0, .int .u8 0, .int .u8 0, .int .u8 0, .int .u8 0, .int .u8 0, .int .u8 0, .int .u8 0, .int .u8 0, .int .u8 0, .int .u8 0, .int .u8 0] 98)) := (Below.refl _ _).alloc (Nat.le_refl _) _
    obtain ⟨t6, H6⟩ := blk_y16 w5 98
    have SR6 := blk_setRow (zs := sm) ⟨t6, H6⟩
    have OR6 := only_setRow (w5.alloc (.cells #[.int .u8 0, .int .u8 0, .int .u8 0, .int .u8 0, .int .u8 0, .int .u8 0, .int .u8 0, .int .u8 0, .int .u8 0, .int .u8 0, .int .u8 0, .int .u8 0, .int .u8 0, .int .u8 0, .int .u8 0, .int .u8 0] 98)) w5.heap.size (sm.map (Value.int .u8)).toArray
    have L6 : Hid ((sm.map (Value.int .u8)).length = 16) := by show _ = _; rw [List.length_map]; exact SL.out
    have O6 := one_ints .u8 sm
    have V6 : Hid (ag .u8 sm = Value.agg (sm.map (Value.int .u8)).toArray) := rfl
    rw [V6.out]
    obtain ⟨v6, hv6⟩ : ∃ v, v = sm.map (Value.int .u8) := ⟨_, rfl⟩
    rw [← hv6] at SR6 OR6 L6 O6 ⊢
    clear hv6 V6
    have s5 := N5.size
    have N6 : Below w.heap.size w ((w5.alloc (.cells #[.int .u8 0, .int .u8 0, .int .u8 0, .int .u8 0, .int .u8 0, .int .u8 0, .int .u8 0, .int .u8 0, .int .u8 0, .int .u8 0, .int .u8 0, .int .u8 0, .int .u8 0, .int .u8 0, .int .u8 0, .int .u8 0] 98)).setRow w5.heap.size v6.toArray) := N5.trans ((n6.mono s5).trans (OR6.below (B := w.heap.size) s5))
    have z6 : ((w5.alloc (.cells #[.int .u8 0, .int .u8 0, .int .u8 0, .int .u8 0, .int .u8 0, .int .u8 0, .int .u8 0, .int .u8 0, .int .u8 0, .int .u8 0, .int .u8 0, .int .u8 0, .int .u8 0, .int .u8 0, .int .u8 0, .int .u8 0] 98)).setRow w5.heap.size v6.toArray).heap.size = w5.heap.size + 1 := OR6.size.trans (by simp)
    have R6 := RowB.of_block5 (R5.up n6) OR6 (fun k hk => by have := (World.ownsRow.lt R5 k hk).2; omega)
    go_upto_region 6 with (refine wpList_store_row rfl 98 (.tmp 11) (.tmp 30) rfl w5.heap.size v6.toArray rfl rfl t6 _ H6 (by rw [List.size_toArray, L6.out]; exact infoP16) (by rw [List.size_toArray, List.size_toArray, L6.out]; rfl) O6 ?_)
    generalize (w5.alloc (.cells #[.int .u8 0, .int .u8 0, .int .u8 0, .int .u8 0, .int .u8 0, .int .u8 0, .int .u8 0, .int .u8 0, .int .u8 0, .int .u8 0, .int .u8 0, .int .u8 0, .int .u8 0, .int .u8 0, .int .u8 0, .int .u8 0] 98)).setRow w5.heap.size v6.toArray = w6 at *
    obtain ⟨v7, w7, hap, o7, n7⟩ := append_any (P := Tryz.prog) w6 22 i0 Tryz.underlying22 hi hz0 hz1 hz2 w.heap.size w.heap.size _ T R6 w5.heap.size (some ⟨w5.heap.size, 0, none⟩) 16 sm SR6.own0.rd (by simp) (by have := HTL.out; have := SL.out; omega) (Nat.le_refl _) N6.size
    rw [SL.out] at hap
    have N7 := N6.trans n7
    clear n6 OR6 H6 O6 L6 N5 R5 R6 SR6 z6
    go_wp2_with (at_builtin; refine Lib.wpList_append_run _ rfl _ _ 22 22 rfl _ _ rfl rfl _ _ hap ?_)
    go_ret
    exact ⟨⟨_, rfl, o7⟩, N7⟩
  · have h1' : (decide (key.length = 32) && decide (non.length = 12)) = false := by simpa using h1
    rw [h1'] at IK
    have RS : Hid (seA key non ex data = []) := by show _ = _; unfold seA fitK; rw [if_neg h1]
    rw [RS.out]
    clear h1 h1' RS
    go_enter Tryz.func45, Tryz.ntmps45
    go_wp2_with fail
    refine IK.mono ?_
    rintro e w1 ⟨rfl, h⟩
    have h := h.symm
    subst h
    go_wp2
    go_ret
    exact ⟨⟨_, rfl, ⟨rfl, .inl ⟨rfl, rfl⟩⟩⟩, Below.refl _ _⟩
end Go.Proofs.YtjfggcefdobooaaGreatDoor
namespace Go.Proofs.YtjfggcefdobooaaGreatDoor
set_option maxRecDepth 100000
open Go Go.RowKit
def erV (a : Addr) : Value := .iface 175 (.pointer (some a))
structure Sen (W : World) (g : Nat) (a : Addr) : Prop where
  c : W.cell? ⟨g, 0, none⟩ = some (erV a)
  b : ∃ cs t, W.heap[a.block]? = some (.cells cs t (0, 0))
theorem Sen.up {w w' : World} {g : Nat} {a : Addr} (h : Sen w g a) (n : Below w.heap.size w w') : Sen w' g a := by
  refine ⟨(World.cell?_of_block (a := ⟨g, 0, none⟩) (n.block g (block_lt_of_cell h.c))).trans h.c, ?_⟩
  obtain ⟨cs, t, hb⟩ := h.b
  exact ⟨cs, t, (n.block a.block (Array.getElem?_eq_some_iff.1 hb).1).trans hb⟩
theorem laidVars_sub {P : Program} {W : World} {l l' : List (String × DataW Unit)} (hs : l'.Sublist l) : ∀ ps, DataW.LaidVars P W l ps → ∃ ps', DataW.LaidVars P W l' ps' ∧ ps'.Sublist ps := by
  induction hs with
  | slnil => exact fun ps h => ⟨ps, h, List.Sublist.refl _⟩
  | cons x _ ih =>
    rintro ps ⟨g, t, cs, fuel, p, q, _, _, _, _, hq, rfl⟩
    obtain ⟨q', h1, h2⟩ := ih q hq
    exact ⟨q', h1, h2.trans (List.sublist_append_right _ _)⟩
  | cons_cons x _ ih =>
    rintro ps ⟨g, t, cs, fuel, p, q, a1, a2, a3, a4, hq, rfl⟩
    obtain ⟨q', h1, h2⟩ := ih q hq
    exact ⟨_, ⟨g, t, cs, fuel, p, q', a1, a2, a3, a4, h1, rfl⟩, (List.Sublist.refl _).append h2⟩
theorem laidMet_sub {P : Program} {W : World} {l l' : List (String × DataW Unit)} (h : laidMet P l W) (hs : l'.Sublist l) : laidMet P l' W := by
  obtain ⟨ps, hv, hnd, hrows⟩ := h
  obtain ⟨ps', h1, h2⟩ := laidVars_sub hs ps hv
  exact ⟨ps', h1, hnd.sublist h2, fun b off hm => hrows b off (h2.subset hm)⟩
def erD (text : List UInt8) : DataW Unit := .iface "*errors.errorString" (.ptr (.agg [.lit (.string text)]))
theorem erStar : "*" ++ "errors.errorString" = "*errors.errorString" := by decide
theorem erRow (u : TypeId) (h : Tryz.prog.typeName? 3 u = some "*errors.errorString") : u = 175 :=
  typeName_ptr_named (nm := "errors.errorString") (by rw [erStar]; kernel_rfl) (by kernel_rfl) (by decide) u (by rw [erStar]; exact h)
theorem erCs : Tryz.prog.cellsOf 200 = 1 := by kernel_rfl
theorem erCt : Tryz.prog.cellsOf 9 = 1 := by kernel_rfl
theorem sen_of_var {W : World} {n : String} {g : Nat} {a : Addr} (hg : Tryz.prog.globalNamed n = some g) (hv : W.var? Tryz.prog n = some #[.iface 175 (.pointer (some a))]) (hb : ∃ cs t, W.heap[a.block]? = some (.cells cs t (0, 0))) : Sen W g a :=
  ⟨by have := World.var?_cell hg hv 0; simpa [erV] using this, hb⟩
theorem sen_pair {W : World} {l : List (String × DataW Unit)} (h : laidMetH Tryz.prog l W) (hp : (l.all fun x => x.2.handleName?.isNone) = true) {n0 n1 : String} {x0 x1 : List UInt8} {g0 g1 : Nat} (hs : [(n0, erD x0), (n1, erD x1)].Sublist l)
    (hg0 : Tryz.prog.globalNamed n0 = some g0) (ht0 : (Tryz.prog.globals[g0]?).map (·.type) = some 51) (hg1 : Tryz.prog.globalNamed n1 = some g1) (ht1 : (Tryz.prog.globals[g1]?).map (·.type) = some 51) :
    ∃ a0 a1, Sen W g0 a0 ∧ Sen W g1 a1 ∧ a0 ≠ a1 := by
  rw [MakeChecks.laidMetH_plain _ _ _ hp] at h
  obtain ⟨a0, a1, s0, s1, c0, c1, t0, t1, hv0, hv1, -, -, -, -, -, -, hne, hb0, hb1⟩ := laid_sentinels2 (laidMet_sub h hs) hg0 ht0 hg1 ht1 Tryz.underlying51 erRow Tryz.underlying175 Tryz.underlying200 rfl rfl Tryz.underlying9 erCs erCt
  exact ⟨a0, a1, sen_of_var hg0 hv0 ⟨_, _, hb0⟩, sen_of_var hg1 hv1 ⟨_, _, hb1⟩, hne⟩
theorem Sen.same {W : World} {g : Nat} {a a' : Addr} (h : Sen W g a) (h' : Sen W g a') : a = a' := by
  have := h.c.symm.trans h'.c
  simpa [erV] using this
theorem er_neq (a : Addr) (W : World) : (binOp BinOp.neq 51 (.iface 175 (.pointer (some a))) .nilIface).run Tryz.prog W = .ok (.bool true) W := by kernel_rfl
theorem er_eq (a : Addr) (W : World) : (binOp BinOp.eql 51 (.iface 175 (.pointer (some a))) .nilIface).run Tryz.prog W = .ok (.bool false) W := by kernel_rfl
theorem nil_neq (W : World) : (binOp BinOp.neq 51 .nilIface .nilIface).run Tryz.prog W = .ok (.bool false) W := by kernel_rfl
theorem nil_eq (W : World) : (binOp BinOp.eql 51 .nilIface .nilIface).run Tryz.prog W = .ok (.bool true) W := by kernel_rfl
end Go.Proofs.YtjfggcefdobooaaGreatDoor
namespace Go.Proofs.YtjfggcefdobooaaGreatDoor
set_option maxRecDepth 100000
open Go.RowKit
def bigL (v : Int) (t : Nat) : List Int := (List.range t).map fun j => v / 256 ^ (t - 1 - j) % 256
theorem bigL_len (v : Int) (t : Nat) : (bigL v t).length = t := by simp [bigL]
theorem bigL_get (v : Int) (t j : Nat) (h : j < t) : (bigL v t).getD j 0 = v / 256 ^ (t - 1 - j) % 256 := by simp [bigL, h]
theorem bigL_byt (v : Int) (t : Nat) : Byt (bigL v t) := by
  intro j
  by_cases h : j < t
  · rw [bigL_get v t j h]
    omega
  · have : (bigL v t).getD j 0 = 0 := by
      rw [List.getD_eq_getElem?_getD, List.getElem?_eq_none (by rw [bigL_len]; omega)]
      rfl
    rw [this]
    omega
def BigTo (v : Int) (t : Nat) (ys : List Int) (k : Nat) : Prop := ys.length = t ∧ ∀ j, t - k ≤ j → j < t → ys.getD j 0 = v / 256 ^ (t - 1 - j) % 256
theorem BigTo.zero (v : Int) (t : Nat) : BigTo v t (List.replicate t 0) 0 := ⟨by simp, fun j h h' => absurd h (by omega)⟩
theorem BigTo.step {v : Int} {t : Nat} {ys : List Int} {k : Nat} (h : BigTo v t ys k) (hk : k < t) : BigTo v t (ys.set (t - 1 - k) (v / 256 ^ k % 256)) (k + 1) := by
  refine ⟨by simpa using h.1, fun j hj hj' => ?_⟩
  by_cases e : t - 1 - k = j
  · subst e
    rw [getD_set_self _ _ _ (by rw [h.1]; omega), show t - 1 - (t - 1 - k) = k by omega]
  · rw [getD_set_ne _ _ _ _ e]
    exact h.2 j (by omega) hj'
theorem BigTo.all {v : Int} {t : Nat} {ys : List Int} (h : BigTo v t ys t) : ys = bigL v t :=
  eq_of_getD (by rw [h.1, bigL_len]) (fun i hi => by rw [h.1] at hi; rw [h.2 i (by omega) hi, bigL_get v t i hi])
theorem div256 (v : Int) (k : Nat) : v / 256 ^ k / 256 = v / 256 ^ (k + 1) := by
  have h0 := p256_pos k
  rw [Int.ediv_ediv_of_nonneg (by omega), ← Int.pow_succ]
theorem getD_apd_right (xs ys : List Int) (i : Nat) (h : xs.length ≤ i) : (xs ++ ys).getD i 0 = ys.getD (i - xs.length) 0 := by
  rw [List.getD_eq_getElem?_getD, List.getElem?_append_right h, ← List.getD_eq_getElem?_getD]
def padZ (n : Int) (B t : Nat) : Nat := (((B : Int) - (n + 1 + (t : Int)) % (B : Int)) % (B : Int)).toNat
def padL (n : Int) (B t : Nat) : List Int := 128 :: (List.replicate (padZ n B t) 0 ++ bigL (8 * n) t)
theorem padL_len (n : Int) (B t : Nat) : (padL n B t).length = 1 + padZ n B t + t := by
  unfold padL
  simp [bigL_len]
  omega
theorem byt_apd {xs ys : List Int} (h : Byt xs) (k : Byt ys) : Byt (xs ++ ys) := by
  intro j
  rw [List.getD_eq_getElem?_getD]
  by_cases c : j < xs.length
  · rw [List.getElem?_append_left c, ← List.getD_eq_getElem?_getD]
    exact h j
  · rw [List.getElem?_append_right (by omega), ← List.getD_eq_getElem?_getD]
    exact k _
theorem byt_rep0 (n : Nat) : Byt (List.replicate n 0) := by
  intro j
  rw [List.getD_eq_getElem?_getD, List.getElem?_replicate]
  split <;> simp
def padS (n : Int) (B t : Nat) : Nat := 1 + padZ n B t + t
def PadTo (n : Int) (s : Nat) (ys : List Int) (k : Nat) : Prop :=
  ys.length = s ∧ ys.getD 0 0 = 128 ∧ (∀ j, 0 < j → j < s - k → ys.getD j 0 = 0) ∧ ∀ j, s - k ≤ j → j < s → ys.getD j 0 = 8 * n / 256 ^ (s - 1 - j) % 256
theorem PadTo.zero (n : Int) (s : Nat) (h : 0 < s) : PadTo n s ((List.replicate s 0).set 0 128) 0 := by
  refine ⟨by simp, ?_, fun j h0 hj => ?_, fun j hj hj' => absurd hj (by omega)⟩
  · rw [getD_set_self _ _ _ (by simpa using h)]
  · rw [getD_set_ne _ _ _ _ (by omega)]
    rw [List.getD_eq_getElem?_getD, List.getElem?_replicate]
    split <;> rfl
theorem PadTo.step {n : Int} {s : Nat} {ys : List Int} {k : Nat} (h : PadTo n s ys k) (hk : k + 1 < s) : PadTo n s (ys.set (s - 1 - k) (8 * n / 256 ^ k % 256)) (k + 1) := by
  obtain ⟨h1, h2, h3, h4⟩ := h
  refine ⟨by simpa using h1, ?_, fun j h0 hj => ?_, fun j hj hj' => ?_⟩
  · rw [getD_set_ne _ _ _ _ (by omega)]
    exact h2
  · rw [getD_set_ne _ _ _ _ (by omega)]
    exact h3 j h0 (by omega)
  · by_cases e : s - 1 - k = j
    · subst e
      rw [getD_set_self _ _ _ (by rw [h1]; omega), show s - 1 - (s - 1 - k) = k by omega]
    · rw [getD_set_ne _ _ _ _ e]
      exact h4 j (by omega) hj'
theorem PadTo.all {n : Int} {B t : Nat} {ys : List Int} (h0 : 0 ≤ n) (h1 : n ≤ 1099511627776) (ht : t = 8 ∨ t = 16) (h : PadTo n (padS n B t) ys 8) : ys = padL n B t := by
  obtain ⟨a1, a2, a3, a4⟩ := h
  refine eq_of_getD (by rw [a1, padL_len]; rfl) (fun i hi => ?_)
  rw [a1] at hi
  have hs : padS n B t = 1 + padZ n B t + t := rfl
  unfold padL
  cases i with
  | zero => rw [a2]; rfl
  | succ i =>
    rw [List.getD_cons_succ]
    by_cases c : i < padZ n B t
    · rw [a3 _ (by omega) (by omega), List.getD_eq_getElem?_getD, List.getElem?_append_left (by simpa using c), List.getElem?_replicate, if_pos c]
      rfl
    · rw [getD_apd_right (List.replicate (padZ n B t) 0) _ i (by simpa using c), List.length_replicate, bigL_get _ _ _ (by omega)]
      by_cases d : padS n B t - 8 ≤ i + 1
      · rw [a4 _ d hi, show padS n B t - 1 - (i + 1) = t - 1 - (i - padZ n B t) by omega]
      · rw [a3 _ (by omega) (by omega)]
        obtain ⟨e, he⟩ : ∃ e, t - 1 - (i - padZ n B t) = 8 + e := ⟨t - 1 - (i - padZ n B t) - 8, by omega⟩
        rw [he, Int.pow_add]
        have hp := p256_pos e
        have hz : 8 * n / ((256 : Int) ^ 8 * 256 ^ e) = 0 := by
          refine Int.ediv_eq_zero_of_lt (by omega) ?_
          have : (256 : Int) ^ 8 * 1 ≤ 256 ^ 8 * 256 ^ e := Int.mul_le_mul_of_nonneg_left (by omega) (by decide)
          have : (256 : Int) ^ 8 = 18446744073709551616 := by decide
          omega
        rw [hz]
        rfl
end Go.Proofs.YtjfggcefdobooaaGreatDoor
namespace Go.Proofs.YtjfggcefdobooaaGreatDoor
set_option maxRecDepth 100000
open Go Go.RowKit
theorem bigL_takeN (n : Int) (t k : Nat) (h : k < t) : (bigL n t).take (k + 1) = (bigL n t).take k ++ [n / 256 ^ (t - 1 - k) % 256] := by
  rw [List.take_add_one]
  simp [bigL, h]
theorem RowB.nilN (w : World) (base : Nat) : RowB w base (.slice none 0 0) [] := ⟨rfl, .inl ⟨rfl, rfl⟩⟩
set_option maxHeartbeats 4000000 in
theorem appendNum_any (w : World) (base : Nat) (v : Value) (xs : List Int) (R0 : RowB w base v xs) (hb : base ≤ w.heap.size) (n : Int) (t : Nat) (ht : t ≤ 8) (hl : xs.length ≤ 1073741824) :
    Calls Tryz.prog 42 #[v, .int .i64 n, .int .i64 (t : Int)] w fun e w' => ∃ v', e = .returned v' ∧ RowB w' base v' (xs ++ bigL n t) ∧ Below base w w' := by
  obtain ⟨i0, hi, hz0, hz1, hz2⟩ := info_parts Tryz.info5
  go_enter Tryz.func42, Tryz.ntmps42
  go_wp2
  go_loopw [0, 7, 9] (fun l _ i wr => ∃ k : Nat, k ≤ t ∧ i = .int .i64 k ∧ RowB wr base l (xs ++ (bigL n t).take k) ∧ Below base w wr) (fun _ _ i _ => t - (intOf i).toNat)
  case atStart => exact ⟨0, Nat.zero_le _, rfl, by simpa using R0, Below.refl _ _⟩
  case round =>
    obtain ⟨k, hk, rfl, R, hN⟩ := hrel
    by_cases hlt : k < t
    · have hs := hN.size
      have bt := bigL_takeN n t k hlt
      obtain ⟨x, hx⟩ : ∃ x, x = n / 256 ^ (t - 1 - k) % 256 := ⟨_, rfl⟩
      rw [← hx] at bt
      have BT := hide bt
      clear bt
      have n2 : Below wr.heap.size wr (wr.alloc (.cells #[.int .u8 x] 5)) := (Below.refl _ _).alloc (Nat.le_refl _) _
      obtain ⟨v3, w3, hap3, R3, n3⟩ := append_any (P := Tryz.prog) (wr.alloc (.cells #[.int .u8 x] 5)) 22 i0 Tryz.underlying22 hi hz0 hz1 hz2 base base _ _ (R.up n2) _ _ 1 [x] (blk_lit1 wr .u8 5 x).own0.rd (by simp) (by simp; omega) (Nat.le_refl _) (by simp; omega)
      rw [List.append_assoc, ← BT.out] at R3
      have N3 := (hN.trans (n2.mono (by omega))).trans n3
      clear R n2 n3 hN BT
      have k1 : (k : Int) < (t : Int) := by omega
      obtain ⟨d, hd⟩ : ∃ d, d = t - 1 - k := ⟨_, rfl⟩
      rw [← hd] at hx
      rcases (by omega : d = 0 ∨ d = 1 ∨ d = 2 ∨ d = 3 ∨ d = 4 ∨ d = 5 ∨ d = 6 ∨ d = 7) with rfl | rfl | rfl | rfl | rfl | rfl | rfl | rfl
      · have he : (t : Int) - 1 - (k : Int) = 0 := by omega
        clear hd
        simp at hx
        replace hx := hx.symm
        go_wp2_with (at_builtin; refine Lib.wpList_append_run _ rfl _ _ 22 22 rfl _ _ rfl rfl _ _ hap3 ?_)
        clear hap3
        go_roundw
        case rel => exact ⟨k + 1, by omega, by go_num, R3, N3⟩
        case measure => simp [intOf]; omega
      · have he : (t : Int) - 1 - (k : Int) = 1 := by omega
        clear hd
        simp at hx
        replace hx := hx.symm
        go_wp2_with (at_builtin; refine Lib.wpList_append_run _ rfl _ _ 22 22 rfl _ _ rfl rfl _ _ hap3 ?_)
        clear hap3
        go_roundw
        case rel => exact ⟨k + 1, by omega, by go_num, R3, N3⟩
        case measure => simp [intOf]; omega
      · have he : (t : Int) - 1 - (k : Int) = 2 := by omega
        clear hd
        simp at hx
        replace hx := hx.symm
        go_wp2_with (at_builtin; refine Lib.wpList_append_run _ rfl _ _ 22 22 rfl _ _ rfl rfl _ _ hap3 ?_)
        clear hap3
        go_roundw
        case rel => exact ⟨k + 1, by omega, by go_num, R3, N3⟩
        case measure => simp [intOf]; omega
      · have he : (t : Int) - 1 - (k : Int) = 3 := by omega
        clear hd
        simp at hx
        replace hx := hx.symm
        go_wp2_with (at_builtin; refine Lib.wpList_append_run _ rfl _ _ 22 22 rfl _ _ rfl rfl _ _ hap3 ?_)
        clear hap3
        go_roundw
        case rel => exact ⟨k + 1, by omega, by go_num, R3, N3⟩
        case measure => simp [intOf]; omega
      · have he : (t : Int) - 1 - (k : Int) = 4 := by omega
        clear hd
        simp at hx
        replace hx := hx.symm
        go_wp2_with (at_builtin; refine Lib.wpList_append_run _ rfl _ _ 22 22 rfl _ _ rfl rfl _ _ hap3 ?_)
        clear hap3
        go_roundw
        case rel => exact ⟨k + 1, by omega, by go_num, R3, N3⟩
        case measure => simp [intOf]; omega
      · have he : (t : Int) - 1 - (k : Int) = 5 := by omega
        clear hd
        simp at hx
        replace hx := hx.symm
        go_wp2_with (at_builtin; refine Lib.wpList_append_run _ rfl _ _ 22 22 rfl _ _ rfl rfl _ _ hap3 ?_)
        clear hap3
        go_roundw
        case rel => exact ⟨k + 1, by omega, by go_num, R3, N3⟩
        case measure => simp [intOf]; omega
      · have he : (t : Int) - 1 - (k : Int) = 6 := by omega
        clear hd
        simp at hx
        replace hx := hx.symm
        go_wp2_with (at_builtin; refine Lib.wpList_append_run _ rfl _ _ 22 22 rfl _ _ rfl rfl _ _ hap3 ?_)
        clear hap3
        go_roundw
        case rel => exact ⟨k + 1, by omega, by go_num, R3, N3⟩
        case measure => simp [intOf]; omega
      · have he : (t : Int) - 1 - (k : Int) = 7 := by omega
        clear hd
        simp at hx
        replace hx := hx.symm
        go_wp2_with (at_builtin; refine Lib.wpList_append_run _ rfl _ _ 22 22 rfl _ _ rfl rfl _ _ hap3 ?_)
        clear hap3
        go_roundw
        case rel => exact ⟨k + 1, by omega, by go_num, R3, N3⟩
        case measure => simp [intOf]; omega
    · obtain rfl : k = t := by omega
      rw [List.take_of_length_le (by rw [bigL_len]; exact Nat.le_refl _)] at R
      go_wp2
      go_ret
      exact ⟨_, rfl, R, hN⟩
set_option maxRecDepth 100000 in
set_option maxHeartbeats 1000000 in
theorem cloneR_any (w : World) (g : Nat) (a : Option Addr) (c : Nat) (xs : List Int) (h : Rd w g a .u8 xs) (hz : a = none → c = 0) (m : xs.length ≤ 1099511627776) : Calls Tryz.prog 33 #[.slice a xs.length c] w fun e w' => ∃ v', e = .returned v' ∧ RowB w' w.heap.size v' xs ∧ Below w.heap.size w w' := by
  obtain ⟨i0, hi, hz0, hz1, hz2⟩ := info_parts Tryz.info5
  cases a with
  | none =>
    obtain rfl : xs = [] := by
      by_cases h0 : 0 < xs.length
      · obtain ⟨off, e, _⟩ := h h0
        simp at e
      · exact List.eq_nil_of_length_eq_zero (by omega)
    obtain rfl := hz rfl
    have b0 : ∀ W, (binOp BinOp.eql 22 (.slice none 0 0) (.slice none 0 0)).run Tryz.prog W = .ok (.bool true) W := fun W => by kernel_rfl
    go_enter Tryz.func33, Tryz.ntmps33
    go_wp2
    go_ret
    exact ⟨_, rfl, RowB.nilN _ _, Below.refl _ _⟩
  | some ad =>
    have n0 : Below w.heap.size w (w.alloc (.cells #[] 5)) := (Below.refl _ _).alloc (Nat.le_refl _) _
    have r := h.up n0
    obtain ⟨v1, w1, hap, R1, n1⟩ := append_any (P := Tryz.prog) (w.alloc (.cells #[] 5)) 22 i0 Tryz.underlying22 hi hz0 hz1 hz2 w.heap.size w.heap.size _ _ (RowB.lit0 w) g (some ad) c xs r (by simp) (by simp; omega) (Nat.le_refl _) n0.size
    have N1 := n0.trans n1
    rw [List.nil_append] at R1
    have b0 : ∀ W, (binOp BinOp.eql 22 (.slice (some ad) xs.length c) (.slice none 0 0)).run Tryz.prog W = .ok (.bool false) W := fun W => by kernel_rfl
    clear n0 n1 r m h
    go_enter Tryz.func33, Tryz.ntmps33
    go_wp2_with (at_builtin; refine Lib.wpList_append_run _ rfl _ _ 22 22 rfl _ _ rfl rfl _ _ hap ?_)
    go_ret
    exact ⟨_, rfl, R1, N1⟩
end Go.Proofs.YtjfggcefdobooaaGreatDoor
namespace Go.Proofs.YtjfggcefdobooaaGreatDoor
set_option maxRecDepth 100000
open Go Go.RowKit
def isK (k : Int) : Bool := k == 21 || k == 22 || k == 23
theorem isKind_any (w : World) (k : Int) : Calls Tryz.prog 40 #[.int .i64 k] w fun e w' => e = .returned (.bool (isK k)) ∧ w' = w := by
  by_cases h0 : k = 21
  · subst h0
    go_enter Tryz.func40, Tryz.ntmps40
    go_wp2
    go_ret
    exact ⟨rfl, rfl⟩
  by_cases h1 : k = 22
  · subst h1
    go_enter Tryz.func40, Tryz.ntmps40
    go_wp2
    go_ret
    exact ⟨rfl, rfl⟩
  by_cases h2 : k = 23
  · subst h2
    go_enter Tryz.func40, Tryz.ntmps40
    go_wp2
    go_ret
    exact ⟨rfl, rfl⟩
  have e : isK k = false := by simp [isK, h0, h1, h2]
  have q0 : (k == 21) = false := by simp [h0]
  have q1 : (k == 22) = false := by simp [h1]
  have q2 : (k == 23) = false := by simp [h2]
  have q3 : Hid ((k == 21 || k == 22 || k == 23) = false) := by show _ = _; rw [q0, q1, q2]; rfl
  rw [e]
  go_enter Tryz.func40, Tryz.ntmps40
  go_wp2
  go_ret
  exact ⟨by first | rfl | (rw [show false = (k == 21 || k == 22 || k == 23) from q3.out.symm]; rfl), rfl⟩
def hfV (a1 a2 : Addr) (k n : Int) : Value := if isK k = true then (if 1 ≤ n ∧ n ≤ 2321 then .nilIface else erV a2) else erV a1
set_option maxHeartbeats 1000000 in
theorem fault_any (w : World) (k n : Int) (a1 a2 : Addr) (h1 : Sen w 1 a1) (h2 : Sen w 5 a2) :
    Calls Tryz.prog 29 #[.agg #[.int .i64 k, .int .i64 n]] w fun e w' => e = .returned (hfV a1 a2 k n) ∧ Below w.heap.size w w' := by
  have n0 : Below w.heap.size w (w.alloc (.cells #[.int .i64 k, .int .i64 n] 55)) := (Below.refl _ _).alloc (Nat.le_refl _) _
  have c1 := (h1.up n0).c
  have c2 := (h2.up n0).c
  have KD := fun W => hide (isKind_any W k)
  obtain ⟨v, hv⟩ : ∃ v, v = hfV a1 a2 k n := ⟨_, rfl⟩
  rw [← hv]
  unfold erV at c1 c2
  by_cases hk : isK k = true
  · by_cases hlo : n < 1
    · have e : Hid (v = .iface 175 (.pointer (some a2))) := by show _ = _; rw [hv, hfV, if_pos hk, if_neg (by omega)]; rfl
      have q1 : decide (n < 1) = true := by simpa using hlo
      rw [hk] at KD
      clear hv h1 h2 hk
      go_enter Tryz.func29, Tryz.ntmps29
      go_wp2_with fail
      refine (KD _).out.mono ?_
      rintro e w' ⟨rfl, rfl⟩
      go_wp2
      go_ret
      exact ⟨by rw [e.out]; rfl, n0⟩
    · by_cases hhi : 2321 < n
      · have e : Hid (v = .iface 175 (.pointer (some a2))) := by show _ = _; rw [hv, hfV, if_pos hk, if_neg (by omega)]; rfl
        have q1 : decide (n < 1) = false := by simpa using hlo
        have q2 : decide (2321 < n) = true := by simpa using hhi
        rw [hk] at KD
        clear hv h1 h2 hk
        go_enter Tryz.func29, Tryz.ntmps29
        go_wp2_with fail
        refine (KD _).out.mono ?_
        rintro e w' ⟨rfl, rfl⟩
        go_wp2
        go_ret
        exact ⟨by rw [e.out]; rfl, n0⟩
      · have e : Hid (v = .nilIface) := by show _ = _; rw [hv, hfV, if_pos hk, if_pos (by omega)]
        have q1 : decide (n < 1) = false := by simpa using hlo
        have q2 : decide (2321 < n) = false := by simpa using hhi
        rw [hk] at KD
        clear hv h1 h2 hk
        go_enter Tryz.func29, Tryz.ntmps29
        go_wp2_with fail
        refine (KD _).out.mono ?_
        rintro e w' ⟨rfl, rfl⟩
        go_wp2
        go_ret
        exact ⟨by rw [e.out]; rfl, n0⟩
  · have e : Hid (v = .iface 175 (.pointer (some a1))) := by show _ = _; rw [hv, hfV, if_neg hk]; rfl
    have hk' : isK k = false := by simpa using hk
    rw [hk'] at KD
    clear hv h1 h2 hk hk'
    go_enter Tryz.func29, Tryz.ntmps29
    go_wp2_with fail
    refine (KD _).out.mono ?_
    rintro e w' ⟨rfl, rfl⟩
    go_wp2
    go_ret
    exact ⟨by rw [e.out]; rfl, n0⟩
def hdL (k n : Int) : List Int := bigL k 1 ++ bigL n 2
theorem hdL_len (k n : Int) : (hdL k n).length = 3 := by rw [hdL, List.length_append, bigL_len, bigL_len]
set_option maxHeartbeats 1000000 in
theorem headBytes_any (w : World) (k n : Int) :
    Calls Tryz.prog 30 #[.agg #[.int .i64 k, .int .i64 n]] w fun e w' => ∃ v, e = .returned v ∧ RowB w' w.heap.size v (hdL k n) ∧ Below w.heap.size w w' := by
  have n0 : Below w.heap.size w (w.alloc (.cells #[.int .i64 k, .int .i64 n] 55)) := (Below.refl _ _).alloc (Nat.le_refl _) _
  have k0 : (w.alloc (.cells #[.int .i64 k, .int .i64 n] 55)).cell? ⟨w.heap.size, 0, none⟩ = some (.int .i64 k) := by simp [World.cell?_alloc_at]
  have k1 : (w.alloc (.cells #[.int .i64 k, .int .i64 n] 55)).cell? ⟨w.heap.size, 1, none⟩ = some (.int .i64 n) := by simp [World.cell?_alloc_at]
  go_enter Tryz.func30, Tryz.ntmps30
  go_upto_region 1 with fail
  generalize w.alloc (.cells #[.int .i64 k, .int .i64 n] 55) = wb at *
  have CY : Hid (∀ W, Below wb.heap.size wb W → W.cell? ⟨w.heap.size, 0, none⟩ = some (.int .i64 k) ∧ W.cell? ⟨w.heap.size, 1, none⟩ = some (.int .i64 n)) := fun W m =>
    ⟨(World.cell?_of_block (a := ⟨w.heap.size, 0, none⟩) (m.block _ (block_lt_of_cell k0))).trans k0, (World.cell?_of_block (a := ⟨w.heap.size, 1, none⟩) (m.block _ (block_lt_of_cell k1))).trans k1⟩
  have A1 : Hid (∀ W, Below wb.heap.size wb W → Calls Tryz.prog 42 #[.slice none 0 0, .int .i64 k, .int .i64 1] W fun e w' => ∃ v', e = .returned v' ∧ RowB w' wb.heap.size v' (bigL k 1) ∧ Below wb.heap.size wb w') := fun W m => (appendNum_any W wb.heap.size _ _ (RowB.nilN W _) m.size k 1 (by decide) (by simp)).mono (by
    rintro e w' ⟨v, rfl, R, l⟩
    exact ⟨v, rfl, by simpa using R, m.trans l⟩)
  have A2 : Hid (∀ W v, Below wb.heap.size wb W → RowB W wb.heap.size v (bigL k 1) → Calls Tryz.prog 42 #[v, .int .i64 n, .int .i64 2] W fun e w' => ∃ v', e = .returned v' ∧ RowB w' wb.heap.size v' (hdL k n) ∧ Below wb.heap.size wb w') := fun W v m R => (appendNum_any W wb.heap.size _ _ R m.size n 2 (by decide) (by rw [bigL_len]; decide)).mono (by
    rintro e w' ⟨v, rfl, R, l⟩
    exact ⟨v, rfl, R, m.trans l⟩)
  have nd : Below wb.heap.size wb wb.drew := (Below.refl _ _).drew
  clear k0 k1
  go_region_held3 (fun W => W.cell? ⟨w.heap.size, 0, none⟩ = some (.int .i64 k) ∧ W.cell? ⟨w.heap.size, 1, none⟩ = some (.int .i64 n))
    (first | exact (unhide CY) _ b8 | exact (unhide CY) _ b5 | exact (unhide CY) _ nd)
    (first
      | (go_at_call 42; refine ((unhide A2) _ _ b5 R5).mono ?_; rintro r w8 ⟨v8, rfl, R8, b8⟩)
      | (go_at_call 42; refine ((unhide A1) _ nd).mono ?_; rintro r w5 ⟨v5, rfl, R5, b5⟩)
      | fail)
  all_goals
    go_wp2
    go_ret
    exact ⟨_, rfl, R8.base n0.size, nxt n0 b8⟩
def enA (k : Int) (xs : List Int) : List Int := if isK k = true ∧ 1 ≤ xs.length ∧ xs.length ≤ 2321 then hdL k (xs.length : Int) ++ xs else []
end Go.Proofs.YtjfggcefdobooaaGreatDoor
namespace Go.Proofs.YtjfggcefdobooaaGreatDoor
set_option maxRecDepth 100000
open Go.RowKit
end Go.Proofs.YtjfggcefdobooaaGreatDoor
namespace Go.Proofs.YtjfggcefdobooaaGreatDoor
set_option maxRecDepth 100000
open Go Go.RowKit
def Cur (w : World) (p : Nat) (l : Value) (i : Int) : Prop := ∃ t, w.heap[p]? = some (.cells #[l, .int .i64 i] t (0, 0))
theorem Cur.c0 {w : World} {p : Nat} {l : Value} {i : Int} (h : Cur w p l i) : w.cell? ⟨p, 0, none⟩ = some l := by
  obtain ⟨t, h⟩ := h
  simp [World.cell?, h]
theorem Cur.c1 {w : World} {p : Nat} {l : Value} {i : Int} (h : Cur w p l i) : w.cell? ⟨p, 1, none⟩ = some (.int .i64 i) := by
  obtain ⟨t, h⟩ := h
  simp [World.cell?, h]
theorem Cur.f1 {w : World} {p : Nat} {l : Value} {i : Int} (h : Cur w p l i) : w.frozen? ⟨p, 1, none⟩ = false := by
  obtain ⟨t, h⟩ := h
  simp [World.frozen?, h]
theorem Cur.lt {w : World} {p : Nat} {l : Value} {i : Int} (h : Cur w p l i) : p < w.heap.size := by
  obtain ⟨t, h⟩ := h
  exact (Array.getElem?_eq_some_iff.1 h).1
theorem Cur.of_block {w w' : World} {p : Nat} {l : Value} {i : Int} (h : Cur w p l i) (hb : w'.heap[p]? = w.heap[p]?) : Cur w' p l i := by
  obtain ⟨t, h⟩ := h
  exact ⟨t, hb.trans h⟩
theorem Cur.up {w w' : World} {p : Nat} {l : Value} {i : Int} (h : Cur w p l i) (n : Below w.heap.size w w') : Cur w' p l i := h.of_block (n.block p h.lt)
theorem Cur.drew {w : World} {p : Nat} {l : Value} {i : Int} (h : Cur w p l i) (n : Nat) : Cur (w.drewN n) p l i := h
theorem Cur.store {w : World} {p : Nat} {l : Value} {i : Int} (h : Cur w p l i) (j : Int) : Cur (w.setCell ⟨p, 1, none⟩ (.int .i64 j)) p l j := by
  obtain ⟨t, h⟩ := h
  refine ⟨t, ?_⟩
  show (w.heap.modify p _)[p]? = _
  rw [Array.getElem?_modify, if_pos rfl, h]
  rfl
def Tl (w : World) (p : Nat) (x y : Value) : Prop := ∃ t, w.heap[p]? = some (.cells #[x, y] t (0, 0))
theorem Tl.c0 {w : World} {p : Nat} {x y : Value} (h : Tl w p x y) : w.cell? ⟨p, 0, none⟩ = some x := by
  obtain ⟨t, h⟩ := h
  simp [World.cell?, h]
theorem Tl.c1 {w : World} {p : Nat} {x y : Value} (h : Tl w p x y) : w.cell? ⟨p, 1, none⟩ = some y := by
  obtain ⟨t, h⟩ := h
  simp [World.cell?, h]
theorem Tl.fr {w : World} {p : Nat} {x y : Value} (h : Tl w p x y) (i : Nat) : w.frozen? ⟨p, i, none⟩ = false := by
  obtain ⟨t, h⟩ := h
  simp [World.frozen?, h]
theorem Tl.lt {w : World} {p : Nat} {x y : Value} (h : Tl w p x y) : p < w.heap.size := by
  obtain ⟨t, h⟩ := h
  exact (Array.getElem?_eq_some_iff.1 h).1
theorem Tl.of_block {w w' : World} {p : Nat} {x y : Value} (h : Tl w p x y) (hb : w'.heap[p]? = w.heap[p]?) : Tl w' p x y := by
  obtain ⟨t, h⟩ := h
  exact ⟨t, hb.trans h⟩
theorem Tl.up {w w' : World} {p : Nat} {x y : Value} (h : Tl w p x y) (n : Below w.heap.size w w') : Tl w' p x y := h.of_block (n.block p h.lt)
theorem Tl.only {w w' : World} {p q : Nat} {x y : Value} (h : Tl w p x y) (n : Only q w w') (hne : p ≠ q) : Tl w' p x y := h.of_block (n.block p hne)
theorem Tl.new (w : World) (x y : Value) (t : TypeId) : Tl (w.alloc (.cells #[x, y] t)) w.heap.size x y := by
  refine ⟨t, ?_⟩
  show (w.heap.push _)[w.heap.size]? = _
  simp
set_option maxHeartbeats 1000000 in
theorem take_ok (w : World) (p g : Nat) (a : Option Addr) (c : Nat) (xs : List Int) (i : Nat) (hC : Cur w p (.slice a xs.length c) i) (hr : Rd w g a .u8 xs) (hi : i < xs.length) (hn : xs.length ≤ 9223372036854775807) :
    Calls Tryz.prog 84 #[.pointer (some ⟨p, 0, none⟩)] w fun e w' => e = .returned (.int .u8 (xs.getD i 0)) ∧ Cur w' p (.slice a xs.length c) ((i + 1 : Nat) : Int) ∧ Only p w w' := by
  obtain ⟨off, rfl, hc⟩ := hr (by omega)
  have h1 := hc i hi
  have c0 := hC.c0
  have c1 := hC.c1
  have f1 := hC.f1
  have t1 : decide ((i : Int) < 0) = false := by simp
  have t2 : decide ((xs.length : Int) ≤ (i : Int)) = false := by simp; omega
  have t3 : (i : Int) < (xs.length : Int) := by omega
  have K := fun k => hide (show Cur ((w.drewN k).setCell ⟨p, 1, none⟩ (.int .i64 ((i : Int) + 1))) p (.slice (some ⟨g, off, none⟩) xs.length c) ((i + 1 : Nat) : Int) from by have := (hC.drew k).store ((i : Int) + 1); rwa [show ((i : Int) + 1) = ((i + 1 : Nat) : Int) by omega] at this ⊢)
  generalize xs.getD i 0 = x at *
  generalize xs.length = n at *
  clear hc hC
  go_enter Tryz.func84, Tryz.ntmps84
  go_wp2
  go_quiet (fail)
  go_wp2
  go_quiet (fail)
  go_wp2
  go_ret
  exact ⟨rfl, (K _).out, (Only.drewN w p _).trans (Only.setCell _ _ _ _)⟩
end Go.Proofs.YtjfggcefdobooaaGreatDoor
