
/-
  The program's keyed sums: keys that are masked, hashes behind them, the sum (written by gens/mkb.py).
-/
import Derived.Test.YtnfciobpfiibcaaDoorMkA
import Derived.Laws.Tables
namespace Go.Proofs.YtnfciobpfiibcaaDoor
set_option maxRecDepth 100000
open Go Go.RowKit

/-- 'copy' into a block that is known whole, of as much as fits. -/
theorem copy_minK {P : Program} (w : World) (ty rt e : TypeId) (hu : P.underlying ty = some (.slice e)) (hsz : (P.info? e).map (·.size) = some 1) {g : Nat} {k : IntKind} {zs : List Int} (hB : Blk w g k zs)
    (gs : Nat) (sp : Option Addr) (ys : List Int) (hr : Rd w gs sp k ys) (dc sc : Nat) :
    ∃ w2, (Builtin.copy_ #[ty, ty] rt #[.slice (some ⟨g, 0, none⟩) zs.length dc, .slice sp ys.length sc]).run P w = .ok (goInt (ys.take zs.length).length) w2 ∧ Blk w2 g k (ys.take zs.length ++ zs.drop (ys.take zs.length).length) ∧ Only g w w2 := by
  by_cases h0 : 0 < ys.length
  · obtain ⟨off, rfl, hc⟩ := hr h0
    obtain ⟨t, hB⟩ := hB
    have hrun := run_copy_row (P := P) w ty ty rt e g 0 zs.length dc ⟨gs, off, none⟩ ys.length sc _ t ((ys.take zs.length).map (Value.int k)) hu hsz hB (by simp [Nat.min_comm])
      (fun j v hj => by
        have hjl : j < (ys.take zs.length).length := by
          have := (List.getElem?_eq_some_iff.1 hj).1
          simpa using this
        have hj1 : j < ys.length := by simp at hjl; omega
        have hj2 : j < zs.length := by simp at hjl; omega
        rw [add_mid, hc j hj1]
        simpa [hj1, hj2, List.getElem?_take] using hj) (by simp; omega) (oneCells _ _)
    rw [List.length_map] at hrun
    refine ⟨_, hrun, ⟨t, ?_⟩, ⟨rfl, rfl, rfl, by simp, fun i hi => setRow_other w g i _ hi⟩⟩
    rw [setRow_heap w g _ _ t _ hB]
    simp
  · obtain rfl : ys = [] := List.eq_nil_of_length_eq_zero (by omega)
    exact ⟨w, by simpa using run_copy_none (P := P) w ty ty rt e _ _ _ _ _ _ hu hsz (by simp), by simpa using hB, Only.refl _ _⟩
set_option maxHeartbeats 2000000 in
theorem maskedKey_any (w : World) (g : Nat) (a : Option Addr) (c : Nat) (xs : List Int) (ha : Rd w g a .u8 xs) (m : Int) (hx : Byt xs) (hm : m = 54 ∨ m = 92) :
    Calls Tryd.prog 90 #[.slice a xs.length c, .int .u8 m] w fun e w' => NewRow w.heap.size w' e .u8 (maskL xs m) ∧ Below w.heap.size w w' := by
  obtain ⟨i0, hi, hz0, hz1, hz2⟩ := info_parts Tryd.info5
  have hsz : (Tryd.prog.info? 5).map (·.size) = some 1 := by rw [hi]; simp [hz1]
  have ML := hide (maskL_len xs m)
  have TL := hide (to64_len xs)
  have m0 : 0 ≤ m ∧ m < 256 := by omega
  go_enter Tryd.func90, Tryd.ntmps90
  go_wp2_with (at_make; refine wpList_make_full _ rfl _ _ 22 rfl w.heap.size 5 i0 (.int .u8 0) 1 Tryd.underlying22 hi hz0 hz1 .i64 .i64 _ _ 64 rfl rfl rfl rfl (by rw [hz2]; omega) (by unfold maxLen; omega) (Nat.le_refl _) ?_; intro w1 hown hgrow)
  have hB := Blk.of_made hown
  have hN : Below w.heap.size w w1 := (Below.refl _ _).grown hgrow (Nat.le_refl _) (by simp)
  obtain ⟨w2, hrun, hB2, hO⟩ := copy_minK (P := Tryd.prog) w1 22 3 5 Tryd.underlying22 hsz hB g a xs (ha.up hN) 64 c
  rw [List.length_replicate] at hrun hB2
  have hN2 := hN.trans (hO.below (Nat.le_refl _))
  rw [hrun]
  clear hown hgrow hB hN hO hrun
  have B2 : Blk w2 w.heap.size .u8 (to64 xs) := hB2
  clear hB2
  go_wp2_with fail
  go_loopw [6, 13] (fun _ i wr => ∃ (n : Nat) (zs : List Int), n ≤ 64 ∧ i = .int .i64 n ∧ zs.length = 64 ∧ (∀ j, j < 64 → zs.getD j 0 = if j < n then mx (xs.getD j 0) m else xs.getD j 0) ∧ Blk wr w.heap.size .u8 zs ∧ Below w.heap.size w wr) (fun _ i _ => 64 - (intOf i).toNat)
  case atStart => exact ⟨0, _, Nat.zero_le _, rfl, TL.out, fun j hj => by rw [if_neg (by omega)]; exact to64_get xs hj, B2, hN2⟩
  case round =>
    obtain ⟨n, zs, hn, rfl, hz, hv, hB, hN⟩ := hrel
    clear B2 hN2
    by_cases hlt : n < 64
    · have v0 := hv n hlt
      rw [if_neg (by omega)] at v0
      have c0 := hB.cell (i := n) (by omega)
      rw [v0] at c0
      have f0 := hB.free n
      have x0 := hx n
      have S0 := hB.store n (mx (xs.getD n 0) m)
      have V' : ∀ j, j < 64 → (zs.set n (mx (xs.getD n 0) m)).getD j 0 = if j < n + 1 then mx (xs.getD j 0) m else xs.getD j 0 := by
        intro j hj
        by_cases e : n = j
        · subst e
          rw [getD_set_self _ _ _ (by omega), if_pos (by omega)]
        · rw [getD_set_ne _ _ _ _ e, hv j hj]
          by_cases c : j < n
          · rw [if_pos c, if_pos (by omega)]
          · rw [if_neg c, if_neg (by omega)]
      have VH := hide V'
      have LH : Hid ((zs.set n (mx (xs.getD n 0) m)).length = 64) := by show _ = _; rw [List.length_set]; exact hz
      have N' : Below w.heap.size w (wr.setCell ⟨w.heap.size, n, none⟩ (.int .u8 (mx (xs.getD n 0) m))) := hN.trans ((Only.setCell wr w.heap.size n _).below (Nat.le_refl _))
      have nn : (n : Int) < 64 := by omega
      unfold mx at S0 N' VH LH
      clear hv v0 V' hB hz hN
      generalize xs.getD n 0 = x at *
      go_wp2
      go_roundw
      case rel => exact ⟨n + 1, _, by omega, by go_num, LH.out, VH.out, S0, N'⟩
      case measure => simp [intOf]; omega
    · obtain rfl : n = 64 := by omega
      obtain rfl : zs = maskL xs m := eq_of_getD (by rw [hz, ML.out]) (fun i hi => by rw [hv i (by omega), if_pos (by omega), maskL_get xs m (by omega)])
      clear hv hz
      go_wp2
      go_ret
      exact ⟨⟨_, 64, w.heap.size, by rw [ML.out]; rfl, hB.own0, by simp, by rw [ML.out]; exact Nat.le_refl _, Nat.le_refl _⟩, hN⟩

/-- A built literal of one list. -/
theorem lsts_one (w : World) (t : TypeId) (l : Lst) : Lsts (w.alloc (.cells #[.slice l.a l.xs.length l.c] t)) w.heap.size [l] := by
  intro j x hj
  match j, hj with
  | 0, hj =>
    simp only [List.getElem?_cons_zero, Option.some.injEq] at hj
    subst hj
    simp [World.cell?_alloc_at]
theorem Lsts.up {w w' : World} {b : Nat} {ls : List Lst} (h : Lsts w b ls) (n : Below w.heap.size w w') : Lsts w' b ls := fun j l hj => by
  have := h j l hj
  rw [World.cell?_of_block (a := ⟨b, j, none⟩) (n.block b (block_lt_of_cell this))]
  exact this
theorem cat_one (l : Lst) : cat [l] = l.xs := by simp [cat]
set_option maxRecDepth 20000 in
set_option maxHeartbeats 8000000 in
theorem behindD (w : World) (b : Nat) (l : Lst) (hs : Lsts w b [l]) (hl : Rd w l.g l.a .u8 l.xs ∧ Byt l.xs ∧ l.xs.length ≤ l.c) (hn : l.xs.length ≤ 1099511627776) (hS : HasT w 0 stLh) (hT : HasT w 1 kL) :
    Calls Tryd.prog 89 #[.slice (some ⟨b, 0, none⟩) 1 1] w fun e w' => (∃ vs, e = .returned (.agg vs.toArray) ∧ HV vs l.xs) ∧ Below w.heap.size w w' := by
  have NH := hide (fun V (n : Below w.heap.size w V) => newHashing_32 V (hS.up n))
  have V0 := HV.start
  generalize hcl .u32 0 start32 (List.replicate 128 0) = vs at *
  have gl : 1 < w.heap.size := block_lt_of_cell (hT 0 (by decide))
  have bl : b < w.heap.size := block_lt_of_cell (hs 0 l rfl)
  have ll : 0 < l.xs.length → l.g < w.heap.size := fun h => hl.1.lt h
  obtain ⟨d, hd, hrow⟩ := rowH_32
  go_enter Tryd.func89, Tryd.ntmps89
  go_upto_region 1 with fail
  change Code.wp _ _ _ _ (w.alloc zH32)
  have n0 : Below w.heap.size w (w.alloc zH32) := (Below.refl _ _).alloc (Nat.le_refl _) _
  have TH0 := (HB.zero32 w).there
  have z0 : (w.alloc zH32).heap.size = w.heap.size + 1 := by simp
  generalize w.alloc zH32 = wa at *
  go_wp2_with fail
  refine (NH.out wa n0).mono ?_
  rintro r w1 ⟨rfl, n1⟩
  clear NH
  have z1 := n1.size
  have HZ := HB.zero32 w1
  have TH := HZ.there
  have na : Below w1.heap.size w1 (w1.alloc zH32) := (Below.refl _ _).alloc (Nat.le_refl _) _
  have L1 := hide V0.len
  have O1 : vs.toArray.all (·.oneCell') = true := all_oneCell_toArray V0.one
  have sm := World.rangeAt_setCells_same (w1.alloc zH32) w1.heap.size 0 vs (by rw [L1.out]; exact TH)
  have th2 := World.there_setCells TH w1.heap.size 0 vs
  have O2 := only_setCells (w1.alloc zH32) w1.heap.size vs 0
  have H2 := V0.at sm th2
  have n2 : Below wa.heap.size wa ((w1.alloc zH32).setCells w1.heap.size 0 vs) := (nxt n1 na).trans (O2.below (by omega))
  have N2 := nxt n0 n2
  have lq := hide (show w.heap.size + 1 ≤ w1.heap.size by omega)
  clear HZ sm th2 O2 na n1 z1
  go_upto_region 2 with (refine wpList_store_mid rfl 55 (.tmp 3) (.tmp 4) rfl w1.heap.size 0 vs.toArray rfl rfl ?hth ?hin ?hon ?_)
  case hth => exact (show (w1.alloc zH32).there w1.heap.size 0 vs.length by rw [L1.out]; exact TH)
  case hin => show _ = some vs.length; rw [L1.out]; exact infoH_32
  case hon => exact O1
  change Code.wp _ _ _ _ ((w1.alloc zH32).setCells w1.heap.size 0 vs)
  generalize (w1.alloc zH32).setCells w1.heap.size 0 vs = w2 at *
  have TA := takeAllD w2 w1.heap.size 0 [] H2 b 1 1 [l] rfl (by omega) (hs.up N2) (fun x hx => by
    rw [List.mem_singleton] at hx
    subst hx
    exact ⟨hl.1.up N2, hl.2.1, hl.2.2, fun h => by have := ll h; have := lq.out; omega⟩) (by have := lq.out; omega) (by rw [cat_one]; simp; omega) (hT.up N2) (by have := lq.out; omega)
  rw [cat_one, List.nil_append] at TA
  have TAH := hide TA
  have h2 := H2.lt
  have TH0' := there_upn (by omega) TH0 n2
  clear TA H2 TH n2 TH0 V0 O1
  go_wp2_with fail
  refine TAH.out.mono ?_
  rintro r w3 ⟨rfl, H3, B3⟩
  have N3 : Below w.heap.size w w3 := N2.trans (B3.bt.below (by have := lq.out; omega) N2.size)
  have hb3 := B3.bt.block w.heap.size (by have := lq.out; omega) (by have := lq.out; omega)
  have TH3 : w3.there w.heap.size 0 137 := fun j hj => by
    have := TH0' j hj
    exact ⟨by rw [World.cell?_of_block (a := ⟨w.heap.size, 0 + j, none⟩) hb3]; exact this.1, by rw [World.frozen?_of_block (a := ⟨w.heap.size, 0 + j, none⟩) hb3]; exact this.2⟩
  obtain ⟨v3, V3, RG, -⟩ := H3.val
  have L3 := hide V3.len
  have O3 : v3.toArray.all (·.oneCell') = true := all_oneCell_toArray V3.one
  have RR := World.rangeAt_setCells_same w3 w.heap.size 0 v3 (by rw [L3.out]; exact TH3)
  have N4 : Below w.heap.size w (w3.setCells w.heap.size 0 v3) := N3.trans ((only_setCells w3 w.heap.size v3 0).below (Nat.le_refl _))
  have VH := hide V3
  clear TAH H3 B3 hb3 TH0' N2 V3
  go_wp2_with (first
    | (refine wpList_load_mid rfl 55 (.tmp 3) rfl w1.heap.size 0 rfl v3 d RG hd hrow (by rw [L3.out]; exact infoH_32) ?_)
    | (refine wpList_store_mid rfl 55 (.tmp 2) (.tmp 7) rfl w.heap.size 0 v3.toArray rfl rfl ?hth ?hin ?hon ?_))
  case hth => show w3.there w.heap.size 0 v3.length; rw [L3.out]; exact TH3
  case hin => show _ = some v3.length; rw [L3.out]; exact infoH_32
  case hon => exact O3
  exact bodyPost_ret (v := .agg v3.toArray) (results_cell_m Tryd.results89 _ _ w.heap.size v3 d rfl RR hd hrow (by rw [L3.out]; exact infoH_32)) rfl ⟨⟨v3, rfl, VH.out⟩, N4⟩

/-- A row of cells is laid over an array. -/
theorem fold_set : ∀ (vs : List Value) (k off : Nat) (cells : List Value), off + k + vs.length ≤ cells.length → (vs.zipIdx k).foldl (fun (cs : Array Value) (p : Value × Nat) => cs.setIfInBounds (off + p.2) p.1) cells.toArray = (cells.take (off + k) ++ (vs ++ cells.drop (off + k + vs.length))).toArray
  | [], k, off, cells, h => by simp
  | v :: vs, k, off, cells, h => by
    rw [List.length_cons] at h
    rw [List.zipIdx_cons, List.foldl_cons]
    show List.foldl _ (cells.toArray.setIfInBounds (off + k) v) _ = _
    rw [List.setIfInBounds_toArray, fold_set vs (k + 1) off (cells.set (off + k) v) (by rw [List.length_set]; omega)]
    congr 1
    rw [List.length_cons, show off + (k + 1) = off + k + 1 by omega, List.take_set, List.drop_set_of_lt (by omega), show off + k + (vs.length + 1) = off + k + 1 + vs.length by omega]
    rw [show (List.take (off + k + 1) cells).set (off + k) v = cells.take (off + k) ++ [v] by
      rw [List.take_add_one, List.getElem?_eq_getElem (by omega)]
      simp only [Option.toList_some]
      rw [List.set_append_right _ _ (by rw [List.length_take]; omega), List.length_take, Nat.min_eq_left (by omega), Nat.sub_self]
      rfl]
    simp
theorem zeroK : ((Tryd.prog.info? 61).bind (·.zero)).map (·.cells.size) = some 274 := by kernel_rfl
theorem placesK : (match Tryd.prog.underlying 61 with | some (.struct fs) => fs.toList.mapM (fun f => (Tryd.prog.info? f.type).map fun i => (f.offset, i.size)) | _ => none) = some [(0, 137), (137, 137)] := by kernel_rfl
theorem builtK (v1 v2 : List Value) (h1 : v1.length = 137) (h2 : v2.length = 137) : Tryd.prog.built 61 [(0, .agg v1.toArray), (1, .agg v2.toArray)] = some (v1 ++ v2).toArray := by
  have hz := zeroK
  have hp := placesK
  unfold Program.built
  cases hit : Tryd.prog.info? 61 with
  | none => rw [hit] at hz; simp at hz
  | some it =>
    rw [hit] at hz
    cases hzz : it.zero with
    | none => simp [hzz] at hz
    | some z =>
      simp only [Option.bind_some, hzz, Option.map_some, Option.some.injEq] at hz
      cases hu : Tryd.prog.underlying 61 with
      | none => rw [hu] at hp; simp at hp
      | some dd =>
        rw [hu] at hp
        cases dd with
        | struct fs =>
          simp only at hp
          simp only [hzz, hp]
          obtain ⟨zl, hzl⟩ : ∃ l, z.cells = List.toArray l := ⟨z.cells.toList, by simp⟩
          have zn : zl.length = 274 := by rw [hzl] at hz; simpa using hz
          rw [hzl]
          have F1 := fold_set v1 0 0 zl (by omega)
          have F2 := fold_set v2 0 137 (v1 ++ zl.drop 137) (by rw [List.length_append, List.length_drop]; omega)
          simp only [Nat.add_zero, Nat.zero_add, List.take_zero, List.nil_append, h1] at F1
          have e2 : ((v1 ++ zl.drop 137).take 137 ++ (v2 ++ (v1 ++ zl.drop 137).drop (137 + 137))) = v1 ++ v2 := by
            rw [List.take_left' h1, List.drop_eq_nil_of_le (by rw [List.length_append, List.length_drop]; omega), List.append_nil]
          rw [h2, Nat.add_zero, e2] at F2
          simp only [Instr.fill, Value.cells, List.getElem?_toArray, List.getElem?_cons_zero, List.getElem?_cons_succ, List.size_toArray, h1, h2, zn]
          rw [if_neg (by simp)]
          simp only [← Array.foldl_toList, Array.toList_zipIdx, Nat.zero_add]
          rw [F1]
          rw [if_neg (by simp; omega)]
          rw [F2]
        | _ => simp at hp
theorem infoK : (Tryd.prog.info? 61).map (·.size) = some 274 := by kernel_rfl
theorem rowK : ∃ d, Tryd.prog.underlying 61 = some d ∧ d.isRow = true := by
  have h : (Tryd.prog.underlying 61).map (·.isRow) = some true := by kernel_rfl
  cases hq : Tryd.prog.underlying 61 with
  | none => rw [hq] at h; simp at h
  | some d => rw [hq] at h; exact ⟨d, rfl, by simpa using h⟩
abbrev zK : Obj := .cells (List.toArray (.int .i64 0 :: .int .u32 0 :: .int .u32 0 :: .int .u32 0 :: .int .u32 0 :: .int .u32 0 :: .int .u32 0 :: .int .u32 0 :: .int .u32 0 :: .int .u8 0 :: .int .u8 0 :: .int .u8 0 :: .int .u8 0 :: .int .u8 0 :: .int .u8 0 :: .int .u8 0 :: .int .u8 0 :: .int .u8 0 :: .int .u8 0 :: .int .u8 0 :: .int .u8 0 :: .int .u8 0 :: .int .u8 0 :: .int .u8 0 :: .int .u8 0 :: .int .u8 0 :: .int .u8 0 :: .int .u8 0 :: .int .u8 0 :: .int .u8 0 :: .int .u8 0 :: .int .u8 0 :: .int .u8 0 :: .int .u8 0 :: .int .u8 0 :: .int .u8 0 :: .int .u8 0 :: .int .u8 0 :: .int .u8 0 :: .int .u8 0 :: .int .u8 0 :: .int .u8 0 :: .int .u8 0 :: .int .u8 0 :: .int .u8 0 :: .int .u8 0 :: .int .u8 0 :: .int .u8 0 :: .int .u8 0 :: .int .u8 0 :: .int .u8 0 :: .int .u8 0 :: .int .u8 0 :: .int .u8 0 :: .int .u8 0 :: .int .u8 0 :: .int .u8 0 :: .int .u8 0 :: .int .u8 0 :: .int .u8 0 :: .int .u8 0 :: .int .u8 0 :: .int .u8 0 :: .int .u8 0 :: .int .u8 0 :: .int .u8 0 :: .int .u8 0 :: .int .u8 0 :: .int .u8 0 :: .int .u8 0 :: .int .u8 0 :: .int .u8 0 :: .int .u8 0 :: .int .u8 0 :: .int .u8 0 :: .int .u8 0 :: .int .u8 0 :: .int .u8 0 :: .int .u8 0 :: .int .u8 0 :: .int .u8 0 :: .int .u8 0 :: .int .u8 0 :: .int .u8 0 :: .int .u8 0 :: .int .u8 0 :: .int .u8 0 :: .int .u8 0 :: .int .u8 0 :: .int .u8 0 :: .int .u8 0 :: .int .u8 0 :: .int .u8 0 :: .int .u8 0 :: .int .u8 0 :: .int .u8 0 :: .int .u8 0 :: .int .u8 0 :: .int .u8 0 :: .int .u8 0 :: .int .u8 0 :: .int .u8 0 :: .int .u8 0 :: .int .u8 0 :: .int .u8 0 :: .int .u8 0 :: .int .u8 0 :: .int .u8 0 :: .int .u8 0 :: .int .u8 0 :: .int .u8 0 :: .int .u8 0 :: .int .u8 0 :: .int .u8 0 :: .int .u8 0 :: .int .u8 0 :: .int .u8 0 :: .int .u8 0 :: .int .u8 0 :: .int .u8 0 :: .int .u8 0 :: .int .u8 0 :: .int .u8 0 :: .int .u8 0 :: .int .u8 0 :: .int .u8 0 :: .int .u8 0 :: .int .u8 0 :: .int .u8 0 :: .int .u8 0 :: .int .u8 0 :: .int .u8 0 :: .int .u8 0 :: .int .u8 0 :: .int .u8 0 :: .int .u8 0 :: .int .u8 0 :: .int .i64 0 :: .int .u32 0 :: .int .u32 0 :: .int .u32 0 :: .int .u32 0 :: .int .u32 0 :: .int .u32 0 :: .int .u32 0 :: .int .u32 0 :: .int .u8 0 :: .int .u8 0 :: .int .u8 0 :: .int .u8 0 :: .int .u8 0 :: .int .u8 0 :: .int .u8 0 :: .int .u8 0 :: .int .u8 0 :: .int .u8 0 :: .int .u8 0 :: .int .u8 0 :: .int .u8 0 :: .int .u8 0 :: .int .u8 0 :: .int .u8 0 :: .int .u8 0 :: .int .u8 0 :: .int .u8 0 :: .int .u8 0 :: .int .u8 0 :: .int .u8 0 :: .int .u8 0 :: .int .u8 0 :: .int .u8 0 :: .int .u8 0 :: .int .u8 0 :: .int .u8 0 :: .int .u8 0 :: .int .u8 0 :: .int .u8 0 :: .int .u8 0 :: .int .u8 0 :: .int .u8 0 :: .int .u8 0 :: .int .u8 0 :: .int .u8 0 :: .int .u8 0 :: .int .u8 0 :: .int .u8 0 :: .int .u8 0 :: .int .u8 0 :: .int .u8 0 :: .int .u8 0 :: .int .u8 0 :: .int .u8 0 :: .int .u8 0 :: .int .u8 0 :: .int .u8 0 :: .int .u8 0 :: .int .u8 0 :: .int .u8 0 :: .int .u8 0 :: .int .u8 0 :: .int .u8 0 :: .int .u8 0 :: .int .u8 0 :: .int .u8 0 :: .int .u8 0 :: .int .u8 0 :: .int .u8 0 :: .int .u8 0 :: .int .u8 0 :: .int .u8 0 :: .int .u8 0 :: .int .u8 0 :: .int .u8 0 :: .int .u8 0 :: .int .u8 0 :: .int .u8 0 :: .int .u8 0 :: .int .u8 0 :: .int .u8 0 :: .int .u8 0 :: .int .u8 0 :: .int .u8 0 :: .int .u8 0 :: .int .u8 0 :: .int .u8 0 :: .int .u8 0 :: .int .u8 0 :: .int .u8 0 :: .int .u8 0 :: .int .u8 0 :: .int .u8 0 :: .int .u8 0 :: .int .u8 0 :: .int .u8 0 :: .int .u8 0 :: .int .u8 0 :: .int .u8 0 :: .int .u8 0 :: .int .u8 0 :: .int .u8 0 :: .int .u8 0 :: .int .u8 0 :: .int .u8 0 :: .int .u8 0 :: .int .u8 0 :: .int .u8 0 :: .int .u8 0 :: .int .u8 0 :: .int .u8 0 :: .int .u8 0 :: .int .u8 0 :: .int .u8 0 :: .int .u8 0 :: .int .u8 0 :: .int .u8 0 :: .int .u8 0 :: .int .u8 0 :: .int .u8 0 :: .int .u8 0 :: .int .u8 0 :: .int .u8 0 :: .int .u8 0 :: .int .u8 0 :: .int .u8 0 :: .int .u8 0 :: .int .u8 0 :: .int .u8 0 :: .int .u8 0 :: .int .u8 0 :: .int .u8 0 :: .int .u8 0 :: .int .u8 0 :: .int .u8 0 :: .int .u8 0 :: [])) 61
theorem there_alloc (w : World) (cs : List Value) (t : TypeId) : (w.alloc (.cells cs.toArray t)).there w.heap.size 0 cs.length := by
  have hh : (w.alloc (.cells cs.toArray t)).heap[w.heap.size]? = some (.cells cs.toArray t (0, 0)) := by
    show (w.heap.push _)[w.heap.size]? = _
    simp
  intro j hj
  refine ⟨?_, frozen_of_row _ _ _ _ _ hh⟩
  rw [Nat.zero_add, cell_of_row _ _ _ _ _ _ hh]
  simp [hj]
theorem range_alloc (w : World) (cs : List Value) (t : TypeId) : (w.alloc (.cells cs.toArray t)).rangeAt w.heap.size 0 cs := by
  have hh : (w.alloc (.cells cs.toArray t)).heap[w.heap.size]? = some (.cells cs.toArray t (0, 0)) := by
    show (w.heap.push _)[w.heap.size]? = _
    simp
  intro j v hv
  rw [Nat.zero_add, cell_of_row _ _ _ _ _ _ hh]
  simpa using hv
set_option maxRecDepth 20000 in
theorem thereK (w : World) : (w.alloc zK).there w.heap.size 0 274 := there_alloc w _ _
end Go.Proofs.YtnfciobpfiibcaaDoor
