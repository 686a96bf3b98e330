import Derived.Test.YtdnkgmlidhepbaaGreatGC21
import Derived.Test.YtdnkgmlidhepbaaGreatGC1
import Derived.Test.YtdnkgmlidhepbaaGreatGC19
namespace Go.Proofs.YtdnkgmlidhepbaaGreat
open Go Go.RowKit
theorem MkdB.ch {W W' : World} {v : Value} {its : List (List Int)} {bs : List Plc} {n : Int} {lo hi : Nat} (h : MkdB W v its bs n) (C : Ch lo hi W W') (hg : ∀ g c, v = .slice (some ⟨g, 0, none⟩) its.length c → 0 < its.length → g < lo) (hq : ∀ i, i < its.length → 0 < (its.getD i []).length → (bs.getD i plc0).q < lo) : MkdB W' v its bs n := fun g c e i hi' => by
  have P := h g c e i hi'
  have hl := hg g c e (by omega)
  refine ⟨(World.cell?_of_block (a := ⟨g, i, none⟩) (C.block g (block_lt_of_cell P.1) (.inl hl))).trans P.1, own_ch P.2 fun h0 => ?_⟩
  exact C.block _ (P.2.rd.lt h0) (.inl (hq i hi' (by rw [marks_len] at h0; exact h0)))
end Go.Proofs.YtdnkgmlidhepbaaGreat
namespace Go.Proofs.YtdnkgmlidhepbaaGreat
open Go Go.RowKit
def slA (a : Option Addr) (i c : Nat) : Option Addr := if c = i then a else a.map (·.add (i * 1))
theorem size_u8 (w : World) : (sizeOf (Tryz.prog.elem 22)).run Tryz.prog w = .ok 1 w := by kernel_rfl
theorem und_s : Tryz.prog.underlying 22 = some (.slice (Tryz.prog.elem 22)) := by kernel_rfl
theorem sl_both (W : World) (a : Option Addr) (n c i j m : Nat) (h1 : i ≤ j) (h2 : j ≤ c) (hm : m = j - i) : (Instr.sliceAt 22 (.slice a n c) (some (.int .i64 (i : Int))) (some (.int .i64 (j : Int))) none).run Tryz.prog W = .ok (.slice (slA a i c) m (c - i)) W := by
  rw [run_sliceAt_slice W 22 _ _ _ _ und_s, run_slice_lh W 22 a n c und_s .i64 .i64 i j (by omega) (by omega) (by omega), size_u8, hm]
  rfl
theorem sl_low (W : World) (a : Option Addr) (n c i m : Nat) (h1 : i ≤ n) (_h2 : n ≤ c) (hm : m = n - i) : (Instr.sliceAt 22 (.slice a n c) (some (.int .i64 (i : Int))) none none).run Tryz.prog W = .ok (.slice (slA a i c) m (c - i)) W := by
  rw [run_sliceAt_slice W 22 _ _ _ _ und_s]
  rw [run_slice_l W 22 a n c und_s .i64 i (by omega) (by omega), size_u8, hm]
  rfl
theorem sl_high (W : World) (a : Option Addr) (n c j : Nat) (h2 : j ≤ c) : (Instr.sliceAt 22 (.slice a n c) none (some (.int .i64 (j : Int))) none).run Tryz.prog W = .ok (.slice (slA a 0 c) j c) W := by
  rw [run_sliceAt_slice W 22 _ _ _ _ und_s, run_slice_h W 22 a n c und_s .i64 j (by omega) (by omega), size_u8]
  rfl
theorem Rd.sl {w : World} {g : Nat} {a : Option Addr} {c : Nat} {xs : List Int} (h : Rd w g a .u8 xs) (hc : xs.length ≤ c) (i n : Nat) : Rd w g (slA a i c) .u8 ((xs.drop i).take n) := fun h0 => by
  rw [List.length_take, List.length_drop] at h0
  have hi : i < xs.length := by omega
  obtain ⟨o, e, hd⟩ := h.dropA i hi
  have ea : slA a i c = some ⟨g, o + i, none⟩ := by
    unfold slA
    rw [if_neg (by omega), e]
    show some (Addr.add ⟨g, o, none⟩ (i * 1)) = _
    rw [add_mid, Nat.mul_one]
  rw [ea]
  exact hd.takeA n (by rw [List.length_take, List.length_drop]; exact h0)
theorem Rd.slD {w : World} {g : Nat} {a : Option Addr} {c : Nat} {xs : List Int} (h : Rd w g a .u8 xs) (hc : xs.length ≤ c) (i : Nat) : Rd w g (slA a i c) .u8 (xs.drop i) := by
  have := h.sl hc i (xs.drop i).length
  rwa [List.take_length] at this
theorem slA_none {a : Option Addr} {i c : Nat} (hz : a = none → c = 0) (h : slA a i c = none) : c - i = 0 := by
  unfold slA at h
  split at h
  · omega
  · rw [Option.map_eq_none_iff] at h
    have := hz h
    omega
theorem wpList_slT {P : Program} (w : World) {ops : Array Oper} {rest : List Oper} {o : Oper} {a : Act} {Q : Exit → Act → World → Prop} (hgd : o.guard = none) (t : TypeId) (x : Operand) (lo hi : Option Operand) (ho : o.op = .slice t x lo hi none) (vx : Value) (vl vh : Option Value) (hx : a.eval x = vx) (hl : lo.map a.eval = vl) (hh : hi.map a.eval = vh)
    (v' : Value) (hr : (Instr.sliceAt t vx vl vh none).run P w = .ok v' w) (h : wpList P ops Q rest (a.put o.dst v') w) : wpList P ops Q (o :: rest) a w :=
  wpList_plain hgd fun _ hK => by
    unfold Oper.wp execOp
    simp only [ho, hx, hl, hh, Option.map_none]
    rw [Sem.run_bind, hr]
    exact hK _ _ h
end Go.Proofs.YtdnkgmlidhepbaaGreat
namespace Go.Proofs.YtdnkgmlidhepbaaGreat
open Go Go.RowKit
set_option maxRecDepth 100000 in
set_option maxHeartbeats 8000000 in
theorem parseAnswer_any (w : World) (g : Nat) (a : Option Addr) (c : Nat) (xs : List Int) (hr : Rd w g a .u8 xs) (hb : Byt xs) (hx : xs.length ≤ 8192) :
    Calls Tryz.prog 19 #[.int .i64 2, .slice a xs.length c] w fun e w' => (∃ p, e = .returned (.agg (mgV p (rdAnswer xs))) ∧ HasM w' p (rdAnswer xs) ∧ HasZ p (rdAnswer xs) ∧ TyM w' p (rdAnswer xs) ∧ ∀ g, g < w.heap.size → NoM g p (rdAnswer xs)) ∧ Below w.heap.size w w' := by
  have P0 : PS w ((((w.alloc (.cells #[.int .i64 0, .int .i64 0, .slice none 0 0, .slice none 0 0, .string ⟨#[]⟩, .slice none 0 0, .slice none 0 0, .int .i64 0, .int .i64 0, .slice none 0 0, .bool false, .slice none 0 0, .slice none 0 0] 26)).alloc (.cells #[.slice a xs.length c, .int .i64 0] 58)).alloc (.cells #[.int .i64 0, .int .i64 0, .slice none 0 0, .slice none 0 0, .string ⟨#[]⟩, .slice none 0 0, .slice none 0 0, .int .i64 0, .int .i64 0, .slice none 0 0, .bool false, .slice none 0 0, .slice none 0 0] 26)).setCells (w.heap.size + 1 + 1) 0 [.int .i64 2, .int .i64 0, .slice none 0 0, .slice none 0 0, .string ⟨#[]⟩, .slice none 0 0, .slice none 0 0, .int .i64 0, .int .i64 0, .slice none 0 0, .bool false, .slice none 0 0, .slice none 0 0]) (.slice a xs.length c) 0 [.int .i64 2, .int .i64 0, .slice none 0 0, .slice none 0 0, .string ⟨#[]⟩, .slice none 0 0, .slice none 0 0, .int .i64 0, .int .i64 0, .slice none 0 0, .bool false, .slice none 0 0, .slice none 0 0] := PS.start w (.slice a xs.length c) 2
  have THR : (((w.alloc (.cells #[.int .i64 0, .int .i64 0, .slice none 0 0, .slice none 0 0, .string ⟨#[]⟩, .slice none 0 0, .slice none 0 0, .int .i64 0, .int .i64 0, .slice none 0 0, .bool false, .slice none 0 0, .slice none 0 0] 26)).alloc (.cells #[.slice a xs.length c, .int .i64 0] 58)).alloc (.cells #[.int .i64 0, .int .i64 0, .slice none 0 0, .slice none 0 0, .string ⟨#[]⟩, .slice none 0 0, .slice none 0 0, .int .i64 0, .int .i64 0, .slice none 0 0, .bool false, .slice none 0 0, .slice none 0 0] 26)).there (w.heap.size + 1 + 1) 0 13 := PS.room w (.slice a xs.length c)
  obtain ⟨d13, hd13, hrow13⟩ := rowM
  have HR := hide hr
  clear hr
  go_enter Tryz.func19, Tryz.ntmps19
  go_upto_region 3 with (refine wpList_store_mid rfl 26 (.tmp 6) (.tmp 12) rfl (w.heap.size + 1 + 1) 0 #[.int .i64 2, .int .i64 0, .slice none 0 0, .slice none 0 0, .string ⟨#[]⟩, .slice none 0 0, .slice none 0 0, .int .i64 0, .int .i64 0, .slice none 0 0, .bool false, .slice none 0 0, .slice none 0 0] rfl rfl THR iM (all_oneCell_toArray fun v hv => by (simp only [List.mem_cons, List.not_mem_nil, or_false] at hv; rcases hv with rfl | rfl | rfl | rfl | rfl | rfl | rfl | rfl | rfl | rfl | rfl | rfl | rfl; all_goals rfl)) ?_)
  have PH := hide P0
  clear P0 THR
  generalize (((w.alloc (.cells #[.int .i64 0, .int .i64 0, .slice none 0 0, .slice none 0 0, .string ⟨#[]⟩, .slice none 0 0, .slice none 0 0, .int .i64 0, .int .i64 0, .slice none 0 0, .bool false, .slice none 0 0, .slice none 0 0] 26)).alloc (.cells #[.slice a xs.length c, .int .i64 0] 58)).alloc (.cells #[.int .i64 0, .int .i64 0, .slice none 0 0, .slice none 0 0, .string ⟨#[]⟩, .slice none 0 0, .slice none 0 0, .int .i64 0, .int .i64 0, .slice none 0 0, .bool false, .slice none 0 0, .slice none 0 0] 26)).setCells (w.heap.size + 1 + 1) 0 [.int .i64 2, .int .i64 0, .slice none 0 0, .slice none 0 0, .string ⟨#[]⟩, .slice none 0 0, .slice none 0 0, .int .i64 0, .int .i64 0, .slice none 0 0, .bool false, .slice none 0 0, .slice none 0 0] = W0 at *
  have NM := hide (numM_any W0 (w.heap.size + 1) g a c xs (0) 1 (HR.out.up PH.out.N) hb PH.out.Q (by omega) (by omega) (by decide))
  go_wp2_with fail
  refine NM.out.mono ?_
  rintro e V0 ⟨rfl, hQ, hT⟩
  have PV := hide (PH.out.call hQ hT)
  clear NM hQ hT PH
  have PH := PV
  clear PV
  have qT : V0.cell? ⟨w.heap.size + 1 + 1, 1, none⟩ = some (.int .i64 0) := PH.out.T.cell 1
  have qF := PH.out.T.free 1
  go_upto_region 17 with fail
  have PN : Hid (PS w (V0.setCell ⟨w.heap.size + 1 + 1, 1, none⟩ (.int .i64 (beN xs 0 1))) (.slice a xs.length c) _ [.int .i64 2, .int .i64 (beN xs 0 1), .slice none 0 0, .slice none 0 0, .string ⟨#[]⟩, .slice none 0 0, .slice none 0 0, .int .i64 0, .int .i64 0, .slice none 0 0, .bool false, .slice none 0 0, .slice none 0 0]) := PH.out.set 1 _
  clear qT qF PH
  generalize V0.setCell ⟨w.heap.size + 1 + 1, 1, none⟩ (.int .i64 (beN xs 0 1)) = W1 at *
  have PH := PN
  clear PN
  have lt := PH.out.T.lt
  have NM := hide (takeM_any W1 (w.heap.size + 1) g a c xs (0 + 1) 32 (HR.out.up PH.out.N) PH.out.Q (by omega) (by omega) (by omega))
  go_wp2_with fail
  refine NM.out.mono ?_
  rintro e V2 ⟨rfl, B, hQ, hT⟩
  have PV := hide (PH.out.call hQ hT)
  obtain ⟨G2, hG⟩ : ∃ G, W1.heap.size = G := ⟨_, rfl⟩
  rw [hG] at B lt ⊢
  have CG2 : Hid (FB (w.heap.size + 1 + 1) V2 G2 (tkB xs (0 + 1) 32)) := ⟨B, lt⟩
  clear NM hQ hT PH B lt hG
  have PH := PV
  clear PV
  have qT : V2.cell? ⟨w.heap.size + 1 + 1, 2, none⟩ = some (.slice none 0 0) := PH.out.T.cell 2
  have qF := PH.out.T.free 2
  go_upto_region 18 with fail
  have PN : Hid (PS w (V2.setCell ⟨w.heap.size + 1 + 1, 2, none⟩ (.slice (some ⟨G2, 0, none⟩) 32 32)) (.slice a xs.length c) _ [.int .i64 2, .int .i64 (beN xs 0 1), .slice (some ⟨G2, 0, none⟩) 32 32, .slice none 0 0, .string ⟨#[]⟩, .slice none 0 0, .slice none 0 0, .int .i64 0, .int .i64 0, .slice none 0 0, .bool false, .slice none 0 0, .slice none 0 0]) := PH.out.set 2 _
  have CG2' := hide (CG2.out.onl (Only.setCell V2 (w.heap.size + 1 + 1) 2 (.slice (some ⟨G2, 0, none⟩) 32 32)) (Nat.le_refl _))
  clear CG2
  have CG2 := CG2'
  clear CG2'
  clear qT qF PH
  generalize V2.setCell ⟨w.heap.size + 1 + 1, 2, none⟩ (.slice (some ⟨G2, 0, none⟩) 32 32) = W3 at *
  have PH := PN
  clear PN
  have lt := PH.out.T.lt
  have NM := hide (takeM_any W3 (w.heap.size + 1) g a c xs (0 + 1 + 32) 32 (HR.out.up PH.out.N) PH.out.Q (by omega) (by omega) (by omega))
  go_wp2_with fail
  refine NM.out.mono ?_
  rintro e V4 ⟨rfl, B, hQ, hT⟩
  have PV := hide (PH.out.call hQ hT)
  have CG2' := hide (CG2.out.tch hT (by omega))
  clear CG2
  have CG2 := CG2'
  clear CG2'
  obtain ⟨G3, hG⟩ : ∃ G, W3.heap.size = G := ⟨_, rfl⟩
  rw [hG] at B lt ⊢
  have CG3 : Hid (FB (w.heap.size + 1 + 1) V4 G3 (tkB xs (0 + 1 + 32) 32)) := ⟨B, lt⟩
  clear NM hQ hT PH B lt hG
  have PH := PV
  clear PV
  have qT : V4.cell? ⟨w.heap.size + 1 + 1, 3, none⟩ = some (.slice none 0 0) := PH.out.T.cell 3
  have qF := PH.out.T.free 3
  go_upto_region 19 with fail
  have PN : Hid (PS w (V4.setCell ⟨w.heap.size + 1 + 1, 3, none⟩ (.slice (some ⟨G3, 0, none⟩) 32 32)) (.slice a xs.length c) _ [.int .i64 2, .int .i64 (beN xs 0 1), .slice (some ⟨G2, 0, none⟩) 32 32, .slice (some ⟨G3, 0, none⟩) 32 32, .string ⟨#[]⟩, .slice none 0 0, .slice none 0 0, .int .i64 0, .int .i64 0, .slice none 0 0, .bool false, .slice none 0 0, .slice none 0 0]) := PH.out.set 3 _
  have CG2' := hide (CG2.out.onl (Only.setCell V4 (w.heap.size + 1 + 1) 3 (.slice (some ⟨G3, 0, none⟩) 32 32)) (Nat.le_refl _))
  clear CG2
  have CG2 := CG2'
  clear CG2'
  have CG3' := hide (CG3.out.onl (Only.setCell V4 (w.heap.size + 1 + 1) 3 (.slice (some ⟨G3, 0, none⟩) 32 32)) (Nat.le_refl _))
  clear CG3
  have CG3 := CG3'
  clear CG3'
  clear qT qF PH
  generalize V4.setCell ⟨w.heap.size + 1 + 1, 3, none⟩ (.slice (some ⟨G3, 0, none⟩) 32 32) = W5 at *
  have PH := PN
  clear PN
  have NM := hide (numM_any W5 (w.heap.size + 1) g a c xs (0 + 1 + 32 + 32) 1 (HR.out.up PH.out.N) hb PH.out.Q (by omega) (by omega) (by decide))
  go_wp2_with fail
  refine NM.out.mono ?_
  rintro e V6 ⟨rfl, hQ, hT⟩
  have PV := hide (PH.out.call hQ hT)
  have CG2' := hide (CG2.out.tch hT (by omega))
  clear CG2
  have CG2 := CG2'
  clear CG2'
  have CG3' := hide (CG3.out.tch hT (by omega))
  clear CG3
  have CG3 := CG3'
  clear CG3'
  clear NM hQ hT PH
  have PH := PV
  clear PV
  have qT : V6.cell? ⟨w.heap.size + 1 + 1, 10, none⟩ = some (.bool false) := PH.out.T.cell 10
  have qF := PH.out.T.free 10
  go_upto_region 39 with fail
  have PN : Hid (PS w (V6.setCell ⟨w.heap.size + 1 + 1, 10, none⟩ (.bool (beN xs (0 + 1 + 32 + 32) 1 == 1))) (.slice a xs.length c) _ [.int .i64 2, .int .i64 (beN xs 0 1), .slice (some ⟨G2, 0, none⟩) 32 32, .slice (some ⟨G3, 0, none⟩) 32 32, .string ⟨#[]⟩, .slice none 0 0, .slice none 0 0, .int .i64 0, .int .i64 0, .slice none 0 0, .bool (beN xs (0 + 1 + 32 + 32) 1 == 1), .slice none 0 0, .slice none 0 0]) := PH.out.set 10 _
  have CG2' := hide (CG2.out.onl (Only.setCell V6 (w.heap.size + 1 + 1) 10 (.bool (beN xs (0 + 1 + 32 + 32) 1 == 1))) (Nat.le_refl _))
  clear CG2
  have CG2 := CG2'
  clear CG2'
  have CG3' := hide (CG3.out.onl (Only.setCell V6 (w.heap.size + 1 + 1) 10 (.bool (beN xs (0 + 1 + 32 + 32) 1 == 1))) (Nat.le_refl _))
  clear CG3
  have CG3 := CG3'
  clear CG3'
  clear qT qF PH
  generalize V6.setCell ⟨w.heap.size + 1 + 1, 10, none⟩ (.bool (beN xs (0 + 1 + 32 + 32) 1 == 1)) = W7 at *
  have PH := PN
  clear PN
  have RG := PH.out.T.rangeG
  have THR := PH.out.U.thereG
  have RR := World.rangeAt_setCells_same W7 w.heap.size 0 [.int .i64 2, .int .i64 (beN xs 0 1), .slice (some ⟨G2, 0, none⟩) 32 32, .slice (some ⟨G3, 0, none⟩) 32 32, .string ⟨#[]⟩, .slice none 0 0, .slice none 0 0, .int .i64 0, .int .i64 0, .slice none 0 0, .bool (beN xs (0 + 1 + 32 + 32) 1 == 1), .slice none 0 0, .slice none 0 0] THR
  have OQ := only_setG W7 w.heap.size [.int .i64 2, .int .i64 (beN xs 0 1), .slice (some ⟨G2, 0, none⟩) 32 32, .slice (some ⟨G3, 0, none⟩) 32 32, .string ⟨#[]⟩, .slice none 0 0, .slice none 0 0, .int .i64 0, .int .i64 0, .slice none 0 0, .bool (beN xs (0 + 1 + 32 + 32) 1 == 1), .slice none 0 0, .slice none 0 0] 0
  have N8 : Hid (Below w.heap.size w (W7.setCells w.heap.size 0 [.int .i64 2, .int .i64 (beN xs 0 1), .slice (some ⟨G2, 0, none⟩) 32 32, .slice (some ⟨G3, 0, none⟩) 32 32, .string ⟨#[]⟩, .slice none 0 0, .slice none 0 0, .int .i64 0, .int .i64 0, .slice none 0 0, .bool (beN xs (0 + 1 + 32 + 32) 1 == 1), .slice none 0 0, .slice none 0 0])) := PH.out.N.trans (OQ.below (by omega))
  have CG2' := hide (CG2.out.onl OQ (by omega))
  clear CG2
  have CG2 := CG2'
  clear CG2'
  have CG3' := hide (CG3.out.onl OQ (by omega))
  clear CG3
  have CG3 := CG3'
  clear CG3'
  clear OQ PH
  have ON : ([.int .i64 2, .int .i64 (beN xs 0 1), .slice (some ⟨G2, 0, none⟩) 32 32, .slice (some ⟨G3, 0, none⟩) 32 32, .string ⟨#[]⟩, .slice none 0 0, .slice none 0 0, .int .i64 0, .int .i64 0, .slice none 0 0, .bool (beN xs (0 + 1 + 32 + 32) 1 == 1), .slice none 0 0, .slice none 0 0] : List Value).toArray.all (·.oneCell') = true := all_oneCell_toArray fun v hv => by
    simp only [List.mem_cons, List.not_mem_nil, or_false] at hv
    rcases hv with rfl | rfl | rfl | rfl | rfl | rfl | rfl | rfl | rfl | rfl | rfl | rfl | rfl
    all_goals rfl
  have RES : Hid ((∃ p, Ending.returned (.agg #[.int .i64 2, .int .i64 (beN xs 0 1), .slice (some ⟨G2, 0, none⟩) 32 32, .slice (some ⟨G3, 0, none⟩) 32 32, .string ⟨#[]⟩, .slice none 0 0, .slice none 0 0, .int .i64 0, .int .i64 0, .slice none 0 0, .bool (beN xs (0 + 1 + 32 + 32) 1 == 1), .slice none 0 0, .slice none 0 0]) = .returned (.agg (mgV p (rdAnswer xs))) ∧ HasM (W7.setCells w.heap.size 0 [.int .i64 2, .int .i64 (beN xs 0 1), .slice (some ⟨G2, 0, none⟩) 32 32, .slice (some ⟨G3, 0, none⟩) 32 32, .string ⟨#[]⟩, .slice none 0 0, .slice none 0 0, .int .i64 0, .int .i64 0, .slice none 0 0, .bool (beN xs (0 + 1 + 32 + 32) 1 == 1), .slice none 0 0, .slice none 0 0]) p (rdAnswer xs) ∧ HasZ p (rdAnswer xs) ∧ TyM (W7.setCells w.heap.size 0 [.int .i64 2, .int .i64 (beN xs 0 1), .slice (some ⟨G2, 0, none⟩) 32 32, .slice (some ⟨G3, 0, none⟩) 32 32, .string ⟨#[]⟩, .slice none 0 0, .slice none 0 0, .int .i64 0, .int .i64 0, .slice none 0 0, .bool (beN xs (0 + 1 + 32 + 32) 1 == 1), .slice none 0 0, .slice none 0 0]) p (rdAnswer xs) ∧ ∀ g, g < w.heap.size → NoM g p (rdAnswer xs)) ∧ Below w.heap.size w (W7.setCells w.heap.size 0 [.int .i64 2, .int .i64 (beN xs 0 1), .slice (some ⟨G2, 0, none⟩) 32 32, .slice (some ⟨G3, 0, none⟩) 32 32, .string ⟨#[]⟩, .slice none 0 0, .slice none 0 0, .int .i64 0, .int .i64 0, .slice none 0 0, .bool (beN xs (0 + 1 + 32 + 32) 1 == 1), .slice none 0 0, .slice none 0 0])) := ⟨⟨⟨some ⟨G2, 0, none⟩, 32, G2, some ⟨G3, 0, none⟩, 32, G3, none, 0, 0, none, 0, 0, none, 0, 0, none, 0, 0, none, 0, 0, []⟩, by simp only [mgV, rdAnswer, tkB_len, List.length_nil], ⟨CG2.out.1.own0.rd, CG3.out.1.own0.rd, rdT0 _ _ _, rd0 _ _ _ _, rd0 _ _ _ _, rdL0 _ _ _ _, rd0 _ _ _ _, Nat.zero_le _⟩, ⟨(fun h => by cases h), (fun h => by cases h), (fun _ => rfl), (fun _ => rfl), (fun _ => rfl), fun i hi => absurd hi (by simp [rdAnswer])⟩, ⟨fun h => absurd h (by simp [rdAnswer]), fun h => absurd h (by simp [rdAnswer])⟩, (fun g hg => ⟨(fun _ => by have h2 := CG2.out.2; show G2 ≠ _; omega), (fun _ => by have h2 := CG3.out.2; show G3 ≠ _; omega), (fun h => absurd h (by simp [rdAnswer])), (fun h => absurd h (by simp [rdAnswer])), (fun h => absurd h (by simp [rdAnswer])), (fun h => absurd h (by simp [rdAnswer])), (fun i h => absurd h (by simp [rdAnswer])), (fun h => absurd h (by simp [rdAnswer]))⟩)⟩, N8.out⟩
  clear N8
  go_wp2_with (first
    | (refine wpList_load_mid rfl 26 (.tmp 6) rfl (w.heap.size + 1 + 1) 0 rfl [.int .i64 2, .int .i64 (beN xs 0 1), .slice (some ⟨G2, 0, none⟩) 32 32, .slice (some ⟨G3, 0, none⟩) 32 32, .string ⟨#[]⟩, .slice none 0 0, .slice none 0 0, .int .i64 0, .int .i64 0, .slice none 0 0, .bool (beN xs (0 + 1 + 32 + 32) 1 == 1), .slice none 0 0, .slice none 0 0] d13 RG hd13 hrow13 iM ?_)
    | (refine wpList_store_mid rfl 26 (.tmp 4) (.tmp 124) rfl w.heap.size 0 #[.int .i64 2, .int .i64 (beN xs 0 1), .slice (some ⟨G2, 0, none⟩) 32 32, .slice (some ⟨G3, 0, none⟩) 32 32, .string ⟨#[]⟩, .slice none 0 0, .slice none 0 0, .int .i64 0, .int .i64 0, .slice none 0 0, .bool (beN xs (0 + 1 + 32 + 32) 1 == 1), .slice none 0 0, .slice none 0 0] rfl rfl THR iM ON ?_))
  exact bodyPost_ret (v := .agg #[.int .i64 2, .int .i64 (beN xs 0 1), .slice (some ⟨G2, 0, none⟩) 32 32, .slice (some ⟨G3, 0, none⟩) 32 32, .string ⟨#[]⟩, .slice none 0 0, .slice none 0 0, .int .i64 0, .int .i64 0, .slice none 0 0, .bool (beN xs (0 + 1 + 32 + 32) 1 == 1), .slice none 0 0, .slice none 0 0]) (results_cellG Tryz.results19 _ _ w.heap.size _ d13 rfl RR hd13 hrow13 iM) rfl RES.out
end Go.Proofs.YtdnkgmlidhepbaaGreat
