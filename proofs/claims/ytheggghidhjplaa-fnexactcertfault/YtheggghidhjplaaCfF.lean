
/-
  A certificate copied, and held against another.
-/
import Derived.Test.YtheggghidhjplaaCfE
import Derived.Deep.MidRow
import Derived.Deep.DeepCutAuto
namespace Go.Proofs.Ytheggghidhjplaa
open Go Go.RowKit

def zerC : Array Value := #[.slice none 0 0, .string ⟨#[]⟩, .string ⟨#[]⟩, .int .i64 0, .int .i64 0, .slice none 0 0, .slice none 0 0, .bool false, .int .i64 0, .int .i64 0, .slice none 0 0, .slice none 0 0, .slice none 0 0]
theorem iC : (Try.prog.info? 59).map (·.size) = some 13 := by kernel_rfl
theorem rowC : ∃ d, Try.prog.underlying 59 = some d ∧ d.isRow = true := ⟨_, Try.underlying59, rfl⟩
theorem results_cellC {P : Program} {fn : Func} {p : Tmp} {ty : TypeId} (h : fn.results = #[.cell p ty]) (tmps : Array Value) (w : World) (g : Nat) (cs : List Value) (d : TypeDesc)
    (hp : tmps.getD p undef = .pointer (some ⟨g, 0, none⟩)) (hc : w.rangeAt g 0 cs) (hu : P.underlying ty = some d) (hd : d.isRow = true) (hi : (P.info? ty).map (·.size) = some cs.length) :
    (results fn tmps).run P w = .ok (.agg cs.toArray) w := by
  have hp' : tmps[p]?.getD undef = .pointer (some ⟨g, 0, none⟩) := by simpa using hp
  simp [results, h, hp', asAddr, run_loadVar_mid w g 0 ty cs d hc hu hd hi]
theorem only_setCellsC (w : World) (q : Nat) : ∀ (vs : List Value) (o : Nat), Only q w (w.setCells q o vs)
  | [], _ => Only.refl _ _
  | v :: vs, o => (Only.setCell w q o v).trans (only_setCellsC (w.setCell ⟨q, o, none⟩ v) q vs (o + 1))
theorem Thr.free {w : World} {b : Nat} {cs : Array Value} (h : Thr w b cs) (i : Nat) : w.frozen? ⟨b, i, none⟩ = false := by
  obtain ⟨t, h⟩ := h
  exact frozen_of_row w b i cs t h
theorem Thr.set {w : World} {b : Nat} {cs : Array Value} (h : Thr w b cs) (i : Nat) (v : Value) : Thr (w.setCell ⟨b, i, none⟩ v) b (cs.setIfInBounds i v) := by
  obtain ⟨t, h⟩ := h
  exact ⟨t, heap_setCell_same w b i cs t v h⟩
theorem Thr.of_block {w w' : World} {b : Nat} {cs : Array Value} (h : Thr w b cs) (hb : w'.heap[b]? = w.heap[b]?) : Thr w' b cs := by
  obtain ⟨t, h⟩ := h
  exact ⟨t, hb.trans h⟩
theorem Thr.there {w : World} {b : Nat} {cs : Array Value} (h : Thr w b cs) (n : Nat) (hn : n = cs.size) : w.there b 0 n := fun j hj => by
  rw [Nat.zero_add]
  refine ⟨?_, h.free j⟩
  obtain ⟨t, h⟩ := h
  rw [cell_of_row w b j cs t (0, 0) h, Array.getElem?_eq_getElem (by omega)]
  rfl
theorem Thr.range {w : World} {b : Nat} {cs : List Value} (h : Thr w b cs.toArray) : w.rangeAt b 0 cs := fun j v hj => by
  rw [Nat.zero_add]
  exact h.cell j v (by simpa using hj)
/-- Where a copy stands: its source, the place of its answer, and the copy so far. -/
structure TC (w W : World) (src cs : Array Value) : Prop where
  S : Thr W w.heap.size src
  U : Thr W (w.heap.size + 1) zerC
  T : Thr W (w.heap.size + 1 + 1) cs
  N : Below w.heap.size w W
theorem TC.new (w : World) (src : Array Value) (t : TypeId) : TC w (((w.alloc (.cells src t)).alloc (.cells zerC 59)).alloc (.cells zerC 59)) src zerC := by
  have z1 : (w.alloc (.cells src t)).heap.size = w.heap.size + 1 := by simp
  have n1 : Below w.heap.size w (w.alloc (.cells src t)) := (Below.refl _ _).alloc (Nat.le_refl _) _
  have s1 := Thr.new w src t
  generalize w.alloc (.cells src t) = a at *
  have z2 : (a.alloc (.cells zerC 59)).heap.size = a.heap.size + 1 := by simp
  have n2 : Below a.heap.size a (a.alloc (.cells zerC 59)) := (Below.refl _ _).alloc (Nat.le_refl _) _
  have s2 := Thr.new a zerC 59
  generalize a.alloc (.cells zerC 59) = b at *
  have n3 : Below b.heap.size b (b.alloc (.cells zerC 59)) := (Below.refl _ _).alloc (Nat.le_refl _) _
  have s3 := Thr.new b zerC 59
  rw [z2, z1] at s3
  rw [z1] at s2
  exact ⟨(s1.up n2).up n3, s2.up n3, s3, nxt (nxt n1 n2) n3⟩
theorem TC.up {w W W' : World} {src cs : Array Value} (h : TC w W src cs) (m : Below W.heap.size W W') : TC w W' src cs := ⟨h.S.up m, h.U.up m, h.T.up m, nxt h.N m⟩
theorem TC.set {w W : World} {src cs : Array Value} (h : TC w W src cs) (i : Nat) (v : Value) : TC w (W.setCell ⟨w.heap.size + 1 + 1, i, none⟩ v) src (cs.setIfInBounds i v) := by
  have O := Only.setCell W (w.heap.size + 1 + 1) i v
  exact ⟨h.S.of_block (O.block _ (by omega)), h.U.of_block (O.block _ (by omega)), h.T.set i v, h.N.trans (O.below (by omega))⟩
theorem Blk.setO {W : World} {g b i : Nat} {k : IntKind} {xs : List Int} {v : Value} (h : Blk W g k xs) (hb : b < g) : Blk (W.setCell ⟨b, i, none⟩ v) g k xs := h.of_block ((Only.setCell W b i v).block g (by omega))
theorem BlkT.setO {W : World} {g b i : Nat} {xs : List (List UInt8)} {v : Value} (h : BlkT W g xs) (hb : b < g) : BlkT (W.setCell ⟨b, i, none⟩ v) g xs := ((Only.setCell W b i v).block g (by omega)).trans h
/-- A new certificate's places. -/
def newP (C : Crt) (g0 g5 g6 g10 g11 g12 : Nat) : CP := ⟨some ⟨g0, 0, none⟩, C.ser.length, g0, some ⟨g5, 0, none⟩, C.key.length, g5, some ⟨g6, 0, none⟩, C.hos.length, g6, some ⟨g10, 0, none⟩, C.prm.length, g10, some ⟨g11, 0, none⟩, C.exc.length, g11, some ⟨g12, 0, none⟩, C.sig.length, g12⟩
structure NewC (B : Nat) (w : World) (p : CP) (C : Crt) : Prop where
  isP : p = newP C p.g0 p.g5 p.g6 p.g10 p.g11 p.g12
  ser : Blk w p.g0 .u8 C.ser
  key : Blk w p.g5 .u8 C.key
  hos : BlkT w p.g6 C.hos
  prm : BlkT w p.g10 C.prm
  exc : BlkT w p.g11 C.exc
  sig : Blk w p.g12 .u8 C.sig
  o0 : B ≤ p.g0
  o1 : p.g0 < p.g5
  o2 : p.g5 < p.g6
  o3 : p.g6 < p.g10
  o4 : p.g10 < p.g11
  o5 : p.g11 < p.g12
theorem blkRd {w : World} {g : Nat} {xs : List Int} (h : Blk w g .u8 xs) : Rd w g (some ⟨g, 0, none⟩) .u8 xs := fun _ => ⟨0, rfl, fun i hi => by rw [Nat.zero_add]; exact h.cell hi⟩
theorem NewC.has {B : Nat} {w : World} {p : CP} {C : Crt} (h : NewC B w p C) : HasC w p C := by
  have a0 : p.a0 = some ⟨p.g0, 0, none⟩ := congrArg CP.a0 h.isP
  have a5 : p.a5 = some ⟨p.g5, 0, none⟩ := congrArg CP.a5 h.isP
  have a6 : p.a6 = some ⟨p.g6, 0, none⟩ := congrArg CP.a6 h.isP
  have a10 : p.a10 = some ⟨p.g10, 0, none⟩ := congrArg CP.a10 h.isP
  have a11 : p.a11 = some ⟨p.g11, 0, none⟩ := congrArg CP.a11 h.isP
  have a12 : p.a12 = some ⟨p.g12, 0, none⟩ := congrArg CP.a12 h.isP
  exact ⟨a0 ▸ blkRd h.ser, a5 ▸ blkRd h.key, a6 ▸ h.hos.rd, a10 ▸ h.prm.rd, a11 ▸ h.exc.rd, a12 ▸ blkRd h.sig⟩
theorem NewC.up {B : Nat} {w w' : World} {p : CP} {C : Crt} (h : NewC B w p C) (n : Below w.heap.size w w') : NewC B w' p C := ⟨h.isP, h.ser.up n, h.key.up n, h.hos.up n, h.prm.up n, h.exc.up n, h.sig.up n, h.o0, h.o1, h.o2, h.o3, h.o4, h.o5⟩
set_option maxHeartbeats 16000000 in
theorem toCert_any (w : World) (p : CP) (C : Crt) (hC : HasC w p C) (l1 : C.ser.length ≤ 1048576) (l2 : C.key.length ≤ 1048576) (l3 : C.hos.length ≤ 1048576) (l4 : C.prm.length ≤ 1048576) (l5 : C.exc.length ≤ 1048576) (l6 : C.sig.length ≤ 1048576) :
    Calls Try.prog 45 #[.agg (crt p C)] w fun e w' => (∃ q, e = .returned (.agg (crt q C)) ∧ NewC w.heap.size w' q C) ∧ Below w.heap.size w w' := by
  obtain ⟨ser, iss, sub, frm, unt, key, hos, aut, lim, use, prm, exc, sig⟩ := C
  obtain ⟨a0, c0, g0, a5, c5, g5, a6, c6, g6, a10, c10, g10, a11, c11, g11, a12, c12, g12⟩ := p
  obtain ⟨q1, q2, q3, q4, q5, q6⟩ := hC
  simp only at q1 q2 q3 q4 q5 q6 l1 l2 l3 l4 l5 l6
  obtain ⟨d13, hd13, hrow13⟩ := rowC
  have H1 := hide q1
  have H2 := hide q2
  have H3 := hide q3
  have H4 := hide q4
  have H5 := hide q5
  have H6 := hide q6
  clear q1 q2 q3 q4 q5 q6
  have T0 := TC.new w #[.slice a0 ser.length c0, .string ⟨⟨iss⟩⟩, .string ⟨⟨sub⟩⟩, .int .i64 frm, .int .i64 unt, .slice a5 key.length c5, .slice a6 hos.length c6, .bool aut, .int .i64 lim, .int .i64 use, .slice a10 prm.length c10, .slice a11 exc.length c11, .slice a12 sig.length c12] 56
  simp only [crt]
  unfold zerC at T0
  go_enter Try.func45, Try.ntmps45
  go_upto_region 2 with fail
  generalize ((w.alloc (.cells #[.slice a0 ser.length c0, .string ⟨⟨iss⟩⟩, .string ⟨⟨sub⟩⟩, .int .i64 frm, .int .i64 unt, .slice a5 key.length c5, .slice a6 hos.length c6, .bool aut, .int .i64 lim, .int .i64 use, .slice a10 prm.length c10, .slice a11 exc.length c11, .slice a12 sig.length c12] 56)).alloc (.cells #[.slice none 0 0, .string ⟨#[]⟩, .string ⟨#[]⟩, .int .i64 0, .int .i64 0, .slice none 0 0, .slice none 0 0, .bool false, .int .i64 0, .int .i64 0, .slice none 0 0, .slice none 0 0, .slice none 0 0] 59)).alloc (.cells #[.slice none 0 0, .string ⟨#[]⟩, .string ⟨#[]⟩, .int .i64 0, .int .i64 0, .slice none 0 0, .slice none 0 0, .bool false, .int .i64 0, .int .i64 0, .slice none 0 0, .slice none 0 0, .slice none 0 0] 59) = W0 at *
  have TH := hide T0
  clear T0
  have qS := TH.out.S.cell 0 _ rfl
  go_wp2_with fail
  refine (toByteS_any W0 g0 a0 c0 ser (H1.out.up TH.out.N) l1).mono ?_
  rintro e V0 ⟨rfl, B0, m⟩
  have lt0 := TH.out.T.lt
  have TM := hide (TH.out.up m)
  clear qS TH m 
  obtain ⟨G0, hG0⟩ : ∃ G, W0.heap.size = G := ⟨_, rfl⟩
  rw [hG0] at B0 lt0  ⊢
  clear hG0
  have qT := TM.out.T.cell 0 _ rfl
  have qF := TM.out.T.free 0
  have A0 := hide B0
  clear B0
  go_upto_region 3 with fail
  have TN : Hid (TC w (V0.setCell ⟨w.heap.size + 1 + 1, 0, none⟩ (.slice (some ⟨G0, 0, none⟩) ser.length ser.length)) #[.slice a0 ser.length c0, .string ⟨⟨iss⟩⟩, .string ⟨⟨sub⟩⟩, .int .i64 frm, .int .i64 unt, .slice a5 key.length c5, .slice a6 hos.length c6, .bool aut, .int .i64 lim, .int .i64 use, .slice a10 prm.length c10, .slice a11 exc.length c11, .slice a12 sig.length c12] #[.slice (some ⟨G0, 0, none⟩) ser.length ser.length, .string ⟨#[]⟩, .string ⟨#[]⟩, .int .i64 0, .int .i64 0, .slice none 0 0, .slice none 0 0, .bool false, .int .i64 0, .int .i64 0, .slice none 0 0, .slice none 0 0, .slice none 0 0]) := TM.out.set 0 _
  have C0 := hide (A0.out.setO (b := w.heap.size + 1 + 1) (i := 0) (v := .slice (some ⟨G0, 0, none⟩) ser.length ser.length) (by omega))
  clear qT qF TM A0 
  generalize V0.setCell ⟨w.heap.size + 1 + 1, 0, none⟩ (.slice (some ⟨G0, 0, none⟩) ser.length ser.length) = W1 at *
  have TH := TN
  clear TN
  have qS := TH.out.S.cell 1 _ rfl
  have qT := TH.out.T.cell 1 _ rfl
  have qF := TH.out.T.free 1
  go_upto_region 4 with fail
  have TN : Hid (TC w (W1.setCell ⟨w.heap.size + 1 + 1, 1, none⟩ (.string ⟨⟨iss⟩⟩)) #[.slice a0 ser.length c0, .string ⟨⟨iss⟩⟩, .string ⟨⟨sub⟩⟩, .int .i64 frm, .int .i64 unt, .slice a5 key.length c5, .slice a6 hos.length c6, .bool aut, .int .i64 lim, .int .i64 use, .slice a10 prm.length c10, .slice a11 exc.length c11, .slice a12 sig.length c12] #[.slice (some ⟨G0, 0, none⟩) ser.length ser.length, .string ⟨⟨iss⟩⟩, .string ⟨#[]⟩, .int .i64 0, .int .i64 0, .slice none 0 0, .slice none 0 0, .bool false, .int .i64 0, .int .i64 0, .slice none 0 0, .slice none 0 0, .slice none 0 0]) := TH.out.set 1 _
  have C0n := hide (C0.out.setO (b := w.heap.size + 1 + 1) (i := 1) (v := .string ⟨⟨iss⟩⟩) (by omega))
  clear qS qT qF TH C0
  generalize W1.setCell ⟨w.heap.size + 1 + 1, 1, none⟩ (.string ⟨⟨iss⟩⟩) = W2 at *
  have TH := TN
  clear TN
  have C0 := C0n
  clear C0n
  have qS := TH.out.S.cell 2 _ rfl
  have qT := TH.out.T.cell 2 _ rfl
  have qF := TH.out.T.free 2
  go_upto_region 5 with fail
  have TN : Hid (TC w (W2.setCell ⟨w.heap.size + 1 + 1, 2, none⟩ (.string ⟨⟨sub⟩⟩)) #[.slice a0 ser.length c0, .string ⟨⟨iss⟩⟩, .string ⟨⟨sub⟩⟩, .int .i64 frm, .int .i64 unt, .slice a5 key.length c5, .slice a6 hos.length c6, .bool aut, .int .i64 lim, .int .i64 use, .slice a10 prm.length c10, .slice a11 exc.length c11, .slice a12 sig.length c12] #[.slice (some ⟨G0, 0, none⟩) ser.length ser.length, .string ⟨⟨iss⟩⟩, .string ⟨⟨sub⟩⟩, .int .i64 0, .int .i64 0, .slice none 0 0, .slice none 0 0, .bool false, .int .i64 0, .int .i64 0, .slice none 0 0, .slice none 0 0, .slice none 0 0]) := TH.out.set 2 _
  have C0n := hide (C0.out.setO (b := w.heap.size + 1 + 1) (i := 2) (v := .string ⟨⟨sub⟩⟩) (by omega))
  clear qS qT qF TH C0
  generalize W2.setCell ⟨w.heap.size + 1 + 1, 2, none⟩ (.string ⟨⟨sub⟩⟩) = W3 at *
  have TH := TN
  clear TN
  have C0 := C0n
  clear C0n
  have qS := TH.out.S.cell 3 _ rfl
  have qT := TH.out.T.cell 3 _ rfl
  have qF := TH.out.T.free 3
  go_upto_region 6 with fail
  have TN : Hid (TC w (W3.setCell ⟨w.heap.size + 1 + 1, 3, none⟩ (.int .i64 frm)) #[.slice a0 ser.length c0, .string ⟨⟨iss⟩⟩, .string ⟨⟨sub⟩⟩, .int .i64 frm, .int .i64 unt, .slice a5 key.length c5, .slice a6 hos.length c6, .bool aut, .int .i64 lim, .int .i64 use, .slice a10 prm.length c10, .slice a11 exc.length c11, .slice a12 sig.length c12] #[.slice (some ⟨G0, 0, none⟩) ser.length ser.length, .string ⟨⟨iss⟩⟩, .string ⟨⟨sub⟩⟩, .int .i64 frm, .int .i64 0, .slice none 0 0, .slice none 0 0, .bool false, .int .i64 0, .int .i64 0, .slice none 0 0, .slice none 0 0, .slice none 0 0]) := TH.out.set 3 _
  have C0n := hide (C0.out.setO (b := w.heap.size + 1 + 1) (i := 3) (v := .int .i64 frm) (by omega))
  clear qS qT qF TH C0
  generalize W3.setCell ⟨w.heap.size + 1 + 1, 3, none⟩ (.int .i64 frm) = W4 at *
  have TH := TN
  clear TN
  have C0 := C0n
  clear C0n
  have qS := TH.out.S.cell 4 _ rfl
  have qT := TH.out.T.cell 4 _ rfl
  have qF := TH.out.T.free 4
  go_upto_region 7 with fail
  have TN : Hid (TC w (W4.setCell ⟨w.heap.size + 1 + 1, 4, none⟩ (.int .i64 unt)) #[.slice a0 ser.length c0, .string ⟨⟨iss⟩⟩, .string ⟨⟨sub⟩⟩, .int .i64 frm, .int .i64 unt, .slice a5 key.length c5, .slice a6 hos.length c6, .bool aut, .int .i64 lim, .int .i64 use, .slice a10 prm.length c10, .slice a11 exc.length c11, .slice a12 sig.length c12] #[.slice (some ⟨G0, 0, none⟩) ser.length ser.length, .string ⟨⟨iss⟩⟩, .string ⟨⟨sub⟩⟩, .int .i64 frm, .int .i64 unt, .slice none 0 0, .slice none 0 0, .bool false, .int .i64 0, .int .i64 0, .slice none 0 0, .slice none 0 0, .slice none 0 0]) := TH.out.set 4 _
  have C0n := hide (C0.out.setO (b := w.heap.size + 1 + 1) (i := 4) (v := .int .i64 unt) (by omega))
  clear qS qT qF TH C0
  generalize W4.setCell ⟨w.heap.size + 1 + 1, 4, none⟩ (.int .i64 unt) = W5 at *
  have TH := TN
  clear TN
  have C0 := C0n
  clear C0n
  have qS := TH.out.S.cell 5 _ rfl
  go_wp2_with fail
  refine (toByteS_any W5 g5 a5 c5 key (H2.out.up TH.out.N) l2).mono ?_
  rintro e V5 ⟨rfl, B5, m⟩
  have lt5 := TH.out.T.lt
  have G0l := C0.out.lt
  have TM := hide (TH.out.up m)
  have C0n := hide (C0.out.up m)
  clear qS TH m C0
  obtain ⟨G5, hG5⟩ : ∃ G, W5.heap.size = G := ⟨_, rfl⟩
  rw [hG5] at B5 lt5 G0l ⊢
  clear hG5
  have qT := TM.out.T.cell 5 _ rfl
  have qF := TM.out.T.free 5
  have A5 := hide B5
  clear B5
  go_upto_region 8 with fail
  have TN : Hid (TC w (V5.setCell ⟨w.heap.size + 1 + 1, 5, none⟩ (.slice (some ⟨G5, 0, none⟩) key.length key.length)) #[.slice a0 ser.length c0, .string ⟨⟨iss⟩⟩, .string ⟨⟨sub⟩⟩, .int .i64 frm, .int .i64 unt, .slice a5 key.length c5, .slice a6 hos.length c6, .bool aut, .int .i64 lim, .int .i64 use, .slice a10 prm.length c10, .slice a11 exc.length c11, .slice a12 sig.length c12] #[.slice (some ⟨G0, 0, none⟩) ser.length ser.length, .string ⟨⟨iss⟩⟩, .string ⟨⟨sub⟩⟩, .int .i64 frm, .int .i64 unt, .slice (some ⟨G5, 0, none⟩) key.length key.length, .slice none 0 0, .bool false, .int .i64 0, .int .i64 0, .slice none 0 0, .slice none 0 0, .slice none 0 0]) := TM.out.set 5 _
  have C5 := hide (A5.out.setO (b := w.heap.size + 1 + 1) (i := 5) (v := .slice (some ⟨G5, 0, none⟩) key.length key.length) (by omega))
  have C0o := hide (C0n.out.setO (b := w.heap.size + 1 + 1) (i := 5) (v := .slice (some ⟨G5, 0, none⟩) key.length key.length) (by omega))
  clear qT qF TM A5 C0n
  generalize V5.setCell ⟨w.heap.size + 1 + 1, 5, none⟩ (.slice (some ⟨G5, 0, none⟩) key.length key.length) = W6 at *
  have TH := TN
  clear TN
  have C0 := C0o
  clear C0o
  have qS := TH.out.S.cell 6 _ rfl
  go_wp2_with fail
  refine (toStringS_any W6 g6 a6 c6 hos (H3.out.up TH.out.N) l3).mono ?_
  rintro e V6 ⟨rfl, B6, m⟩
  have lt6 := TH.out.T.lt
  have G0l := C0.out.lt
  have G5l := C5.out.lt
  have TM := hide (TH.out.up m)
  have C0n := hide (C0.out.up m)
  have C5n := hide (C5.out.up m)
  clear qS TH m C0 C5
  obtain ⟨G6, hG6⟩ : ∃ G, W6.heap.size = G := ⟨_, rfl⟩
  rw [hG6] at B6 lt6 G0l G5l ⊢
  clear hG6
  have qT := TM.out.T.cell 6 _ rfl
  have qF := TM.out.T.free 6
  have A6 := hide B6
  clear B6
  go_upto_region 9 with fail
  have TN : Hid (TC w (V6.setCell ⟨w.heap.size + 1 + 1, 6, none⟩ (.slice (some ⟨G6, 0, none⟩) hos.length hos.length)) #[.slice a0 ser.length c0, .string ⟨⟨iss⟩⟩, .string ⟨⟨sub⟩⟩, .int .i64 frm, .int .i64 unt, .slice a5 key.length c5, .slice a6 hos.length c6, .bool aut, .int .i64 lim, .int .i64 use, .slice a10 prm.length c10, .slice a11 exc.length c11, .slice a12 sig.length c12] #[.slice (some ⟨G0, 0, none⟩) ser.length ser.length, .string ⟨⟨iss⟩⟩, .string ⟨⟨sub⟩⟩, .int .i64 frm, .int .i64 unt, .slice (some ⟨G5, 0, none⟩) key.length key.length, .slice (some ⟨G6, 0, none⟩) hos.length hos.length, .bool false, .int .i64 0, .int .i64 0, .slice none 0 0, .slice none 0 0, .slice none 0 0]) := TM.out.set 6 _
  have C6 := hide (A6.out.setO (b := w.heap.size + 1 + 1) (i := 6) (v := .slice (some ⟨G6, 0, none⟩) hos.length hos.length) (by omega))
  have C0o := hide (C0n.out.setO (b := w.heap.size + 1 + 1) (i := 6) (v := .slice (some ⟨G6, 0, none⟩) hos.length hos.length) (by omega))
  have C5o := hide (C5n.out.setO (b := w.heap.size + 1 + 1) (i := 6) (v := .slice (some ⟨G6, 0, none⟩) hos.length hos.length) (by omega))
  clear qT qF TM A6 C0n C5n
  generalize V6.setCell ⟨w.heap.size + 1 + 1, 6, none⟩ (.slice (some ⟨G6, 0, none⟩) hos.length hos.length) = W7 at *
  have TH := TN
  clear TN
  have C0 := C0o
  clear C0o
  have C5 := C5o
  clear C5o
  have qS := TH.out.S.cell 7 _ rfl
  have qT := TH.out.T.cell 7 _ rfl
  have qF := TH.out.T.free 7
  go_upto_region 10 with fail
  have TN : Hid (TC w (W7.setCell ⟨w.heap.size + 1 + 1, 7, none⟩ (.bool aut)) #[.slice a0 ser.length c0, .string ⟨⟨iss⟩⟩, .string ⟨⟨sub⟩⟩, .int .i64 frm, .int .i64 unt, .slice a5 key.length c5, .slice a6 hos.length c6, .bool aut, .int .i64 lim, .int .i64 use, .slice a10 prm.length c10, .slice a11 exc.length c11, .slice a12 sig.length c12] #[.slice (some ⟨G0, 0, none⟩) ser.length ser.length, .string ⟨⟨iss⟩⟩, .string ⟨⟨sub⟩⟩, .int .i64 frm, .int .i64 unt, .slice (some ⟨G5, 0, none⟩) key.length key.length, .slice (some ⟨G6, 0, none⟩) hos.length hos.length, .bool aut, .int .i64 0, .int .i64 0, .slice none 0 0, .slice none 0 0, .slice none 0 0]) := TH.out.set 7 _
  have C0n := hide (C0.out.setO (b := w.heap.size + 1 + 1) (i := 7) (v := .bool aut) (by omega))
  have C5n := hide (C5.out.setO (b := w.heap.size + 1 + 1) (i := 7) (v := .bool aut) (by omega))
  have C6n := hide (C6.out.setO (b := w.heap.size + 1 + 1) (i := 7) (v := .bool aut) (by omega))
  clear qS qT qF TH C0 C5 C6
  generalize W7.setCell ⟨w.heap.size + 1 + 1, 7, none⟩ (.bool aut) = W8 at *
  have TH := TN
  clear TN
  have C0 := C0n
  clear C0n
  have C5 := C5n
  clear C5n
  have C6 := C6n
  clear C6n
  have qS := TH.out.S.cell 8 _ rfl
  have qT := TH.out.T.cell 8 _ rfl
  have qF := TH.out.T.free 8
  go_upto_region 11 with fail
  have TN : Hid (TC w (W8.setCell ⟨w.heap.size + 1 + 1, 8, none⟩ (.int .i64 lim)) #[.slice a0 ser.length c0, .string ⟨⟨iss⟩⟩, .string ⟨⟨sub⟩⟩, .int .i64 frm, .int .i64 unt, .slice a5 key.length c5, .slice a6 hos.length c6, .bool aut, .int .i64 lim, .int .i64 use, .slice a10 prm.length c10, .slice a11 exc.length c11, .slice a12 sig.length c12] #[.slice (some ⟨G0, 0, none⟩) ser.length ser.length, .string ⟨⟨iss⟩⟩, .string ⟨⟨sub⟩⟩, .int .i64 frm, .int .i64 unt, .slice (some ⟨G5, 0, none⟩) key.length key.length, .slice (some ⟨G6, 0, none⟩) hos.length hos.length, .bool aut, .int .i64 lim, .int .i64 0, .slice none 0 0, .slice none 0 0, .slice none 0 0]) := TH.out.set 8 _
  have C0n := hide (C0.out.setO (b := w.heap.size + 1 + 1) (i := 8) (v := .int .i64 lim) (by omega))
  have C5n := hide (C5.out.setO (b := w.heap.size + 1 + 1) (i := 8) (v := .int .i64 lim) (by omega))
  have C6n := hide (C6.out.setO (b := w.heap.size + 1 + 1) (i := 8) (v := .int .i64 lim) (by omega))
  clear qS qT qF TH C0 C5 C6
  generalize W8.setCell ⟨w.heap.size + 1 + 1, 8, none⟩ (.int .i64 lim) = W9 at *
  have TH := TN
  clear TN
  have C0 := C0n
  clear C0n
  have C5 := C5n
  clear C5n
  have C6 := C6n
  clear C6n
  have qS := TH.out.S.cell 9 _ rfl
  have qT := TH.out.T.cell 9 _ rfl
  have qF := TH.out.T.free 9
  go_upto_region 12 with fail
  have TN : Hid (TC w (W9.setCell ⟨w.heap.size + 1 + 1, 9, none⟩ (.int .i64 use)) #[.slice a0 ser.length c0, .string ⟨⟨iss⟩⟩, .string ⟨⟨sub⟩⟩, .int .i64 frm, .int .i64 unt, .slice a5 key.length c5, .slice a6 hos.length c6, .bool aut, .int .i64 lim, .int .i64 use, .slice a10 prm.length c10, .slice a11 exc.length c11, .slice a12 sig.length c12] #[.slice (some ⟨G0, 0, none⟩) ser.length ser.length, .string ⟨⟨iss⟩⟩, .string ⟨⟨sub⟩⟩, .int .i64 frm, .int .i64 unt, .slice (some ⟨G5, 0, none⟩) key.length key.length, .slice (some ⟨G6, 0, none⟩) hos.length hos.length, .bool aut, .int .i64 lim, .int .i64 use, .slice none 0 0, .slice none 0 0, .slice none 0 0]) := TH.out.set 9 _
  have C0n := hide (C0.out.setO (b := w.heap.size + 1 + 1) (i := 9) (v := .int .i64 use) (by omega))
  have C5n := hide (C5.out.setO (b := w.heap.size + 1 + 1) (i := 9) (v := .int .i64 use) (by omega))
  have C6n := hide (C6.out.setO (b := w.heap.size + 1 + 1) (i := 9) (v := .int .i64 use) (by omega))
  clear qS qT qF TH C0 C5 C6
  generalize W9.setCell ⟨w.heap.size + 1 + 1, 9, none⟩ (.int .i64 use) = W10 at *
  have TH := TN
  clear TN
  have C0 := C0n
  clear C0n
  have C5 := C5n
  clear C5n
  have C6 := C6n
  clear C6n
  have qS := TH.out.S.cell 10 _ rfl
  go_wp2_with fail
  refine (toStringS_any W10 g10 a10 c10 prm (H4.out.up TH.out.N) l4).mono ?_
  rintro e V10 ⟨rfl, B10, m⟩
  have lt10 := TH.out.T.lt
  have G0l := C0.out.lt
  have G5l := C5.out.lt
  have G6l := C6.out.lt
  have TM := hide (TH.out.up m)
  have C0n := hide (C0.out.up m)
  have C5n := hide (C5.out.up m)
  have C6n := hide (C6.out.up m)
  clear qS TH m C0 C5 C6
  obtain ⟨G10, hG10⟩ : ∃ G, W10.heap.size = G := ⟨_, rfl⟩
  rw [hG10] at B10 lt10 G0l G5l G6l ⊢
  clear hG10
  have qT := TM.out.T.cell 10 _ rfl
  have qF := TM.out.T.free 10
  have A10 := hide B10
  clear B10
  go_upto_region 13 with fail
  have TN : Hid (TC w (V10.setCell ⟨w.heap.size + 1 + 1, 10, none⟩ (.slice (some ⟨G10, 0, none⟩) prm.length prm.length)) #[.slice a0 ser.length c0, .string ⟨⟨iss⟩⟩, .string ⟨⟨sub⟩⟩, .int .i64 frm, .int .i64 unt, .slice a5 key.length c5, .slice a6 hos.length c6, .bool aut, .int .i64 lim, .int .i64 use, .slice a10 prm.length c10, .slice a11 exc.length c11, .slice a12 sig.length c12] #[.slice (some ⟨G0, 0, none⟩) ser.length ser.length, .string ⟨⟨iss⟩⟩, .string ⟨⟨sub⟩⟩, .int .i64 frm, .int .i64 unt, .slice (some ⟨G5, 0, none⟩) key.length key.length, .slice (some ⟨G6, 0, none⟩) hos.length hos.length, .bool aut, .int .i64 lim, .int .i64 use, .slice (some ⟨G10, 0, none⟩) prm.length prm.length, .slice none 0 0, .slice none 0 0]) := TM.out.set 10 _
  have C10 := hide (A10.out.setO (b := w.heap.size + 1 + 1) (i := 10) (v := .slice (some ⟨G10, 0, none⟩) prm.length prm.length) (by omega))
  have C0o := hide (C0n.out.setO (b := w.heap.size + 1 + 1) (i := 10) (v := .slice (some ⟨G10, 0, none⟩) prm.length prm.length) (by omega))
  have C5o := hide (C5n.out.setO (b := w.heap.size + 1 + 1) (i := 10) (v := .slice (some ⟨G10, 0, none⟩) prm.length prm.length) (by omega))
  have C6o := hide (C6n.out.setO (b := w.heap.size + 1 + 1) (i := 10) (v := .slice (some ⟨G10, 0, none⟩) prm.length prm.length) (by omega))
  clear qT qF TM A10 C0n C5n C6n
  generalize V10.setCell ⟨w.heap.size + 1 + 1, 10, none⟩ (.slice (some ⟨G10, 0, none⟩) prm.length prm.length) = W11 at *
  have TH := TN
  clear TN
  have C0 := C0o
  clear C0o
  have C5 := C5o
  clear C5o
  have C6 := C6o
  clear C6o
  have qS := TH.out.S.cell 11 _ rfl
  go_wp2_with fail
  refine (toStringS_any W11 g11 a11 c11 exc (H5.out.up TH.out.N) l5).mono ?_
  rintro e V11 ⟨rfl, B11, m⟩
  have lt11 := TH.out.T.lt
  have G0l := C0.out.lt
  have G5l := C5.out.lt
  have G6l := C6.out.lt
  have G10l := C10.out.lt
  have TM := hide (TH.out.up m)
  have C0n := hide (C0.out.up m)
  have C5n := hide (C5.out.up m)
  have C6n := hide (C6.out.up m)
  have C10n := hide (C10.out.up m)
  clear qS TH m C0 C5 C6 C10
  obtain ⟨G11, hG11⟩ : ∃ G, W11.heap.size = G := ⟨_, rfl⟩
  rw [hG11] at B11 lt11 G0l G5l G6l G10l ⊢
  clear hG11
  have qT := TM.out.T.cell 11 _ rfl
  have qF := TM.out.T.free 11
  have A11 := hide B11
  clear B11
  go_upto_region 14 with fail
  have TN : Hid (TC w (V11.setCell ⟨w.heap.size + 1 + 1, 11, none⟩ (.slice (some ⟨G11, 0, none⟩) exc.length exc.length)) #[.slice a0 ser.length c0, .string ⟨⟨iss⟩⟩, .string ⟨⟨sub⟩⟩, .int .i64 frm, .int .i64 unt, .slice a5 key.length c5, .slice a6 hos.length c6, .bool aut, .int .i64 lim, .int .i64 use, .slice a10 prm.length c10, .slice a11 exc.length c11, .slice a12 sig.length c12] #[.slice (some ⟨G0, 0, none⟩) ser.length ser.length, .string ⟨⟨iss⟩⟩, .string ⟨⟨sub⟩⟩, .int .i64 frm, .int .i64 unt, .slice (some ⟨G5, 0, none⟩) key.length key.length, .slice (some ⟨G6, 0, none⟩) hos.length hos.length, .bool aut, .int .i64 lim, .int .i64 use, .slice (some ⟨G10, 0, none⟩) prm.length prm.length, .slice (some ⟨G11, 0, none⟩) exc.length exc.length, .slice none 0 0]) := TM.out.set 11 _
  have C11 := hide (A11.out.setO (b := w.heap.size + 1 + 1) (i := 11) (v := .slice (some ⟨G11, 0, none⟩) exc.length exc.length) (by omega))
  have C0o := hide (C0n.out.setO (b := w.heap.size + 1 + 1) (i := 11) (v := .slice (some ⟨G11, 0, none⟩) exc.length exc.length) (by omega))
  have C5o := hide (C5n.out.setO (b := w.heap.size + 1 + 1) (i := 11) (v := .slice (some ⟨G11, 0, none⟩) exc.length exc.length) (by omega))
  have C6o := hide (C6n.out.setO (b := w.heap.size + 1 + 1) (i := 11) (v := .slice (some ⟨G11, 0, none⟩) exc.length exc.length) (by omega))
  have C10o := hide (C10n.out.setO (b := w.heap.size + 1 + 1) (i := 11) (v := .slice (some ⟨G11, 0, none⟩) exc.length exc.length) (by omega))
  clear qT qF TM A11 C0n C5n C6n C10n
  generalize V11.setCell ⟨w.heap.size + 1 + 1, 11, none⟩ (.slice (some ⟨G11, 0, none⟩) exc.length exc.length) = W12 at *
  have TH := TN
  clear TN
  have C0 := C0o
  clear C0o
  have C5 := C5o
  clear C5o
  have C6 := C6o
  clear C6o
  have C10 := C10o
  clear C10o
  have qS := TH.out.S.cell 12 _ rfl
  go_wp2_with fail
  refine (toByteS_any W12 g12 a12 c12 sig (H6.out.up TH.out.N) l6).mono ?_
  rintro e V12 ⟨rfl, B12, m⟩
  have lt12 := TH.out.T.lt
  have G0l := C0.out.lt
  have G5l := C5.out.lt
  have G6l := C6.out.lt
  have G10l := C10.out.lt
  have G11l := C11.out.lt
  have TM := hide (TH.out.up m)
  have C0n := hide (C0.out.up m)
  have C5n := hide (C5.out.up m)
  have C6n := hide (C6.out.up m)
  have C10n := hide (C10.out.up m)
  have C11n := hide (C11.out.up m)
  clear qS TH m C0 C5 C6 C10 C11
  obtain ⟨G12, hG12⟩ : ∃ G, W12.heap.size = G := ⟨_, rfl⟩
  rw [hG12] at B12 lt12 G0l G5l G6l G10l G11l ⊢
  clear hG12
  have qT := TM.out.T.cell 12 _ rfl
  have qF := TM.out.T.free 12
  have A12 := hide B12
  clear B12
  go_upto_region 15 with fail
  have TN : Hid (TC w (V12.setCell ⟨w.heap.size + 1 + 1, 12, none⟩ (.slice (some ⟨G12, 0, none⟩) sig.length sig.length)) #[.slice a0 ser.length c0, .string ⟨⟨iss⟩⟩, .string ⟨⟨sub⟩⟩, .int .i64 frm, .int .i64 unt, .slice a5 key.length c5, .slice a6 hos.length c6, .bool aut, .int .i64 lim, .int .i64 use, .slice a10 prm.length c10, .slice a11 exc.length c11, .slice a12 sig.length c12] #[.slice (some ⟨G0, 0, none⟩) ser.length ser.length, .string ⟨⟨iss⟩⟩, .string ⟨⟨sub⟩⟩, .int .i64 frm, .int .i64 unt, .slice (some ⟨G5, 0, none⟩) key.length key.length, .slice (some ⟨G6, 0, none⟩) hos.length hos.length, .bool aut, .int .i64 lim, .int .i64 use, .slice (some ⟨G10, 0, none⟩) prm.length prm.length, .slice (some ⟨G11, 0, none⟩) exc.length exc.length, .slice (some ⟨G12, 0, none⟩) sig.length sig.length]) := TM.out.set 12 _
  have C12 := hide (A12.out.setO (b := w.heap.size + 1 + 1) (i := 12) (v := .slice (some ⟨G12, 0, none⟩) sig.length sig.length) (by omega))
  have C0o := hide (C0n.out.setO (b := w.heap.size + 1 + 1) (i := 12) (v := .slice (some ⟨G12, 0, none⟩) sig.length sig.length) (by omega))
  have C5o := hide (C5n.out.setO (b := w.heap.size + 1 + 1) (i := 12) (v := .slice (some ⟨G12, 0, none⟩) sig.length sig.length) (by omega))
  have C6o := hide (C6n.out.setO (b := w.heap.size + 1 + 1) (i := 12) (v := .slice (some ⟨G12, 0, none⟩) sig.length sig.length) (by omega))
  have C10o := hide (C10n.out.setO (b := w.heap.size + 1 + 1) (i := 12) (v := .slice (some ⟨G12, 0, none⟩) sig.length sig.length) (by omega))
  have C11o := hide (C11n.out.setO (b := w.heap.size + 1 + 1) (i := 12) (v := .slice (some ⟨G12, 0, none⟩) sig.length sig.length) (by omega))
  clear qT qF TM A12 C0n C5n C6n C10n C11n
  generalize V12.setCell ⟨w.heap.size + 1 + 1, 12, none⟩ (.slice (some ⟨G12, 0, none⟩) sig.length sig.length) = W13 at *
  have TH := TN
  clear TN
  have C0 := C0o
  clear C0o
  have C5 := C5o
  clear C5o
  have C6 := C6o
  clear C6o
  have C10 := C10o
  clear C10o
  have C11 := C11o
  clear C11o
  have RG : W13.rangeAt (w.heap.size + 1 + 1) 0 [.slice (some ⟨G0, 0, none⟩) ser.length ser.length, .string ⟨⟨iss⟩⟩, .string ⟨⟨sub⟩⟩, .int .i64 frm, .int .i64 unt, .slice (some ⟨G5, 0, none⟩) key.length key.length, .slice (some ⟨G6, 0, none⟩) hos.length hos.length, .bool aut, .int .i64 lim, .int .i64 use, .slice (some ⟨G10, 0, none⟩) prm.length prm.length, .slice (some ⟨G11, 0, none⟩) exc.length exc.length, .slice (some ⟨G12, 0, none⟩) sig.length sig.length] := TH.out.T.range
  have THR := TH.out.U.there 13 rfl
  have RR := World.rangeAt_setCells_same W13 (w.heap.size + 1) 0 [.slice (some ⟨G0, 0, none⟩) ser.length ser.length, .string ⟨⟨iss⟩⟩, .string ⟨⟨sub⟩⟩, .int .i64 frm, .int .i64 unt, .slice (some ⟨G5, 0, none⟩) key.length key.length, .slice (some ⟨G6, 0, none⟩) hos.length hos.length, .bool aut, .int .i64 lim, .int .i64 use, .slice (some ⟨G10, 0, none⟩) prm.length prm.length, .slice (some ⟨G11, 0, none⟩) exc.length exc.length, .slice (some ⟨G12, 0, none⟩) sig.length sig.length] THR
  have OQ := only_setCellsC W13 (w.heap.size + 1) [.slice (some ⟨G0, 0, none⟩) ser.length ser.length, .string ⟨⟨iss⟩⟩, .string ⟨⟨sub⟩⟩, .int .i64 frm, .int .i64 unt, .slice (some ⟨G5, 0, none⟩) key.length key.length, .slice (some ⟨G6, 0, none⟩) hos.length hos.length, .bool aut, .int .i64 lim, .int .i64 use, .slice (some ⟨G10, 0, none⟩) prm.length prm.length, .slice (some ⟨G11, 0, none⟩) exc.length exc.length, .slice (some ⟨G12, 0, none⟩) sig.length sig.length] 0
  have N8 : Hid (Below w.heap.size w (W13.setCells (w.heap.size + 1) 0 [.slice (some ⟨G0, 0, none⟩) ser.length ser.length, .string ⟨⟨iss⟩⟩, .string ⟨⟨sub⟩⟩, .int .i64 frm, .int .i64 unt, .slice (some ⟨G5, 0, none⟩) key.length key.length, .slice (some ⟨G6, 0, none⟩) hos.length hos.length, .bool aut, .int .i64 lim, .int .i64 use, .slice (some ⟨G10, 0, none⟩) prm.length prm.length, .slice (some ⟨G11, 0, none⟩) exc.length exc.length, .slice (some ⟨G12, 0, none⟩) sig.length sig.length])) := TH.out.N.trans (OQ.below (by omega))
  have C0f := hide (C0.out.of_block (OQ.block G0 (by omega)))
  have C5f := hide (C5.out.of_block (OQ.block G5 (by omega)))
  have C6f := hide ((OQ.block G6 (by omega)).trans C6.out)
  have C10f := hide ((OQ.block G10 (by omega)).trans C10.out)
  have C11f := hide ((OQ.block G11 (by omega)).trans C11.out)
  have C12f := hide (C12.out.of_block (OQ.block G12 (by omega)))
  clear OQ TH C0 C5 C6 C10 C11 C12
  have ON : ([.slice (some ⟨G0, 0, none⟩) ser.length ser.length, .string ⟨⟨iss⟩⟩, .string ⟨⟨sub⟩⟩, .int .i64 frm, .int .i64 unt, .slice (some ⟨G5, 0, none⟩) key.length key.length, .slice (some ⟨G6, 0, none⟩) hos.length hos.length, .bool aut, .int .i64 lim, .int .i64 use, .slice (some ⟨G10, 0, none⟩) prm.length prm.length, .slice (some ⟨G11, 0, none⟩) exc.length exc.length, .slice (some ⟨G12, 0, none⟩) sig.length sig.length] : List Value).toArray.all (·.oneCell') = true := all_oneCell_toArray fun v hv => by
    simp only [List.mem_cons, List.not_mem_nil, or_false] at hv
    rcases hv with rfl | rfl | rfl | rfl | rfl | rfl | rfl | rfl | rfl | rfl | rfl | rfl | rfl
    all_goals rfl
  go_wp2_with (first
    | (refine wpList_load_mid rfl 59 (.tmp 3) rfl (w.heap.size + 1 + 1) 0 rfl [.slice (some ⟨G0, 0, none⟩) ser.length ser.length, .string ⟨⟨iss⟩⟩, .string ⟨⟨sub⟩⟩, .int .i64 frm, .int .i64 unt, .slice (some ⟨G5, 0, none⟩) key.length key.length, .slice (some ⟨G6, 0, none⟩) hos.length hos.length, .bool aut, .int .i64 lim, .int .i64 use, .slice (some ⟨G10, 0, none⟩) prm.length prm.length, .slice (some ⟨G11, 0, none⟩) exc.length exc.length, .slice (some ⟨G12, 0, none⟩) sig.length sig.length] d13 RG hd13 hrow13 iC ?_)
    | (refine wpList_store_mid rfl 59 (.tmp 2) (.tmp 49) rfl (w.heap.size + 1) 0 #[.slice (some ⟨G0, 0, none⟩) ser.length ser.length, .string ⟨⟨iss⟩⟩, .string ⟨⟨sub⟩⟩, .int .i64 frm, .int .i64 unt, .slice (some ⟨G5, 0, none⟩) key.length key.length, .slice (some ⟨G6, 0, none⟩) hos.length hos.length, .bool aut, .int .i64 lim, .int .i64 use, .slice (some ⟨G10, 0, none⟩) prm.length prm.length, .slice (some ⟨G11, 0, none⟩) exc.length exc.length, .slice (some ⟨G12, 0, none⟩) sig.length sig.length] rfl rfl ?hth ?hin ?hon ?_))
  case hth => exact THR
  case hin => exact iC
  case hon => exact ON
  exact bodyPost_ret (v := .agg #[.slice (some ⟨G0, 0, none⟩) ser.length ser.length, .string ⟨⟨iss⟩⟩, .string ⟨⟨sub⟩⟩, .int .i64 frm, .int .i64 unt, .slice (some ⟨G5, 0, none⟩) key.length key.length, .slice (some ⟨G6, 0, none⟩) hos.length hos.length, .bool aut, .int .i64 lim, .int .i64 use, .slice (some ⟨G10, 0, none⟩) prm.length prm.length, .slice (some ⟨G11, 0, none⟩) exc.length exc.length, .slice (some ⟨G12, 0, none⟩) sig.length sig.length]) (results_cellC Try.results45 _ _ (w.heap.size + 1) _ d13 rfl RR hd13 hrow13 iC) rfl ⟨⟨newP ⟨ser, iss, sub, frm, unt, key, hos, aut, lim, use, prm, exc, sig⟩ G0 G5 G6 G10 G11 G12, rfl, ⟨rfl, C0f.out, C5f.out, C6f.out, C10f.out, C11f.out, C12f.out, by show w.heap.size ≤ G0; omega, by show G0 < G5; omega, by show G5 < G6; omega, by show G6 < G10; omega, by show G10 < G11; omega, by show G11 < G12; omega⟩⟩, N8.out⟩
end Go.Proofs.Ytheggghidhjplaa
