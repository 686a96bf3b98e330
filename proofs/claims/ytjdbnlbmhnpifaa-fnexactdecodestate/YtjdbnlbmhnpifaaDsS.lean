
/-
  A ticket's state out of bytes; the model's (written by gens/dss.py).
-/
import Derived.Test.YtjdbnlbmhnpifaaDsN
import Derived.Test.YtjdbnlbmhnpifaaSeS
import Derived.Test.YtjdbnlbmhnpifaaTsC
namespace Go.Proofs.Ytjdbnlbmhnpifaa
open Go Go.RowKit

theorem byt_appS {xs ys : List Int} (h : Byt xs) (k : Byt ys) : Byt (xs ++ ys) := fun i => by
  rw [List.getD_eq_getElem?_getD, List.getElem?_append]
  split
  · have := h i; rwa [List.getD_eq_getElem?_getD] at this
  · have := k (i - xs.length); rwa [List.getD_eq_getElem?_getD] at this
theorem byt_map {α : Type} (f : α → Int) (hf : ∀ x, 0 ≤ f x ∧ f x < 256) (l : List α) : Byt (l.map f) := fun i => by
  rw [List.getD_eq_getElem?_getD, List.getElem?_map]
  cases l[i]? with
  | none => exact ⟨by simp, by simp⟩
  | some x => simpa using hf x
theorem byt_txL (l : List UInt8) : Byt (txL l) := byt_map _ (fun b => ⟨by omega, by have := b.toNat_lt; omega⟩) l
theorem byt_bigL (n : Int) (t : Nat) : Byt (bigL n t) := byt_map _ (fun _ => ⟨by omega, by omega⟩) _
theorem byt_esA {X Y : List Int} (hX : Byt X) (hY : Byt Y) (md li : Int) (ho pr : List UInt8) (ea : Int) : Byt (esA X Y md li ho pr ea) := by
  unfold esA
  split
  · unfold esL shL
    exact byt_appS (byt_appS (byt_appS (byt_appS (byt_appS (byt_appS hX hY) (byt_bigL _ _)) (byt_bigL _ _)) (byt_bigL _ _)) (byt_appS (byt_bigL _ _) (byt_txL _))) (byt_appS (byt_bigL _ _) (byt_txL _))
  · exact fun i => by simp
/-- An answer: two lists in memory of its own. -/
def NewR (B : Nat) (w' : World) (e : Ending) (gd : Bool) (xs ys : List Int) (md li : Int) (ho pr : List UInt8) (ea : Int) : Prop :=
  ∃ (a : Option Addr) (c g : Nat) (a' : Option Addr) (c' g' : Nat), e = .returned (.agg #[.bool gd, .slice a xs.length c, .slice a' ys.length c', .int .i64 md, .int .i64 li, .string ⟨⟨ho⟩⟩, .string ⟨⟨pr⟩⟩, .int .i64 ea]) ∧ Own w' g a .u8 xs ∧ Own w' g' a' .u8 ys ∧ g ≠ g' ∧ B ≤ g ∧ g < w'.heap.size ∧ B ≤ g' ∧ g' < w'.heap.size
def rX (b : List Int) : List Int := if dsB b = true then dX b else []
def rY (b : List Int) : List Int := if dsB b = true then dY b else []
def rM (b : List Int) : Int := if dsB b = true then dM b else 0
def rL (b : List Int) : Int := if dsB b = true then dL b else 0
def rH (b : List Int) : List UInt8 := if dsB b = true then dH b else []
def rP (b : List Int) : List UInt8 := if dsB b = true then dP b else []
def rE (b : List Int) : Int := if dsB b = true then dE b else 0
def NewD (B : Nat) (w' : World) (e : Ending) (b : List Int) : Prop := NewR B w' e (dsB b) (rX b) (rY b) (rM b) (rL b) (rH b) (rP b) (rE b)
theorem NewD.good {B : Nat} {w' : World} {b : List Int} (h : dsB b = true) {g g' : Nat} (hX : Blk w' g .u8 (dX b)) (hY : Blk w' g' .u8 (dY b)) (hne : g ≠ g') (l1 : B ≤ g) (l2 : B ≤ g') :
    NewD B w' (.returned (.agg #[.bool true, .slice (some ⟨g, 0, none⟩) 32 32, .slice (some ⟨g', 0, none⟩) 32 32, .int .i64 (dM b), .int .i64 (dL b), .string ⟨⟨dH b⟩⟩, .string ⟨⟨dP b⟩⟩, .int .i64 (dE b)])) b := by
  unfold NewD rX rY rM rL rH rP rE
  rw [if_pos h, if_pos h, if_pos h, if_pos h, if_pos h, if_pos h, if_pos h, h]
  exact ⟨_, _, g, _, _, g', by rw [dX_len, dY_len], hX.own0, hY.own0, hne, l1, hX.lt, l2, hY.lt⟩
theorem NewD.bad {B : Nat} {w' : World} {b : List Int} (h : dsB b = false) {g g' : Nat} (hne : g ≠ g') (l1 : B ≤ g) (l2 : B ≤ g') (k1 : g < w'.heap.size) (k2 : g' < w'.heap.size) :
    NewD B w' (.returned (.agg #[.bool false, .slice none 0 0, .slice none 0 0, .int .i64 0, .int .i64 0, .string ⟨#[]⟩, .string ⟨#[]⟩, .int .i64 0])) b := by
  have h' : ¬ dsB b = true := by rw [h]; decide
  unfold NewD rX rY rM rL rH rP rE
  rw [if_neg h', if_neg h', if_neg h', if_neg h', if_neg h', if_neg h', if_neg h', h]
  exact ⟨none, 0, g, none, 0, g', rfl, Own.nil _ _ _ _, Own.nil _ _ _ _, hne, l1, k1, l2, k2⟩
theorem iSr : (Try.prog.info? 36).map (·.size) = some 8 := by kernel_rfl
theorem rowSr : ∃ d, Try.prog.underlying 36 = some d ∧ d.isRow = true := ⟨_, Try.underlying36, rfl⟩
theorem RwC.newI {w w' : World} {q p : Nat} {cs : List Value} {t : TypeId} (h : RwC w q cs t) (n : NewI p w w') (hq : q ≠ p) : RwC w' q cs t := (n.block h.lt hq).trans h
theorem Blk.newI {w w' : World} {q p : Nat} {k : IntKind} {ys : List Int} (h : Blk w q k ys) (n : NewI p w w') (hq : q ≠ p) : Blk w' q k ys := h.of_block (n.block h.lt hq)
theorem Cur.onl {w w' : World} {p q : Nat} {l : Value} {i : Int} (h : Cur w p l i) (n : Only q w w') (hne : p ≠ q) : Cur w' p l i := h.of_block (n.block p hne)
set_option maxHeartbeats 16000000 in
theorem specDcS_any (w : World) (g : Nat) (a : Option Addr) (c : Nat) (b : List Int) (hr : Rd w g a .u8 b) (hb : Byt b) (hl : b.length ≤ 1048576) :
    Calls Try.prog 17 #[.slice a b.length c] w fun e w' => NewD w.heap.size w' e b ∧ Below w.heap.size w w' := by
  obtain ⟨dR, hdR, hrowR⟩ := rowSr
  have z1 : (w.alloc (.cells #[.bool false, .slice none 0 0, .slice none 0 0, .int .i64 0, .int .i64 0, .string ⟨#[]⟩, .string ⟨#[]⟩, .int .i64 0] 36)).heap.size = w.heap.size + 1 := by simp
  have n1 : Below w.heap.size w (w.alloc (.cells #[.bool false, .slice none 0 0, .slice none 0 0, .int .i64 0, .int .i64 0, .string ⟨#[]⟩, .string ⟨#[]⟩, .int .i64 0] 36)) := (Below.refl _ _).alloc (Nat.le_refl _) _
  have n2 : Below (w.alloc (.cells #[.bool false, .slice none 0 0, .slice none 0 0, .int .i64 0, .int .i64 0, .string ⟨#[]⟩, .string ⟨#[]⟩, .int .i64 0] 36)).heap.size (w.alloc (.cells #[.bool false, .slice none 0 0, .slice none 0 0, .int .i64 0, .int .i64 0, .string ⟨#[]⟩, .string ⟨#[]⟩, .int .i64 0] 36)) ((w.alloc (.cells #[.bool false, .slice none 0 0, .slice none 0 0, .int .i64 0, .int .i64 0, .string ⟨#[]⟩, .string ⟨#[]⟩, .int .i64 0] 36)).alloc (.cells #[.slice a b.length c, .int .i64 0] 50)) := (Below.refl _ _).alloc (Nat.le_refl _) _
  have Q0 : RwC (w.alloc (.cells #[.bool false, .slice none 0 0, .slice none 0 0, .int .i64 0, .int .i64 0, .string ⟨#[]⟩, .string ⟨#[]⟩, .int .i64 0] 36)) w.heap.size [.bool false, .slice none 0 0, .slice none 0 0, .int .i64 0, .int .i64 0, .string ⟨#[]⟩, .string ⟨#[]⟩, .int .i64 0] 36 := RwC.new w _ _
  have C0 : Cur ((w.alloc (.cells #[.bool false, .slice none 0 0, .slice none 0 0, .int .i64 0, .int .i64 0, .string ⟨#[]⟩, .string ⟨#[]⟩, .int .i64 0] 36)).alloc (.cells #[.slice a b.length c, .int .i64 0] 50)) (w.alloc (.cells #[.bool false, .slice none 0 0, .slice none 0 0, .int .i64 0, .int .i64 0, .string ⟨#[]⟩, .string ⟨#[]⟩, .int .i64 0] 36)).heap.size (.slice a b.length c) ((0 : Nat) : Int) := ⟨50, heap_alloc_new _ _⟩
  have N := nxt n1 n2
  replace Q0 := Q0.up n2
  rw [z1] at C0
  have zq : w.heap.size + 1 < ((w.alloc (.cells #[.bool false, .slice none 0 0, .slice none 0 0, .int .i64 0, .int .i64 0, .string ⟨#[]⟩, .string ⟨#[]⟩, .int .i64 0] 36)).alloc (.cells #[.slice a b.length c, .int .i64 0] 50)).heap.size := C0.lt
  have TK := hide (fun W i n h (N : Below w.heap.size w W) => l13Take_any W (w.heap.size + 1) g a c b i n h (hr.up N))
  have NU := hide (fun W i n h (N : Below w.heap.size w W) => l13Number_any W (w.heap.size + 1) g a c b i n h (hr.up N) hb)
  have L1 := hide (dn1_is hb)
  have L2 := hide (dn2_is hb)
  clear n1 n2 z1
  go_enter Try.func17, Try.ntmps17
  go_wp2_with fail
  generalize (w.alloc (.cells #[.bool false, .slice none 0 0, .slice none 0 0, .int .i64 0, .int .i64 0, .string ⟨#[]⟩, .string ⟨#[]⟩, .int .i64 0] 36)).alloc (.cells #[.slice a b.length c, .int .i64 0] 50) = v0 at *
  refine (TK.out v0 0 32 C0 N (by omega) (by omega) (by omega)).mono ?_
  rintro e v1 ⟨rfl, BX, C1, m1⟩
  have zv1 := m1.2.2.2.1
  replace N := N.trans (m1.below (B := w.heap.size) (by omega) (by omega))
  replace Q0 := Q0.newI m1 (by omega)
  have BX : Blk v1 v0.heap.size .u8 (dX b) := BX
  have gX1 := BX.lt
  clear C0 m1
  generalize hgX : v0.heap.size = gX at *
  have lgX : w.heap.size + 1 < gX := by omega
  clear hgX
  go_wp2_with fail
  refine (TK.out v1 (0 + 32) 32 C1 N (by omega) (by omega) (by omega)).mono ?_
  rintro e v2 ⟨rfl, BY, C2, m2⟩
  have zv2 := m2.2.2.2.1
  replace N := N.trans (m2.below (B := w.heap.size) (by omega) (by omega))
  replace Q0 := Q0.newI m2 (by omega)
  replace BX := BX.newI m2 (by omega)
  have BY : Blk v2 v1.heap.size .u8 (dY b) := BY
  have gY1 := BY.lt
  clear C1 m2
  generalize hgY : v1.heap.size = gY at *
  have lgY : gX < gY := by omega
  clear hgY
  have T0 : RwC (v2.alloc (.cells #[.slice (some ⟨gX, 0, none⟩) 32 32, .slice (some ⟨gY, 0, none⟩) 32 32, .int .i64 0, .int .i64 0, .string ⟨#[]⟩, .string ⟨#[]⟩, .int .i64 0] 27)) v2.heap.size [.slice (some ⟨gX, 0, none⟩) 32 32, .slice (some ⟨gY, 0, none⟩) 32 32, .int .i64 0, .int .i64 0, .string ⟨#[]⟩, .string ⟨#[]⟩, .int .i64 0] 27 := RwC.new v2 _ _
  have n3 : Below v2.heap.size v2 (v2.alloc (.cells #[.slice (some ⟨gX, 0, none⟩) 32 32, .slice (some ⟨gY, 0, none⟩) 32 32, .int .i64 0, .int .i64 0, .string ⟨#[]⟩, .string ⟨#[]⟩, .int .i64 0] 27)) := (Below.refl _ _).alloc (Nat.le_refl _) _
  have zt : v2.heap.size < (v2.alloc (.cells #[.slice (some ⟨gX, 0, none⟩) 32 32, .slice (some ⟨gY, 0, none⟩) 32 32, .int .i64 0, .int .i64 0, .string ⟨#[]⟩, .string ⟨#[]⟩, .int .i64 0] 27)).heap.size := T0.lt
  replace Q0 := Q0.up n3
  replace BX := BX.up n3
  replace BY := BY.up n3
  replace C2 := C2.up n3
  replace N := nxt N n3
  clear n3
  obtain ⟨q, hq⟩ : ∃ q, q = v2.heap.size := ⟨_, rfl⟩
  rw [← hq] at T0 zt
  have lq : gY < q := by omega
  go_wp2_with fail
  rw [← hq]
  clear hq
  generalize v2.alloc (.cells #[.slice (some ⟨gX, 0, none⟩) 32 32, .slice (some ⟨gY, 0, none⟩) 32 32, .int .i64 0, .int .i64 0, .string ⟨#[]⟩, .string ⟨#[]⟩, .int .i64 0] 27) = u2 at *
  refine (NU.out u2 (0 + 32 + 32) 8 C2 N (by omega) (by omega) (by omega)).mono ?_
  rintro e v3 ⟨rfl, C3, m3⟩
  have zv3 := m3.2.2.2.1
  replace N := N.trans (m3.below (B := w.heap.size) (by omega) (by omega))
  replace Q0 := Q0.newI m3 (by omega)
  replace BX := BX.newI m3 (by omega)
  replace BY := BY.newI m3 (by omega)
  replace T0 := T0.newI m3 (by omega)
  clear C2 m3
  rw [show nmV b (0 + 32 + 32) 8 = dM b from rfl]
  have tc : v3.cell? ⟨q, 2, none⟩ = some (.int .i64 0) := T0.cell 2
  have tf := T0.free 2
  have OS := Only.setCell v3 q 2 (.int .i64 (dM b))
  have T1 : RwC (v3.setCell ⟨q, 2, none⟩ (.int .i64 (dM b))) q [.slice (some ⟨gX, 0, none⟩) 32 32, .slice (some ⟨gY, 0, none⟩) 32 32, .int .i64 (dM b), .int .i64 0, .string ⟨#[]⟩, .string ⟨#[]⟩, .int .i64 0] 27 := T0.set 2 _
  have C3s := C3.onl OS (by omega)
  have Q1 := Q0.onl OS (by omega)
  have BX1 := BX.of_block (OS.block gX (by omega))
  have BY1 := BY.of_block (OS.block gY (by omega))
  have N1 := N.trans (OS.below (B := w.heap.size) (by omega))
  have zs : v3.heap.size ≤ (v3.setCell ⟨q, 2, none⟩ (.int .i64 (dM b))).heap.size := Nat.le_of_eq OS.size.symm
  clear Q0 BX BY N T0 C3 OS
  go_wp2_with fail
  generalize v3.setCell ⟨q, 2, none⟩ (.int .i64 (dM b)) = u3 at *
  clear tc tf
  have Q0 := Q1
  have BX := BX1
  have BY := BY1
  have N := N1
  have T0 := T1
  have C3 := C3s
  clear Q1 BX1 BY1 N1 T1 C3s
  refine (NU.out u3 (0 + 32 + 32 + 8) 4 C3 N (by omega) (by omega) (by omega)).mono ?_
  rintro e v4 ⟨rfl, C4, m4⟩
  have zv4 := m4.2.2.2.1
  replace N := N.trans (m4.below (B := w.heap.size) (by omega) (by omega))
  replace Q0 := Q0.newI m4 (by omega)
  replace BX := BX.newI m4 (by omega)
  replace BY := BY.newI m4 (by omega)
  replace T0 := T0.newI m4 (by omega)
  clear C3 m4
  rw [show nmV b (0 + 32 + 32 + 8) 4 = dL b from rfl]
  have tc : v4.cell? ⟨q, 3, none⟩ = some (.int .i64 0) := T0.cell 3
  have tf := T0.free 3
  have OS := Only.setCell v4 q 3 (.int .i64 (dL b))
  have T1 : RwC (v4.setCell ⟨q, 3, none⟩ (.int .i64 (dL b))) q [.slice (some ⟨gX, 0, none⟩) 32 32, .slice (some ⟨gY, 0, none⟩) 32 32, .int .i64 (dM b), .int .i64 (dL b), .string ⟨#[]⟩, .string ⟨#[]⟩, .int .i64 0] 27 := T0.set 3 _
  have C4s := C4.onl OS (by omega)
  have Q1 := Q0.onl OS (by omega)
  have BX1 := BX.of_block (OS.block gX (by omega))
  have BY1 := BY.of_block (OS.block gY (by omega))
  have N1 := N.trans (OS.below (B := w.heap.size) (by omega))
  have zs : v4.heap.size ≤ (v4.setCell ⟨q, 3, none⟩ (.int .i64 (dL b))).heap.size := Nat.le_of_eq OS.size.symm
  clear Q0 BX BY N T0 C4 OS
  go_wp2_with fail
  generalize v4.setCell ⟨q, 3, none⟩ (.int .i64 (dL b)) = u4 at *
  clear tc tf
  have Q0 := Q1
  have BX := BX1
  have BY := BY1
  have N := N1
  have T0 := T1
  have C4 := C4s
  clear Q1 BX1 BY1 N1 T1 C4s
  refine (NU.out u4 (0 + 32 + 32 + 8 + 4) 4 C4 N (by omega) (by omega) (by omega)).mono ?_
  rintro e v5 ⟨rfl, C5, m5⟩
  have zv5 := m5.2.2.2.1
  replace N := N.trans (m5.below (B := w.heap.size) (by omega) (by omega))
  replace Q0 := Q0.newI m5 (by omega)
  replace BX := BX.newI m5 (by omega)
  replace BY := BY.newI m5 (by omega)
  replace T0 := T0.newI m5 (by omega)
  clear C4 m5
  rw [show nmV b (0 + 32 + 32 + 8 + 4) 4 = dE b from rfl]
  have tc : v5.cell? ⟨q, 6, none⟩ = some (.int .i64 0) := T0.cell 6
  have tf := T0.free 6
  have OS := Only.setCell v5 q 6 (.int .i64 (dE b))
  have T1 : RwC (v5.setCell ⟨q, 6, none⟩ (.int .i64 (dE b))) q [.slice (some ⟨gX, 0, none⟩) 32 32, .slice (some ⟨gY, 0, none⟩) 32 32, .int .i64 (dM b), .int .i64 (dL b), .string ⟨#[]⟩, .string ⟨#[]⟩, .int .i64 (dE b)] 27 := T0.set 6 _
  have C5s := C5.onl OS (by omega)
  have Q1 := Q0.onl OS (by omega)
  have BX1 := BX.of_block (OS.block gX (by omega))
  have BY1 := BY.of_block (OS.block gY (by omega))
  have N1 := N.trans (OS.below (B := w.heap.size) (by omega))
  have zs : v5.heap.size ≤ (v5.setCell ⟨q, 6, none⟩ (.int .i64 (dE b))).heap.size := Nat.le_of_eq OS.size.symm
  clear Q0 BX BY N T0 C5 OS
  go_wp2_with fail
  generalize v5.setCell ⟨q, 6, none⟩ (.int .i64 (dE b)) = u5 at *
  clear tc tf
  have Q0 := Q1
  have BX := BX1
  have BY := BY1
  have N := N1
  have T0 := T1
  have C5 := C5s
  clear Q1 BX1 BY1 N1 T1 C5s
  refine (NU.out u5 (0 + 32 + 32 + 8 + 4 + 4) 1 C5 N (by omega) (by omega) (by omega)).mono ?_
  rintro e v6 ⟨rfl, C6, m6⟩
  have zv6 := m6.2.2.2.1
  replace N := N.trans (m6.below (B := w.heap.size) (by omega) (by omega))
  replace Q0 := Q0.newI m6 (by omega)
  replace BX := BX.newI m6 (by omega)
  replace BY := BY.newI m6 (by omega)
  replace T0 := T0.newI m6 (by omega)
  clear C5 m6
  have en : nmV b (0 + 32 + 32 + 8 + 4 + 4) 1 = (dn1 b : Int) := by rw [nmV_small hb _ _ (by decide)]; exact L1.out.1.symm
  rw [en]
  clear en
  have ln := L1.out.2
  go_wp2_with fail
  refine (TK.out v6 (0 + 32 + 32 + 8 + 4 + 4 + 1) (dn1 b) C6 N (by omega) (by omega) (by omega)).mono ?_
  rintro e x6 ⟨rfl, BT, D6, mt⟩
  have zx6 := mt.2.2.2.1
  replace N := N.trans (mt.below (B := w.heap.size) (by omega) (by omega))
  replace Q0 := Q0.newI mt (by omega)
  replace BX := BX.newI mt (by omega)
  replace BY := BY.newI mt (by omega)
  replace T0 := T0.newI mt (by omega)
  have cv := conv_run x6 _ _ (dn1 b) _ BT.own0.rd
  rw [tkB_len] at cv
  rw [str_is] at cv
  clear BT mt C6
  replace cv : (convert 22 9 (.slice (some ⟨v6.heap.size, 0, none⟩) (dn1 b) (dn1 b))).run Try.prog x6 = .ok (.string ⟨⟨dH b⟩⟩) x6 := cv
  have tc : x6.cell? ⟨q, 4, none⟩ = some (.string ⟨#[]⟩) := T0.cell 4
  have tf := T0.free 4
  have OS := Only.setCell x6 q 4 (.string ⟨⟨dH b⟩⟩)
  have T1 : RwC (x6.setCell ⟨q, 4, none⟩ (.string ⟨⟨dH b⟩⟩)) q [.slice (some ⟨gX, 0, none⟩) 32 32, .slice (some ⟨gY, 0, none⟩) 32 32, .int .i64 (dM b), .int .i64 (dL b), .string ⟨⟨dH b⟩⟩, .string ⟨#[]⟩, .int .i64 (dE b)] 27 := T0.set 4 _
  have C6s := D6.onl OS (by omega)
  have Q1 := Q0.onl OS (by omega)
  have BX1 := BX.of_block (OS.block gX (by omega))
  have BY1 := BY.of_block (OS.block gY (by omega))
  have N1 := N.trans (OS.below (B := w.heap.size) (by omega))
  have zs : x6.heap.size ≤ (x6.setCell ⟨q, 4, none⟩ (.string ⟨⟨dH b⟩⟩)).heap.size := Nat.le_of_eq OS.size.symm
  clear Q0 BX BY N T0 D6 OS
  go_wp2_with fail
  generalize x6.setCell ⟨q, 4, none⟩ (.string ⟨⟨dH b⟩⟩) = u6 at *
  clear tc tf
  have Q0 := Q1
  have BX := BX1
  have BY := BY1
  have N := N1
  have T0 := T1
  have C6 := C6s
  clear Q1 BX1 BY1 N1 T1 C6s
  refine (NU.out u6 (0 + 32 + 32 + 8 + 4 + 4 + 1 + dn1 b) 1 C6 N (by omega) (by omega) (by omega)).mono ?_
  rintro e v7 ⟨rfl, C7, m7⟩
  have zv7 := m7.2.2.2.1
  replace N := N.trans (m7.below (B := w.heap.size) (by omega) (by omega))
  replace Q0 := Q0.newI m7 (by omega)
  replace BX := BX.newI m7 (by omega)
  replace BY := BY.newI m7 (by omega)
  replace T0 := T0.newI m7 (by omega)
  clear C6 m7
  have en : nmV b (0 + 32 + 32 + 8 + 4 + 4 + 1 + dn1 b) 1 = (dn2 b : Int) := by rw [nmV_small hb _ _ (by decide)]; exact L2.out.1.symm
  rw [en]
  clear en
  have ln := L2.out.2
  go_wp2_with fail
  refine (TK.out v7 (0 + 32 + 32 + 8 + 4 + 4 + 1 + dn1 b + 1) (dn2 b) C7 N (by omega) (by omega) (by omega)).mono ?_
  rintro e x7 ⟨rfl, BT, D7, mt⟩
  have zx7 := mt.2.2.2.1
  replace N := N.trans (mt.below (B := w.heap.size) (by omega) (by omega))
  replace Q0 := Q0.newI mt (by omega)
  replace BX := BX.newI mt (by omega)
  replace BY := BY.newI mt (by omega)
  replace T0 := T0.newI mt (by omega)
  have cv := conv_run x7 _ _ (dn2 b) _ BT.own0.rd
  rw [tkB_len] at cv
  rw [str_is] at cv
  clear BT mt C7
  rw [show 0 + 32 + 32 + 8 + 4 + 4 + 1 + dn1 b + 1 = 82 + dn1 b by omega] at cv
  replace cv : (convert 22 9 (.slice (some ⟨v7.heap.size, 0, none⟩) (dn2 b) (dn2 b))).run Try.prog x7 = .ok (.string ⟨⟨dP b⟩⟩) x7 := cv
  have tc : x7.cell? ⟨q, 5, none⟩ = some (.string ⟨#[]⟩) := T0.cell 5
  have tf := T0.free 5
  have OS := Only.setCell x7 q 5 (.string ⟨⟨dP b⟩⟩)
  have T1 : RwC (x7.setCell ⟨q, 5, none⟩ (.string ⟨⟨dP b⟩⟩)) q [.slice (some ⟨gX, 0, none⟩) 32 32, .slice (some ⟨gY, 0, none⟩) 32 32, .int .i64 (dM b), .int .i64 (dL b), .string ⟨⟨dH b⟩⟩, .string ⟨⟨dP b⟩⟩, .int .i64 (dE b)] 27 := T0.set 5 _
  have C7s := D7.onl OS (by omega)
  have Q1 := Q0.onl OS (by omega)
  have BX1 := BX.of_block (OS.block gX (by omega))
  have BY1 := BY.of_block (OS.block gY (by omega))
  have N1 := N.trans (OS.below (B := w.heap.size) (by omega))
  have zs : x7.heap.size ≤ (x7.setCell ⟨q, 5, none⟩ (.string ⟨⟨dP b⟩⟩)).heap.size := Nat.le_of_eq OS.size.symm
  clear Q0 BX BY N T0 D7 OS
  have T9 := T1
  have t0 : (x7.setCell ⟨q, 5, none⟩ (.string ⟨⟨dP b⟩⟩)).cell? ⟨q, 0, none⟩ = some (.slice (some ⟨gX, 0, none⟩) 32 32) := T9.cell 0
  have t1 : (x7.setCell ⟨q, 5, none⟩ (.string ⟨⟨dP b⟩⟩)).cell? ⟨q, 1, none⟩ = some (.slice (some ⟨gY, 0, none⟩) 32 32) := T9.cell 1
  have t2 : (x7.setCell ⟨q, 5, none⟩ (.string ⟨⟨dP b⟩⟩)).cell? ⟨q, 2, none⟩ = some (.int .i64 (dM b)) := T9.cell 2
  have t3 : (x7.setCell ⟨q, 5, none⟩ (.string ⟨⟨dP b⟩⟩)).cell? ⟨q, 3, none⟩ = some (.int .i64 (dL b)) := T9.cell 3
  have t4 : (x7.setCell ⟨q, 5, none⟩ (.string ⟨⟨dP b⟩⟩)).cell? ⟨q, 4, none⟩ = some (.string ⟨⟨dH b⟩⟩) := T9.cell 4
  have t5 : (x7.setCell ⟨q, 5, none⟩ (.string ⟨⟨dP b⟩⟩)).cell? ⟨q, 5, none⟩ = some (.string ⟨⟨dP b⟩⟩) := T9.cell 5
  have t6 : (x7.setCell ⟨q, 5, none⟩ (.string ⟨⟨dP b⟩⟩)).cell? ⟨q, 6, none⟩ = some (.int .i64 (dE b)) := T9.cell 6
  clear T9
  go_wp2_with fail
  generalize x7.setCell ⟨q, 5, none⟩ (.string ⟨⟨dP b⟩⟩) = y0 at *
  clear tc tf
  have HL := hide (show (dH b).length ≤ 1048576 by rw [dH_len]; have := L1.out; omega)
  have PL := hide (show (dP b).length ≤ 1048576 by rw [dP_len]; have := L2.out; omega)
  have SF := hide (specState_any y0 (dM b) (dL b) (dH b) (dP b) (dE b) (some ⟨gX, 0, none⟩) 32 32 (some ⟨gY, 0, none⟩) 32 32 HL.out PL.out)
  refine SF.out.mono ?_
  rintro e y1 ⟨rfl, m1⟩
  have zy := m1.size
  replace N1 := nxt N1 m1
  replace Q1 := Q1.up m1
  replace BX1 := BX1.up m1
  replace BY1 := BY1.up m1
  replace T1 := T1.up m1
  clear SF C7s m1 TK NU cv t0 t1 t2 t3 t4 t5 t6
  by_cases h0 : sfV 32 32 (dM b) (dL b) (dH b) (dP b).length (dE b) = 0
  · rw [h0]
    have DB : Hid (dsB b = decide (esA (dX b) (dY b) (dM b) (dL b) (dH b) (dP b) (dE b) = b)) := by
      show _ = _
      unfold dsB
      rw [dX_len, dY_len, h0]
      simp
    have t0 : y1.cell? ⟨q, 0, none⟩ = some (.slice (some ⟨gX, 0, none⟩) 32 32) := T1.cell 0
    have t1 : y1.cell? ⟨q, 1, none⟩ = some (.slice (some ⟨gY, 0, none⟩) 32 32) := T1.cell 1
    have t2 : y1.cell? ⟨q, 2, none⟩ = some (.int .i64 (dM b)) := T1.cell 2
    have t3 : y1.cell? ⟨q, 3, none⟩ = some (.int .i64 (dL b)) := T1.cell 3
    have t4 : y1.cell? ⟨q, 4, none⟩ = some (.string ⟨⟨dH b⟩⟩) := T1.cell 4
    have t5 : y1.cell? ⟨q, 5, none⟩ = some (.string ⟨⟨dP b⟩⟩) := T1.cell 5
    have t6 : y1.cell? ⟨q, 6, none⟩ = some (.int .i64 (dE b)) := T1.cell 6
    have EN := hide (specEnS_any y1 (dM b) (dL b) (dH b) (dP b) (dE b) gX (some ⟨gX, 0, none⟩) 32 (dX b) BX1.own0.rd (fun h => nomatch h) gY (some ⟨gY, 0, none⟩) 32 (dY b) BY1.own0.rd (fun h => nomatch h) HL.out PL.out)
    rw [dX_len, dY_len] at EN
    have BE : Hid (Byt (esA (dX b) (dY b) (dM b) (dL b) (dH b) (dP b) (dE b))) := byt_esA (tkB_byt hb 0 32) (tkB_byt hb 32 32) _ _ _ _ _
    generalize esA (dX b) (dY b) (dM b) (dL b) (dH b) (dP b) (dE b) = E at *
    clear h0
    go_wp2_with fail
    refine EN.out.mono ?_
    rintro e y2 ⟨v2, rfl, R2, m2⟩
    obtain ⟨a2, c2, g2, rfl, D2, -, -, -⟩ := R2.rd
    have zz := m2.size
    replace N1 := nxt N1 m2
    replace Q1 := Q1.up m2
    replace BX1 := BX1.up m2
    replace BY1 := BY1.up m2
    replace T1 := T1.up m2
    have SA := hide (l1Same_any y2 g2 g a2 a c2 c E b D2 (hr.up N1) BE.out hb)
    clear EN R2 m2 D2 BE t0 t1 t2 t3 t4 t5 t6
    go_wp2_with fail
    refine SA.out.mono ?_
    rintro e y3 ⟨rfl, h3⟩
    have h3 := h3.symm
    subst h3
    by_cases hE : E = b
    · have DG := hide (DB.out.trans (decide_eq_true hE))
      rw [decide_eq_true hE]
      clear SA DB hE
      have t0 : y2.cell? ⟨q, 0, none⟩ = some (.slice (some ⟨gX, 0, none⟩) 32 32) := T1.cell 0
      have t1 : y2.cell? ⟨q, 1, none⟩ = some (.slice (some ⟨gY, 0, none⟩) 32 32) := T1.cell 1
      have t2 : y2.cell? ⟨q, 2, none⟩ = some (.int .i64 (dM b)) := T1.cell 2
      have t3 : y2.cell? ⟨q, 3, none⟩ = some (.int .i64 (dL b)) := T1.cell 3
      have t4 : y2.cell? ⟨q, 4, none⟩ = some (.string ⟨⟨dH b⟩⟩) := T1.cell 4
      have t5 : y2.cell? ⟨q, 5, none⟩ = some (.string ⟨⟨dP b⟩⟩) := T1.cell 5
      have t6 : y2.cell? ⟨q, 6, none⟩ = some (.int .i64 (dE b)) := T1.cell 6
      have qc0 : y2.cell? ⟨w.heap.size, 0, none⟩ = some (.bool false) := Q1.cell 0
      have qf0 := Q1.free 0
      have qc1 : y2.cell? ⟨w.heap.size, 1, none⟩ = some (.slice none 0 0) := Q1.cell 1
      have qf1 := Q1.free 1
      have qc2 : y2.cell? ⟨w.heap.size, 2, none⟩ = some (.slice none 0 0) := Q1.cell 2
      have qf2 := Q1.free 2
      have qc3 : y2.cell? ⟨w.heap.size, 3, none⟩ = some (.int .i64 0) := Q1.cell 3
      have qf3 := Q1.free 3
      have qc4 : y2.cell? ⟨w.heap.size, 4, none⟩ = some (.int .i64 0) := Q1.cell 4
      have qf4 := Q1.free 4
      have qc5 : y2.cell? ⟨w.heap.size, 5, none⟩ = some (.string ⟨#[]⟩) := Q1.cell 5
      have qf5 := Q1.free 5
      have qc6 : y2.cell? ⟨w.heap.size, 6, none⟩ = some (.string ⟨#[]⟩) := Q1.cell 6
      have qf6 := Q1.free 6
      have qc7 : y2.cell? ⟨w.heap.size, 7, none⟩ = some (.int .i64 0) := Q1.cell 7
      have qf7 := Q1.free 7
      have RF : RwC ((((((((y2.setCell ⟨w.heap.size, 0, none⟩ (.bool true)).setCell ⟨w.heap.size, 1, none⟩ (.slice (some ⟨gX, 0, none⟩) 32 32)).setCell ⟨w.heap.size, 2, none⟩ (.slice (some ⟨gY, 0, none⟩) 32 32)).setCell ⟨w.heap.size, 3, none⟩ (.int .i64 (dM b))).setCell ⟨w.heap.size, 4, none⟩ (.int .i64 (dL b))).setCell ⟨w.heap.size, 5, none⟩ (.string ⟨⟨dH b⟩⟩)).setCell ⟨w.heap.size, 6, none⟩ (.string ⟨⟨dP b⟩⟩)).setCell ⟨w.heap.size, 7, none⟩ (.int .i64 (dE b))) w.heap.size [.bool true, .slice (some ⟨gX, 0, none⟩) 32 32, .slice (some ⟨gY, 0, none⟩) 32 32, .int .i64 (dM b), .int .i64 (dL b), .string ⟨⟨dH b⟩⟩, .string ⟨⟨dP b⟩⟩, .int .i64 (dE b)] 36 := ((((((((Q1.set 0 (.bool true)).set 1 (.slice (some ⟨gX, 0, none⟩) 32 32)).set 2 (.slice (some ⟨gY, 0, none⟩) 32 32)).set 3 (.int .i64 (dM b))).set 4 (.int .i64 (dL b))).set 5 (.string ⟨⟨dH b⟩⟩)).set 6 (.string ⟨⟨dP b⟩⟩)).set 7 (.int .i64 (dE b)))
      have OF : Only w.heap.size y2 ((((((((y2.setCell ⟨w.heap.size, 0, none⟩ (.bool true)).setCell ⟨w.heap.size, 1, none⟩ (.slice (some ⟨gX, 0, none⟩) 32 32)).setCell ⟨w.heap.size, 2, none⟩ (.slice (some ⟨gY, 0, none⟩) 32 32)).setCell ⟨w.heap.size, 3, none⟩ (.int .i64 (dM b))).setCell ⟨w.heap.size, 4, none⟩ (.int .i64 (dL b))).setCell ⟨w.heap.size, 5, none⟩ (.string ⟨⟨dH b⟩⟩)).setCell ⟨w.heap.size, 6, none⟩ (.string ⟨⟨dP b⟩⟩)).setCell ⟨w.heap.size, 7, none⟩ (.int .i64 (dE b))) := ((((((((Only.refl w.heap.size y2).trans (Only.setCell _ w.heap.size 0 _)).trans (Only.setCell _ w.heap.size 1 _)).trans (Only.setCell _ w.heap.size 2 _)).trans (Only.setCell _ w.heap.size 3 _)).trans (Only.setCell _ w.heap.size 4 _)).trans (Only.setCell _ w.heap.size 5 _)).trans (Only.setCell _ w.heap.size 6 _)).trans (Only.setCell _ w.heap.size 7 _)
      have RR := RF.rangeG
      have NF := N1.trans (OF.below (B := w.heap.size) (Nat.le_refl _))
      have BX2 := hide (BX1.of_block (OF.block gX (by omega)))
      have BY2 := hide (BY1.of_block (OF.block gY (by omega)))
      clear RF OF
      go_wp2
      exact bodyPost_ret (v := .agg #[.bool true, .slice (some ⟨gX, 0, none⟩) 32 32, .slice (some ⟨gY, 0, none⟩) 32 32, .int .i64 (dM b), .int .i64 (dL b), .string ⟨⟨dH b⟩⟩, .string ⟨⟨dP b⟩⟩, .int .i64 (dE b)]) (results_cellG Try.results17 _ _ w.heap.size _ dR rfl RR hdR hrowR iSr) rfl ⟨NewD.good DG.out BX2.out BY2.out (by omega) (by omega) (by omega), NF⟩
    · have DG := hide (DB.out.trans (decide_eq_false hE))
      rw [decide_eq_false hE]
      clear SA DB hE
      have qc0 : y2.cell? ⟨w.heap.size, 0, none⟩ = some (.bool false) := Q1.cell 0
      have qf0 := Q1.free 0
      have qc1 : y2.cell? ⟨w.heap.size, 1, none⟩ = some (.slice none 0 0) := Q1.cell 1
      have qf1 := Q1.free 1
      have qc2 : y2.cell? ⟨w.heap.size, 2, none⟩ = some (.slice none 0 0) := Q1.cell 2
      have qf2 := Q1.free 2
      have qc3 : y2.cell? ⟨w.heap.size, 3, none⟩ = some (.int .i64 0) := Q1.cell 3
      have qf3 := Q1.free 3
      have qc4 : y2.cell? ⟨w.heap.size, 4, none⟩ = some (.int .i64 0) := Q1.cell 4
      have qf4 := Q1.free 4
      have qc5 : y2.cell? ⟨w.heap.size, 5, none⟩ = some (.string ⟨#[]⟩) := Q1.cell 5
      have qf5 := Q1.free 5
      have qc6 : y2.cell? ⟨w.heap.size, 6, none⟩ = some (.string ⟨#[]⟩) := Q1.cell 6
      have qf6 := Q1.free 6
      have qc7 : y2.cell? ⟨w.heap.size, 7, none⟩ = some (.int .i64 0) := Q1.cell 7
      have qf7 := Q1.free 7
      have RF : RwC ((((((((y2.setCell ⟨w.heap.size, 0, none⟩ (.bool false)).setCell ⟨w.heap.size, 1, none⟩ (.slice none 0 0)).setCell ⟨w.heap.size, 2, none⟩ (.slice none 0 0)).setCell ⟨w.heap.size, 3, none⟩ (.int .i64 0)).setCell ⟨w.heap.size, 4, none⟩ (.int .i64 0)).setCell ⟨w.heap.size, 5, none⟩ (.string ⟨#[]⟩)).setCell ⟨w.heap.size, 6, none⟩ (.string ⟨#[]⟩)).setCell ⟨w.heap.size, 7, none⟩ (.int .i64 0)) w.heap.size [.bool false, .slice none 0 0, .slice none 0 0, .int .i64 0, .int .i64 0, .string ⟨#[]⟩, .string ⟨#[]⟩, .int .i64 0] 36 := ((((((((Q1.set 0 (.bool false)).set 1 (.slice none 0 0)).set 2 (.slice none 0 0)).set 3 (.int .i64 0)).set 4 (.int .i64 0)).set 5 (.string ⟨#[]⟩)).set 6 (.string ⟨#[]⟩)).set 7 (.int .i64 0))
      have OF : Only w.heap.size y2 ((((((((y2.setCell ⟨w.heap.size, 0, none⟩ (.bool false)).setCell ⟨w.heap.size, 1, none⟩ (.slice none 0 0)).setCell ⟨w.heap.size, 2, none⟩ (.slice none 0 0)).setCell ⟨w.heap.size, 3, none⟩ (.int .i64 0)).setCell ⟨w.heap.size, 4, none⟩ (.int .i64 0)).setCell ⟨w.heap.size, 5, none⟩ (.string ⟨#[]⟩)).setCell ⟨w.heap.size, 6, none⟩ (.string ⟨#[]⟩)).setCell ⟨w.heap.size, 7, none⟩ (.int .i64 0)) := ((((((((Only.refl w.heap.size y2).trans (Only.setCell _ w.heap.size 0 _)).trans (Only.setCell _ w.heap.size 1 _)).trans (Only.setCell _ w.heap.size 2 _)).trans (Only.setCell _ w.heap.size 3 _)).trans (Only.setCell _ w.heap.size 4 _)).trans (Only.setCell _ w.heap.size 5 _)).trans (Only.setCell _ w.heap.size 6 _)).trans (Only.setCell _ w.heap.size 7 _)
      have RR := RF.rangeG
      have NF := N1.trans (OF.below (B := w.heap.size) (Nat.le_refl _))
      have KF : w.heap.size + 1 < ((((((((y2.setCell ⟨w.heap.size, 0, none⟩ (.bool false)).setCell ⟨w.heap.size, 1, none⟩ (.slice none 0 0)).setCell ⟨w.heap.size, 2, none⟩ (.slice none 0 0)).setCell ⟨w.heap.size, 3, none⟩ (.int .i64 0)).setCell ⟨w.heap.size, 4, none⟩ (.int .i64 0)).setCell ⟨w.heap.size, 5, none⟩ (.string ⟨#[]⟩)).setCell ⟨w.heap.size, 6, none⟩ (.string ⟨#[]⟩)).setCell ⟨w.heap.size, 7, none⟩ (.int .i64 0)).heap.size := by rw [OF.size]; omega
      clear RF OF
      go_wp2
      exact bodyPost_ret (v := .agg #[.bool false, .slice none 0 0, .slice none 0 0, .int .i64 0, .int .i64 0, .string ⟨#[]⟩, .string ⟨#[]⟩, .int .i64 0]) (results_cellG Try.results17 _ _ w.heap.size _ dR rfl RR hdR hrowR iSr) rfl ⟨NewD.bad DG.out (g := w.heap.size) (g' := w.heap.size + 1) (by omega) (Nat.le_refl _) (by omega) (by omega) KF, NF⟩
  · have DG : Hid (dsB b = false) := by
      show _ = _
      unfold dsB
      rw [dX_len, dY_len]
      simp [h0]
    generalize sfV 32 32 (dM b) (dL b) (dH b) (dP b).length (dE b) = R at *
    have qc0 : y1.cell? ⟨w.heap.size, 0, none⟩ = some (.bool false) := Q1.cell 0
    have qf0 := Q1.free 0
    have qc1 : y1.cell? ⟨w.heap.size, 1, none⟩ = some (.slice none 0 0) := Q1.cell 1
    have qf1 := Q1.free 1
    have qc2 : y1.cell? ⟨w.heap.size, 2, none⟩ = some (.slice none 0 0) := Q1.cell 2
    have qf2 := Q1.free 2
    have qc3 : y1.cell? ⟨w.heap.size, 3, none⟩ = some (.int .i64 0) := Q1.cell 3
    have qf3 := Q1.free 3
    have qc4 : y1.cell? ⟨w.heap.size, 4, none⟩ = some (.int .i64 0) := Q1.cell 4
    have qf4 := Q1.free 4
    have qc5 : y1.cell? ⟨w.heap.size, 5, none⟩ = some (.string ⟨#[]⟩) := Q1.cell 5
    have qf5 := Q1.free 5
    have qc6 : y1.cell? ⟨w.heap.size, 6, none⟩ = some (.string ⟨#[]⟩) := Q1.cell 6
    have qf6 := Q1.free 6
    have qc7 : y1.cell? ⟨w.heap.size, 7, none⟩ = some (.int .i64 0) := Q1.cell 7
    have qf7 := Q1.free 7
    have RF : RwC ((((((((y1.setCell ⟨w.heap.size, 0, none⟩ (.bool false)).setCell ⟨w.heap.size, 1, none⟩ (.slice none 0 0)).setCell ⟨w.heap.size, 2, none⟩ (.slice none 0 0)).setCell ⟨w.heap.size, 3, none⟩ (.int .i64 0)).setCell ⟨w.heap.size, 4, none⟩ (.int .i64 0)).setCell ⟨w.heap.size, 5, none⟩ (.string ⟨#[]⟩)).setCell ⟨w.heap.size, 6, none⟩ (.string ⟨#[]⟩)).setCell ⟨w.heap.size, 7, none⟩ (.int .i64 0)) w.heap.size [.bool false, .slice none 0 0, .slice none 0 0, .int .i64 0, .int .i64 0, .string ⟨#[]⟩, .string ⟨#[]⟩, .int .i64 0] 36 := ((((((((Q1.set 0 (.bool false)).set 1 (.slice none 0 0)).set 2 (.slice none 0 0)).set 3 (.int .i64 0)).set 4 (.int .i64 0)).set 5 (.string ⟨#[]⟩)).set 6 (.string ⟨#[]⟩)).set 7 (.int .i64 0))
    have OF : Only w.heap.size y1 ((((((((y1.setCell ⟨w.heap.size, 0, none⟩ (.bool false)).setCell ⟨w.heap.size, 1, none⟩ (.slice none 0 0)).setCell ⟨w.heap.size, 2, none⟩ (.slice none 0 0)).setCell ⟨w.heap.size, 3, none⟩ (.int .i64 0)).setCell ⟨w.heap.size, 4, none⟩ (.int .i64 0)).setCell ⟨w.heap.size, 5, none⟩ (.string ⟨#[]⟩)).setCell ⟨w.heap.size, 6, none⟩ (.string ⟨#[]⟩)).setCell ⟨w.heap.size, 7, none⟩ (.int .i64 0)) := ((((((((Only.refl w.heap.size y1).trans (Only.setCell _ w.heap.size 0 _)).trans (Only.setCell _ w.heap.size 1 _)).trans (Only.setCell _ w.heap.size 2 _)).trans (Only.setCell _ w.heap.size 3 _)).trans (Only.setCell _ w.heap.size 4 _)).trans (Only.setCell _ w.heap.size 5 _)).trans (Only.setCell _ w.heap.size 6 _)).trans (Only.setCell _ w.heap.size 7 _)
    have RR := RF.rangeG
    have NF := N1.trans (OF.below (B := w.heap.size) (Nat.le_refl _))
    have KF : w.heap.size + 1 < ((((((((y1.setCell ⟨w.heap.size, 0, none⟩ (.bool false)).setCell ⟨w.heap.size, 1, none⟩ (.slice none 0 0)).setCell ⟨w.heap.size, 2, none⟩ (.slice none 0 0)).setCell ⟨w.heap.size, 3, none⟩ (.int .i64 0)).setCell ⟨w.heap.size, 4, none⟩ (.int .i64 0)).setCell ⟨w.heap.size, 5, none⟩ (.string ⟨#[]⟩)).setCell ⟨w.heap.size, 6, none⟩ (.string ⟨#[]⟩)).setCell ⟨w.heap.size, 7, none⟩ (.int .i64 0)).heap.size := by rw [OF.size]; omega
    clear RF OF
    go_wp2
    exact bodyPost_ret (v := .agg #[.bool false, .slice none 0 0, .slice none 0 0, .int .i64 0, .int .i64 0, .string ⟨#[]⟩, .string ⟨#[]⟩, .int .i64 0]) (results_cellG Try.results17 _ _ w.heap.size _ dR rfl RR hdR hrowR iSr) rfl ⟨NewD.bad DG.out (g := w.heap.size) (g' := w.heap.size + 1) (by omega) (Nat.le_refl _) (by omega) (by omega) KF, NF⟩
end Go.Proofs.Ytjdbnlbmhnpifaa
