import Derived.Test.YtdbgdiahddpgkaaGreatGE12
import Derived.Test.YtdbgdiahddpgkaaGreatGE3
import Derived.Test.YtdbgdiahddpgkaaGreatGE20
import Derived.Test.YtdbgdiahddpgkaaGreatGE14

/-
  Worlds that differ in what was made and in some blocks; cells of a struct's block. No program in sight.
-/
namespace Go.Proofs.YtdbgdiahddpgkaaGreat
open Go Go.RowKit

/-- Of what was there the blocks S alone have changed. -/
structure Tch (S : List Nat) (w w' : World) : Prop where
  os : w'.os = w.os
  tape : w'.tape = w.tape
  output : w'.output = w.output
  size : w.heap.size ≤ w'.heap.size
  block : ∀ b, b < w.heap.size → b ∉ S → w'.heap[b]? = w.heap[b]?
theorem Tch.of_below {w w' : World} {S : List Nat} (h : Below w.heap.size w w') : Tch S w w' := ⟨h.os, h.tape, h.output, h.size, fun b hb _ => h.block b hb⟩
theorem Tch.of_only {w w' : World} {g : Nat} (h : Only g w w') : Tch [g] w w' := ⟨h.os, h.tape, h.output, Nat.le_of_eq h.size.symm, fun b _ hn => h.block b (by simpa using hn)⟩
theorem Tch.trans {a b c : World} {S T : List Nat} (h : Tch S a b) (k : Tch T b c) : Tch (S ++ T) a c :=
  ⟨k.os.trans h.os, k.tape.trans h.tape, k.output.trans h.output, Nat.le_trans h.size k.size, fun x hx hn => (k.block x (Nat.lt_of_lt_of_le hx h.size) (fun m => hn (List.mem_append_right _ m))).trans (h.block x hx (fun m => hn (List.mem_append_left _ m)))⟩
theorem Tch.below {w w' : World} {S : List Nat} {B : Nat} (h : Tch S w w') (hB : B ≤ w.heap.size) (hS : ∀ s ∈ S, B ≤ s) : Below B w w' := ⟨h.os, h.tape, h.output, h.size, fun k hk => h.block k (by omega) (fun m => by have := hS k m; omega)⟩
theorem Tch.mono {w w' : World} {S T : List Nat} (h : Tch S w w') (hs : ∀ s ∈ S, s ∈ T) : Tch T w w' := ⟨h.os, h.tape, h.output, h.size, fun b hb hn => h.block b hb (fun m => hn (hs b m))⟩
theorem Own.tch {w w' : World} {S : List Nat} {g : Nat} {a : Option Addr} {k : IntKind} {xs : List Int} (h : Own w g a k xs) (t : Tch S w w') (hne : 0 < xs.length → g ∉ S) : Own w' g a k xs := by
  by_cases h0 : 0 < xs.length
  · exact h.of_block (t.block g (h.rd.lt h0) (hne h0))
  · exact fun q => absurd q h0
theorem Blk.tch {w w' : World} {S : List Nat} {g : Nat} {k : IntKind} {ys : List Int} (h : Blk w g k ys) (t : Tch S w w') (hne : g ∉ S) : Blk w' g k ys := h.of_block (t.block g h.lt hne)
theorem RwC.tch {w w' : World} {S : List Nat} {q : Nat} {cs : List Value} {t : TypeId} (h : RwC w q cs t) (m : Tch S w w') (hne : q ∉ S) : RwC w' q cs t := (m.block q h.lt hne).trans h
theorem RwC.c0 {w : World} {q : Nat} {x : Value} {cs : List Value} {t : TypeId} (h : RwC w q (x :: cs) t) : w.cell? ⟨q, 0, none⟩ = some x := h.cell 0
theorem RwC.c1 {w : World} {q : Nat} {x y : Value} {cs : List Value} {t : TypeId} (h : RwC w q (x :: y :: cs) t) : w.cell? ⟨q, 1, none⟩ = some y := h.cell 1
theorem RwC.c2 {w : World} {q : Nat} {x y z : Value} {cs : List Value} {t : TypeId} (h : RwC w q (x :: y :: z :: cs) t) : w.cell? ⟨q, 2, none⟩ = some z := h.cell 2
end Go.Proofs.YtdbgdiahddpgkaaGreat

/-
  The laws' helpers on texts: markText, markStringS.
-/
namespace Go.Proofs.YtdbgdiahddpgkaaGreat
open Go Go.RowKit

theorem txt1 (W : World) (x : Int) : (convert 22 9 (.slice (some ⟨W.heap.size, 0, none⟩) 1 1)).run Tryz.prog (W.alloc (.cells #[.int .u8 x] 5)) = .ok (.string ⟨⟨[UInt8.ofNat x.toNat]⟩⟩) (W.alloc (.cells #[.int .u8 x] 5)) :=
  conv_run (W.alloc (.cells #[.int .u8 x] 5)) W.heap.size (some ⟨W.heap.size, 0, none⟩) 1 [x] (blk_lit1 W .u8 5 x).own0.rd
theorem pow_step {n j : Nat} (h : n < 10 ^ j) (h0 : 0 < n) : ∃ i, j = i + 1 ∧ n / 10 < 10 ^ i := by
  cases j with
  | zero => simp at h; omega
  | succ i =>
    refine ⟨i, rfl, ?_⟩
    rw [Nat.pow_succ] at h
    exact Nat.div_lt_of_lt_mul (by omega)
set_option maxRecDepth 100000 in
set_option maxHeartbeats 2000000 in
theorem markText_any (w : World) (k : Int) (k0 : 0 ≤ k) (k1 : k ≤ 1099511627776) :
    Calls Tryz.prog 39 #[.int .i64 k] w fun e w' => (∃ l : List UInt8, e = .returned (.string ⟨⟨l⟩⟩)) ∧ Below w.heap.size w w' := by
  obtain ⟨n, rfl⟩ := Int.eq_ofNat_of_zero_le k0
  have n0 : Below w.heap.size w w := Below.refl _ _
  by_cases h0 : n = 0
  · subst h0
    go_enter Tryz.func39, Tryz.ntmps39
    go_wp2
    go_ret
    exact ⟨⟨[109, 48], rfl⟩, n0⟩
  have t0 : decide ((n : Int) ≤ 0) = false := decide_eq_false (by omega)
  have t0' : ¬ n = 0 := h0
  have P13 : Hid (n < 10 ^ 13) := by show n < 10 ^ 13; omega
  go_enter Tryz.func39, Tryz.ntmps39
  go_wp2
  go_loopw [0, 3] (fun q t wr => ∃ (x j : Nat) (l : List UInt8), q = .int .i64 (x : Int) ∧ t = .string ⟨⟨l⟩⟩ ∧ x < 10 ^ j ∧ l.length + j ≤ 13 ∧ x ≤ 1099511627776 ∧ Below w.heap.size w wr) (fun q _ _ => (intOf q).toNat)
  case atStart => exact ⟨n, 13, [], rfl, rfl, P13.out, by simp, by omega, n0⟩
  case round =>
    obtain ⟨x, j, l, rfl, rfl, hp, hl, hx, hN⟩ := hrel
    clear t0 t0' h0 P13 n0 k0 k1
    by_cases hz : x = 0
    · subst hz
      have ad : ∀ W : World, (Op.stringOp .add (ByteArray.mk #[109]) (ByteArray.mk ⟨l⟩)).run Tryz.prog W = .ok (.string ⟨⟨[109] ++ l⟩⟩) W := fun W => tx_add W [109] l (by simp; omega)
      go_wp2
      go_ret
      exact ⟨⟨_, rfl⟩, hN⟩
    · obtain ⟨i, rfl, hd⟩ := pow_step hp (by omega)
      have tx0 : decide ((0 : Int) < (x : Int)) = true := decide_eq_true (by omega)
      have tx1 : 0 < x := by omega
      have qd : Int.tdiv (x : Int) 10 = ((x / 10 : Nat) : Int) := rfl
      have ad : ∀ (b : UInt8) (W : World), (Op.stringOp .add (ByteArray.mk ⟨[b]⟩) (ByteArray.mk ⟨l⟩)).run Tryz.prog W = .ok (.string ⟨⟨[b] ++ l⟩⟩) W := fun b W => tx_add W [b] l (by simp; omega)
      have hd' := hide hd
      clear hp hd
      go_wp2_with (first | (refine wpList_convT _ rfl 22 9 (.tmp 12) rfl (.slice (some ⟨wr.heap.size, 0, none⟩) 1 1) rfl _ _ (txt1 wr _) ?_) | fail)
      go_roundw
      case rel => exact ⟨x / 10, i, _, by first | rfl | go_num, rfl, hd'.out, by simp; omega, by omega, hN.alloc hN.size _⟩
      case measure => simp [intOf]; omega
end Go.Proofs.YtdbgdiahddpgkaaGreat

/-
  The laws' helpers that mark: rows of texts, rows of lists; a row of lists copied into blocks of its own.
-/
namespace Go.Proofs.YtdbgdiahddpgkaaGreat
open Go Go.RowKit

/-- Of what was there nothing has turned but blocks from lo on that lie before hi. -/
structure Ch (lo hi : Nat) (w w' : World) : Prop where
  os : w'.os = w.os
  tape : w'.tape = w.tape
  output : w'.output = w.output
  size : w.heap.size ≤ w'.heap.size
  block : ∀ b, b < w.heap.size → b < lo ∨ hi ≤ b → w'.heap[b]? = w.heap[b]?
theorem Ch.refl (lo hi : Nat) (w : World) : Ch lo hi w w := ⟨rfl, rfl, rfl, Nat.le_refl _, fun _ _ _ => rfl⟩
theorem Ch.trans {lo hi : Nat} {a b c : World} (h : Ch lo hi a b) (k : Ch lo hi b c) : Ch lo hi a c :=
  ⟨k.os.trans h.os, k.tape.trans h.tape, k.output.trans h.output, Nat.le_trans h.size k.size, fun i hl hi => (k.block i (Nat.lt_of_lt_of_le hl h.size) hi).trans (h.block i hl hi)⟩
theorem Ch.mono {lo hi lo' hi' : Nat} {a b : World} (h : Ch lo hi a b) (hl : lo' ≤ lo) (hh : hi ≤ hi') : Ch lo' hi' a b := ⟨h.os, h.tape, h.output, h.size, fun i hb hi => h.block i hb (by omega)⟩
theorem Ch.of_below {lo hi : Nat} {a b : World} (h : Below a.heap.size a b) : Ch lo hi a b := ⟨h.os, h.tape, h.output, h.size, fun i hb _ => h.block i hb⟩
theorem Ch.of_only {g lo hi : Nat} {a b : World} (h : Only g a b) (h1 : lo ≤ g) (h2 : g < hi) : Ch lo hi a b := ⟨h.os, h.tape, h.output, Nat.le_of_eq h.size.symm, fun i _ hi => h.block i (by omega)⟩
theorem Ch.below {lo hi : Nat} {a b : World} (h : Ch lo hi a b) (hl : lo ≤ a.heap.size) : Below lo a b := ⟨h.os, h.tape, h.output, h.size, fun i hi => h.block i (by omega) (.inl hi)⟩
set_option maxRecDepth 100000 in
set_option maxHeartbeats 2000000 in
theorem markStringS_any (w : World) (g : Nat) (c : Nat) (ls : List (List UInt8)) (k : Int) (h : BlkT w g ls) (hn : ls.length ≤ 1048576) (k0 : 0 ≤ k) (k1 : k ≤ 1000000000) :
    Calls Tryz.prog 25 #[.slice (some ⟨g, 0, none⟩) ls.length c, .int .i64 k] w fun e w' => e = .returned (.int .i64 (k + (ls.length : Int))) ∧ Ch g (g + 1) w w' := by
  go_enter Tryz.func25, Tryz.ntmps25
  go_wp2
  go_loopw [1, 5] (fun q i wr => ∃ (j : Nat) (ys : List (List UInt8)), j ≤ ls.length ∧ i = .int .i64 j ∧ q = .int .i64 (k + (j : Int)) ∧ ys.length = ls.length ∧ BlkT wr g ys ∧ Ch g (g + 1) w wr) (fun _ i _ => ls.length - (intOf i).toNat)
  case atStart => exact ⟨0, ls, Nat.zero_le _, rfl, by go_num, rfl, h, Ch.refl _ _ _⟩
  case round =>
    obtain ⟨j, ys, hj, rfl, rfl, hl, hB, hN⟩ := hrel
    by_cases hlt : j < ls.length
    · have MT := hide (markText_any wr (k + (j : Int)) (by omega) (by omega))
      have HB := hide hB
      have HN := hide hN
      clear hB hN h
      go_wp2_with fail
      refine MT.out.mono ?_
      rintro e w2 ⟨⟨l, rfl⟩, n2⟩
      have B2 := HB.out.up n2
      have hcy : w2.cell? ⟨g, j, none⟩ = some (tx (ys.getD j [])) := B2.cell (by rw [hl]; exact hlt)
      have hfy := B2.free j
      have B3 := hide (B2.store j l)
      have N3 : Hid (Ch g (g + 1) w (w2.setCell ⟨g, j, none⟩ (tx l))) := (HN.out.trans (Ch.of_below n2)).trans (Ch.of_only (Only.setCell w2 g j _) (Nat.le_refl _) (by omega))
      generalize ys.getD j [] = y at *
      clear B2 n2 HB HN MT
      unfold tx at hcy B3 N3
      go_wp2
      go_roundw
      case rel => exact ⟨j + 1, ys.set j l, by omega, by go_num, by go_num, by simp [hl], B3.out, N3.out⟩
      case measure => simp [intOf]; omega
    · obtain rfl : j = ls.length := by omega
      have HN := hide hN
      clear hB hN h
      go_wp2
      go_ret
      exact ⟨rfl, HN.out⟩
/-- A row of lists, each in a block of its own behind the row's, one behind the other. -/
structure RowO (w : World) (g : Nat) (ce : List (List Int)) (k : Nat) (Gs : List Nat) : Prop where
  c : ∀ i, i < k → w.cell? ⟨g, i, none⟩ = some (.slice (some ⟨Gs.getD i 0, 0, none⟩) (ce.getD i []).length (ce.getD i []).length)
  b : ∀ i, i < k → Blk w (Gs.getD i 0) .u8 (ce.getD i [])
  l : ∀ i, i < k → g < Gs.getD i 0
  m : ∀ i j, i < j → j < k → Gs.getD i 0 < Gs.getD j 0
theorem RowO.up {w w' : World} {g : Nat} {ce : List (List Int)} {k : Nat} {Gs : List Nat} (h : RowO w g ce k Gs) (n : Below w.heap.size w w') : RowO w' g ce k Gs :=
  ⟨fun i hi => (n.cell (block_lt_of_cell (h.c i hi))).trans (h.c i hi), fun i hi => (h.b i hi).up n, h.l, h.m⟩
theorem RowO.onl {w w' : World} {g q : Nat} {ce : List (List Int)} {k : Nat} {Gs : List Nat} (h : RowO w g ce k Gs) (O : Only q w w') (hq : q < g) : RowO w' g ce k Gs :=
  ⟨fun i hi => (World.cell?_of_block (a := ⟨g, i, none⟩) (O.block g (by omega))).trans (h.c i hi), fun i hi => (h.b i hi).of_block (O.block _ (by have := h.l i hi; omega)), h.l, h.m⟩
theorem RowO.ch {w w' : World} {g lo hi : Nat} {ce : List (List Int)} {k : Nat} {Gs : List Nat} (h : RowO w g ce k Gs) (O : Ch lo hi w w') (hq : hi ≤ g) : RowO w' g ce k Gs :=
  ⟨fun i hk => (World.cell?_of_block (a := ⟨g, i, none⟩) (O.block g (block_lt_of_cell (h.c i hk)) (.inr hq))).trans (h.c i hk), fun i hk => (h.b i hk).of_block (O.block _ (h.b i hk).lt (.inr (by have := h.l i hk; omega))), h.l, h.m⟩
/-- The lists' places. -/
def psO (ce : List (List Int)) (Gs : List Nat) : List Plb := (List.range ce.length).map fun j => ⟨some ⟨Gs.getD j 0, 0, none⟩, (ce.getD j []).length, Gs.getD j 0⟩
theorem psO_get {ce : List (List Int)} {Gs : List Nat} {i : Nat} (hi : i < ce.length) : (psO ce Gs).getD i plb0 = ⟨some ⟨Gs.getD i 0, 0, none⟩, (ce.getD i []).length, Gs.getD i 0⟩ := by
  unfold psO
  rw [List.getD_eq_getElem?_getD]
  simp [hi]
theorem RowO.rd {w : World} {g : Nat} {ce : List (List Int)} {Gs : List Nat} (h : RowO w g ce ce.length Gs) : RdL w g (some ⟨g, 0, none⟩) ce (psO ce Gs) := by
  refine ⟨fun _ => ⟨0, rfl, fun i hi => ?_⟩, fun i hi => ?_⟩
  · rw [Nat.zero_add, psO_get hi]
    exact h.c i hi
  · rw [psO_get hi]
    exact (h.b i hi).own0.rd
/-- Beside the row as it grows. -/
def RowP (wr : World) (g : Nat) (ce : List (List Int)) (k : Nat) (vs : List Value) (Gs : List Nat) : Prop := vs.length = ce.length ∧ RwC wr g vs 54 ∧ Gs.length = k ∧ RowO wr g ce k Gs
theorem RowP.step {g k : Nat} {wr w1 : World} {ce : List (List Int)} {vs : List Value} {Gs : List Nat} (h : RowP wr g ce k vs Gs) (hk : k < ce.length) (n : Below wr.heap.size wr w1) {G : Nat} (hG : wr.heap.size ≤ G) (b : Blk w1 G .u8 (ce.getD k [])) :
    RowP (w1.setCell ⟨g, k, none⟩ (.slice (some ⟨G, 0, none⟩) (ce.getD k []).length (ce.getD k []).length)) g ce (k + 1) (vs.set k (.slice (some ⟨G, 0, none⟩) (ce.getD k []).length (ce.getD k []).length)) (Gs ++ [G]) := by
  obtain ⟨h1, h2, h3, h4⟩ := h
  have O := Only.setCell w1 g k (.slice (some ⟨G, 0, none⟩) (ce.getD k []).length (ce.getD k []).length)
  have R2 := (h2.up n).set k (.slice (some ⟨G, 0, none⟩) (ce.getD k []).length (ce.getD k []).length)
  have lg := h2.lt
  have e1 : ∀ i, i < k → (Gs ++ [G]).getD i 0 = Gs.getD i 0 := fun i hi => by
    rw [List.getD_eq_getElem?_getD, List.getElem?_append_left (by omega), ← List.getD_eq_getElem?_getD]
  have e2 : (Gs ++ [G]).getD k 0 = G := by
    rw [List.getD_eq_getElem?_getD, List.getElem?_append_right (by omega), h3]
    simp
  refine ⟨by simpa using h1, R2, by simp [h3], ⟨fun i hi => ?_, fun i hi => ?_, fun i hi => ?_, fun i j hij hj => ?_⟩⟩
  · rw [R2.cell i]
    by_cases e : i = k
    · subst e
      rw [e2]
      simp [h1, hk]
    · rw [e1 i (by omega), List.getElem?_set_ne (by omega)]
      have := h4.c i (by omega)
      rwa [h2.cell i] at this
  · by_cases e : i = k
    · subst e
      rw [e2]
      exact b.of_block (O.block G (by omega))
    · rw [e1 i (by omega)]
      have := h4.l i (by omega)
      exact ((h4.b i (by omega)).up n).of_block (O.block _ (by omega))
  · by_cases e : i = k
    · subst e
      rw [e2]
      omega
    · rw [e1 i (by omega)]
      exact h4.l i (by omega)
  · rw [e1 i (by omega)]
    by_cases e : j = k
    · subst e
      rw [e2]
      have := (h4.b i hij).lt
      omega
    · rw [e1 j (by omega)]
      exact h4.m i j hij (by omega)
set_option maxHeartbeats 2000000 in
theorem toBlobS_own (w : World) (g : Nat) (a : Option Addr) (c : Nat) (ce : List (List Int)) (ps : List Plb) (hr : RdL w g a ce ps) (hn : ce.length ≤ 1048576) (hz : ∀ i, i < ce.length → (ce.getD i []).length ≤ 1048576) :
    Calls Tryz.prog 21 #[.slice a ce.length c] w fun e w' => (e = .returned (.slice (some ⟨w.heap.size, 0, none⟩) ce.length ce.length) ∧ ∃ Gs, RowO w' w.heap.size ce ce.length Gs ∧ w.heap.size < w'.heap.size) ∧ Below w.heap.size w w' := by
  obtain ⟨i0, hi, hz0, hz1, hz2⟩ : ∃ i0, Tryz.prog.info? 54 = some i0 ∧ i0.zero = some (.agg #[.slice none 0 0]) ∧ i0.size = 1 ∧ i0.bytes = 24 := by
    have h := infoBl
    cases hq : Tryz.prog.info? 54 with
    | none => rw [hq] at h; simp at h
    | some i0 =>
      rw [hq] at h
      simp only [Option.map_some, Option.some.injEq, Prod.mk.injEq] at h
      exact ⟨i0, rfl, h.1, h.2.1, h.2.2⟩
  go_enter Tryz.func21, Tryz.ntmps21
  go_wp2_with (at_make; refine wpList_make_full _ rfl _ _ 29 rfl w.heap.size 54 i0 (.agg #[.slice none 0 0]) 1 Tryz.underlying29 hi hz0 hz1 .i64 .i64 _ _ ce.length rfl rfl rfl rfl (by rw [hz2]; omega) (by unfold maxLen; omega) (Nat.le_refl _) ?_; intro w1 hown hgrow)
  have hB0 := RwC.of_made hown
  have hN0 : Below w.heap.size w w1 := (Below.refl _ _).grown hgrow (Nat.le_refl _) (by simp)
  clear hown hgrow
  go_loopw [4] (fun i wr => ∃ (k : Nat) (vs : List Value) (Gs : List Nat), k ≤ ce.length ∧ i = .int .i64 k ∧ RowP wr w.heap.size ce k vs Gs ∧ Below w.heap.size w wr) (fun i _ => ce.length - (intOf i).toNat)
  case atStart => exact ⟨0, _, [], Nat.zero_le _, rfl, ⟨by simp, hB0, rfl, ⟨fun j hj => absurd hj (by omega), fun j hj => absurd hj (by omega), fun j hj => absurd hj (by omega), fun _ j _ hj => absurd hj (by omega)⟩⟩, hN0⟩
  case round =>
    obtain ⟨k, vs, Gs, hk, rfl, hR, hN⟩ := hrel
    clear hB0 hN0
    by_cases hlt : k < ce.length
    · obtain ⟨off, rfl, hc⟩ := (hr.up hN).r (by omega)
      have t0 : (k : Int) < (ce.length : Int) := by omega
      have c1 := hc k hlt
      have TB := hide (toBlob_any wr _ _ (ps.getD k plb0).c _ ((hr.up hN).b k hlt) (hz k hlt))
      have HS := hide (fun (w1 : World) (n : Below wr.heap.size wr w1) G hG b => RowP.step (w1 := w1) (G := G) hR hlt n hG b)
      have hR2 := hide hR.2.1
      have hlen := hide hR.1
      have HN := hide hN
      clear hc hR hN
      generalize (ps.getD k plb0).a = pa at *
      generalize (ps.getD k plb0).c = pc at *
      generalize ce.getD k [] = x at *
      go_wp2_with fail
      refine TB.out.mono ?_
      rintro e w2 ⟨⟨G, rfl, hG, B⟩, n2⟩
      have T2 := hR2.out.up n2
      have q1 := T2.cell k
      have kl : k < vs.length := by rw [hlen.out]; exact hlt
      obtain ⟨y, hy⟩ : ∃ y, vs[k]? = some y := ⟨_, List.getElem?_eq_getElem kl⟩
      rw [hy] at q1
      have q2 := T2.free k
      have ST := hide (HS.out w2 n2 G hG B)
      have N2 := hide (nxt HN.out n2)
      clear TB HS hR2 hlen T2 B n2 HN kl hG hy
      go_wp2
      go_roundw
      case rel => exact ⟨k + 1, _, Gs ++ [G], by omega, by go_num, ST.out, N2.out.setCell (Nat.le_refl _) _⟩
      case measure => simp [intOf]; omega
    · obtain rfl : k = ce.length := by omega
      have RD := hide hR.2.2.2
      have RL := hide hR.2.1.lt
      have HN := hide hN
      clear hR hN hr
      go_wp2
      go_ret
      exact ⟨⟨rfl, Gs, RD.out, RL.out⟩, HN.out⟩
set_option maxRecDepth 100000 in
set_option maxHeartbeats 2000000 in
theorem markBlobS_own (w : World) (g : Nat) (c : Nat) (ce : List (List Int)) (Gs : List Nat) (k : Int) (h : RowO w g ce ce.length Gs) (hn : ce.length ≤ 1048576) (hz : sumB ce ≤ 1048576) (k0 : 0 ≤ k) (k1 : k ≤ 1000000000) (H : Nat) (hH : ∀ i, i < ce.length → Gs.getD i 0 < H) :
    Calls Tryz.prog 26 #[.slice (some ⟨g, 0, none⟩) ce.length c, .int .i64 k] w fun e w' => (∃ k' : Int, e = .returned (.int .i64 k') ∧ k ≤ k' ∧ k' ≤ k + 1048576) ∧ Ch (g + 1) H w w' := by
  go_enter Tryz.func26, Tryz.ntmps26
  go_wp2
  go_loopw [1, 5] (fun q i wr => ∃ (j : Nat), j ≤ ce.length ∧ i = .int .i64 j ∧ q = .int .i64 (k + (sumB (ce.take j) : Int)) ∧ (∀ i, i < ce.length → wr.cell? ⟨g, i, none⟩ = some (.slice (some ⟨Gs.getD i 0, 0, none⟩) (ce.getD i []).length (ce.getD i []).length)) ∧ (∀ i, j ≤ i → i < ce.length → Blk wr (Gs.getD i 0) .u8 (ce.getD i [])) ∧ Ch (g + 1) H w wr) (fun _ i _ => ce.length - (intOf i).toNat)
  case atStart => exact ⟨0, Nat.zero_le _, rfl, by simp [sumB], h.c, fun i _ hi => h.b i hi, Ch.refl _ _ _⟩
  case round =>
    obtain ⟨j, hj, rfl, rfl, hc, hB, hN⟩ := hrel
    by_cases hlt : j < ce.length
    · have c1 := hc j hlt
      have t0 : (j : Int) < (ce.length : Int) := by omega
      have st := sumB_take hlt
      have sl := sumB_le (ls := ce) (j + 1)
      have gl := h.l j hlt
      have gh := hH j hlt
      have MB := hide (markByteS_any wr (Gs.getD j 0) (some ⟨Gs.getD j 0, 0, none⟩) (ce.getD j []).length (ce.getD j []) (k + (sumB (ce.take j) : Int)) (hB j (Nat.le_refl _) hlt).own0 (by omega) (by omega) (by omega))
      have NX : Hid (∀ w2, Only (Gs.getD j 0) wr w2 → (∀ i, i < ce.length → w2.cell? ⟨g, i, none⟩ = some (.slice (some ⟨Gs.getD i 0, 0, none⟩) (ce.getD i []).length (ce.getD i []).length)) ∧ (∀ i, j + 1 ≤ i → i < ce.length → Blk w2 (Gs.getD i 0) .u8 (ce.getD i [])) ∧ Ch (g + 1) H w w2) := fun w2 O => ⟨fun i hi => (World.cell?_of_block (a := ⟨g, i, none⟩) (O.block g (by omega))).trans (hc i hi), fun i hji hi => (hB i (by omega) hi).of_block (O.block _ (by have := h.m j i (by omega) hi; omega)), hN.trans (Ch.of_only O (by omega) gh)⟩
      rw [st] at sl
      have eS : Hid (k + (sumB (ce.take j) : Int) + ((ce.getD j []).length : Int) = k + (sumB (ce.take (j + 1)) : Int)) := by show _ = _; rw [st]; omega
      clear hc hB hN gl gh st
      generalize Gs.getD j 0 = G at *
      generalize ce.getD j [] = x at *
      generalize sumB (ce.take j) = S at *
      go_wp2_with fail
      refine MB.out.mono ?_
      rintro e w2 ⟨rfl, -, O⟩
      have NY := hide ((unhide NX) w2 O)
      rw [eS.out]
      clear MB NX O
      go_wp2
      go_roundw
      case rel => exact ⟨j + 1, by omega, by go_num, rfl, NY.out.1, NY.out.2.1, NY.out.2.2⟩
      case measure => simp [intOf]; omega
    · obtain rfl : j = ce.length := by omega
      have HN := hide hN
      have sl := sumB_le (ls := ce) ce.length
      clear hB hN hc h
      go_wp2
      go_ret
      exact ⟨⟨_, rfl, by omega, by omega⟩, HN.out⟩
end Go.Proofs.YtdbgdiahddpgkaaGreat
