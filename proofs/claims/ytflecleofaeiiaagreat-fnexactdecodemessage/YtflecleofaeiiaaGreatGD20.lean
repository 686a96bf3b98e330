import Derived.Test.YtflecleofaeiiaaGreatGD19
import Derived.Test.YtflecleofaeiiaaGreatGD14
import Derived.Deep.RegionWith

/-
  The laws' helpers that mark: rows of texts, rows of lists; a row of lists copied into blocks of its own.
-/
namespace Go.Proofs.YtflecleofaeiiaaGreat
open Go Go.RowKit

/-- Of what was there nothing has turned but blocks from lo on that lie before hi. -/
structure Ch (lo hi : Nat) (w w' : World) : Prop where
  os : w'.os = w.os
  tape : w'.tape = w.tape
  output : w'.output = w.output
  size : w.heap.size ≤ w'.heap.size
  block : ∀ b, b < w.heap.size → b < lo ∨ hi ≤ b → w'.heap[b]? = w.heap[b]?
theorem Ch.refl (lo hi : Nat) (w : World) : Ch lo hi w w := ⟨rfl, rfl, rfl, Nat.le_refl _, fun _ _ _ => rfl⟩
theorem Ch.trans {lo hi : Nat} {a b c : World} (h : Ch lo hi a b) (k : Ch lo hi b c) : Ch lo hi a c :=
  ⟨k.os.trans h.os, k.tape.trans h.tape, k.output.trans h.output, Nat.le_trans h.size k.size, fun i hl hi => (k.block i (Nat.lt_of_lt_of_le hl h.size) hi).trans (h.block i hl hi)⟩
theorem Ch.mono {lo hi lo' hi' : Nat} {a b : World} (h : Ch lo hi a b) (hl : lo' ≤ lo) (hh : hi ≤ hi') : Ch lo' hi' a b := ⟨h.os, h.tape, h.output, h.size, fun i hb hi => h.block i hb (by omega)⟩
theorem Ch.of_below {lo hi : Nat} {a b : World} (h : Below a.heap.size a b) : Ch lo hi a b := ⟨h.os, h.tape, h.output, h.size, fun i hb _ => h.block i hb⟩
theorem Ch.of_only {g lo hi : Nat} {a b : World} (h : Only g a b) (h1 : lo ≤ g) (h2 : g < hi) : Ch lo hi a b := ⟨h.os, h.tape, h.output, Nat.le_of_eq h.size.symm, fun i _ hi => h.block i (by omega)⟩
theorem Ch.below {lo hi : Nat} {a b : World} (h : Ch lo hi a b) (hl : lo ≤ a.heap.size) : Below lo a b := ⟨h.os, h.tape, h.output, h.size, fun i hi => h.block i (by omega) (.inl hi)⟩
set_option maxRecDepth 100000 in
set_option maxHeartbeats 2000000 in
theorem markStringS_any (w : World) (g : Nat) (c : Nat) (ls : List (List UInt8)) (k : Int) (h : BlkT w g ls) (hn : ls.length ≤ 1048576) (k0 : 0 ≤ k) (k1 : k ≤ 1000000000) :
    Calls Tryz.prog 58 #[.slice (some ⟨g, 0, none⟩) ls.length c, .int .i64 k] w fun e w' => e = .returned (.int .i64 (k + (ls.length : Int))) ∧ Ch g (g + 1) w w' := by
  go_enter Tryz.func58, Tryz.ntmps58
  go_wp2
  go_loopw [1, 5] (fun q i wr => ∃ (j : Nat) (ys : List (List UInt8)), j ≤ ls.length ∧ i = .int .i64 j ∧ q = .int .i64 (k + (j : Int)) ∧ ys.length = ls.length ∧ BlkT wr g ys ∧ Ch g (g + 1) w wr) (fun _ i _ => ls.length - (intOf i).toNat)
  case atStart => exact ⟨0, ls, Nat.zero_le _, rfl, by go_num, rfl, h, Ch.refl _ _ _⟩
  case round =>
    obtain ⟨j, ys, hj, rfl, rfl, hl, hB, hN⟩ := hrel
    by_cases hlt : j < ls.length
    · have MT := hide (markText_any wr (k + (j : Int)) (by omega) (by omega))
      have HB := hide hB
      have HN := hide hN
      clear hB hN h
      go_wp2_with fail
      refine MT.out.mono ?_
      rintro e w2 ⟨⟨l, rfl⟩, n2⟩
      have B2 := HB.out.up n2
      have hcy : w2.cell? ⟨g, j, none⟩ = some (tx (ys.getD j [])) := B2.cell (by rw [hl]; exact hlt)
      have hfy := B2.free j
      have B3 := hide (B2.store j l)
      have N3 : Hid (Ch g (g + 1) w (w2.setCell ⟨g, j, none⟩ (tx l))) := (HN.out.trans (Ch.of_below n2)).trans (Ch.of_only (Only.setCell w2 g j _) (Nat.le_refl _) (by omega))
      generalize ys.getD j [] = y at *
      clear B2 n2 HB HN MT
      unfold tx at hcy B3 N3
      go_wp2
      go_roundw
      case rel => exact ⟨j + 1, ys.set j l, by omega, by go_num, by go_num, by simp [hl], B3.out, N3.out⟩
      case measure => simp [intOf]; omega
    · obtain rfl : j = ls.length := by omega
      have HN := hide hN
      clear hB hN h
      go_wp2
      go_ret
      exact ⟨rfl, HN.out⟩
/-- A row of lists, each in a block of its own behind the row's, one behind the other. -/
structure RowO (w : World) (g : Nat) (ce : List (List Int)) (k : Nat) (Gs : List Nat) : Prop where
  c : ∀ i, i < k → w.cell? ⟨g, i, none⟩ = some (.slice (some ⟨Gs.getD i 0, 0, none⟩) (ce.getD i []).length (ce.getD i []).length)
  b : ∀ i, i < k → Blk w (Gs.getD i 0) .u8 (ce.getD i [])
  l : ∀ i, i < k → g < Gs.getD i 0
  m : ∀ i j, i < j → j < k → Gs.getD i 0 < Gs.getD j 0
theorem RowO.up {w w' : World} {g : Nat} {ce : List (List Int)} {k : Nat} {Gs : List Nat} (h : RowO w g ce k Gs) (n : Below w.heap.size w w') : RowO w' g ce k Gs :=
  ⟨fun i hi => (n.cell (block_lt_of_cell (h.c i hi))).trans (h.c i hi), fun i hi => (h.b i hi).up n, h.l, h.m⟩
theorem RowO.onl {w w' : World} {g q : Nat} {ce : List (List Int)} {k : Nat} {Gs : List Nat} (h : RowO w g ce k Gs) (O : Only q w w') (hq : q < g) : RowO w' g ce k Gs :=
  ⟨fun i hi => (World.cell?_of_block (a := ⟨g, i, none⟩) (O.block g (by omega))).trans (h.c i hi), fun i hi => (h.b i hi).of_block (O.block _ (by have := h.l i hi; omega)), h.l, h.m⟩
theorem RowO.ch {w w' : World} {g lo hi : Nat} {ce : List (List Int)} {k : Nat} {Gs : List Nat} (h : RowO w g ce k Gs) (O : Ch lo hi w w') (hq : hi ≤ g) : RowO w' g ce k Gs :=
  ⟨fun i hk => (World.cell?_of_block (a := ⟨g, i, none⟩) (O.block g (block_lt_of_cell (h.c i hk)) (.inr hq))).trans (h.c i hk), fun i hk => (h.b i hk).of_block (O.block _ (h.b i hk).lt (.inr (by have := h.l i hk; omega))), h.l, h.m⟩
/-- The lists' places. -/
def psO (ce : List (List Int)) (Gs : List Nat) : List Plb := (List.range ce.length).map fun j => ⟨some ⟨Gs.getD j 0, 0, none⟩, (ce.getD j []).length, Gs.getD j 0⟩
theorem psO_get {ce : List (List Int)} {Gs : List Nat} {i : Nat} (hi : i < ce.length) : (psO ce Gs).getD i plb0 = ⟨some ⟨Gs.getD i 0, 0, none⟩, (ce.getD i []).length, Gs.getD i 0⟩ := by
  unfold psO
  rw [List.getD_eq_getElem?_getD]
  simp [hi]
theorem RowO.rd {w : World} {g : Nat} {ce : List (List Int)} {Gs : List Nat} (h : RowO w g ce ce.length Gs) : RdL w g (some ⟨g, 0, none⟩) ce (psO ce Gs) := by
  refine ⟨fun _ => ⟨0, rfl, fun i hi => ?_⟩, fun i hi => ?_⟩
  · rw [Nat.zero_add, psO_get hi]
    exact h.c i hi
  · rw [psO_get hi]
    exact (h.b i hi).own0.rd
/-- Beside the row as it grows. -/
def RowP (wr : World) (g : Nat) (ce : List (List Int)) (k : Nat) (vs : List Value) (Gs : List Nat) : Prop := vs.length = ce.length ∧ RwC wr g vs 63 ∧ Gs.length = k ∧ RowO wr g ce k Gs
theorem RowP.step {g k : Nat} {wr w1 : World} {ce : List (List Int)} {vs : List Value} {Gs : List Nat} (h : RowP wr g ce k vs Gs) (hk : k < ce.length) (n : Below wr.heap.size wr w1) {G : Nat} (hG : wr.heap.size ≤ G) (b : Blk w1 G .u8 (ce.getD k [])) :
    RowP (w1.setCell ⟨g, k, none⟩ (.slice (some ⟨G, 0, none⟩) (ce.getD k []).length (ce.getD k []).length)) g ce (k + 1) (vs.set k (.slice (some ⟨G, 0, none⟩) (ce.getD k []).length (ce.getD k []).length)) (Gs ++ [G]) := by
  obtain ⟨h1, h2, h3, h4⟩ := h
  have O := Only.setCell w1 g k (.slice (some ⟨G, 0, none⟩) (ce.getD k []).length (ce.getD k []).length)
  have R2 := (h2.up n).set k (.slice (some ⟨G, 0, none⟩) (ce.getD k []).length (ce.getD k []).length)
  have lg := h2.lt
  have e1 : ∀ i, i < k → (Gs ++ [G]).getD i 0 = Gs.getD i 0 := fun i hi => by
    rw [List.getD_eq_getElem?_getD, List.getElem?_append_left (by omega), ← List.getD_eq_getElem?_getD]
  have e2 : (Gs ++ [G]).getD k 0 = G := by
    rw [List.getD_eq_getElem?_getD, List.getElem?_append_right (by omega), h3]
    simp
  refine ⟨by simpa using h1, R2, by simp [h3], ⟨fun i hi => ?_, fun i hi => ?_, fun i hi => ?_, fun i j hij hj => ?_⟩⟩
  · rw [R2.cell i]
    by_cases e : i = k
    · subst e
      rw [e2]
      simp [h1, hk]
    · rw [e1 i (by omega), List.getElem?_set_ne (by omega)]
      have := h4.c i (by omega)
      rwa [h2.cell i] at this
  · by_cases e : i = k
    · subst e
      rw [e2]
      exact b.of_block (O.block G (by omega))
    · rw [e1 i (by omega)]
      have := h4.l i (by omega)
      exact ((h4.b i (by omega)).up n).of_block (O.block _ (by omega))
  · by_cases e : i = k
    · subst e
      rw [e2]
      omega
    · rw [e1 i (by omega)]
      exact h4.l i (by omega)
  · rw [e1 i (by omega)]
    by_cases e : j = k
    · subst e
      rw [e2]
      have := (h4.b i hij).lt
      omega
    · rw [e1 j (by omega)]
      exact h4.m i j hij (by omega)
set_option maxRecDepth 100000 in
set_option maxHeartbeats 2000000 in
theorem markBlobS_own (w : World) (g : Nat) (c : Nat) (ce : List (List Int)) (Gs : List Nat) (k : Int) (h : RowO w g ce ce.length Gs) (hn : ce.length ≤ 1048576) (hz : sumB ce ≤ 1048576) (k0 : 0 ≤ k) (k1 : k ≤ 1000000000) (H : Nat) (hH : ∀ i, i < ce.length → Gs.getD i 0 < H) :
    Calls Tryz.prog 59 #[.slice (some ⟨g, 0, none⟩) ce.length c, .int .i64 k] w fun e w' => (∃ k' : Int, e = .returned (.int .i64 k') ∧ k ≤ k' ∧ k' ≤ k + 1048576) ∧ Ch (g + 1) H w w' := by
  go_enter Tryz.func59, Tryz.ntmps59
  go_wp2
  go_loopw [1, 5] (fun q i wr => ∃ (j : Nat), j ≤ ce.length ∧ i = .int .i64 j ∧ q = .int .i64 (k + (sumB (ce.take j) : Int)) ∧ (∀ i, i < ce.length → wr.cell? ⟨g, i, none⟩ = some (.slice (some ⟨Gs.getD i 0, 0, none⟩) (ce.getD i []).length (ce.getD i []).length)) ∧ (∀ i, j ≤ i → i < ce.length → Blk wr (Gs.getD i 0) .u8 (ce.getD i [])) ∧ Ch (g + 1) H w wr) (fun _ i _ => ce.length - (intOf i).toNat)
  case atStart => exact ⟨0, Nat.zero_le _, rfl, by simp [sumB], h.c, fun i _ hi => h.b i hi, Ch.refl _ _ _⟩
  case round =>
    obtain ⟨j, hj, rfl, rfl, hc, hB, hN⟩ := hrel
    by_cases hlt : j < ce.length
    · have c1 := hc j hlt
      have t0 : (j : Int) < (ce.length : Int) := by omega
      have st := sumB_take hlt
      have sl := sumB_le (ls := ce) (j + 1)
      have gl := h.l j hlt
      have gh := hH j hlt
      have MB := hide (markByteS_any wr (Gs.getD j 0) (some ⟨Gs.getD j 0, 0, none⟩) (ce.getD j []).length (ce.getD j []) (k + (sumB (ce.take j) : Int)) (hB j (Nat.le_refl _) hlt).own0 (by omega) (by omega) (by omega))
      have NX : Hid (∀ w2, Only (Gs.getD j 0) wr w2 → (∀ i, i < ce.length → w2.cell? ⟨g, i, none⟩ = some (.slice (some ⟨Gs.getD i 0, 0, none⟩) (ce.getD i []).length (ce.getD i []).length)) ∧ (∀ i, j + 1 ≤ i → i < ce.length → Blk w2 (Gs.getD i 0) .u8 (ce.getD i [])) ∧ Ch (g + 1) H w w2) := fun w2 O => ⟨fun i hi => (World.cell?_of_block (a := ⟨g, i, none⟩) (O.block g (by omega))).trans (hc i hi), fun i hji hi => (hB i (by omega) hi).of_block (O.block _ (by have := h.m j i (by omega) hi; omega)), hN.trans (Ch.of_only O (by omega) gh)⟩
      rw [st] at sl
      have eS : Hid (k + (sumB (ce.take j) : Int) + ((ce.getD j []).length : Int) = k + (sumB (ce.take (j + 1)) : Int)) := by show _ = _; rw [st]; omega
      clear hc hB hN gl gh st
      generalize Gs.getD j 0 = G at *
      generalize ce.getD j [] = x at *
      generalize sumB (ce.take j) = S at *
      go_wp2_with fail
      refine MB.out.mono ?_
      rintro e w2 ⟨rfl, -, O⟩
      have NY := hide ((unhide NX) w2 O)
      rw [eS.out]
      clear MB NX O
      go_wp2
      go_roundw
      case rel => exact ⟨j + 1, by omega, by go_num, rfl, NY.out.1, NY.out.2.1, NY.out.2.2⟩
      case measure => simp [intOf]; omega
    · obtain rfl : j = ce.length := by omega
      have HN := hide hN
      have sl := sumB_le (ls := ce) ce.length
      clear hB hN hc h
      go_wp2
      go_ret
      exact ⟨⟨_, rfl, by omega, by omega⟩, HN.out⟩
end Go.Proofs.YtflecleofaeiiaaGreat

/-
  The law's own helpers on rows of blobs: eqBlob, eqBlobS.
-/
namespace Go.Proofs.YtflecleofaeiiaaGreat
open Go Go.RowKit

set_option maxHeartbeats 1000000 in
theorem eqBlobP_same (w : World) (g g' : Nat) (a b : Option Addr) (ca cb : Nat) (ys : List Int) (ha : Rd w g a .u8 ys) (hb : Rd w g' b .u8 ys) (hn : ys.length ≤ 1048576) :
    Calls Tryz.prog 70 #[.agg #[.slice a ys.length ca], .agg #[.slice b ys.length cb]] w fun e w' => e = .returned (.bool true) ∧ Below w.heap.size w w' := by
  have n1 : Below w.heap.size w (w.alloc (.cells #[.slice a ys.length ca] 63)) := (Below.refl _ _).alloc (Nat.le_refl _) _
  have n2 : Below w.heap.size w ((w.alloc (.cells #[.slice a ys.length ca] 63)).alloc (.cells #[.slice b ys.length cb] 63)) := n1.alloc (by simp) _
  go_enter Tryz.func70, Tryz.ntmps70
  go_wp2_with fail
  refine (eqByteS_same _ g g' a b ca cb ys (ha.up n2) (hb.up n2) hn).mono ?_
  rintro e w3 ⟨rfl, n3⟩
  go_wp2
  go_ret
  exact ⟨rfl, nxt n2 n3⟩
set_option maxHeartbeats 1000000 in
theorem eqBlobSP_same (w : World) (B B' : Nat) (v v' : Value) (its : List (List Int)) (bs bs' : List Plc) (h : BRow w B v its bs) (h' : BRow w B' v' its bs') (hl : its.length ≤ 1000) (hn : ∀ i, i < its.length → (its.getD i []).length ≤ 2048) :
    Calls Tryz.prog 57 #[v, v'] w fun e w' => e = .returned (.bool true) ∧ Below w.heap.size w w' := by
  by_cases h0 : 0 < its.length
  · obtain ⟨g, c, rfl, -, hg, -, hc⟩ := h.cells h0
    obtain ⟨g', c', rfl, -, hg', -, hc'⟩ := h'.cells h0
    have HC := hide hc
    have HC' := hide hc'
    have HB := hide h.b
    have HB' := hide h'.b
    have HN := hide hn
    have HL := hide hl
    have HG := hide (And.intro hg hg')
    clear hc hc' h h' hn hl hg hg' h0
    generalize hm : its.length = m at *
    clear hm
    go_enter Tryz.func57, Tryz.ntmps57
    go_wp2
    go_loopw [5] (fun i wr => ∃ (k : Nat), k ≤ m ∧ i = .int .i64 k ∧ Below w.heap.size w wr) (fun i _ => m - (intOf i).toNat)
    case atStart => exact ⟨0, Nat.zero_le _, rfl, Below.refl _ _⟩
    case round =>
      obtain ⟨k, hk, rfl, N⟩ := hrel
      by_cases hlt : k < m
      · have t0 : (k : Int) < (m : Int) := by omega
        have hm : m ≤ 1000 := HL.out
        have c1 := (World.cell?_of_block (a := ⟨g, k, none⟩) (N.block g HG.out.1)).trans (HC.out k hlt)
        have d1 := (World.cell?_of_block (a := ⟨g', k, none⟩) (N.block g' HG.out.2)).trans (HC'.out k hlt)
        have EQ := fun n => hide (eqBlobP_same (wr.drewN n) _ _ _ _ (bs.getD k plc0).c (bs'.getD k plc0).c _ (((HB.out k hlt).o.rd.up N).of_block rfl) (((HB'.out k hlt).o.rd.up N).of_block rfl) (by have := HN.out k hlt; omega))
        generalize (its.getD k []).length = L at *
        generalize (bs.getD k plc0).c = C1 at *
        generalize (bs.getD k plc0).a = A1 at *
        generalize (bs'.getD k plc0).c = C2 at *
        generalize (bs'.getD k plc0).a = A2 at *
        have NN := hide N
        clear N
        go_wp2
        go_region_with (go_at_call 70; refine (EQ _).out.mono ?_; rintro e w3 ⟨rfl, n3⟩)
        all_goals
          have N3 := hide (show Below w.heap.size w w3 from nxt (below_drewN NN.out _) n3)
          clear n3
          go_wp2
          go_roundw
          case rel => exact ⟨k + 1, by omega, by go_num, N3.out⟩
          case measure => simp [intOf]; omega
      · obtain rfl : k = m := by omega
        go_wp2
        go_ret
        exact ⟨rfl, N⟩
  · obtain ⟨a, c, rfl, -⟩ := h.slice
    obtain ⟨a', c', rfl, -⟩ := h'.slice
    obtain rfl : its = [] := List.eq_nil_of_length_eq_zero (by omega)
    clear h h' hl hn h0
    go_enter Tryz.func57, Tryz.ntmps57
    go_wp2
    go_loopw [5] (fun i wr => i = .int .i64 0 ∧ wr = w) (fun _ _ => 0)
    case atStart => exact ⟨rfl, rfl⟩
    case round =>
      obtain ⟨rfl, rfl⟩ := hrel
      go_wp2
      go_ret
      exact ⟨rfl, Below.refl _ _⟩

end Go.Proofs.YtflecleofaeiiaaGreat

/-
  The law's own helpers on rows of blobs: markBlobS, heldBlobS.
-/
namespace Go.Proofs.YtflecleofaeiiaaGreat
open Go Go.RowKit

/-- The number that a blob's first byte is marked with. -/
def psB (its : List (List Int)) (n : Int) : Nat → Int
  | 0 => n
  | k + 1 => psB its n k + ((its.getD k []).length : Int)
theorem psB_bd {its : List (List Int)} {n : Int} (h0 : 0 ≤ n) (hn : ∀ i, i < its.length → (its.getD i []).length ≤ 2048) : ∀ k, k ≤ its.length → 0 ≤ psB its n k ∧ psB its n k ≤ n + (k : Int) * 2048
  | 0, _ => by simp [psB, h0]
  | k + 1, h => by
    have := psB_bd h0 hn k (by omega)
    have := hn k (by omega)
    simp only [psB]
    omega
/-- The blocks of the row's lists. -/
def lstS (its : List (List Int)) (bs : List Plc) (p : Nat) : Prop := ∃ i, i < its.length ∧ 0 < (its.getD i []).length ∧ (bs.getD i plc0).q = p
/-- What lies outside these blocks has not turned. -/
structure Bsy (S : Nat → Prop) (w w' : World) : Prop where
  os : w'.os = w.os
  tape : w'.tape = w.tape
  output : w'.output = w.output
  size : w'.heap.size = w.heap.size
  block : ∀ k, ¬ S k → w'.heap[k]? = w.heap[k]?
theorem Bsy.refl (S : Nat → Prop) (w : World) : Bsy S w w := ⟨rfl, rfl, rfl, rfl, fun _ _ => rfl⟩
theorem own_anyB {w w' : World} {g : Nat} {a : Option Addr} {xs : List Int} (h : Own w g a .u8 xs) (hb : 0 < xs.length → w'.heap[g]? = w.heap[g]?) : Own w' g a .u8 xs := fun h0 => h.of_block (hb h0) h0
/-- The whole row, marked. -/
def MkdB (w : World) (v : Value) (its : List (List Int)) (bs : List Plc) (n : Int) : Prop := ∀ g c, v = .slice (some ⟨g, 0, none⟩) its.length c → ∀ i, i < its.length → w.cell? ⟨g, i, none⟩ = some (.slice (bs.getD i plc0).a (its.getD i []).length (bs.getD i plc0).c) ∧ Own w (bs.getD i plc0).q (bs.getD i plc0).a .u8 (marks (psB its n i) (its.getD i []).length)
theorem MkdB.up {w w' : World} {v : Value} {its : List (List Int)} {bs : List Plc} {n : Int} (h : MkdB w v its bs n) (N : Below w.heap.size w w') : MkdB w' v its bs n := fun g c e i hi => by
  have P := h g c e i hi
  have hg : g < w.heap.size := block_lt_of_cell P.1
  exact ⟨(World.cell?_of_block (a := ⟨g, i, none⟩) (N.block g hg)).trans P.1, own_anyB P.2 (fun h0 => N.block _ (P.2.rd.lt h0))⟩

set_option maxHeartbeats 2000000 in
theorem markBlobS_any (w : World) (B : Nat) (v : Value) (its : List (List Int)) (bs : List Plc) (n : Int) (h : BRow w B v its bs) (hl : its.length ≤ 1000) (hn : ∀ i, i < its.length → (its.getD i []).length ≤ 2048) (k0 : 0 ≤ n) (k1 : n ≤ 1000) :
    Calls Tryz.prog 59 #[v, .int .i64 n] w fun e w' => e = .returned (.int .i64 (psB its n its.length)) ∧ MkdB w' v its bs n ∧ Bsy (lstS its bs) w w' := by
  by_cases h0 : 0 < its.length
  · obtain ⟨g, c, rfl, hgB, hg, hob, hc⟩ := h.cells h0
    have BD := fun k => hide (psB_bd k0 hn k)
    have HC := hide hc
    have HO : Hid (∀ i, i < its.length → Own w (bs.getD i plc0).q (bs.getD i plc0).a .u8 (its.getD i [])) := fun i hi => (h.b i hi).o
    have HH : Hid (∀ i, i < its.length → 0 < (its.getD i []).length → (bs.getD i plc0).q ≠ g) := fun i hi h1 e => (h.h i hi h1).2 (by rw [e]; exact hob)
    have HD := hide h.d
    have HN := hide hn
    have HL := hide hl
    have SG : Hid (¬ lstS its bs g) := fun hs => by
      obtain ⟨i, hi, h1, e⟩ := hs
      exact HH.out i hi h1 e
    clear hc hn h hgB hob h0
    obtain ⟨f, hf⟩ : ∃ f, f = psB its n := ⟨_, rfl⟩
    have HFN := hide hf
    have F0 : Hid (f 0 = n) := by show f 0 = n; rw [hf]; rfl
    have FS : Hid (∀ k, f (k + 1) = f k + ((its.getD k []).length : Int)) := fun k => by rw [hf]; rfl
    rw [← hf]
    simp only [← hf] at BD
    clear hf
    generalize hm : its.length = m at *
    have HMM := hide hm
    clear hm
    go_enter Tryz.func59, Tryz.ntmps59
    go_wp2
    go_loopw [1, 5] (fun q i wr => ∃ (k : Nat), k ≤ m ∧ i = .int .i64 k ∧ q = .int .i64 (f k) ∧ Bsy (lstS its bs) w wr ∧ Hid (∀ i, i < k → Own wr (bs.getD i plc0).q (bs.getD i plc0).a .u8 (marks (f i) (its.getD i []).length)) ∧ Hid (∀ i, k ≤ i → i < m → Own wr (bs.getD i plc0).q (bs.getD i plc0).a .u8 (its.getD i []))) (fun _ i _ => m - (intOf i).toNat)
    case atStart => exact ⟨0, Nat.zero_le _, rfl, by rw [F0.out], Bsy.refl _ _, fun i hi => absurd hi (by omega), fun i _ hi => HO.out i hi⟩
    case round =>
      obtain ⟨k, hk, rfl, rfl, T, P, Q⟩ := hrel
      have TC := hide fun i hi => (World.cell?_of_block (a := ⟨g, i, none⟩) (T.block g SG.out)).trans (HC.out i hi)
      by_cases hlt : k < m
      · have t0 : (k : Int) < (m : Int) := by omega
        have hm : m ≤ 1000 := HL.out
        obtain ⟨b0, b1⟩ := (BD k).out (by omega)
        have b2 : f k ≤ 2000000000 := by omega
        have c0 := TC.out k hlt
        have OW : Hid (Own wr (if 0 < (its.getD k []).length then (bs.getD k plc0).q else wr.heap.size) (bs.getD k plc0).a .u8 (its.getD k [])) := by
          show Own _ _ _ _ _
          split
          · exact Q.out k (Nat.le_refl _) hlt
          · rename_i hp
            exact fun h1 => absurd h1 hp
        have MB := hide (markByteS_any wr _ (bs.getD k plc0).a (bs.getD k plc0).c _ (f k) OW.out (by have := HN.out k hlt; omega) (by omega) (by omega))
        have F3 := hide (FS.out k)
        have PP : Hid (∀ w2, Own w2 (if 0 < (its.getD k []).length then (bs.getD k plc0).q else wr.heap.size) (bs.getD k plc0).a .u8 (marks (f k) (its.getD k []).length) → Only (if 0 < (its.getD k []).length then (bs.getD k plc0).q else wr.heap.size) wr w2 → Bsy (lstS its bs) w w2 ∧ Hid (∀ i, i < k + 1 → Own w2 (bs.getD i plc0).q (bs.getD i plc0).a .u8 (marks (f i) (its.getD i []).length)) ∧ Hid (∀ i, k + 1 ≤ i → i < m → Own w2 (bs.getD i plc0).q (bs.getD i plc0).a .u8 (its.getD i []))) := by
          intro w2 ho oo
          have NE : ∀ p, p < wr.heap.size → (0 < (its.getD k []).length → p ≠ (bs.getD k plc0).q) → w2.heap[p]? = wr.heap[p]? := fun p hp hq => oo.block p (by split <;> rename_i hh; exact hq hh; omega)
          refine ⟨⟨oo.os.trans T.os, oo.tape.trans T.tape, oo.output.trans T.output, oo.size.trans T.size, fun p hp => ?_⟩, fun i hi => ?_, fun i hi hi2 => ?_⟩
          · refine Eq.trans ?_ (T.block p hp)
            by_cases hh : 0 < (its.getD k []).length
            · rw [if_pos hh] at oo
              exact oo.block p (fun e => hp ⟨k, by rw [HMM.out]; exact hlt, hh, e.symm⟩)
            · rw [if_neg hh] at oo
              by_cases hp' : p = wr.heap.size
              · have sz := oo.size
                rw [hp', Array.getElem?_eq_none (by omega), Array.getElem?_eq_none (by omega)]
              · exact oo.block p hp'
          · by_cases hik : i = k
            · subst hik
              by_cases hh : 0 < (its.getD i []).length
              · rw [if_pos hh] at ho
                exact ho
              · exact fun h1 => absurd h1 (by rw [marks_len]; exact hh)
            · exact own_anyB (P.out i (by omega)) (fun h1 => NE _ ((P.out i (by omega)).rd.lt h1) (fun hh e => HD.out i k (by omega) hlt hik (by rwa [marks_len] at h1) hh e))
          · exact own_anyB (Q.out i (by omega) hi2) (fun h1 => NE _ ((Q.out i (by omega) hi2).rd.lt h1) (fun hh e => HD.out i k hi2 hlt (by omega) h1 hh e))
        clear OW P Q T b1 F0 FS HH HD HN TC HC HO
        generalize (if 0 < (its.getD k []).length then (bs.getD k plc0).q else wr.heap.size) = PQ at *
        generalize (its.getD k []).length = L at *
        generalize (bs.getD k plc0).c = C1 at *
        generalize (bs.getD k plc0).a = A1 at *
        generalize f k = z at *
        go_wp2_with fail
        refine MB.out.mono ?_
        rintro e w2 ⟨rfl, ho, oo⟩
        have PF := PP.out w2 ho oo
        clear ho oo MB PP c0
        go_wp2
        go_roundw
        case rel => exact ⟨k + 1, by omega, by go_num, by rw [F3.out], PF⟩
        case measure => simp [intOf]; omega
      · obtain rfl : k = m := by omega
        have FIN : Hid (MkdB wr (.slice (some ⟨g, 0, none⟩) k c) its bs n) := fun g' c' e i hi => by
          injection e with e1 e2 e3
          injection e1 with e1
          injection e1 with e1 _ _
          subst e1
          rw [HMM.out] at hi
          rw [← HFN.out]
          exact ⟨TC.out i hi, P.out i hi⟩
        go_wp2
        go_ret
        exact ⟨rfl, FIN.out, T⟩
  · obtain ⟨a, c, rfl, -⟩ := h.slice
    obtain rfl : its = [] := List.eq_nil_of_length_eq_zero (by omega)
    clear h hl hn h0
    go_enter Tryz.func59, Tryz.ntmps59
    go_wp2
    go_loopw [1, 5] (fun q i wr => q = .int .i64 n ∧ i = .int .i64 0 ∧ wr = w) (fun _ _ _ => 0)
    case atStart => exact ⟨rfl, rfl, rfl⟩
    case round =>
      obtain ⟨rfl, rfl, rfl⟩ := hrel
      go_wp2
      go_ret
      exact ⟨rfl, fun g c e i hi => absurd hi (by simp), Bsy.refl _ _⟩
set_option maxHeartbeats 2000000 in
theorem heldBlobS_any (w : World) (v : Value) (its : List (List Int)) (bs : List Plc) (n : Int) (hv : ∃ a c, v = .slice a its.length c ∧ (0 < its.length → ∃ g, a = some ⟨g, 0, none⟩)) (h : MkdB w v its bs n) (hl : its.length ≤ 1000) (hn : ∀ i, i < its.length → (its.getD i []).length ≤ 2048) (k0 : 0 ≤ n) (k1 : n ≤ 1000) :
    Calls Tryz.prog 61 #[v, .int .i64 n] w fun e w' => e = .returned (.int .i64 (psB its n its.length)) ∧ w' = w := by
  obtain ⟨a, c, rfl, ha⟩ := hv
  by_cases h0 : 0 < its.length
  · obtain ⟨g, rfl⟩ := ha h0
    have P := hide (h g c rfl)
    have BD := fun k => hide (psB_bd k0 hn k)
    have HN := hide hn
    have HL := hide hl
    clear hn h h0 ha
    obtain ⟨f, hf⟩ : ∃ f, f = psB its n := ⟨_, rfl⟩
    have HFN := hide hf
    have F0 : Hid (f 0 = n) := by show f 0 = n; rw [hf]; rfl
    have FS : Hid (∀ k, f (k + 1) = f k + ((its.getD k []).length : Int)) := fun k => by rw [hf]; rfl
    rw [← hf]
    simp only [← hf] at BD
    clear hf
    generalize its.length = m at *
    go_enter Tryz.func61, Tryz.ntmps61
    go_wp2
    go_loopw [1, 5] (fun q i wr => ∃ (k : Nat), k ≤ m ∧ i = .int .i64 k ∧ q = .int .i64 (f k) ∧ wr = w) (fun _ i _ => m - (intOf i).toNat)
    case atStart => exact ⟨0, Nat.zero_le _, rfl, by rw [F0.out], rfl⟩
    case round =>
      obtain ⟨k, hk, rfl, rfl, rfl⟩ := hrel
      by_cases hlt : k < m
      · have t0 : (k : Int) < (m : Int) := by omega
        have hm : m ≤ 1000 := HL.out
        obtain ⟨b0, b1⟩ := (BD k).out (by omega)
        have b2 : f k ≤ 2000000000 := by omega
        have fk : f k = psB its n k := by rw [HFN.out]
        obtain ⟨p1, p2⟩ := P.out k hlt
        rw [← fk] at p2
        have HB := hide (heldByteS_any wr _ (bs.getD k plc0).a (bs.getD k plc0).c _ (f k) p2.rd (by have := HN.out k hlt; omega) (by omega) (by omega))
        have F3 := hide (FS.out k)
        have hL := HN.out k hlt
        clear p2 b1 fk F0 FS HN P BD HFN
        generalize (its.getD k []).length = L at *
        generalize (bs.getD k plc0).c = C1 at *
        generalize (bs.getD k plc0).a = A1 at *
        generalize f k = z at *
        have t3 : decide (z + (L : Int) < 0) = false := by simp; omega
        go_wp2_with fail
        refine HB.out.mono ?_
        rintro e w2 ⟨rfl, hw⟩
        have hw := hw.symm
        subst hw
        clear HB
        go_wp2
        go_roundw
        case rel => exact ⟨k + 1, by omega, by go_num, by rw [F3.out], by first | rfl | trivial⟩
        case measure => simp [intOf]; omega
      · obtain rfl : k = m := by omega
        go_wp2
        go_ret
        exact ⟨rfl, rfl⟩
  · obtain rfl : its = [] := List.eq_nil_of_length_eq_zero (by omega)
    clear h hl hn h0 ha
    go_enter Tryz.func61, Tryz.ntmps61
    go_wp2
    go_loopw [1, 5] (fun q i wr => q = .int .i64 n ∧ i = .int .i64 0 ∧ wr = w) (fun _ _ _ => 0)
    case atStart => exact ⟨rfl, rfl, rfl⟩
    case round =>
      obtain ⟨rfl, rfl, rfl⟩ := hrel
      go_wp2
      go_ret
      exact ⟨rfl, rfl⟩
/-- A row's slice, as the marks' helpers want it. -/
theorem BRow.shape {w : World} {B : Nat} {v : Value} {its : List (List Int)} {bs : List Plc} (h : BRow w B v its bs) : ∃ a c, v = .slice a its.length c ∧ (0 < its.length → ∃ g, a = some ⟨g, 0, none⟩) := by
  by_cases h0 : 0 < its.length
  · obtain ⟨g, c, e, -⟩ := h.cells h0
    exact ⟨_, c, e, fun _ => ⟨g, rfl⟩⟩
  · obtain ⟨a, c, e, -⟩ := h.slice
    exact ⟨a, c, e, fun h1 => absurd h1 h0⟩
end Go.Proofs.YtflecleofaeiiaaGreat

/-
  Messages: a message whose lists lie in blocks of their own, between fences.
-/
namespace Go.Proofs.YtflecleofaeiiaaGreat
open Go Go.RowKit

/-- A message whose lists lie in blocks of their own: those of one field between two fences. -/
structure AnsM (W : World) (F : Nat → Nat) (p : MQ) (m : Msg) (bs : List Plc) : Prop where
  r : Own W p.g2 p.a2 .u8 m.r
  s : Own W p.g3 p.a3 .u8 m.s
  pr : RowT W (F 2) (.slice p.a5 m.pr.length p.c5) m.pr
  ti : Own W p.g6 p.a6 .u8 m.ti
  bi : Own W p.g9 p.a9 .u8 m.bi
  ce : BRow W (F 5) (.slice p.a11 m.ce.length p.c11) m.ce bs
  pf : Own W p.g12 p.a12 .u8 m.pf
  b2 : 0 < m.r.length → F 0 ≤ p.g2 ∧ p.g2 < F 1
  b3 : 0 < m.s.length → F 1 ≤ p.g3 ∧ p.g3 < F 2
  b5 : 0 < m.pr.length → p.a5 = some ⟨p.g5, 0, none⟩ ∧ p.g5 < F 3
  b6 : 0 < m.ti.length → F 3 ≤ p.g6 ∧ p.g6 < F 4
  b9 : 0 < m.bi.length → F 4 ≤ p.g9 ∧ p.g9 < F 5
  b11 : 0 < m.ce.length → p.a11 = some ⟨p.g11, 0, none⟩ ∧ p.g11 < F 6
  bl : ∀ i, i < m.ce.length → 0 < (m.ce.getD i []).length → (bs.getD i plc0).q < F 6
  b12 : 0 < m.pf.length → F 6 ≤ p.g12 ∧ p.g12 < F 7
  mono : F 0 ≤ F 1 ∧ F 1 ≤ F 2 ∧ F 2 ≤ F 3 ∧ F 3 ≤ F 4 ∧ F 4 ≤ F 5 ∧ F 5 ≤ F 6 ∧ F 6 ≤ F 7
  z : HasZ p m
  prC : m.pr.length ≤ p.c5
  ps : p.ps = plbs bs
theorem own_ch {W W' : World} {g : Nat} {a : Option Addr} {xs : List Int} (h : Own W g a .u8 xs) (hb : 0 < xs.length → W'.heap[g]? = W.heap[g]?) : Own W' g a .u8 xs := fun h0 => h.of_block (hb h0) h0
theorem rowT_ch {W W' : World} {B : Nat} {v : Value} {ls : List (List UInt8)} (h : RowT W B v ls) (hb : ∀ k, v.ownBlock = some k → W'.heap[k]? = W.heap[k]?) : RowT W' B v ls := by
  refine ⟨h.1, ?_⟩
  rcases h.2 with h' | ⟨g, cap, cur, rfl, hbg, hg, hnc, hcm, hcs, ht⟩
  · exact .inl h'
  · exact .inr ⟨g, cap, cur, rfl, hbg, by rw [hb g rfl]; exact hg, hnc, hcm, hcs, ht⟩
/-- What has not turned its blocks has not turned it. -/
theorem AnsM.of {W W' : World} {F : Nat → Nat} {p : MQ} {m : Msg} {bs : List Plc} (h : AnsM W F p m bs) (hb : ∀ k, k < W.heap.size → F 0 ≤ k → W'.heap[k]? = W.heap[k]?) : AnsM W' F p m bs := by
  have mo := h.mono
  refine ⟨own_ch h.r fun h0 => hb _ (h.r.rd.lt h0) (h.b2 h0).1, own_ch h.s fun h0 => hb _ (h.s.rd.lt h0) (by have := (h.b3 h0).1; omega), rowT_ch h.pr fun k hk => hb k (World.ownsRow.lt h.pr k hk).2 (by have := (World.ownsRow.lt h.pr k hk).1; omega), own_ch h.ti fun h0 => hb _ (h.ti.rd.lt h0) (by have := (h.b6 h0).1; omega), own_ch h.bi fun h0 => hb _ (h.bi.rd.lt h0) (by have := (h.b9 h0).1; omega), h.ce.of fun k hk hB => hb k hk (by omega), own_ch h.pf fun h0 => hb _ (h.pf.rd.lt h0) (by have := (h.b12 h0).1; omega), h.b2, h.b3, h.b5, h.b6, h.b9, h.b11, h.bl, h.b12, h.mono, h.z, h.prC, h.ps⟩
theorem AnsM.up {W W' : World} {F : Nat → Nat} {p : MQ} {m : Msg} {bs : List Plc} (h : AnsM W F p m bs) (n : Below W.heap.size W W') : AnsM W' F p m bs := h.of fun k hk _ => n.block k hk
theorem AnsM.onl {W W' : World} {F : Nat → Nat} {p : MQ} {m : Msg} {bs : List Plc} {q : Nat} (h : AnsM W F p m bs) (O : Only q W W') (hq : q < F 0) : AnsM W' F p m bs := h.of fun k _ hk => O.block k (by omega)
theorem AnsM.has {W : World} {F : Nat → Nat} {p : MQ} {m : Msg} {bs : List Plc} (h : AnsM W F p m bs) : HasM W p m := by
  refine ⟨h.r.rd, h.s.rd, fun h0 => ?_, h.ti.rd, h.bi.rd, ⟨fun h0 => ?_, fun i hi => ?_⟩, h.pf.rd, h.prC⟩
  · obtain ⟨e, -⟩ := h.b5 h0
    obtain ⟨g, c, e', -, -, hc, -⟩ := h.pr.cells h0
    have eg : p.g5 = g := by rw [e] at e'; cases e'; rfl
    exact ⟨0, e, fun i hi => by rw [Nat.zero_add, eg]; exact hc i hi⟩
  · obtain ⟨e, -⟩ := h.b11 h0
    obtain ⟨g, c, e', -, -, -, hc⟩ := h.ce.cells h0
    have eg : p.g11 = g := by rw [e] at e'; cases e'; rfl
    exact ⟨0, e, fun i hi => by rw [Nat.zero_add, eg, h.ps, plbs_get (by rw [h.ce.l]; exact hi)]; exact hc i hi⟩
  · rw [h.ps, plbs_get (by rw [h.ce.l]; exact hi)]
    exact (h.ce.b i hi).o.rd
/-- No message at all. -/
theorem AnsM.zero (W : World) (B : Nat) : AnsM W (fun _ => B) mq0 msg0 [] :=
  ⟨(fun h => absurd h (by simp [msg0])), (fun h => absurd h (by simp [msg0])), ⟨rfl, .inl ⟨rfl, rfl⟩⟩, (fun h => absurd h (by simp [msg0])), (fun h => absurd h (by simp [msg0])), BRow.nil _ _, (fun h => absurd h (by simp [msg0])), (fun h => absurd h (by simp [msg0])), (fun h => absurd h (by simp [msg0])), (fun h => absurd h (by simp [msg0])), (fun h => absurd h (by simp [msg0])), (fun h => absurd h (by simp [msg0])), (fun h => absurd h (by simp [msg0])), (fun i h => absurd h (by simp [msg0])), (fun h => absurd h (by simp [msg0])), by simp, ⟨fun _ => rfl, fun _ => rfl, fun _ => rfl, fun _ => rfl, fun _ => rfl, fun i hi => absurd hi (by simp [msg0])⟩, Nat.zero_le _, rfl⟩
theorem nilT (W : World) (B : Nat) : RowT W B (.slice none 0 0) [] := ⟨rfl, .inl ⟨rfl, rfl⟩⟩
end Go.Proofs.YtflecleofaeiiaaGreat

/-
  The laws' helpers on texts: markText, as a function of the number; rows of texts that a call made, marked and held.
-/
namespace Go.Proofs.YtflecleofaeiiaaGreat
open Go Go.RowKit

/-- Digits ahead of a text. -/
def mtD : Nat → Nat → List UInt8 → List UInt8
  | 0, _, l => l
  | j + 1, x, l => if x = 0 then l else mtD j (x / 10) ((48 + UInt8.ofNat (x % 10)) :: l)
theorem mtD_zero (j : Nat) (l : List UInt8) : mtD j 0 l = l := by cases j <;> rfl
/-- A text that tells its number. -/
def mtF (n : Nat) : List UInt8 := if n = 0 then [109, 48] else 109 :: mtD 13 n []
set_option maxRecDepth 100000 in
set_option maxHeartbeats 2000000 in
theorem markText_is (w : World) (n : Nat) (k1 : n ≤ 1099511627776) :
    Calls Tryz.prog 62 #[.int .i64 (n : Int)] w fun e w' => e = .returned (.string ⟨⟨mtF n⟩⟩) ∧ Below w.heap.size w w' := by
  have n0 : Below w.heap.size w w := Below.refl _ _
  obtain ⟨OUT, hO⟩ : ∃ l, Hid (mtF n = l) := ⟨_, rfl⟩
  rw [hO.out]
  by_cases h0 : n = 0
  · subst h0
    obtain rfl : OUT = [109, 48] := by rw [← hO.out]; rfl
    go_enter Tryz.func62, Tryz.ntmps62
    go_wp2
    go_ret
    exact ⟨rfl, n0⟩
  have eO : Hid (OUT = 109 :: mtD 13 n []) := by show _ = _; rw [← hO.out]; unfold mtF; rw [if_neg h0]
  have t0 : decide ((n : Int) ≤ 0) = false := decide_eq_false (by omega)
  have t0' : ¬ n = 0 := h0
  have P13 : Hid (n < 10 ^ 13) := by show n < 10 ^ 13; omega
  go_enter Tryz.func62, Tryz.ntmps62
  go_wp2
  go_loopw [0, 3] (fun q t wr => ∃ (x j : Nat) (l : List UInt8), q = .int .i64 (x : Int) ∧ t = .string ⟨⟨l⟩⟩ ∧ x < 10 ^ j ∧ l.length + j ≤ 13 ∧ x ≤ 1099511627776 ∧ Hid (mtD j x l = mtD 13 n []) ∧ Below w.heap.size w wr) (fun q _ _ => (intOf q).toNat)
  case atStart => exact ⟨n, 13, [], rfl, rfl, P13.out, by simp, by omega, rfl, n0⟩
  case round =>
    obtain ⟨x, j, l, rfl, rfl, hp, hl, hx, hD, hN⟩ := hrel
    clear t0 t0' h0 P13 n0 k1
    by_cases hz : x = 0
    · subst hz
      obtain rfl : OUT = [109] ++ l := by rw [eO.out, ← hD.out, mtD_zero]; rfl
      have ad : ∀ W : World, (Op.stringOp .add (ByteArray.mk #[109]) (ByteArray.mk ⟨l⟩)).run Tryz.prog W = .ok (.string ⟨⟨[109] ++ l⟩⟩) W := fun W => tx_add W [109] l (by simp; omega)
      go_wp2
      go_ret
      exact ⟨rfl, hN⟩
    · obtain ⟨i, rfl, hd⟩ := pow_step hp (by omega)
      have tx0 : decide ((0 : Int) < (x : Int)) = true := decide_eq_true (by omega)
      have tx1 : 0 < x := by omega
      have qd : Int.tdiv (x : Int) 10 = ((x / 10 : Nat) : Int) := rfl
      have ad : ∀ (b : UInt8) (W : World), (Op.stringOp .add (ByteArray.mk ⟨[b]⟩) (ByteArray.mk ⟨l⟩)).run Tryz.prog W = .ok (.string ⟨⟨[b] ++ l⟩⟩) W := fun b W => tx_add W [b] l (by simp; omega)
      have hd' := hide hd
      have eD : Hid (mtD i (x / 10) ((48 + UInt8.ofNat (x % 10)) :: l) = mtD 13 n []) := by show _ = _; rw [← hD.out]; show _ = if x = 0 then l else _; rw [if_neg hz]
      clear hp hd hD
      go_wp2_with (first | (refine wpList_convT _ rfl 22 9 (.tmp 12) rfl (.slice (some ⟨wr.heap.size, 0, none⟩) 1 1) rfl _ _ (txt1 wr _) ?_) | fail)
      go_roundw
      case rel => exact ⟨x / 10, i, (48 + UInt8.ofNat (x % 10)) :: l, by first | rfl | go_num, rfl, hd'.out, by simp; omega, by omega, eD, hN.alloc hN.size _⟩
      case measure => simp [intOf]; omega
end Go.Proofs.YtflecleofaeiiaaGreat
