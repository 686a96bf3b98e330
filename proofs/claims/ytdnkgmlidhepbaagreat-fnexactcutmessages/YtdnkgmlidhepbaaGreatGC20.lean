import Derived.Test.YtdnkgmlidhepbaaGreatGC19
import Derived.Test.YtdnkgmlidhepbaaGreatGC8
import Derived.Deep.RegionWith
namespace Go.Proofs.YtdnkgmlidhepbaaGreat
open Go Go.RowKit
structure Ch (lo hi : Nat) (w w' : World) : Prop where
  os : w'.os = w.os
  tape : w'.tape = w.tape
  output : w'.output = w.output
  size : w.heap.size ≤ w'.heap.size
  block : ∀ b, b < w.heap.size → b < lo ∨ hi ≤ b → w'.heap[b]? = w.heap[b]?
theorem Ch.refl (lo hi : Nat) (w : World) : Ch lo hi w w := ⟨rfl, rfl, rfl, Nat.le_refl _, fun _ _ _ => rfl⟩
theorem Ch.trans {lo hi : Nat} {a b c : World} (h : Ch lo hi a b) (k : Ch lo hi b c) : Ch lo hi a c :=
  ⟨k.os.trans h.os, k.tape.trans h.tape, k.output.trans h.output, Nat.le_trans h.size k.size, fun i hl hi => (k.block i (Nat.lt_of_lt_of_le hl h.size) hi).trans (h.block i hl hi)⟩
theorem Ch.mono {lo hi lo' hi' : Nat} {a b : World} (h : Ch lo hi a b) (hl : lo' ≤ lo) (hh : hi ≤ hi') : Ch lo' hi' a b := ⟨h.os, h.tape, h.output, h.size, fun i hb hi => h.block i hb (by omega)⟩
theorem Ch.of_below {lo hi : Nat} {a b : World} (h : Below a.heap.size a b) : Ch lo hi a b := ⟨h.os, h.tape, h.output, h.size, fun i hb _ => h.block i hb⟩
theorem Ch.of_only {g lo hi : Nat} {a b : World} (h : Only g a b) (h1 : lo ≤ g) (h2 : g < hi) : Ch lo hi a b := ⟨h.os, h.tape, h.output, Nat.le_of_eq h.size.symm, fun i _ hi => h.block i (by omega)⟩
theorem Ch.below {lo hi : Nat} {a b : World} (h : Ch lo hi a b) (hl : lo ≤ a.heap.size) : Below lo a b := ⟨h.os, h.tape, h.output, h.size, fun i hi => h.block i (by omega) (.inl hi)⟩
structure RowO (w : World) (g : Nat) (ce : List (List Int)) (k : Nat) (Gs : List Nat) : Prop where
  c : ∀ i, i < k → w.cell? ⟨g, i, none⟩ = some (.slice (some ⟨Gs.getD i 0, 0, none⟩) (ce.getD i []).length (ce.getD i []).length)
  b : ∀ i, i < k → Blk w (Gs.getD i 0) .u8 (ce.getD i [])
  l : ∀ i, i < k → g < Gs.getD i 0
  m : ∀ i j, i < j → j < k → Gs.getD i 0 < Gs.getD j 0
theorem RowO.up {w w' : World} {g : Nat} {ce : List (List Int)} {k : Nat} {Gs : List Nat} (h : RowO w g ce k Gs) (n : Below w.heap.size w w') : RowO w' g ce k Gs :=
  ⟨fun i hi => (n.cell (block_lt_of_cell (h.c i hi))).trans (h.c i hi), fun i hi => (h.b i hi).up n, h.l, h.m⟩
theorem RowO.onl {w w' : World} {g q : Nat} {ce : List (List Int)} {k : Nat} {Gs : List Nat} (h : RowO w g ce k Gs) (O : Only q w w') (hq : q < g) : RowO w' g ce k Gs :=
  ⟨fun i hi => (World.cell?_of_block (a := ⟨g, i, none⟩) (O.block g (by omega))).trans (h.c i hi), fun i hi => (h.b i hi).of_block (O.block _ (by have := h.l i hi; omega)), h.l, h.m⟩
theorem RowO.ch {w w' : World} {g lo hi : Nat} {ce : List (List Int)} {k : Nat} {Gs : List Nat} (h : RowO w g ce k Gs) (O : Ch lo hi w w') (hq : hi ≤ g) : RowO w' g ce k Gs :=
  ⟨fun i hk => (World.cell?_of_block (a := ⟨g, i, none⟩) (O.block g (block_lt_of_cell (h.c i hk)) (.inr hq))).trans (h.c i hk), fun i hk => (h.b i hk).of_block (O.block _ (h.b i hk).lt (.inr (by have := h.l i hk; omega))), h.l, h.m⟩
def psO (ce : List (List Int)) (Gs : List Nat) : List Plb := (List.range ce.length).map fun j => ⟨some ⟨Gs.getD j 0, 0, none⟩, (ce.getD j []).length, Gs.getD j 0⟩
theorem psO_get {ce : List (List Int)} {Gs : List Nat} {i : Nat} (hi : i < ce.length) : (psO ce Gs).getD i plb0 = ⟨some ⟨Gs.getD i 0, 0, none⟩, (ce.getD i []).length, Gs.getD i 0⟩ := by
  unfold psO
  rw [List.getD_eq_getElem?_getD]
  simp [hi]
theorem RowO.rd {w : World} {g : Nat} {ce : List (List Int)} {Gs : List Nat} (h : RowO w g ce ce.length Gs) : RdL w g (some ⟨g, 0, none⟩) ce (psO ce Gs) := by
  refine ⟨fun _ => ⟨0, rfl, fun i hi => ?_⟩, fun i hi => ?_⟩
  · rw [Nat.zero_add, psO_get hi]
    exact h.c i hi
  · rw [psO_get hi]
    exact (h.b i hi).own0.rd
def RowP (wr : World) (g : Nat) (ce : List (List Int)) (k : Nat) (vs : List Value) (Gs : List Nat) : Prop := vs.length = ce.length ∧ RwC wr g vs 63 ∧ Gs.length = k ∧ RowO wr g ce k Gs
theorem RowP.step {g k : Nat} {wr w1 : World} {ce : List (List Int)} {vs : List Value} {Gs : List Nat} (h : RowP wr g ce k vs Gs) (hk : k < ce.length) (n : Below wr.heap.size wr w1) {G : Nat} (hG : wr.heap.size ≤ G) (b : Blk w1 G .u8 (ce.getD k [])) :
    RowP (w1.setCell ⟨g, k, none⟩ (.slice (some ⟨G, 0, none⟩) (ce.getD k []).length (ce.getD k []).length)) g ce (k + 1) (vs.set k (.slice (some ⟨G, 0, none⟩) (ce.getD k []).length (ce.getD k []).length)) (Gs ++ [G]) := by
  obtain ⟨h1, h2, h3, h4⟩ := h
  have O := Only.setCell w1 g k (.slice (some ⟨G, 0, none⟩) (ce.getD k []).length (ce.getD k []).length)
  have R2 := (h2.up n).set k (.slice (some ⟨G, 0, none⟩) (ce.getD k []).length (ce.getD k []).length)
  have lg := h2.lt
  have e1 : ∀ i, i < k → (Gs ++ [G]).getD i 0 = Gs.getD i 0 := fun i hi => by
    rw [List.getD_eq_getElem?_getD, List.getElem?_append_left (by omega), ← List.getD_eq_getElem?_getD]
  have e2 : (Gs ++ [G]).getD k 0 = G := by
    rw [List.getD_eq_getElem?_getD, List.getElem?_append_right (by omega), h3]
    simp
  refine ⟨by simpa using h1, R2, by simp [h3], ⟨fun i hi => ?_, fun i hi => ?_, fun i hi => ?_, fun i j hij hj => ?_⟩⟩
  · rw [R2.cell i]
    by_cases e : i = k
    · subst e
      rw [e2]
      simp [h1, hk]
    · rw [e1 i (by omega), List.getElem?_set_ne (by omega)]
      have := h4.c i (by omega)
      rwa [h2.cell i] at this
  · by_cases e : i = k
    · subst e
      rw [e2]
      exact b.of_block (O.block G (by omega))
    · rw [e1 i (by omega)]
      have := h4.l i (by omega)
      exact ((h4.b i (by omega)).up n).of_block (O.block _ (by omega))
  · by_cases e : i = k
    · subst e
      rw [e2]
      omega
    · rw [e1 i (by omega)]
      exact h4.l i (by omega)
  · rw [e1 i (by omega)]
    by_cases e : j = k
    · subst e
      rw [e2]
      have := (h4.b i hij).lt
      omega
    · rw [e1 j (by omega)]
      exact h4.m i j hij (by omega)
end Go.Proofs.YtdnkgmlidhepbaaGreat
namespace Go.Proofs.YtdnkgmlidhepbaaGreat
open Go Go.RowKit
end Go.Proofs.YtdnkgmlidhepbaaGreat
namespace Go.Proofs.YtdnkgmlidhepbaaGreat
open Go Go.RowKit
def psB (its : List (List Int)) (n : Int) : Nat → Int
  | 0 => n
  | k + 1 => psB its n k + ((its.getD k []).length : Int)
theorem psB_bd {its : List (List Int)} {n : Int} (h0 : 0 ≤ n) (hn : ∀ i, i < its.length → (its.getD i []).length ≤ 2048) : ∀ k, k ≤ its.length → 0 ≤ psB its n k ∧ psB its n k ≤ n + (k : Int) * 2048
  | 0, _ => by simp [psB, h0]
  | k + 1, h => by
    have := psB_bd h0 hn k (by omega)
    have := hn k (by omega)
    simp only [psB]
    omega
def lstS (its : List (List Int)) (bs : List Plc) (p : Nat) : Prop := ∃ i, i < its.length ∧ 0 < (its.getD i []).length ∧ (bs.getD i plc0).q = p
structure Bsy (S : Nat → Prop) (w w' : World) : Prop where
  os : w'.os = w.os
  tape : w'.tape = w.tape
  output : w'.output = w.output
  size : w'.heap.size = w.heap.size
  block : ∀ k, ¬ S k → w'.heap[k]? = w.heap[k]?
theorem Bsy.refl (S : Nat → Prop) (w : World) : Bsy S w w := ⟨rfl, rfl, rfl, rfl, fun _ _ => rfl⟩
theorem own_anyB {w w' : World} {g : Nat} {a : Option Addr} {xs : List Int} (h : Own w g a .u8 xs) (hb : 0 < xs.length → w'.heap[g]? = w.heap[g]?) : Own w' g a .u8 xs := fun h0 => h.of_block (hb h0) h0
def MkdB (w : World) (v : Value) (its : List (List Int)) (bs : List Plc) (n : Int) : Prop := ∀ g c, v = .slice (some ⟨g, 0, none⟩) its.length c → ∀ i, i < its.length → w.cell? ⟨g, i, none⟩ = some (.slice (bs.getD i plc0).a (its.getD i []).length (bs.getD i plc0).c) ∧ Own w (bs.getD i plc0).q (bs.getD i plc0).a .u8 (marks (psB its n i) (its.getD i []).length)
theorem MkdB.up {w w' : World} {v : Value} {its : List (List Int)} {bs : List Plc} {n : Int} (h : MkdB w v its bs n) (N : Below w.heap.size w w') : MkdB w' v its bs n := fun g c e i hi => by
  have P := h g c e i hi
  have hg : g < w.heap.size := block_lt_of_cell P.1
  exact ⟨(World.cell?_of_block (a := ⟨g, i, none⟩) (N.block g hg)).trans P.1, own_anyB P.2 (fun h0 => N.block _ (P.2.rd.lt h0))⟩
end Go.Proofs.YtdnkgmlidhepbaaGreat
namespace Go.Proofs.YtdnkgmlidhepbaaGreat
open Go Go.RowKit
structure AnsM (W : World) (F : Nat → Nat) (p : MQ) (m : Msg) (bs : List Plc) : Prop where
  r : Own W p.g2 p.a2 .u8 m.r
  s : Own W p.g3 p.a3 .u8 m.s
  pr : RowT W (F 2) (.slice p.a5 m.pr.length p.c5) m.pr
  ti : Own W p.g6 p.a6 .u8 m.ti
  bi : Own W p.g9 p.a9 .u8 m.bi
  ce : BRow W (F 5) (.slice p.a11 m.ce.length p.c11) m.ce bs
  pf : Own W p.g12 p.a12 .u8 m.pf
  b2 : 0 < m.r.length → F 0 ≤ p.g2 ∧ p.g2 < F 1
  b3 : 0 < m.s.length → F 1 ≤ p.g3 ∧ p.g3 < F 2
  b5 : 0 < m.pr.length → p.a5 = some ⟨p.g5, 0, none⟩ ∧ p.g5 < F 3
  b6 : 0 < m.ti.length → F 3 ≤ p.g6 ∧ p.g6 < F 4
  b9 : 0 < m.bi.length → F 4 ≤ p.g9 ∧ p.g9 < F 5
  b11 : 0 < m.ce.length → p.a11 = some ⟨p.g11, 0, none⟩ ∧ p.g11 < F 6
  bl : ∀ i, i < m.ce.length → 0 < (m.ce.getD i []).length → (bs.getD i plc0).q < F 6
  b12 : 0 < m.pf.length → F 6 ≤ p.g12 ∧ p.g12 < F 7
  mono : F 0 ≤ F 1 ∧ F 1 ≤ F 2 ∧ F 2 ≤ F 3 ∧ F 3 ≤ F 4 ∧ F 4 ≤ F 5 ∧ F 5 ≤ F 6 ∧ F 6 ≤ F 7
  z : HasZ p m
  prC : m.pr.length ≤ p.c5
  ps : p.ps = plbs bs
theorem own_ch {W W' : World} {g : Nat} {a : Option Addr} {xs : List Int} (h : Own W g a .u8 xs) (hb : 0 < xs.length → W'.heap[g]? = W.heap[g]?) : Own W' g a .u8 xs := fun h0 => h.of_block (hb h0) h0
theorem rowT_ch {W W' : World} {B : Nat} {v : Value} {ls : List (List UInt8)} (h : RowT W B v ls) (hb : ∀ k, v.ownBlock = some k → W'.heap[k]? = W.heap[k]?) : RowT W' B v ls := by
  refine ⟨h.1, ?_⟩
  rcases h.2 with h' | ⟨g, cap, cur, rfl, hbg, hg, hnc, hcm, hcs, ht⟩
  · exact .inl h'
  · exact .inr ⟨g, cap, cur, rfl, hbg, by rw [hb g rfl]; exact hg, hnc, hcm, hcs, ht⟩
theorem AnsM.of {W W' : World} {F : Nat → Nat} {p : MQ} {m : Msg} {bs : List Plc} (h : AnsM W F p m bs) (hb : ∀ k, k < W.heap.size → F 0 ≤ k → W'.heap[k]? = W.heap[k]?) : AnsM W' F p m bs := by
  have mo := h.mono
  refine ⟨own_ch h.r fun h0 => hb _ (h.r.rd.lt h0) (h.b2 h0).1, own_ch h.s fun h0 => hb _ (h.s.rd.lt h0) (by have := (h.b3 h0).1; omega), rowT_ch h.pr fun k hk => hb k (World.ownsRow.lt h.pr k hk).2 (by have := (World.ownsRow.lt h.pr k hk).1; omega), own_ch h.ti fun h0 => hb _ (h.ti.rd.lt h0) (by have := (h.b6 h0).1; omega), own_ch h.bi fun h0 => hb _ (h.bi.rd.lt h0) (by have := (h.b9 h0).1; omega), h.ce.of fun k hk hB => hb k hk (by omega), own_ch h.pf fun h0 => hb _ (h.pf.rd.lt h0) (by have := (h.b12 h0).1; omega), h.b2, h.b3, h.b5, h.b6, h.b9, h.b11, h.bl, h.b12, h.mono, h.z, h.prC, h.ps⟩
theorem AnsM.up {W W' : World} {F : Nat → Nat} {p : MQ} {m : Msg} {bs : List Plc} (h : AnsM W F p m bs) (n : Below W.heap.size W W') : AnsM W' F p m bs := h.of fun k hk _ => n.block k hk
theorem AnsM.onl {W W' : World} {F : Nat → Nat} {p : MQ} {m : Msg} {bs : List Plc} {q : Nat} (h : AnsM W F p m bs) (O : Only q W W') (hq : q < F 0) : AnsM W' F p m bs := h.of fun k _ hk => O.block k (by omega)
theorem AnsM.has {W : World} {F : Nat → Nat} {p : MQ} {m : Msg} {bs : List Plc} (h : AnsM W F p m bs) : HasM W p m := by
  refine ⟨h.r.rd, h.s.rd, fun h0 => ?_, h.ti.rd, h.bi.rd, ⟨fun h0 => ?_, fun i hi => ?_⟩, h.pf.rd, h.prC⟩
  · obtain ⟨e, -⟩ := h.b5 h0
    obtain ⟨g, c, e', -, -, hc, -⟩ := h.pr.cells h0
    have eg : p.g5 = g := by rw [e] at e'; cases e'; rfl
    exact ⟨0, e, fun i hi => by rw [Nat.zero_add, eg]; exact hc i hi⟩
  · obtain ⟨e, -⟩ := h.b11 h0
    obtain ⟨g, c, e', -, -, -, hc⟩ := h.ce.cells h0
    have eg : p.g11 = g := by rw [e] at e'; cases e'; rfl
    exact ⟨0, e, fun i hi => by rw [Nat.zero_add, eg, h.ps, plbs_get (by rw [h.ce.l]; exact hi)]; exact hc i hi⟩
  · rw [h.ps, plbs_get (by rw [h.ce.l]; exact hi)]
    exact (h.ce.b i hi).o.rd
theorem AnsM.zero (W : World) (B : Nat) : AnsM W (fun _ => B) mq0 msg0 [] :=
  ⟨(fun h => absurd h (by simp [msg0])), (fun h => absurd h (by simp [msg0])), ⟨rfl, .inl ⟨rfl, rfl⟩⟩, (fun h => absurd h (by simp [msg0])), (fun h => absurd h (by simp [msg0])), BRow.nil _ _, (fun h => absurd h (by simp [msg0])), (fun h => absurd h (by simp [msg0])), (fun h => absurd h (by simp [msg0])), (fun h => absurd h (by simp [msg0])), (fun h => absurd h (by simp [msg0])), (fun h => absurd h (by simp [msg0])), (fun h => absurd h (by simp [msg0])), (fun i h => absurd h (by simp [msg0])), (fun h => absurd h (by simp [msg0])), by simp, ⟨fun _ => rfl, fun _ => rfl, fun _ => rfl, fun _ => rfl, fun _ => rfl, fun i hi => absurd hi (by simp [msg0])⟩, Nat.zero_le _, rfl⟩
theorem nilT (W : World) (B : Nat) : RowT W B (.slice none 0 0) [] := ⟨rfl, .inl ⟨rfl, rfl⟩⟩
end Go.Proofs.YtdnkgmlidhepbaaGreat
namespace Go.Proofs.YtdnkgmlidhepbaaGreat
open Go Go.RowKit
def mtD : Nat → Nat → List UInt8 → List UInt8
  | 0, _, l => l
  | j + 1, x, l => if x = 0 then l else mtD j (x / 10) ((48 + UInt8.ofNat (x % 10)) :: l)
theorem mtD_zero (j : Nat) (l : List UInt8) : mtD j 0 l = l := by cases j <;> rfl
def mtF (n : Nat) : List UInt8 := if n = 0 then [109, 48] else 109 :: mtD 13 n []
set_option maxRecDepth 100000 in
set_option maxHeartbeats 2000000 in
theorem markText_is (w : World) (n : Nat) (k1 : n ≤ 1099511627776) :
    Calls Tryz.prog 62 #[.int .i64 (n : Int)] w fun e w' => e = .returned (.string ⟨⟨mtF n⟩⟩) ∧ Below w.heap.size w w' := by
  have n0 : Below w.heap.size w w := Below.refl _ _
  obtain ⟨OUT, hO⟩ : ∃ l, Hid (mtF n = l) := ⟨_, rfl⟩
  rw [hO.out]
  by_cases h0 : n = 0
  · subst h0
    obtain rfl : OUT = [109, 48] := by rw [← hO.out]; rfl
    go_enter Tryz.func62, Tryz.ntmps62
    go_wp2
    go_ret
    exact ⟨rfl, n0⟩
  have eO : Hid (OUT = 109 :: mtD 13 n []) := by show _ = _; rw [← hO.out]; unfold mtF; rw [if_neg h0]
  have t0 : decide ((n : Int) ≤ 0) = false := decide_eq_false (by omega)
  have t0' : ¬ n = 0 := h0
  have P13 : Hid (n < 10 ^ 13) := by show n < 10 ^ 13; omega
  go_enter Tryz.func62, Tryz.ntmps62
  go_wp2
  go_loopw [0, 3] (fun q t wr => ∃ (x j : Nat) (l : List UInt8), q = .int .i64 (x : Int) ∧ t = .string ⟨⟨l⟩⟩ ∧ x < 10 ^ j ∧ l.length + j ≤ 13 ∧ x ≤ 1099511627776 ∧ Hid (mtD j x l = mtD 13 n []) ∧ Below w.heap.size w wr) (fun q _ _ => (intOf q).toNat)
  case atStart => exact ⟨n, 13, [], rfl, rfl, P13.out, by simp, by omega, rfl, n0⟩
  case round =>
    obtain ⟨x, j, l, rfl, rfl, hp, hl, hx, hD, hN⟩ := hrel
    clear t0 t0' h0 P13 n0 k1
    by_cases hz : x = 0
    · subst hz
      obtain rfl : OUT = [109] ++ l := by rw [eO.out, ← hD.out, mtD_zero]; rfl
      have ad : ∀ W : World, (Op.stringOp .add (ByteArray.mk #[109]) (ByteArray.mk ⟨l⟩)).run Tryz.prog W = .ok (.string ⟨⟨[109] ++ l⟩⟩) W := fun W => tx_add W [109] l (by simp; omega)
      go_wp2
      go_ret
      exact ⟨rfl, hN⟩
    · obtain ⟨i, rfl, hd⟩ := pow_step hp (by omega)
      have tx0 : decide ((0 : Int) < (x : Int)) = true := decide_eq_true (by omega)
      have tx1 : 0 < x := by omega
      have qd : Int.tdiv (x : Int) 10 = ((x / 10 : Nat) : Int) := rfl
      have ad : ∀ (b : UInt8) (W : World), (Op.stringOp .add (ByteArray.mk ⟨[b]⟩) (ByteArray.mk ⟨l⟩)).run Tryz.prog W = .ok (.string ⟨⟨[b] ++ l⟩⟩) W := fun b W => tx_add W [b] l (by simp; omega)
      have hd' := hide hd
      have eD : Hid (mtD i (x / 10) ((48 + UInt8.ofNat (x % 10)) :: l) = mtD 13 n []) := by show _ = _; rw [← hD.out]; show _ = if x = 0 then l else _; rw [if_neg hz]
      clear hp hd hD
      go_wp2_with (first | (refine wpList_convT _ rfl 22 9 (.tmp 12) rfl (.slice (some ⟨wr.heap.size, 0, none⟩) 1 1) rfl _ _ (txt1 wr _) ?_) | fail)
      go_roundw
      case rel => exact ⟨x / 10, i, (48 + UInt8.ofNat (x % 10)) :: l, by first | rfl | go_num, rfl, hd'.out, by simp; omega, by omega, eD, hN.alloc hN.size _⟩
      case measure => simp [intOf]; omega
end Go.Proofs.YtdnkgmlidhepbaaGreat
