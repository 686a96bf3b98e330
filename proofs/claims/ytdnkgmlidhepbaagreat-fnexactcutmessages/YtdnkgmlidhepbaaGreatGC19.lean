import Derived.Test.YtdnkgmlidhepbaaGreatGC18
import Derived.Test.YtdnkgmlidhepbaaGreatGC16
import Derived.Test.YtdnkgmlidhepbaaGreatGC11
import Derived.Test.YtdnkgmlidhepbaaGreatGC3
import Derived.Deep.Cut
import Derived.Test.YtdnkgmlidhepbaaGreatGC6
namespace Go.Proofs.YtdnkgmlidhepbaaGreat
open Go Go.RowKit
theorem Rd.onl {w w' : World} {g q : Nat} {a : Option Addr} {xs : List Int} (h : Rd w g a .u8 xs) (O : Only q w w') (hne : g ≠ q) : Rd w' g a .u8 xs := fun h0 => by
  obtain ⟨off, e, hc⟩ := h h0
  exact ⟨off, e, fun i hi => (World.cell?_of_block (a := ⟨g, off + i, none⟩) (O.block g hne)).trans (hc i hi)⟩
def FB (b : Nat) (W : World) (g : Nat) (xs : List Int) : Prop := Blk W g .u8 xs ∧ b < g
def FT (b : Nat) (W : World) (g : Nat) (ls : List (List UInt8)) : Prop := BlkT W g ls ∧ b < g
def FL (b : Nat) (W : World) (g : Nat) (ce : List (List Int)) (ps : List Plb) : Prop := RdL W g (some ⟨g, 0, none⟩) ce ps ∧ b < g ∧ ∀ i, i < ce.length → b < (ps.getD i plb0).q
theorem FB.up {b : Nat} {W W' : World} {g : Nat} {xs : List Int} (h : FB b W g xs) (n : Below W.heap.size W W') : FB b W' g xs := ⟨h.1.up n, h.2⟩
theorem FT.up {b : Nat} {W W' : World} {g : Nat} {xs : List (List UInt8)} (h : FT b W g xs) (n : Below W.heap.size W W') : FT b W' g xs := ⟨h.1.up n, h.2⟩
theorem FL.up {b : Nat} {W W' : World} {g : Nat} {xs : List (List Int)} {ps : List Plb} (h : FL b W g xs ps) (n : Below W.heap.size W W') : FL b W' g xs ps := ⟨h.1.up n, h.2⟩
theorem FB.onl {b q : Nat} {W W' : World} {g : Nat} {xs : List Int} (h : FB b W g xs) (O : Only q W W') (hq : q ≤ b) : FB b W' g xs := ⟨h.1.of_block (O.block g (by have := h.2; omega)), h.2⟩
theorem FT.onl {b q : Nat} {W W' : World} {g : Nat} {xs : List (List UInt8)} (h : FT b W g xs) (O : Only q W W') (hq : q ≤ b) : FT b W' g xs := ⟨(O.block g (by have := h.2; omega)).trans h.1, h.2⟩
theorem FL.onl {b q : Nat} {W W' : World} {g : Nat} {xs : List (List Int)} {ps : List Plb} (h : FL b W g xs ps) (O : Only q W W') (hq : q ≤ b) : FL b W' g xs ps := by
  obtain ⟨h1, h2, h3⟩ := h
  refine ⟨⟨fun h0 => ?_, fun i hi => (h1.b i hi).onl O (by have := h3 i hi; omega)⟩, h2, h3⟩
  obtain ⟨off, e, hc⟩ := h1.r h0
  exact ⟨off, e, fun i hi => (World.cell?_of_block (a := ⟨g, off + i, none⟩) (O.block g (by omega))).trans (hc i hi)⟩
set_option maxHeartbeats 8000000 in
theorem eqMessage_same (w : World) (p q : MQ) (m : Msg) (hp : HasM w p m) (hq : HasM w q m) (i : IsM m) :
    Calls Tryz.prog 25 #[.agg (mgV p m), .agg (mgV q m)] w fun e w' => e = .returned (.bool true) ∧ Below w.heap.size w w' := by
  obtain ⟨k, v, r, s, ho, pr, ti, ag, ea, bi, rs, ce, pf⟩ := m
  obtain ⟨a2, c2, g2, a3, c3, g3, a5, c5, g5, a6, c6, g6, a9, c9, g9, a11, c11, g11, a12, c12, g12, ps⟩ := p
  obtain ⟨e2, d2, f2, e3, d3, f3, e5, d5, f5, e6, d6, f6, e9, d9, f9, e11, d11, f11, e12, d12, f12, qs⟩ := q
  obtain ⟨rB, sB, tiB, biB, pfB, ceB, rL, sL, prL, tiL, biL, ceL, pfL, ceZ, hoL, prZ⟩ := i
  simp only at rL sL prL tiL biL ceL pfL ceZ
  clear rB sB tiB biB pfB ceB hoL prZ
  have CZ := hide ceZ
  clear ceZ
  have TA0 := RwC.new w [.int .i64 k, .int .i64 v, .slice a2 r.length c2, .slice a3 s.length c3, .string ⟨⟨ho⟩⟩, .slice a5 pr.length c5, .slice a6 ti.length c6, .int .i64 ag, .int .i64 ea, .slice a9 bi.length c9, .bool rs, .slice a11 ce.length c11, .slice a12 pf.length c12] 26
  have n1 : Below w.heap.size w (w.alloc (.cells #[.int .i64 k, .int .i64 v, .slice a2 r.length c2, .slice a3 s.length c3, .string ⟨⟨ho⟩⟩, .slice a5 pr.length c5, .slice a6 ti.length c6, .int .i64 ag, .int .i64 ea, .slice a9 bi.length c9, .bool rs, .slice a11 ce.length c11, .slice a12 pf.length c12] 26)) := (Below.refl _ _).alloc (Nat.le_refl _) _
  have z1 : (w.alloc (.cells #[.int .i64 k, .int .i64 v, .slice a2 r.length c2, .slice a3 s.length c3, .string ⟨⟨ho⟩⟩, .slice a5 pr.length c5, .slice a6 ti.length c6, .int .i64 ag, .int .i64 ea, .slice a9 bi.length c9, .bool rs, .slice a11 ce.length c11, .slice a12 pf.length c12] 26)).heap.size = w.heap.size + 1 := by simp
  have TB0 := RwC.new (w.alloc (.cells #[.int .i64 k, .int .i64 v, .slice a2 r.length c2, .slice a3 s.length c3, .string ⟨⟨ho⟩⟩, .slice a5 pr.length c5, .slice a6 ti.length c6, .int .i64 ag, .int .i64 ea, .slice a9 bi.length c9, .bool rs, .slice a11 ce.length c11, .slice a12 pf.length c12] 26)) [.int .i64 k, .int .i64 v, .slice e2 r.length d2, .slice e3 s.length d3, .string ⟨⟨ho⟩⟩, .slice e5 pr.length d5, .slice e6 ti.length d6, .int .i64 ag, .int .i64 ea, .slice e9 bi.length d9, .bool rs, .slice e11 ce.length d11, .slice e12 pf.length d12] 26
  have n2 : Below (w.alloc (.cells #[.int .i64 k, .int .i64 v, .slice a2 r.length c2, .slice a3 s.length c3, .string ⟨⟨ho⟩⟩, .slice a5 pr.length c5, .slice a6 ti.length c6, .int .i64 ag, .int .i64 ea, .slice a9 bi.length c9, .bool rs, .slice a11 ce.length c11, .slice a12 pf.length c12] 26)).heap.size (w.alloc (.cells #[.int .i64 k, .int .i64 v, .slice a2 r.length c2, .slice a3 s.length c3, .string ⟨⟨ho⟩⟩, .slice a5 pr.length c5, .slice a6 ti.length c6, .int .i64 ag, .int .i64 ea, .slice a9 bi.length c9, .bool rs, .slice a11 ce.length c11, .slice a12 pf.length c12] 26)) ((w.alloc (.cells #[.int .i64 k, .int .i64 v, .slice a2 r.length c2, .slice a3 s.length c3, .string ⟨⟨ho⟩⟩, .slice a5 pr.length c5, .slice a6 ti.length c6, .int .i64 ag, .int .i64 ea, .slice a9 bi.length c9, .bool rs, .slice a11 ce.length c11, .slice a12 pf.length c12] 26)).alloc (.cells #[.int .i64 k, .int .i64 v, .slice e2 r.length d2, .slice e3 s.length d3, .string ⟨⟨ho⟩⟩, .slice e5 pr.length d5, .slice e6 ti.length d6, .int .i64 ag, .int .i64 ea, .slice e9 bi.length d9, .bool rs, .slice e11 ce.length d11, .slice e12 pf.length d12] 26)) := (Below.refl _ _).alloc (Nat.le_refl _) _
  rw [z1] at TB0
  have TA : Hid (RwC ((w.alloc (.cells #[.int .i64 k, .int .i64 v, .slice a2 r.length c2, .slice a3 s.length c3, .string ⟨⟨ho⟩⟩, .slice a5 pr.length c5, .slice a6 ti.length c6, .int .i64 ag, .int .i64 ea, .slice a9 bi.length c9, .bool rs, .slice a11 ce.length c11, .slice a12 pf.length c12] 26)).alloc (.cells #[.int .i64 k, .int .i64 v, .slice e2 r.length d2, .slice e3 s.length d3, .string ⟨⟨ho⟩⟩, .slice e5 pr.length d5, .slice e6 ti.length d6, .int .i64 ag, .int .i64 ea, .slice e9 bi.length d9, .bool rs, .slice e11 ce.length d11, .slice e12 pf.length d12] 26)) w.heap.size [.int .i64 k, .int .i64 v, .slice a2 r.length c2, .slice a3 s.length c3, .string ⟨⟨ho⟩⟩, .slice a5 pr.length c5, .slice a6 ti.length c6, .int .i64 ag, .int .i64 ea, .slice a9 bi.length c9, .bool rs, .slice a11 ce.length c11, .slice a12 pf.length c12] 26) := RwC.up TA0 n2
  have TB : Hid (RwC ((w.alloc (.cells #[.int .i64 k, .int .i64 v, .slice a2 r.length c2, .slice a3 s.length c3, .string ⟨⟨ho⟩⟩, .slice a5 pr.length c5, .slice a6 ti.length c6, .int .i64 ag, .int .i64 ea, .slice a9 bi.length c9, .bool rs, .slice a11 ce.length c11, .slice a12 pf.length c12] 26)).alloc (.cells #[.int .i64 k, .int .i64 v, .slice e2 r.length d2, .slice e3 s.length d3, .string ⟨⟨ho⟩⟩, .slice e5 pr.length d5, .slice e6 ti.length d6, .int .i64 ag, .int .i64 ea, .slice e9 bi.length d9, .bool rs, .slice e11 ce.length d11, .slice e12 pf.length d12] 26)) (w.heap.size + 1) [.int .i64 k, .int .i64 v, .slice e2 r.length d2, .slice e3 s.length d3, .string ⟨⟨ho⟩⟩, .slice e5 pr.length d5, .slice e6 ti.length d6, .int .i64 ag, .int .i64 ea, .slice e9 bi.length d9, .bool rs, .slice e11 ce.length d11, .slice e12 pf.length d12] 26) := TB0
  have N := hide (nxt n1 n2)
  have HP := hide (hp.up N.out)
  have HQ := hide (hq.up N.out)
  clear TA0 n1 z1 TB0 n2 hp hq
  simp only [mgV]
  have ek : (k != k) = false := by simp
  have ev : (v != v) = false := by simp
  have eg : (ag != ag) = false := by simp
  have ee : (ea != ea) = false := by simp
  have eh : (ho == ho) = true := by simp
  go_enter Tryz.func25, Tryz.ntmps25
  go_upto_region 1 with fail
  generalize ((w.alloc (.cells #[.int .i64 k, .int .i64 v, .slice a2 r.length c2, .slice a3 s.length c3, .string ⟨⟨ho⟩⟩, .slice a5 pr.length c5, .slice a6 ti.length c6, .int .i64 ag, .int .i64 ea, .slice a9 bi.length c9, .bool rs, .slice a11 ce.length c11, .slice a12 pf.length c12] 26)).alloc (.cells #[.int .i64 k, .int .i64 v, .slice e2 r.length d2, .slice e3 s.length d3, .string ⟨⟨ho⟩⟩, .slice e5 pr.length d5, .slice e6 ti.length d6, .int .i64 ag, .int .i64 ea, .slice e9 bi.length d9, .bool rs, .slice e11 ce.length d11, .slice e12 pf.length d12] 26)) = W0 at *
  have ka0 : W0.cell? ⟨w.heap.size, 0, none⟩ = some (.int .i64 k) := TA.out.cell 0
  have kb0 : W0.cell? ⟨w.heap.size + 1, 0, none⟩ = some (.int .i64 k) := TB.out.cell 0
  have ka1 : W0.cell? ⟨w.heap.size, 1, none⟩ = some (.int .i64 v) := TA.out.cell 1
  have kb1 : W0.cell? ⟨w.heap.size + 1, 1, none⟩ = some (.int .i64 v) := TB.out.cell 1
  have ka2 : W0.cell? ⟨w.heap.size, 2, none⟩ = some (.slice a2 r.length c2) := TA.out.cell 2
  have kb2 : W0.cell? ⟨w.heap.size + 1, 2, none⟩ = some (.slice e2 r.length d2) := TB.out.cell 2
  have EQ := hide (eqByteS_same W0 g2 f2 a2 e2 c2 d2 r HP.out.r HQ.out.r rL)
  go_wp2_with fail
  refine EQ.out.mono ?_
  rintro e W1 ⟨rfl, m⟩
  have TAn := hide (TA.out.up m)
  have TBn := hide (TB.out.up m)
  have Nn := hide (nxt N.out m)
  have HPn := hide (HP.out.up m)
  have HQn := hide (HQ.out.up m)
  clear EQ m TA TB N HP HQ ka0 kb0 ka1 kb1 ka2 kb2
  have TA := TAn
  have TB := TBn
  have N := Nn
  have HP := HPn
  have HQ := HQn
  clear TAn TBn Nn HPn HQn
  have ka3 : W1.cell? ⟨w.heap.size, 3, none⟩ = some (.slice a3 s.length c3) := TA.out.cell 3
  have kb3 : W1.cell? ⟨w.heap.size + 1, 3, none⟩ = some (.slice e3 s.length d3) := TB.out.cell 3
  have EQ := hide (eqByteS_same W1 g3 f3 a3 e3 c3 d3 s HP.out.s HQ.out.s sL)
  go_wp2_with fail
  refine EQ.out.mono ?_
  rintro e W2 ⟨rfl, m⟩
  have TAn := hide (TA.out.up m)
  have TBn := hide (TB.out.up m)
  have Nn := hide (nxt N.out m)
  have HPn := hide (HP.out.up m)
  have HQn := hide (HQ.out.up m)
  clear EQ m TA TB N HP HQ ka3 kb3
  have TA := TAn
  have TB := TBn
  have N := Nn
  have HP := HPn
  have HQ := HQn
  clear TAn TBn Nn HPn HQn
  have ka4 : W2.cell? ⟨w.heap.size, 4, none⟩ = some (.string ⟨⟨ho⟩⟩) := TA.out.cell 4
  have kb4 : W2.cell? ⟨w.heap.size + 1, 4, none⟩ = some (.string ⟨⟨ho⟩⟩) := TB.out.cell 4
  have ka5 : W2.cell? ⟨w.heap.size, 5, none⟩ = some (.slice a5 pr.length c5) := TA.out.cell 5
  have kb5 : W2.cell? ⟨w.heap.size + 1, 5, none⟩ = some (.slice e5 pr.length d5) := TB.out.cell 5
  have EQ := hide (eqStringS_same W2 g5 f5 a5 e5 c5 d5 pr HP.out.pr HQ.out.pr prL)
  go_wp2_with fail
  refine EQ.out.mono ?_
  rintro e W3 ⟨rfl, m⟩
  have TAn := hide (TA.out.up m)
  have TBn := hide (TB.out.up m)
  have Nn := hide (nxt N.out m)
  have HPn := hide (HP.out.up m)
  have HQn := hide (HQ.out.up m)
  clear EQ m TA TB N HP HQ ka4 kb4 ka5 kb5
  have TA := TAn
  have TB := TBn
  have N := Nn
  have HP := HPn
  have HQ := HQn
  clear TAn TBn Nn HPn HQn
  have ka6 : W3.cell? ⟨w.heap.size, 6, none⟩ = some (.slice a6 ti.length c6) := TA.out.cell 6
  have kb6 : W3.cell? ⟨w.heap.size + 1, 6, none⟩ = some (.slice e6 ti.length d6) := TB.out.cell 6
  have EQ := hide (eqByteS_same W3 g6 f6 a6 e6 c6 d6 ti HP.out.ti HQ.out.ti tiL)
  go_wp2_with fail
  refine EQ.out.mono ?_
  rintro e W4 ⟨rfl, m⟩
  have TAn := hide (TA.out.up m)
  have TBn := hide (TB.out.up m)
  have Nn := hide (nxt N.out m)
  have HPn := hide (HP.out.up m)
  have HQn := hide (HQ.out.up m)
  clear EQ m TA TB N HP HQ ka6 kb6
  have TA := TAn
  have TB := TBn
  have N := Nn
  have HP := HPn
  have HQ := HQn
  clear TAn TBn Nn HPn HQn
  have ka7 : W4.cell? ⟨w.heap.size, 7, none⟩ = some (.int .i64 ag) := TA.out.cell 7
  have kb7 : W4.cell? ⟨w.heap.size + 1, 7, none⟩ = some (.int .i64 ag) := TB.out.cell 7
  have ka8 : W4.cell? ⟨w.heap.size, 8, none⟩ = some (.int .i64 ea) := TA.out.cell 8
  have kb8 : W4.cell? ⟨w.heap.size + 1, 8, none⟩ = some (.int .i64 ea) := TB.out.cell 8
  have ka9 : W4.cell? ⟨w.heap.size, 9, none⟩ = some (.slice a9 bi.length c9) := TA.out.cell 9
  have kb9 : W4.cell? ⟨w.heap.size + 1, 9, none⟩ = some (.slice e9 bi.length d9) := TB.out.cell 9
  have EQ := hide (eqByteS_same W4 g9 f9 a9 e9 c9 d9 bi HP.out.bi HQ.out.bi biL)
  go_wp2_with fail
  refine EQ.out.mono ?_
  rintro e W5 ⟨rfl, m⟩
  have TAn := hide (TA.out.up m)
  have TBn := hide (TB.out.up m)
  have Nn := hide (nxt N.out m)
  have HPn := hide (HP.out.up m)
  have HQn := hide (HQ.out.up m)
  clear EQ m TA TB N HP HQ ka7 kb7 ka8 kb8 ka9 kb9
  have TA := TAn
  have TB := TBn
  have N := Nn
  have HP := HPn
  have HQ := HQn
  clear TAn TBn Nn HPn HQn
  have ka10 : W5.cell? ⟨w.heap.size, 10, none⟩ = some (.bool rs) := TA.out.cell 10
  have kb10 : W5.cell? ⟨w.heap.size + 1, 10, none⟩ = some (.bool rs) := TB.out.cell 10
  have ka11 : W5.cell? ⟨w.heap.size, 11, none⟩ = some (.slice a11 ce.length c11) := TA.out.cell 11
  have kb11 : W5.cell? ⟨w.heap.size + 1, 11, none⟩ = some (.slice e11 ce.length d11) := TB.out.cell 11
  cases rs
  all_goals
    have EQ := hide (eqBlobS_same W5 g11 f11 a11 e11 c11 d11 ce ps qs HP.out.ce HQ.out.ce ceL CZ.out)
    go_wp2_with fail
    refine EQ.out.mono ?_
    rintro e W6 ⟨rfl, m⟩
    have TAn := hide (TA.out.up m)
    have TBn := hide (TB.out.up m)
    have Nn := hide (nxt N.out m)
    have HPn := hide (HP.out.up m)
    have HQn := hide (HQ.out.up m)
    clear EQ m TA TB N HP HQ ka10 kb10 ka11 kb11
    have TA := TAn
    have TB := TBn
    have N := Nn
    have HP := HPn
    have HQ := HQn
    clear TAn TBn Nn HPn HQn
    have ka12 : W6.cell? ⟨w.heap.size, 12, none⟩ = some (.slice a12 pf.length c12) := TA.out.cell 12
    have kb12 : W6.cell? ⟨w.heap.size + 1, 12, none⟩ = some (.slice e12 pf.length d12) := TB.out.cell 12
    have EQ := hide (eqByteS_same W6 g12 f12 a12 e12 c12 d12 pf HP.out.pf HQ.out.pf pfL)
    go_wp2_with fail
    refine EQ.out.mono ?_
    rintro e W7 ⟨rfl, m⟩
    have TAn := hide (TA.out.up m)
    have TBn := hide (TB.out.up m)
    have Nn := hide (nxt N.out m)
    have HPn := hide (HP.out.up m)
    have HQn := hide (HQ.out.up m)
    clear EQ m TA TB N HP HQ ka12 kb12
    have TA := TAn
    have TB := TBn
    have N := Nn
    have HP := HPn
    have HQ := HQn
    clear TAn TBn Nn HPn HQn
    go_wp2
    go_ret
    exact ⟨rfl, N.out⟩
end Go.Proofs.YtdnkgmlidhepbaaGreat
namespace Go.Proofs.YtdnkgmlidhepbaaGreat
open Go Go.RowKit
def NBt (b : Nat) (t : TypeId) (zs : List Value) : Fact := ⟨fun v w => ∃ q, v = .pointer (some ⟨q, 0, none⟩) ∧ b ≤ q ∧ RwC w q zs t, fun n h => by
  obtain ⟨q, e, l, r⟩ := h
  exact ⟨q, e, l, r.up n⟩⟩
def putAt : List Value → Nat → List Value → List Value
  | zs, _, [] => zs
  | zs, o, v :: vs => putAt (zs.set o v) (o + 1) vs
theorem putAt_get : ∀ (vs zs : List Value) (o i : Nat), o + vs.length ≤ zs.length → (putAt zs o vs)[i]? = if o ≤ i ∧ i < o + vs.length then vs[i - o]? else zs[i]?
  | [], zs, o, i, _ => by
    rw [if_neg (by simp only [List.length_nil]; omega)]
    rfl
  | v :: vs, zs, o, i, h => by
    simp only [List.length_cons] at h ⊢
    rw [putAt, putAt_get vs (zs.set o v) (o + 1) i (by rw [List.length_set]; omega)]
    by_cases e : o = i
    · subst e
      rw [if_neg (by omega), if_pos (by omega), List.getElem?_set_self (by omega), Nat.sub_self]
      rfl
    · by_cases h2 : o + 1 ≤ i ∧ i < o + 1 + vs.length
      · rw [if_pos h2, if_pos (by omega), show i - o = (i - (o + 1)) + 1 by omega]
        rfl
      · rw [if_neg h2, if_neg (by omega), List.getElem?_set_ne e]
theorem putAt_all {zs cs : List Value} (h : cs.length = zs.length) : putAt zs 0 cs = cs := by
  apply List.ext_getElem?
  intro i
  rw [putAt_get cs zs 0 i (by omega)]
  by_cases hi : i < cs.length
  · rw [if_pos (by omega)]
    rfl
  · rw [if_neg (by omega), List.getElem?_eq_none (by omega), List.getElem?_eq_none (by omega)]
theorem RwC.puts {t : TypeId} {q : Nat} : ∀ (vs zs : List Value) (w : World) (o : Nat), RwC w q zs t → RwC (w.setCells q o vs) q (putAt zs o vs) t
  | [], _, _, _, h => h
  | v :: vs, zs, w, o, h => RwC.puts vs (zs.set o v) (w.setCell ⟨q, o, none⟩ v) (o + 1) (h.set o v)
theorem RwC.put {w : World} {q : Nat} {zs cs : List Value} {t : TypeId} (h : RwC w q zs t) (hl : cs.length = zs.length) : RwC (w.setCells q 0 cs) q cs t := by
  have := RwC.puts cs zs w 0 h
  rwa [putAt_all hl] at this
section
variable {P : Program} {ops : Array Oper} {Q : Exit → Act → World → Prop}
theorem region_newT {a0 : Act} {id : Nat} {draw : Bool} {w : World} (k jA jV pA pV : Nat) (o : Oper) (F : Nat → Fact) (t : TypeId) (zs : List Value) (G : Fact) (hm : P.follows .mixedOrders = true) (hT : textOk .any ops a0.tmps.size k = true) (hk : ops[k]? = some o) (hd : o.dst = none)
    (hop : o.op = .store t (.tmp pA) (.tmp pV)) (hi : (P.info? t).map (·.size) = some zs.length) (wA : writes ops jA pA = true) (FA : F jA = NBt w.heap.size t zs) (wV : writes ops jV pV = true) (FV : F jV = G)
    (hG : ∀ v W, G.p v W → ∃ cs : List Value, v = .agg cs.toArray ∧ cs.length = zs.length ∧ cs.toArray.all (·.oneCell') = true) (steps : ∀ i, i < k → StepOk P .any ops Q F a0 w i)
    (fin : ∀ (vs : Nat → Value) (W W' : World) (q : Nat) (cs : List Value), vs pA = .pointer (some ⟨q, 0, none⟩) → w.heap.size ≤ q → Below w.heap.size w W → RwC W q zs t → G.p (.agg cs.toArray) W → Only q W W' → RwC W' q cs t → Below w.heap.size w W' → Q .normal (puts vs a0 ops.toList) W') : (Code.region id ops draw).wp P Q a0 w := by
  refine region_store k o F hm hT hk hd steps fun a W hb hw hF => ?_
  have e1 := hF jA pA wA
  have e2 := hF jV pV wV
  rw [FA] at e1
  rw [FV] at e2
  obtain ⟨q, e1, hB, hq⟩ := e1
  obtain ⟨cs, ev, hl, h1⟩ := hG _ _ e2
  have TH : W.there q 0 cs.length := by rw [hl]; exact hq.thereG
  refine wp_store_mid _ (.tmp pA) (.tmp pV) hop q 0 cs.toArray e1 ev (by simpa using TH) (by rw [hi]; simp [hl]) h1 ?_
  obtain ⟨vs, hvs⟩ : ∃ vs : Nat → Value, ∀ d, a.tmps.getD d undef = vs d := ⟨_, fun _ => rfl⟩
  rw [hd]
  show Q .normal a _
  rw [puts_of hT rfl hb vs hvs]
  have OQ := only_setG W q cs 0
  have e2' : G.p (.agg cs.toArray) W := by rw [← ev]; exact e2
  exact fin vs W _ q cs ((hvs pA).symm.trans e1) hB hw hq e2' OQ (RwC.put hq hl) (hw.trans (OQ.below hB))
end
end Go.Proofs.YtdnkgmlidhepbaaGreat
namespace Go.Proofs.YtdnkgmlidhepbaaGreat
open Go Go.RowKit
def zM : List Value := [.int .i64 0, .int .i64 0, .slice none 0 0, .slice none 0 0, .string ⟨#[]⟩, .slice none 0 0, .slice none 0 0, .int .i64 0, .int .i64 0, .slice none 0 0, .bool false, .slice none 0 0, .slice none 0 0]
structure PS (w W : World) (av : Value) (at_ : Nat) (cs : List Value) : Prop where
  U : RwC W w.heap.size zM 26
  Q : RwC W (w.heap.size + 1) [av, .int .i64 (at_ : Int)] 58
  T : RwC W (w.heap.size + 1 + 1) cs 26
  N : Below w.heap.size w W
theorem PS.call {w W W' : World} {av : Value} {at_ n : Nat} {cs : List Value} (h : PS w W av at_ cs) (Q : RwC W' (w.heap.size + 1) [av, .int .i64 (n : Int)] 58) (T : Tch [w.heap.size + 1] W W') : PS w W' av n cs :=
  ⟨(T.block _ h.U.lt (by simp)).trans h.U, Q, (T.block _ h.T.lt (by simp)).trans h.T, ⟨T.os.trans h.N.os, T.tape.trans h.N.tape, T.output.trans h.N.output, Nat.le_trans h.N.size T.size, fun k hk => (T.block k (Nat.lt_of_lt_of_le hk h.N.size) (by simp; omega)).trans (h.N.block k hk)⟩⟩
theorem PS.set {w W : World} {av : Value} {at_ : Nat} {cs : List Value} (h : PS w W av at_ cs) (i : Nat) (v : Value) : PS w (W.setCell ⟨w.heap.size + 1 + 1, i, none⟩ v) av at_ (cs.set i v) :=
  have O := Only.setCell W (w.heap.size + 1 + 1) i v
  ⟨(O.block _ (by omega)).trans h.U, (O.block _ (by omega)).trans h.Q, h.T.set i v, h.N.trans (O.below (by omega))⟩
theorem PS.start (w : World) (av : Value) (k : Int) : PS w ((((w.alloc (.cells zM.toArray 26)).alloc (.cells #[av, .int .i64 0] 58)).alloc (.cells zM.toArray 26)).setCells (w.heap.size + 1 + 1) 0 ((.int .i64 k) :: zM.drop 1)) av 0 ((.int .i64 k) :: zM.drop 1) := by
  have z1 : (w.alloc (.cells zM.toArray 26)).heap.size = w.heap.size + 1 := by simp
  have n1 : Below w.heap.size w (w.alloc (.cells zM.toArray 26)) := (Below.refl _ _).alloc (Nat.le_refl _) _
  have s1 := RwC.new w zM 26
  generalize w.alloc (.cells zM.toArray 26) = a at *
  have z2 : (a.alloc (.cells #[av, .int .i64 0] 58)).heap.size = a.heap.size + 1 := by simp
  have n2 : Below a.heap.size a (a.alloc (.cells #[av, .int .i64 0] 58)) := (Below.refl _ _).alloc (Nat.le_refl _) _
  have s2 := RwC.new a [av, .int .i64 0] 58
  have s2 : RwC (a.alloc (.cells #[av, .int .i64 0] 58)) a.heap.size [av, .int .i64 0] 58 := s2
  generalize a.alloc (.cells #[av, .int .i64 0] 58) = b at *
  have n3 : Below b.heap.size b (b.alloc (.cells zM.toArray 26)) := (Below.refl _ _).alloc (Nat.le_refl _) _
  have s3 := RwC.new b zM 26
  generalize b.alloc (.cells zM.toArray 26) = c at *
  have e2 : a.heap.size = w.heap.size + 1 := z1
  have e3 : b.heap.size = w.heap.size + 1 + 1 := by rw [z2, z1]
  rw [e2] at s2
  rw [e3] at s3
  have O := only_setG c (w.heap.size + 1 + 1) ((.int .i64 k) :: zM.drop 1) 0
  have N : Below w.heap.size w c := (n1.trans (n2.mono (by omega))).trans (n3.mono (by omega))
  refine ⟨(O.block _ (by omega)).trans ((s1.up n2).up n3), (O.block _ (by omega)).trans (s2.up n3), ?_, N.trans (O.below (by omega))⟩
  exact s3.put rfl
theorem PS.room (w : World) (av : Value) : (((w.alloc (.cells zM.toArray 26)).alloc (.cells #[av, .int .i64 0] 58)).alloc (.cells zM.toArray 26)).there (w.heap.size + 1 + 1) 0 13 := by
  have s3 := RwC.new ((w.alloc (.cells zM.toArray 26)).alloc (.cells #[av, .int .i64 0] 58)) zM 26
  have e : ((w.alloc (.cells zM.toArray 26)).alloc (.cells #[av, .int .i64 0] 58)).heap.size = w.heap.size + 1 + 1 := by simp
  rw [e] at s3
  exact s3.thereG
theorem FB.tch {b q : Nat} {W W' : World} {g : Nat} {xs : List Int} (h : FB b W g xs) (T : Tch [q] W W') (hq : q ≤ b) : FB b W' g xs := ⟨h.1.of_block (T.block g h.1.lt (by have := h.2; simp; omega)), h.2⟩
def FR (b : Nat) (W : World) (v : Value) (ls : List (List UInt8)) : Prop := RowT W (b + 1) v ls
theorem FR.tch {b q : Nat} {W W' : World} {v : Value} {ls : List (List UInt8)} (h : FR b W v ls) (T : Tch [q] W W') (hq : q ≤ b) : FR b W' v ls := RowT.tch h T (by omega)
theorem FR.onl {b q : Nat} {W W' : World} {v : Value} {ls : List (List UInt8)} (h : FR b W v ls) (O : Only q W W') (hq : q ≤ b) : FR b W' v ls := RowT.onl h O (by omega)
theorem RowT.rdT {w : World} {base : Nat} {a : Option Addr} {n c : Nat} {ls : List (List UInt8)} (h : RowT w base (.slice a n c) ls) : n = ls.length ∧ ls.length ≤ c ∧ (a = none → c = 0) ∧ ∃ g, RdT w g a ls ∧ (0 < ls.length → (∃ cs mk, w.heap[g]? = some (.cells cs 9 mk)) ∧ base ≤ g) := by
  rcases h.2 with ⟨h', h0⟩ | ⟨g, cap, cur, e, hbg, hg, hnc, hcm, hcs, ht⟩
  · cases h'
    refine ⟨h0.symm, by omega, fun _ => rfl, 0, fun hh => absurd hh (by omega), fun hh => absurd hh (by omega)⟩
  · obtain ⟨rfl, rfl, rfl⟩ : a = some ⟨g, 0, none⟩ ∧ n = ls.length ∧ c = cap := by cases e; exact ⟨rfl, rfl, rfl⟩
    refine ⟨rfl, hnc, (fun e => by cases e), g, fun hh => ?_, fun _ => ⟨⟨_, _, hg⟩, hbg⟩⟩
    obtain ⟨g', c', e', _, _, hc, _⟩ := RowT.cells h hh
    obtain rfl : g = g' := by cases e'; rfl
    exact ⟨0, rfl, fun i hi => by rw [Nat.zero_add]; exact hc i hi⟩
structure NoM (g : Nat) (p : MQ) (m : Msg) : Prop where
  r : 0 < m.r.length → p.g2 ≠ g
  s : 0 < m.s.length → p.g3 ≠ g
  pr : 0 < m.pr.length → p.g5 ≠ g
  ti : 0 < m.ti.length → p.g6 ≠ g
  bi : 0 < m.bi.length → p.g9 ≠ g
  ce : 0 < m.ce.length → p.g11 ≠ g
  cl : ∀ i, i < m.ce.length → 0 < (m.ce.getD i []).length → (p.ps.getD i plb0).q ≠ g
  pf : 0 < m.pf.length → p.g12 ≠ g
def TyM (W : World) (p : MQ) (m : Msg) : Prop := (0 < m.pr.length → ∃ cs mk, W.heap[p.g5]? = some (.cells cs 9 mk)) ∧ (0 < m.ce.length → ∃ cs mk, W.heap[p.g11]? = some (.cells cs 63 mk))
theorem TyM.up {W W' : World} {p : MQ} {m : Msg} (h : TyM W p m) (n : Below W.heap.size W W') : TyM W' p m := by
  refine ⟨fun h0 => ?_, fun h0 => ?_⟩
  · obtain ⟨cs, mk, e⟩ := h.1 h0
    exact ⟨cs, mk, (n.block _ (Array.getElem?_eq_some_iff.1 e).1).trans e⟩
  · obtain ⟨cs, mk, e⟩ := h.2 h0
    exact ⟨cs, mk, (n.block _ (Array.getElem?_eq_some_iff.1 e).1).trans e⟩
theorem zM_u8 : ∀ v ∈ zM, ∀ x, v ≠ .int .u8 x := by
  intro v hv x
  simp only [zM, List.mem_cons, List.not_mem_nil, or_false] at hv
  rcases hv with rfl | rfl | rfl | rfl | rfl | rfl | rfl | rfl | rfl | rfl | rfl | rfl | rfl <;> simp
theorem rd_offT {W W' : World} {g q : Nat} {a : Option Addr} {xs : List Int} {t : TypeId} {zs : List Value} (hz : ∀ v ∈ zs, ∀ x, v ≠ .int .u8 x) (h : Rd W g a .u8 xs) (hq : RwC W q zs t) (O : Only q W W') : Rd W' g a .u8 xs := h.of_block' fun h0 => O.block g (fun e => by
  subst e
  obtain ⟨off, ha, hc⟩ := h h0
  have h1 := hc 0 h0
  rw [hq.cell (off + 0)] at h1
  exact hz _ (List.mem_of_getElem? h1) _ rfl)
theorem HasM.offT {W W' : World} {q : Nat} {p : MQ} {m : Msg} {zs : List Value} {t : TypeId} (h : HasM W p m) (ty : TyM W p m) (hz : ∀ v ∈ zs, ∀ x, v ≠ .int .u8 x) (ht : t ≠ 9 ∧ t ≠ 63) (hq : RwC W q zs t) (O : Only q W W') : HasM W' p m ∧ TyM W' p m := by
  have n5 : 0 < m.pr.length → p.g5 ≠ q := fun h0 e => by
    obtain ⟨cs, mk, e1⟩ := ty.1 h0
    rw [e] at e1
    have e2 : W.heap[q]? = some (.cells zs.toArray t (0, 0)) := hq
    rw [e2] at e1
    exact ht.1 (by injection e1 with e1; injection e1)
  have n11 : 0 < m.ce.length → p.g11 ≠ q := fun h0 e => by
    obtain ⟨cs, mk, e1⟩ := ty.2 h0
    rw [e] at e1
    have e2 : W.heap[q]? = some (.cells zs.toArray t (0, 0)) := hq
    rw [e2] at e1
    exact ht.2 (by injection e1 with e1; injection e1)
  refine ⟨⟨rd_offT hz h.r hq O, rd_offT hz h.s hq O, fun h0 => ?_, rd_offT hz h.ti hq O, rd_offT hz h.bi hq O, ⟨fun h0 => ?_, fun i hi => rd_offT hz (h.ce.b i hi) hq O⟩, rd_offT hz h.pf hq O, h.prC⟩, fun h0 => ?_, fun h0 => ?_⟩
  · obtain ⟨off, ha, hc⟩ := h.pr h0
    exact ⟨off, ha, fun i hi => (World.cell?_of_block (a := ⟨p.g5, off + i, none⟩) (O.block _ (n5 h0))).trans (hc i hi)⟩
  · obtain ⟨off, ha, hc⟩ := h.ce.r h0
    exact ⟨off, ha, fun i hi => (World.cell?_of_block (a := ⟨p.g11, off + i, none⟩) (O.block _ (n11 h0))).trans (hc i hi)⟩
  · obtain ⟨cs, mk, e⟩ := ty.1 h0
    exact ⟨cs, mk, (O.block _ (n5 h0)).trans e⟩
  · obtain ⟨cs, mk, e⟩ := ty.2 h0
    exact ⟨cs, mk, (O.block _ (n11 h0)).trans e⟩
theorem HasM.offM {W W' : World} {q : Nat} {p : MQ} {m : Msg} (h : HasM W p m) (ty : TyM W p m) (hq : RwC W q zM 26) (O : Only q W W') : HasM W' p m ∧ TyM W' p m := h.offT ty zM_u8 (by decide) hq O
def plbs (bs : List Plc) : List Plb := bs.map fun p => ⟨p.a, p.c, p.q⟩
theorem plbs_get {bs : List Plc} {i : Nat} (h : i < bs.length) : (plbs bs).getD i plb0 = ⟨(bs.getD i plc0).a, (bs.getD i plc0).c, (bs.getD i plc0).q⟩ := by simp [plbs, h]
theorem BRow.rdL {w : World} {B : Nat} {a : Option Addr} {n c : Nat} {its : List (List Int)} {bs : List Plc} (h : BRow w B (.slice a n c) its bs) : n = its.length ∧ (a = none → c = 0) ∧ ∃ g, RdL w g a its (plbs bs) ∧ (0 < its.length → (∃ cs mk, w.heap[g]? = some (.cells cs 63 mk)) ∧ B ≤ g) := by
  obtain ⟨a', c', e, hz⟩ := h.slice
  obtain ⟨rfl, rfl, rfl⟩ : a = a' ∧ n = its.length ∧ c = c' := by cases e; exact ⟨rfl, rfl, rfl⟩
  by_cases h0 : 0 < its.length
  · obtain ⟨g, c', e', _, _, _, hc⟩ := h.cells h0
    obtain ⟨rfl, rfl⟩ : a = some ⟨g, 0, none⟩ ∧ c = c' := by cases e'; exact ⟨rfl, rfl⟩
    have hty : (∃ cs mk, w.heap[g]? = some (.cells cs 63 mk)) ∧ B ≤ g := by
      rcases h.o.2 with ⟨_, h''⟩ | ⟨g', cap, cur, e'', hb, hg, _⟩
      · omega
      · obtain rfl : g = g' := by cases e''; rfl
        exact ⟨⟨_, _, hg⟩, hb⟩
    refine ⟨rfl, hz, g, ⟨fun _ => ⟨0, rfl, fun i hi => ?_⟩, fun i hi => ?_⟩, fun _ => hty⟩
    · rw [Nat.zero_add, plbs_get (by rw [h.l]; exact hi)]
      exact hc i hi
    · rw [plbs_get (by rw [h.l]; exact hi)]
      exact (h.b i hi).o.rd
  · exact ⟨rfl, hz, 0, ⟨fun hh => absurd hh h0, fun i hi => absurd hi (by omega)⟩, fun hh => absurd hh h0⟩
theorem ppL_bd {xs : List Int} (hb : Byt xs) (i : Nat) : ∀ k, ppL xs i k ≤ i + k * 65537
  | 0 => by simp [ppL]
  | k + 1 => by
    have := ppL_bd hb i k
    have h1 := beN_rng hb (ppL xs i k) 2
    have e : ppL xs i (k + 1) = ppL xs i k + 2 + (beN xs (ppL xs i k) 2).toNat := rfl
    omega
theorem certsZ {W : World} {B : Nat} {va : Option Addr} {vc n gq : Nat} {xs : List Int} {bs : List Plc} (h : BRow W B (.slice va n vc) (clT xs 1 n) bs) (en : (xs.getD 0 0).toNat = n) : HasZ ⟨none, 0, 0, none, 0, 0, none, 0, 0, none, 0, 0, none, 0, 0, va, vc, gq, none, 0, 0, plbs bs⟩ (rdCerts xs) := by
  refine ⟨(fun _ => rfl), (fun _ => rfl), (fun _ => rfl), (fun _ => rfl), (fun _ => rfl), fun i hi e => ?_⟩
  have hi : i < n := by
    have e1 : (rdCerts xs).ce.length = n := by show (clT _ _ _).length = _; rw [clT_len, en]
    rw [e1] at hi
    exact hi
  have hl : i < bs.length := by rw [h.l, clT_len]; exact hi
  have e : ((plbs bs).getD i plb0).a = none := e
  show ((plbs bs).getD i plb0).c = 0
  rw [plbs_get hl] at e ⊢
  exact (h.b i (by rw [clT_len]; exact hi)).n e
end Go.Proofs.YtdnkgmlidhepbaaGreat
namespace Go.Proofs.YtdnkgmlidhepbaaGreat
open Go Go.RowKit
theorem txt1 (W : World) (x : Int) : (convert 22 9 (.slice (some ⟨W.heap.size, 0, none⟩) 1 1)).run Tryz.prog (W.alloc (.cells #[.int .u8 x] 5)) = .ok (.string ⟨⟨[UInt8.ofNat x.toNat]⟩⟩) (W.alloc (.cells #[.int .u8 x] 5)) :=
  conv_run (W.alloc (.cells #[.int .u8 x] 5)) W.heap.size (some ⟨W.heap.size, 0, none⟩) 1 [x] (blk_lit1 W .u8 5 x).own0.rd
theorem pow_step {n j : Nat} (h : n < 10 ^ j) (h0 : 0 < n) : ∃ i, j = i + 1 ∧ n / 10 < 10 ^ i := by
  cases j with
  | zero => simp at h; omega
  | succ i =>
    refine ⟨i, rfl, ?_⟩
    rw [Nat.pow_succ] at h
    exact Nat.div_lt_of_lt_mul (by omega)
end Go.Proofs.YtdnkgmlidhepbaaGreat
