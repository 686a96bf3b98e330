
/-
  The law of CutRecords (written by gens/lcut.py).
-/
import Derived.Test.YtcempddbcfigbaaDoorCrS
import Derived.Test.YtcempddbcfigbaaDoorCrH
import Derived.Test.YtcempddbcfigbaaDoorRdR
namespace Go.Proofs.YtcempddbcfigbaaDoor
set_option maxRecDepth 100000
open Go Go.RowKit

theorem cut_end {xs : List Int} (hb : Byt xs) : ∀ (f : Nat) (its : List (Int × List Int)) (k : Nat), Ahc xs its k → xs.length - k < f → ∃ its' k', Ahc xs its' k' ∧ rcT (xs.drop k') ≠ 0
  | 0, _, _, _, h => absurd h (by omega)
  | f + 1, its, k, A, h => by
    by_cases ht : rcT (xs.drop k) = 0
    · have L := rcT_len (byt_drop hb k) ht
      have ld : (xs.drop k).length = xs.length - k := List.length_drop
      exact cut_end hb f _ _ (A.step hb ht) (by omega)
    · exact ⟨its, k, A, ht⟩
theorem cut_bd (xs : List Int) (hb : Byt xs) (hx : xs.length ≤ 1048576) : (cutR xs).length ≤ 262144 ∧ (∀ i, i < (cutR xs).length → ((cutR xs).getD i (0, [])).2.length ≤ 2321) ∧ (cutL xs).length ≤ 1048576 := by
  obtain ⟨its, k, A, ht⟩ := cut_end hb _ _ _ (Ahc.zero xs) (Nat.lt_succ_self _)
  obtain ⟨e1, e2⟩ := A.done ht
  have := A.l
  have := A.k
  rw [e1]
  refine ⟨by omega, A.b, ?_⟩
  unfold cutL
  split
  · rw [List.length_drop]
    omega
  · simp
/-- A row between two places of memory. -/
structure IRm (w : World) (B M : Nat) (v : Value) (its : List (Int × List Int)) (bs : List Plc) : Prop where
  r : IRow w B v its bs
  o : ∀ k, v.ownBlock = some k → k < M
  q : ∀ i, i < its.length → 0 < (its.getD i (0, [])).2.length → (bs.getD i plc0).q < M
theorem IRow.m {w : World} {B : Nat} {v : Value} {its : List (Int × List Int)} {bs : List Plc} (h : IRow w B v its bs) : IRm w B w.heap.size v its bs := ⟨h, fun k hk => (h.o.lt k hk).2, fun _ hi h0 => h.lt hi h0⟩
theorem IRm.keep {w w' : World} {B M : Nat} {v : Value} {its : List (Int × List Int)} {bs : List Plc} (h : IRm w B M v its bs) (hb : ∀ k, B ≤ k → k < M → w'.heap[k]? = w.heap[k]?) : IRm w' B M v its bs := by
  refine ⟨⟨⟨h.r.o.1, ?_⟩, h.r.l, fun i hi => ?_, h.r.h, h.r.d⟩, h.o, h.q⟩
  · rcases h.r.o.2 with h' | ⟨g, cap, cur, rfl, hbg, hg, hnc, hcm, hcs, ht⟩
    · exact .inl h'
    · exact .inr ⟨g, cap, cur, rfl, hbg, by rw [hb g hbg (h.o g rfl)]; exact hg, hnc, hcm, hcs, ht⟩
  · exact (h.r.b i hi).of fun h0 => hb _ (h.r.h i hi h0).1 (h.q i hi h0)
theorem IRm.up {w w' : World} {B M : Nat} {v : Value} {its : List (Int × List Int)} {bs : List Plc} (h : IRm w B M v its bs) (n : Below w.heap.size w w') (hM : M ≤ w.heap.size) : IRm w' B M v its bs := h.keep (fun k _ hk => n.block k (by omega))
theorem IRm.within {w : World} {B M : Nat} {v : Value} {its : List (Int × List Int)} {bs : List Plc} (h : IRm w B M v its bs) {p : Nat} (hp : rowS v its bs p) : B ≤ p ∧ p < M := by
  rcases hp with hp | ⟨i, hi, h0, rfl⟩
  · exact ⟨(h.r.o.lt p hp).1, h.o p hp⟩
  · exact ⟨(h.r.h i hi h0).1, h.q i hi h0⟩
theorem NoP.not {p : Nat} {v : Value} {its : List (Int × List Int)} {bs : List Plc} (h : NoP p v its bs) : ¬ rowS v its bs p := by
  rintro (hp | ⟨i, hi, h0, e⟩)
  · exact h.o hp
  · exact h.b i hi h0 e
theorem NewC.at {B : Nat} {w : World} {e : Ending} {xs : List Int} (h : NewC B w e xs) : ∃ a c bs x y gr, e = .returned (.agg #[.int .i64 (cutC xs), .slice a (cutR xs).length c, .slice x (cutL xs).length y]) ∧ IRm w B w.heap.size (.slice a (cutR xs).length c) (cutR xs) bs ∧ Own w gr x .u8 (cutL xs) ∧ (0 < (cutL xs).length → B ≤ gr ∧ gr < w.heap.size ∧ NoP gr (.slice a (cutR xs).length c) (cutR xs) bs) := by
  obtain ⟨v, bs, vr, he, R, Q, hp⟩ := h
  obtain ⟨a, c, rfl, -⟩ := R.slice
  obtain ⟨x, y, gr, rfl, O1, O2, O3, O4⟩ := Q.own
  refine ⟨a, c, bs, x, y, gr, he, R.m, O1, fun h0 => ⟨O4, O1.rd.lt h0, hp gr ?_⟩⟩
  obtain ⟨-, ⟨e1, e2⟩ | ⟨gg, cap, cur, e1, -, hg, -⟩⟩ := Q
  · omega
  · obtain ⟨off, e3, -⟩ := O1 h0
    simp only [Value.slice.injEq] at e1
    obtain ⟨e4, -⟩ := e1
    rw [e3] at e4
    simp only [Option.some.injEq, Addr.mk.injEq] at e4
    rw [e3, e4.1]
    simp [Value.ownBlock]
theorem Btw.below {B M C : Nat} {w w' : World} (n : Btw B M w w') (h : C ≤ B) : Below C w w' := ⟨n.os, n.tape, n.output, Nat.le_of_eq n.size.symm, fun k hk => n.block k (by omega)⟩
theorem Mkd.of {w w' : World} {v : Value} {its : List (Int × List Int)} {bs : List Plc} {n : Int} (h : Mkd w v its bs n) (hb : ∀ p, p < w.heap.size → rowS v its bs p → w'.heap[p]? = w.heap[p]?) : Mkd w' v its bs n := fun g c e i hi => by
  have P := h g c e i hi
  have hg : g < w.heap.size := block_lt_of_cell P.1
  have sg : rowS v its bs g := .inl (by rw [e]; rfl)
  exact P.keep (World.cell?_of_block (a := ⟨g, i * 2, none⟩) (hb g hg sg)) (World.cell?_of_block (a := ⟨g, i * 2 + 1, none⟩) (hb g hg sg)) (fun h0 => hb _ (P.2.2.rd.lt (by rw [marks_len]; exact h0)) (.inr ⟨i, hi, h0, rfl⟩))

set_option maxHeartbeats 2000000 in
theorem markRecordList_any (w : World) (t : Int) (B M : Nat) (a : Option Addr) (c : Nat) (its : List (Int × List Int)) (bs : List Plc) (h : IRm w B M (.slice a its.length c) its bs) (x : Option Addr) (y gr : Nat) (ys : List Int) (hx : Own w gr x .u8 ys) (hg : 0 < ys.length → B ≤ gr ∧ gr < M ∧ NoP gr (.slice a its.length c) its bs) (hM : M ≤ w.heap.size) (hl : its.length ≤ 262144) (hn : ∀ i, i < its.length → (its.getD i (0, [])).2.length ≤ 2321) (hy : ys.length ≤ 1048576) :
    Calls Tryd.prog 19 #[.agg #[.int .i64 t, .slice a its.length c, .slice x ys.length y], .int .i64 1] w fun e w' => e = .returned (.int .i64 (psI its 1 its.length + (ys.length : Int))) ∧ Mkd w' (.slice a its.length c) its bs 1 ∧ Own w' gr x .u8 (marks (psI its 1 its.length) ys.length) ∧ ∃ w1, Below w.heap.size w w1 ∧ Btw B M w1 w' := by
  have n1 : Below w.heap.size w (w.alloc (.cells #[.int .i64 t, .slice a its.length c, .slice x ys.length y] 36)) := (Below.refl _ _).alloc (Nat.le_refl _) _
  have T1 := RwC.new w [.int .i64 t, .slice a its.length c, .slice x ys.length y] 36
  have R1 := h.up n1 hM
  have X1 := hx.up n1
  have MK := hide (markRecordS_any _ B _ its bs 1 R1.r hl hn (by decide) (by decide))
  have PB := hide (psI_bd (n := 1) (by decide) hn its.length (Nat.le_refl _))
  have HL := hide hl
  have W1 := hide fun p hp => R1.within (p := p) hp
  have HG := hide hg
  have HM := hide hM
  have HY := hide hy
  clear h hM hl hn R1 hx hg hy
  obtain ⟨z, hz⟩ : ∃ z, z = psI its 1 its.length := ⟨_, rfl⟩
  rw [← hz] at MK PB ⊢
  clear hz
  obtain ⟨m, hm⟩ : ∃ m, m = its.length := ⟨_, rfl⟩
  have HMM := hide hm
  obtain ⟨L, hL⟩ : ∃ L, L = ys.length := ⟨_, rfl⟩
  have HLL := hide hL
  obtain ⟨V, hV⟩ : ∃ V : Value, V = .slice a its.length c := ⟨_, rfl⟩
  have HV := hide hV
  go_enter Tryd.func19, Tryd.ntmps19
  clear hm hL hV
  go_wp2_with fail
  generalize w.alloc (.cells #[.int .i64 t, .slice a its.length c, .slice x ys.length y] 36) = W at *
  refine MK.out.mono ?_
  rintro e w2 ⟨rfl, o2, O2⟩
  have T2 : RwC w2 w.heap.size [.int .i64 t, .slice a its.length c, .slice x ys.length y] 36 := (O2.block _ (fun hs => by have := W1.out _ hs; have := HM.out; omega)).trans T1
  have t2 := T2.c2
  have zb : 0 ≤ z ∧ z ≤ 1099511627776 := by have := PB.out; have := HL.out; omega
  by_cases h0 : 0 < ys.length
  · obtain ⟨g1, g2, g3⟩ := HG.out h0
    have X2 : Own w2 gr x .u8 ys := X1.of_block (O2.block _ g3.not)
    have MB := hide (markByteS_any w2 gr x y ys z X2 HY.out zb.1 zb.2)
    have FIN : Hid (∀ w3, Own w3 gr x .u8 (marks z ys.length) → Only gr w2 w3 → Mkd w3 (.slice a its.length c) its bs 1 ∧ Own w3 gr x .u8 (marks z ys.length) ∧ ∃ w1, Below w.heap.size w w1 ∧ Btw B M w1 w3) := fun w3 o3 k3 => by
      refine ⟨o2.of (fun p hp hs => k3.block p (fun e => g3.not (e ▸ hs))), o3, W, n1, ⟨k3.os.trans O2.os, k3.tape.trans O2.tape, k3.output.trans O2.output, k3.size.trans O2.size, fun p hp => (k3.block p (by omega)).trans (O2.block p (fun hs => by have := W1.out _ hs; omega))⟩⟩
    clear o2 O2 T2 T1 X1 X2 MK PB W1 HG h0 g1 g2 g3 zb n1
    go_wp2_with fail
    refine MB.out.mono ?_
    rintro e w3 ⟨rfl, o3, k3⟩
    have F3 := FIN.out w3 o3 k3
    clear FIN o3 k3 MB t2
    go_wp2
    go_ret
    exact ⟨rfl, F3⟩
  · have X2 : Own w2 w2.heap.size x .u8 ys := fun h => absurd h h0
    have MB := hide (markByteS_any w2 w2.heap.size x y ys z X2 HY.out zb.1 zb.2)
    have FIN : Hid (∀ w3, Only w2.heap.size w2 w3 → Mkd w3 (.slice a its.length c) its bs 1 ∧ Own w3 gr x .u8 (marks z ys.length) ∧ ∃ w1, Below w.heap.size w w1 ∧ Btw B M w1 w3) := fun w3 k3 => by
      have same : ∀ p, w3.heap[p]? = w2.heap[p]? := fun p => by
        by_cases hp : p = w2.heap.size
        · have sz := k3.size
          rw [hp, Array.getElem?_eq_none (by omega), Array.getElem?_eq_none (by omega)]
        · exact k3.block p hp
      refine ⟨o2.of (fun p _ _ => same p), fun h => absurd h (by rw [marks_len]; exact h0), W, n1, ⟨k3.os.trans O2.os, k3.tape.trans O2.tape, k3.output.trans O2.output, k3.size.trans O2.size, fun p hp => (same p).trans (O2.block p (fun hs => by have := W1.out _ hs; omega))⟩⟩
    clear o2 O2 T2 T1 X1 X2 MK PB W1 HG h0 zb n1
    go_wp2_with fail
    refine MB.out.mono ?_
    rintro e w3 ⟨rfl, -, k3⟩
    have F3 := FIN.out w3 k3
    clear FIN k3 MB t2
    go_wp2
    go_ret
    exact ⟨rfl, F3⟩
set_option maxHeartbeats 2000000 in
theorem heldRecordList_any (w : World) (t : Int) (a : Option Addr) (c : Nat) (its : List (Int × List Int)) (bs : List Plc) (x : Option Addr) (y gr n : Nat) (hs : 0 < its.length → ∃ g, a = some ⟨g, 0, none⟩) (h : Mkd w (.slice a its.length c) its bs 1) (hx : Own w gr x .u8 (marks (psI its 1 its.length) n)) (hl : its.length ≤ 262144) (hn : ∀ i, i < its.length → (its.getD i (0, [])).2.length ≤ 2321) (hy : n ≤ 1048576) :
    Calls Tryd.prog 20 #[.agg #[.int .i64 t, .slice a its.length c, .slice x n y], .int .i64 1] w fun e w' => e = .returned (.int .i64 (psI its 1 its.length + (n : Int))) ∧ Below w.heap.size w w' := by
  have n1 : Below w.heap.size w (w.alloc (.cells #[.int .i64 t, .slice a its.length c, .slice x n y] 36)) := (Below.refl _ _).alloc (Nat.le_refl _) _
  have T1 := RwC.new w [.int .i64 t, .slice a its.length c, .slice x n y] 36
  have HE := hide (heldRecordS_any _ _ its bs 1 ⟨a, c, rfl, hs⟩ (h.up n1) hl hn (by decide) (by decide))
  have PB := psI_bd (n := 1) (by decide) hn its.length (Nat.le_refl _)
  have HB := hide (heldByteS_any (w.alloc (.cells #[.int .i64 t, .slice a its.length c, .slice x n y] 36)) gr x y n (psI its 1 its.length) (hx.up n1).rd hy PB.1 (by omega))
  obtain ⟨z, hz⟩ : ∃ z, z = psI its 1 its.length := ⟨_, rfl⟩
  rw [← hz] at HE PB HB ⊢
  have t1 : decide (z < 0) = false := by have := PB.1; simp; omega
  have t2 : decide (z + (n : Int) < 0) = false := by have := PB.1; simp; omega
  have c2 := T1.c2
  clear h hl hn hs hz PB T1 hx hy
  generalize its.length = m at *
  go_enter Tryd.func20, Tryd.ntmps20
  go_wp2_with fail
  generalize w.alloc (.cells #[.int .i64 t, .slice a m c, .slice x n y] 36) = W at *
  refine HE.out.mono ?_
  rintro e w2 ⟨rfl, hw⟩
  have hw := hw.symm
  subst hw
  go_wp2_with fail
  refine HB.out.mono ?_
  rintro e w2 ⟨rfl, hw⟩
  have hw := hw.symm
  subst hw
  go_wp2
  go_ret
  exact ⟨rfl, n1⟩
end Go.Proofs.YtcempddbcfigbaaDoor
