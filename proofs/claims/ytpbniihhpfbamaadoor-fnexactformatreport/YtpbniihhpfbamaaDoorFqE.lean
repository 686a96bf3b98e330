
/-
  The lines of a window's marks, one after the other.
-/
import Derived.Test.YtpbniihhpfbamaaDoorFqZ
namespace Go.Proofs.YtpbniihhpfbamaaDoor
set_option maxRecDepth 100000
open Go Go.RowKit Go.Shelf
attribute [local go_sem] Oper.semAt_some

/-- What the line of a mark wants of it. -/
def LnM (ms : List Mrk) : Prop := ∀ i, i < ms.length → (ms.getD i mrk0).id.length ≤ 1048576 ∧ Byt (ms.getD i mrk0).id ∧ I64 (ms.getD i mrk0).un
set_option maxRecDepth 100000 in
set_option maxHeartbeats 2000000 in
theorem each_seq (w : World) (b1 b2 g : Nat) (a : Option Addr) (c B n0 : Nat) (ms : List Mrk) (ps : List Plm) (hb1 : RwC w b1 [.slice a ms.length c] 35) (hb2 : RwC w b2 [.func (.func 45) #[] #[]] 99) (l1 : b1 < n0) (l2 : b2 < n0) (hn0 : n0 ≤ w.heap.size)
    (hB : B ≤ n0) (hr : ∀ W, Below B w W → RdK W g a ms ps ∧ HasW W) (hm : LnM ms) (hN : ms.length ≤ 1048576) :
    SeqX Tryd.prog 64 #[.pointer (some ⟨b1, 0, none⟩), .pointer (some ⟨b2, 0, none⟩)] B n0 (ms.map mkT) w := by
  intro n l S J W hW hA hY h0
  have BL : ∀ W', ChS S W W' → Below n0 W W' := fun W' h => h.below (fun b hb => (hA.lie [] W h0 b hb).1) (Nat.le_trans hn0 hW.size)
  have k1 : W.heap[b1]? = w.heap[b1]? := hW.block b1 l1 (.inr fun cs fz e => by
    rw [show w.heap[b1]? = _ from hb1] at e
    simp at e)
  have k2 : W.heap[b2]? = w.heap[b2]? := hW.block b2 l2 (.inr fun cs fz e => by
    rw [show w.heap[b2]? = _ from hb2] at e
    simp at e)
  have hx1 : ∀ W', Below n0 W W' → W'.cell? ⟨b1, 0, none⟩ = some (.slice a ms.length c) := fun W' h => (World.cell?_of_block (a := ⟨b1, 0, none⟩) ((h.block b1 l1).trans k1)).trans (hb1.cell 0)
  have hx2 : ∀ W', Below n0 W W' → W'.cell? ⟨b2, 0, none⟩ = some (.func (.func 45) #[] #[]) := fun W' h => (World.cell?_of_block (a := ⟨b2, 0, none⟩) ((h.block b2 l2).trans k2)).trans (hb2.cell 0)
  have hrW : ∀ W', Below n0 W W' → RdK W' g a ms ps ∧ HasW W' := fun W' h => hr W' ((hW.low hB).trans (h.mono hB))
  clear k1 k2
  have hbW := hx1 W (Below.refl _ _)
  clear hr hb1 hb2
  refine callsIn_of_wp Tryd.func64 rfl trivial ?_ rfl
  simp only [Tryd.ntmps64, List.size_toArray, List.length_cons, List.length_nil, Nat.reduceAdd, Nat.reduceSub, Array.replicate_succ, Array.replicate_zero, List.push_toArray, List.append_toArray, List.nil_append, List.cons_append]
  gi_wp2
  gi_loopw [8] (fun i wr => ∃ k : Nat, k ≤ ms.length ∧ i = .int .i64 (k : Int) ∧ Hid (J ((ms.map mkT).take k) wr ∧ ChS S W wr)) (fun i _ => ms.length - (intOf i).toNat)
  case atStart => exact ⟨0, Nat.zero_le _, rfl, by rw [List.take_zero]; exact h0, ChS.refl _ _⟩
  case round =>
    clear hbW
    obtain ⟨k, hk, rfl, HJ⟩ := hrel
    by_cases hlt : k < ms.length
    · have k0 : (k : Int) < (ms.length : Int) := by omega
      have k0' : decide ((k : Int) < (ms.length : Int)) = true := decide_eq_true k0
      have k1 : IntKind.i64.wrap ((k : Int) + 1) = ((k + 1 : Nat) : Int) := by rw [IntKind.wrap_i64]; omega
      obtain ⟨off, rfl, hc⟩ := (hrW wr (BL wr HJ.out.2)).1.r (by omega)
      have c1 := (hc k hlt).1
      have c2 := (hc k hlt).2
      have TK : Hid ((ms.map mkT).take (k + 1) = (ms.map mkT).take k ++ [mkT (ms.getD k mrk0)]) := by
        show _ = _
        rw [List.take_add_one, List.getElem?_map, List.getElem?_eq_getElem hlt, List.getD_eq_getElem?_getD, List.getElem?_eq_getElem hlt]
        rfl
      have ML : Hid (∀ W', Below n0 W W' → Calls Tryd.prog 45 #[.agg #[.slice (ps.getD k plm0).a (ms.getD k mrk0).id.length (ps.getD k plm0).c, .int .i64 (ms.getD k mrk0).un]] W' fun e w' => e = .returned (tx (mkT (ms.getD k mrk0))) ∧ Below W'.heap.size W' w') :=
        fun W' h => markLine_any W' (hrW W' h).2 _ _ _ (ms.getD k mrk0) ((hrW W' h).1.b k hlt) (hm k hlt).2.1 (hm k hlt).1 (hm k hlt).2.2
      clear hc
      generalize (ps.getD k plm0).a = pa at *
      generalize (ps.getD k plm0).c = pc at *
      generalize (ms.getD k mrk0).id.length = x at *
      generalize (ms.getD k mrk0).un = un at *
      generalize mkT (ms.getD k mrk0) = T at *
      have nA : Below wr.heap.size wr (wr.alloc (.cells #[.slice pa x pc, .int .i64 un] 79)) := (Below.refl _ _).alloc (Nat.le_refl _) _
      have hle : n0 ≤ wr.heap.size := Nat.le_trans hn0 (Nat.le_trans hW.size HJ.out.2.size)
      have bA : Below n0 W (wr.alloc (.cells #[.slice pa x pc, .int .i64 un] 79)) := (BL wr HJ.out.2).trans (nA.mono hle)
      have x2 := hx2 _ bA
      have RA := RwC.new wr [.slice pa x pc, .int .i64 un] 79
      have q0 : (wr.alloc (.cells #[.slice pa x pc, .int .i64 un] 79)).cell? ⟨wr.heap.size, 0, none⟩ = some (.slice pa x pc) := RA.cell 0
      have q1 : (wr.alloc (.cells #[.slice pa x pc, .int .i64 un] 79)).cell? ⟨wr.heap.size, 1, none⟩ = some (.int .i64 un) := RA.cell 1
      have CM := hide (ML.out _ bA)
      have JA : Hid (J ((ms.map mkT).take k) (wr.alloc (.cells #[.slice pa x pc, .int .i64 un] 79)) ∧ ChS S W (wr.alloc (.cells #[.slice pa x pc, .int .i64 un] 79))) := ⟨(hA.grow HJ.out.1 nA).1, HJ.out.2.trans (hA.grow HJ.out.1 nA).2⟩
      clear nA bA hle RA ML HJ
      gi_wp2_with fail
      refine ⟨trivial, fun h => (by cases h), (callsIn_wide.2 CM.out).mono ?_⟩
      rintro e w4 ⟨rfl, n4⟩
      have J4 : Hid (J ((ms.map mkT).take k) w4 ∧ ChS S W w4) := ⟨(hA.grow JA.out.1 n4).1, JA.out.2.trans (hA.grow JA.out.1 n4).2⟩
      clear JA CM n4 x2 q0 q1 c1 c2
      obtain ⟨fn, tmps, assign, body, hy, hR⟩ := hY ((ms.map mkT).take k) T w4 J4.out.1 (by rw [← TK.out]; exact List.take_prefix _ _) J4.out.2
      rw [← TK.out] at hR
      unfold txv at hy
      unfold tx
      clear TK
      gi_wp2
      refine ⟨fun h => (by cases h), (round_any hR).mono ?_⟩
      rintro e W3 ⟨rfl, hJ3, hb3⟩
      have HJ3 : Hid (J ((ms.map mkT).take (k + 1)) W3 ∧ ChS S W W3) := ⟨hJ3, J4.out.2.trans hb3⟩
      clear J4 hJ3 hb3
      gi_wp2
      go_roundw
      case rel => exact ⟨k + 1, by omega, by first | rfl | go_num, HJ3⟩
      case measure => simp [intOf]; omega
    · obtain rfl : k = ms.length := by omega
      have k0 : ¬ (ms.length : Int) < (ms.length : Int) := by omega
      have hbr := hx1 wr (BL wr HJ.out.2)
      gi_wp2
      go_end0
      have := HJ.out
      rw [List.take_of_length_le (by simp)] at this
      exact ⟨⟨_, rfl⟩, this⟩
end Go.Proofs.YtpbniihhpfbamaaDoor
