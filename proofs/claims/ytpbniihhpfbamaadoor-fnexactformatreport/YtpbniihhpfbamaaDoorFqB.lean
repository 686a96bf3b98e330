
/-
  slices.Values over texts, as an iterator that is walked to its end.
-/
import Derived.Test.YtpbniihhpfbamaaDoorFqF
import Derived.Test.YtpbniihhpfbamaaDoorStA
import Derived.Test.YtpbniihhpfbamaaDoorStC
namespace Go.Proofs.YtpbniihhpfbamaaDoor
set_option maxRecDepth 100000
open Go Go.RowKit Go.Shelf
attribute [local go_sem] Oper.semAt_some

theorem txv_tx (l : List UInt8) : txv l = tx l := rfl
set_option maxRecDepth 100000 in
set_option maxHeartbeats 2000000 in
theorem values_seq (w : World) (b g : Nat) (a : Option Addr) (c B n0 : Nat) (xs : List (List UInt8)) (hb : RwC w b [.slice a xs.length c] 48) (hbn : b < n0) (hr : RdT w g a xs) (hg : 0 < xs.length → g < n0) (hgt : 0 < xs.length → ∀ cs fz, w.heap[g]? ≠ some (.cells cs 63 fz)) (hN : xs.length ≤ 1000000000) (hn0 : n0 ≤ w.heap.size) :
    SeqX Tryd.prog 57 #[.pointer (some ⟨b, 0, none⟩)] B n0 xs w := by
  intro n l S J W hW hA hY h0
  have BL : ∀ W', ChS S W W' → Below n0 W W' := fun W' h => h.below (fun b hb => (hA.lie [] W h0 b hb).1) (Nat.le_trans hn0 hW.size)
  have hbW : W.cell? ⟨b, 0, none⟩ = some (.slice a xs.length c) := (World.cell?_of_block (a := ⟨b, 0, none⟩) (hW.block b hbn (.inr fun cs fz e => by
    rw [show w.heap[b]? = _ from hb] at e
    simp at e))).trans (hb.cell 0)
  have hrW : ∀ W', Below n0 W W' → RdT W' g a xs := fun W' h => by
    by_cases hl : 0 < xs.length
    · exact hr.of_block ((h.block g (hg hl)).trans (hW.block g (hg hl) (.inr (hgt hl))))
    · exact fun h1 => absurd h1 hl
  clear hr hb hgt
  refine callsIn_of_wp Tryd.func57 rfl trivial ?_ rfl
  simp only [Tryd.ntmps57, List.size_toArray, List.length_cons, List.length_nil, Nat.reduceAdd, Nat.reduceSub, Array.replicate_succ, Array.replicate_zero, List.push_toArray, List.append_toArray, List.nil_append, List.cons_append]
  gi_wp2
  gi_loopw [7] (fun i wr => ∃ k : Nat, k ≤ xs.length ∧ i = .int .i64 (k : Int) ∧ Hid (J (xs.take k) wr ∧ ChS S W wr)) (fun i _ => xs.length - (intOf i).toNat)
  case atStart => exact ⟨0, Nat.zero_le _, rfl, by rw [List.take_zero]; exact h0, ChS.refl _ _⟩
  case round =>
    obtain ⟨k, hk, rfl, HJ⟩ := hrel
    by_cases hlt : k < xs.length
    · have k0 : (k : Int) < (xs.length : Int) := by omega
      have k0' : decide ((k : Int) < (xs.length : Int)) = true := decide_eq_true k0
      have k1 : IntKind.i64.wrap ((k : Int) + 1) = ((k + 1 : Nat) : Int) := by rw [IntKind.wrap_i64]; omega
      obtain ⟨off, rfl, hc⟩ := hrW wr (BL wr HJ.out.2) (by omega)
      have hx := hc k hlt
      have TK : Hid (xs.take (k + 1) = xs.take k ++ [xs.getD k []]) := by
        show _ = _
        rw [List.take_add_one, List.getD_eq_getElem?_getD, List.getElem?_eq_getElem hlt]
        rfl
      obtain ⟨fn, tmps, assign, body, hy, hR⟩ := hY (xs.take k) (xs.getD k []) wr HJ.out.1 (by rw [← TK.out]; exact List.take_prefix _ _) HJ.out.2
      rw [← TK.out] at hR
      unfold txv at hy
      unfold tx at hx
      generalize xs.getD k [] = x at *
      clear hc TK
      gi_wp2
      refine ⟨fun h => (by cases h), (round_any hR).mono ?_⟩
      rintro e W3 ⟨rfl, hJ3, hb3⟩
      have HJ3 : Hid (J (xs.take (k + 1)) W3 ∧ ChS S W W3) := ⟨hJ3, HJ.out.2.trans hb3⟩
      clear HJ hJ3 hb3
      gi_wp2
      go_roundw
      case rel => exact ⟨k + 1, by omega, by first | rfl | go_num, HJ3⟩
      case measure => simp [intOf]; omega
    · obtain rfl : k = xs.length := by omega
      have k0 : ¬ (xs.length : Int) < (xs.length : Int) := by omega
      gi_wp2
      go_end0
      have := HJ.out
      rw [List.take_length] at this
      exact ⟨⟨_, rfl⟩, this⟩
end Go.Proofs.YtpbniihhpfbamaaDoor
