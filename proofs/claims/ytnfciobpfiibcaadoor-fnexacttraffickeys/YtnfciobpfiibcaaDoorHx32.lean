
/-
  The program's extend, words of 32 bits (written by gens/ext.py).
-/
import Derived.Test.YtnfciobpfiibcaaDoorRgV
import Derived.Test.YtnfciobpfiibcaaDoorHw32
namespace Go.Proofs.YtnfciobpfiibcaaDoor
set_option maxRecDepth 100000
open Go Go.RowKit

/-- What extend puts in the place of a word. -/
def extv32 (y0 y2 y7 y15 : Int) : Int := (y0 + (((sg132 y2 + y7) % 4294967296) + sg032 y15) % 4294967296) % 4294967296
set_option maxHeartbeats 4000000 in
theorem extend_32 (w : World) (q i0 p0 p2 p7 p15 : Nat) (y0 y2 y7 y15 : Int) (s2 : IntKind.i64.wrap ((i0 : Int) - 2) = (i0 : Int) - 2) (s7 : IntKind.i64.wrap ((i0 : Int) - 7) = (i0 : Int) - 7) (s15 : IntKind.i64.wrap ((i0 : Int) - 15) = (i0 : Int) - 15)
    (m0 : (i0 : Int).tmod 16 = (p0 : Int)) (m2 : ((i0 : Int) - 2).tmod 16 = (p2 : Int)) (m7 : ((i0 : Int) - 7).tmod 16 = (p7 : Int)) (m15 : ((i0 : Int) - 15).tmod 16 = (p15 : Int))
    (l0 : (p0 : Int) < 16) (l2 : (p2 : Int) < 16) (l7 : (p7 : Int) < 16) (l15 : (p15 : Int) < 16) (h2 : Wd32 y2) (h15 : Wd32 y15)
    (c0 : ∀ w', Below w.heap.size w w' → w'.cell? ⟨q, p0, none⟩ = some (.int .u32 y0)) (c2 : ∀ w', Below w.heap.size w w' → w'.cell? ⟨q, p2, none⟩ = some (.int .u32 y2)) (c7 : ∀ w', Below w.heap.size w w' → w'.cell? ⟨q, p7, none⟩ = some (.int .u32 y7)) (c15 : ∀ w', Below w.heap.size w w' → w'.cell? ⟨q, p15, none⟩ = some (.int .u32 y15))
    (f0 : ∀ w', Below w.heap.size w w' → w'.frozen? ⟨q, p0, none⟩ = false) :
    Calls Tryd.prog 99 #[.pointer (some ⟨q, 0, none⟩), .int .i64 (i0 : Int)] w fun e w' => e = .returned (.tuple #[]) ∧ ∃ w1, Below w.heap.size w w1 ∧ w' = w1.setCell ⟨q, p0, none⟩ (.int .u32 (extv32 y0 y2 y7 y15)) := by
  go_enter Tryd.func99, Tryd.ntmps99
  go_wp2_with fail
  refine region_store 34 _ (fun i => [Fact.eq (.pointer (some ⟨q, 0, none⟩)), Fact.eq (.int .i64 (i0 : Int)), Fact.eq (.int .i64 (p0 : Int)), Fact.eq (.pointer (some ⟨q, 0, none⟩)), Fact.eq (.pointer (some ⟨q, p0, none⟩)), Fact.eq (.int .u32 (y0)), Fact.eq (.pointer (some ⟨q, 0, none⟩)), Fact.eq (.int .i64 (i0 : Int)), Fact.eq (.int .i64 ((i0 : Int) - 2)), Fact.eq (.int .i64 (p2 : Int)), Fact.eq (.pointer (some ⟨q, 0, none⟩)), Fact.eq (.pointer (some ⟨q, p2, none⟩)), Fact.eq (.int .u32 (y2)), Fact.eq (.int .u32 (sg132 y2)), Fact.eq (.pointer (some ⟨q, 0, none⟩)), Fact.eq (.int .i64 (i0 : Int)), Fact.eq (.int .i64 ((i0 : Int) - 7)), Fact.eq (.int .i64 (p7 : Int)), Fact.eq (.pointer (some ⟨q, 0, none⟩)), Fact.eq (.pointer (some ⟨q, p7, none⟩)), Fact.eq (.int .u32 (y7)), Fact.eq (.int .u32 ((sg132 y2 + y7) % 4294967296)), Fact.eq (.pointer (some ⟨q, 0, none⟩)), Fact.eq (.int .i64 (i0 : Int)), Fact.eq (.int .i64 ((i0 : Int) - 15)), Fact.eq (.int .i64 (p15 : Int)), Fact.eq (.pointer (some ⟨q, 0, none⟩)), Fact.eq (.pointer (some ⟨q, p15, none⟩)), Fact.eq (.int .u32 (y15)), Fact.eq (.int .u32 (sg032 y15)), Fact.eq (.int .u32 ((((sg132 y2 + y7) % 4294967296) + sg032 y15) % 4294967296)), Fact.eq (.int .u32 ((y0 + (((sg132 y2 + y7) % 4294967296) + sg032 y15) % 4294967296) % 4294967296)), Fact.eq (.pointer (some ⟨q, 0, none⟩)), Fact.eq (.pointer (some ⟨q, p0, none⟩))].getD i Fact.no) (by kernel_rfl) (by kernel_rfl) rfl rfl ?_ ?_
  · skip
    intro i hi
    obtain rfl | rfl | rfl | rfl | rfl | rfl | rfl | rfl | rfl | rfl | rfl | rfl | rfl | rfl | rfl | rfl | rfl | rfl | rfl | rfl | rfl | rfl | rfl | rfl | rfl | rfl | rfl | rfl | rfl | rfl | rfl | rfl | rfl | rfl : i = 0 ∨ i = 1 ∨ i = 2 ∨ i = 3 ∨ i = 4 ∨ i = 5 ∨ i = 6 ∨ i = 7 ∨ i = 8 ∨ i = 9 ∨ i = 10 ∨ i = 11 ∨ i = 12 ∨ i = 13 ∨ i = 14 ∨ i = 15 ∨ i = 16 ∨ i = 17 ∨ i = 18 ∨ i = 19 ∨ i = 20 ∨ i = 21 ∨ i = 22 ∨ i = 23 ∨ i = 24 ∨ i = 25 ∨ i = 26 ∨ i = 27 ∨ i = 28 ∨ i = 29 ∨ i = 30 ∨ i = 31 ∨ i = 32 ∨ i = 33 := by omega
    · refine step_pure rfl fun a w hb hw hf => ?_
      have e0 : a.tmps[0]?.getD undef = .pointer (some ⟨q, 0, none⟩) := gdv (hb.2.2 0 (by kernel_rfl))
      exact ⟨.pointer (some ⟨q, 0, none⟩), by simp [go_sem, e0], rfl⟩
    · refine step_pure rfl fun a w hb hw hf => ?_
      have e1 : a.tmps[1]?.getD undef = .int .i64 (i0 : Int) := gdv (hb.2.2 1 (by kernel_rfl))
      exact ⟨.int .i64 (i0 : Int), by simp [go_sem, e1], rfl⟩
    · refine step_pure rfl fun a w hb hw hf => ?_
      have e5 : a.tmps[5]?.getD undef = .int .i64 (i0 : Int) := gdv (hf 1 5 (by kernel_rfl))
      exact ⟨.int .i64 (p0 : Int), by simp [go_sem, e5, m0], rfl⟩
    · refine step_pure rfl fun a w hb hw hf => ?_
      have e4 : a.tmps[4]?.getD undef = .pointer (some ⟨q, 0, none⟩) := gdv (hf 0 4 (by kernel_rfl))
      exact ⟨.pointer (some ⟨q, 0, none⟩), by simp [go_sem, e4], rfl⟩
    · refine step_pure rfl fun a w hb hw hf => ?_
      have e7 : a.tmps[7]?.getD undef = .pointer (some ⟨q, 0, none⟩) := gdv (hf 3 7 (by kernel_rfl))
      have e6 : a.tmps[6]?.getD undef = .int .i64 (p0 : Int) := gdv (hf 2 6 (by kernel_rfl))
      exact ⟨.pointer (some ⟨q, p0, none⟩), by simp [go_sem, e7, e6, l0], rfl⟩
    · refine step_pure rfl fun a w hb hw hf => ?_
      have e8 : a.tmps[8]?.getD undef = .pointer (some ⟨q, p0, none⟩) := gdv (hf 4 8 (by kernel_rfl))
      have hc := c0 w hw
      exact ⟨.int .u32 (y0), by simp [go_sem, e8, hc], rfl⟩
    · refine step_pure rfl fun a w hb hw hf => ?_
      have e0 : a.tmps[0]?.getD undef = .pointer (some ⟨q, 0, none⟩) := gdv (hb.2.2 0 (by kernel_rfl))
      exact ⟨.pointer (some ⟨q, 0, none⟩), by simp [go_sem, e0], rfl⟩
    · refine step_pure rfl fun a w hb hw hf => ?_
      have e1 : a.tmps[1]?.getD undef = .int .i64 (i0 : Int) := gdv (hb.2.2 1 (by kernel_rfl))
      exact ⟨.int .i64 (i0 : Int), by simp [go_sem, e1], rfl⟩
    · refine step_pure rfl fun a w hb hw hf => ?_
      have e11 : a.tmps[11]?.getD undef = .int .i64 (i0 : Int) := gdv (hf 7 11 (by kernel_rfl))
      exact ⟨.int .i64 ((i0 : Int) - 2), by simp [go_sem, e11, s2], rfl⟩
    · refine step_pure rfl fun a w hb hw hf => ?_
      have e12 : a.tmps[12]?.getD undef = .int .i64 ((i0 : Int) - 2) := gdv (hf 8 12 (by kernel_rfl))
      exact ⟨.int .i64 (p2 : Int), by simp [go_sem, e12, m2], rfl⟩
    · refine step_pure rfl fun a w hb hw hf => ?_
      have e10 : a.tmps[10]?.getD undef = .pointer (some ⟨q, 0, none⟩) := gdv (hf 6 10 (by kernel_rfl))
      exact ⟨.pointer (some ⟨q, 0, none⟩), by simp [go_sem, e10], rfl⟩
    · refine step_pure rfl fun a w hb hw hf => ?_
      have e14 : a.tmps[14]?.getD undef = .pointer (some ⟨q, 0, none⟩) := gdv (hf 10 14 (by kernel_rfl))
      have e13 : a.tmps[13]?.getD undef = .int .i64 (p2 : Int) := gdv (hf 9 13 (by kernel_rfl))
      exact ⟨.pointer (some ⟨q, p2, none⟩), by simp [go_sem, e14, e13, l2], rfl⟩
    · refine step_pure rfl fun a w hb hw hf => ?_
      have e15 : a.tmps[15]?.getD undef = .pointer (some ⟨q, p2, none⟩) := gdv (hf 11 15 (by kernel_rfl))
      have hc := c2 w hw
      exact ⟨.int .u32 (y2), by simp [go_sem, e15, hc], rfl⟩
    · refine step_callv rfl 109 _ _ rfl (by kernel_rfl) fun a w hb hw hf => ?_
      have e16 : a.tmps.getD 16 undef = .int .u32 (y2) := hf 12 16 (by kernel_rfl)
      show Calls Tryd.prog 109 #[a.tmps.getD 16 undef] w _
      rw [e16]
      exact (smallMix1_32 w y2 h2).mono (by rintro r w' ⟨rfl, m, rfl⟩; exact ⟨_, rfl, below_drewN (Below.refl _ _) _, rfl⟩)
    · refine step_pure rfl fun a w hb hw hf => ?_
      have e0 : a.tmps[0]?.getD undef = .pointer (some ⟨q, 0, none⟩) := gdv (hb.2.2 0 (by kernel_rfl))
      exact ⟨.pointer (some ⟨q, 0, none⟩), by simp [go_sem, e0], rfl⟩
    · refine step_pure rfl fun a w hb hw hf => ?_
      have e1 : a.tmps[1]?.getD undef = .int .i64 (i0 : Int) := gdv (hb.2.2 1 (by kernel_rfl))
      exact ⟨.int .i64 (i0 : Int), by simp [go_sem, e1], rfl⟩
    · refine step_pure rfl fun a w hb hw hf => ?_
      have e19 : a.tmps[19]?.getD undef = .int .i64 (i0 : Int) := gdv (hf 15 19 (by kernel_rfl))
      exact ⟨.int .i64 ((i0 : Int) - 7), by simp [go_sem, e19, s7], rfl⟩
    · refine step_pure rfl fun a w hb hw hf => ?_
      have e20 : a.tmps[20]?.getD undef = .int .i64 ((i0 : Int) - 7) := gdv (hf 16 20 (by kernel_rfl))
      exact ⟨.int .i64 (p7 : Int), by simp [go_sem, e20, m7], rfl⟩
    · refine step_pure rfl fun a w hb hw hf => ?_
      have e18 : a.tmps[18]?.getD undef = .pointer (some ⟨q, 0, none⟩) := gdv (hf 14 18 (by kernel_rfl))
      exact ⟨.pointer (some ⟨q, 0, none⟩), by simp [go_sem, e18], rfl⟩
    · refine step_pure rfl fun a w hb hw hf => ?_
      have e22 : a.tmps[22]?.getD undef = .pointer (some ⟨q, 0, none⟩) := gdv (hf 18 22 (by kernel_rfl))
      have e21 : a.tmps[21]?.getD undef = .int .i64 (p7 : Int) := gdv (hf 17 21 (by kernel_rfl))
      exact ⟨.pointer (some ⟨q, p7, none⟩), by simp [go_sem, e22, e21, l7], rfl⟩
    · refine step_pure rfl fun a w hb hw hf => ?_
      have e23 : a.tmps[23]?.getD undef = .pointer (some ⟨q, p7, none⟩) := gdv (hf 19 23 (by kernel_rfl))
      have hc := c7 w hw
      exact ⟨.int .u32 (y7), by simp [go_sem, e23, hc], rfl⟩
    · refine step_pure rfl fun a w hb hw hf => ?_
      have e17 : a.tmps[17]?.getD undef = .int .u32 (sg132 y2) := gdv (hf 13 17 (by kernel_rfl))
      have e24 : a.tmps[24]?.getD undef = .int .u32 (y7) := gdv (hf 20 24 (by kernel_rfl))
      exact ⟨.int .u32 ((sg132 y2 + y7) % 4294967296), by simp [go_sem, e17, e24, IntKind.wrap_u32'], rfl⟩
    · refine step_pure rfl fun a w hb hw hf => ?_
      have e0 : a.tmps[0]?.getD undef = .pointer (some ⟨q, 0, none⟩) := gdv (hb.2.2 0 (by kernel_rfl))
      exact ⟨.pointer (some ⟨q, 0, none⟩), by simp [go_sem, e0], rfl⟩
    · refine step_pure rfl fun a w hb hw hf => ?_
      have e1 : a.tmps[1]?.getD undef = .int .i64 (i0 : Int) := gdv (hb.2.2 1 (by kernel_rfl))
      exact ⟨.int .i64 (i0 : Int), by simp [go_sem, e1], rfl⟩
    · refine step_pure rfl fun a w hb hw hf => ?_
      have e27 : a.tmps[27]?.getD undef = .int .i64 (i0 : Int) := gdv (hf 23 27 (by kernel_rfl))
      exact ⟨.int .i64 ((i0 : Int) - 15), by simp [go_sem, e27, s15], rfl⟩
    · refine step_pure rfl fun a w hb hw hf => ?_
      have e28 : a.tmps[28]?.getD undef = .int .i64 ((i0 : Int) - 15) := gdv (hf 24 28 (by kernel_rfl))
      exact ⟨.int .i64 (p15 : Int), by simp [go_sem, e28, m15], rfl⟩
    · refine step_pure rfl fun a w hb hw hf => ?_
      have e26 : a.tmps[26]?.getD undef = .pointer (some ⟨q, 0, none⟩) := gdv (hf 22 26 (by kernel_rfl))
      exact ⟨.pointer (some ⟨q, 0, none⟩), by simp [go_sem, e26], rfl⟩
    · refine step_pure rfl fun a w hb hw hf => ?_
      have e30 : a.tmps[30]?.getD undef = .pointer (some ⟨q, 0, none⟩) := gdv (hf 26 30 (by kernel_rfl))
      have e29 : a.tmps[29]?.getD undef = .int .i64 (p15 : Int) := gdv (hf 25 29 (by kernel_rfl))
      exact ⟨.pointer (some ⟨q, p15, none⟩), by simp [go_sem, e30, e29, l15], rfl⟩
    · refine step_pure rfl fun a w hb hw hf => ?_
      have e31 : a.tmps[31]?.getD undef = .pointer (some ⟨q, p15, none⟩) := gdv (hf 27 31 (by kernel_rfl))
      have hc := c15 w hw
      exact ⟨.int .u32 (y15), by simp [go_sem, e31, hc], rfl⟩
    · refine step_callv rfl 110 _ _ rfl (by kernel_rfl) fun a w hb hw hf => ?_
      have e32 : a.tmps.getD 32 undef = .int .u32 (y15) := hf 28 32 (by kernel_rfl)
      show Calls Tryd.prog 110 #[a.tmps.getD 32 undef] w _
      rw [e32]
      exact (smallMix0_32 w y15 h15).mono (by rintro r w' ⟨rfl, m, rfl⟩; exact ⟨_, rfl, below_drewN (Below.refl _ _) _, rfl⟩)
    · refine step_pure rfl fun a w hb hw hf => ?_
      have e25 : a.tmps[25]?.getD undef = .int .u32 ((sg132 y2 + y7) % 4294967296) := gdv (hf 21 25 (by kernel_rfl))
      have e33 : a.tmps[33]?.getD undef = .int .u32 (sg032 y15) := gdv (hf 29 33 (by kernel_rfl))
      exact ⟨.int .u32 ((((sg132 y2 + y7) % 4294967296) + sg032 y15) % 4294967296), by simp [go_sem, e25, e33, IntKind.wrap_u32'], rfl⟩
    · refine step_pure rfl fun a w hb hw hf => ?_
      have e9 : a.tmps[9]?.getD undef = .int .u32 (y0) := gdv (hf 5 9 (by kernel_rfl))
      have e34 : a.tmps[34]?.getD undef = .int .u32 ((((sg132 y2 + y7) % 4294967296) + sg032 y15) % 4294967296) := gdv (hf 30 34 (by kernel_rfl))
      exact ⟨.int .u32 ((y0 + (((sg132 y2 + y7) % 4294967296) + sg032 y15) % 4294967296) % 4294967296), by simp [go_sem, e9, e34, IntKind.wrap_u32'], rfl⟩
    · refine step_pure rfl fun a w hb hw hf => ?_
      have e4 : a.tmps[4]?.getD undef = .pointer (some ⟨q, 0, none⟩) := gdv (hf 0 4 (by kernel_rfl))
      exact ⟨.pointer (some ⟨q, 0, none⟩), by simp [go_sem, e4], rfl⟩
    · refine step_pure rfl fun a w hb hw hf => ?_
      have e36 : a.tmps[36]?.getD undef = .pointer (some ⟨q, 0, none⟩) := gdv (hf 32 36 (by kernel_rfl))
      have e6 : a.tmps[6]?.getD undef = .int .i64 (p0 : Int) := gdv (hf 2 6 (by kernel_rfl))
      exact ⟨.pointer (some ⟨q, p0, none⟩), by simp [go_sem, e36, e6, l0], rfl⟩
  · intro a w' hb hw hf
    have e37 : a.tmps[37]?.getD undef = .pointer (some ⟨q, p0, none⟩) := gdv (hf 33 37 (by kernel_rfl))
    have e35 : a.tmps[35]?.getD undef = .int .u32 (extv32 y0 y2 y7 y15) := gdv (hf 31 35 (by kernel_rfl))
    have hc := c0 w' hw
    have hz := f0 w' hw
    unfold Oper.wp
    simp [go_sem, e37, e35, hc, hz]
    exact bodyPost_end (v := .tuple #[]) (by simp [results, Tryd.results99, go_sem]) hb.1 ⟨rfl, w', hw, rfl⟩
end Go.Proofs.YtnfciobpfiibcaaDoor
