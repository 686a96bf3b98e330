import Derived.Test.YtcaljanahpdidaaGreatGV23
import Derived.Test.YtcaljanahpdidaaGreatGV21
import Derived.Deep.RegionWith
import Derived.Test.YtcaljanahpdidaaGreatGV17
import Derived.Test.YtcaljanahpdidaaGreatGV18
import Derived.Test.YtcaljanahpdidaaGreatGV2
import Derived.Test.YtcaljanahpdidaaGreatGV6
import Derived.Test.YtcaljanahpdidaaGreatGV3
import Derived.Deep.RegionLaw
import Derived.Test.YtcaljanahpdidaaGreatGV8
namespace Go.Proofs.YtcaljanahpdidaaGreat
open Go Go.RowKit
structure RdMs (w : World) (g : Nat) (a : Option Addr) (ms : List Msg) (P : Nat → MQ) : Prop where
  r : 0 < ms.length → a = some ⟨g, 0, none⟩ ∧ g < w.heap.size ∧ ∀ i, i < ms.length → w.rangeAt g (i * 13) (mgV (P i) (ms.getD i msg0)).toList
  b : ∀ i, i < ms.length → HasM w (P i) (ms.getD i msg0)
theorem SRow.cells {w : World} {B : Nat} {v : Value} {ms : List Msg} {es : List El} (h : SRow w B v ms es) (h0 : 0 < ms.length) : ∃ g c, v = .slice (some ⟨g, 0, none⟩) ms.length c ∧ B ≤ g ∧ g < w.heap.size ∧ v.ownBlock = some g ∧ (∀ i, i < ms.length → w.rangeAt g (i * 13) (mgV (es.getD i el0).p (ms.getD i msg0)).toList) := by
  rcases h.o.2 with ⟨_, h'⟩ | ⟨g, cap, cur, rfl, hb, hg, hnc, hcm, hcs, ht⟩
  · omega
  · refine ⟨g, cap, rfl, hb, (Array.getElem?_eq_some_iff.1 hg).1, rfl, fun i hi => ?_⟩
    intro j u hj
    have hj13 : j < 13 := by
      have := (List.getElem?_eq_some_iff.1 hj).1
      rw [mgV_len] at this
      exact this
    rw [cell_of_row w g _ cur _ (0, 0) hg]
    have : (cur.toList.take (ms.length * 13))[i * 13 + j]? = (mgCs ms es)[i * 13 + j]? := by rw [ht]
    rw [List.getElem?_take, if_pos (by omega), mgCs_at ms es i j h.l hi hj13, hj] at this
    simpa using this
theorem SRow.rd {w : World} {B : Nat} {v : Value} {ms : List Msg} {es : List El} (h : SRow w B v ms es) : ∃ g a c, v = .slice a ms.length c ∧ RdMs w g a ms (fun i => (es.getD i el0).p) := by
  by_cases h0 : 0 < ms.length
  · obtain ⟨g, c, rfl, -, hg, -, hc⟩ := h.cells h0
    exact ⟨g, _, c, rfl, fun _ => ⟨rfl, hg, hc⟩, h.b⟩
  · obtain ⟨a, c, rfl, -⟩ := h.slice
    exact ⟨0, a, c, rfl, fun h' => absurd h' h0, h.b⟩
theorem RdMs.up {w w' : World} {g : Nat} {a : Option Addr} {ms : List Msg} {P : Nat → MQ} (h : RdMs w g a ms P) (n : Below w.heap.size w w') : RdMs w' g a ms P :=
  ⟨fun h0 => ⟨(h.r h0).1, Nat.lt_of_lt_of_le (h.r h0).2.1 n.size, fun i hi j u hj => (World.cell?_of_block (a := ⟨g, i * 13 + j, none⟩) (n.block g (h.r h0).2.1)).trans ((h.r h0).2.2 i hi j u hj)⟩, fun i hi => (h.b i hi).up n⟩
end Go.Proofs.YtcaljanahpdidaaGreat
namespace Go.Proofs.YtcaljanahpdidaaGreat
open Go Go.RowKit
end Go.Proofs.YtcaljanahpdidaaGreat
namespace Go.Proofs.YtcaljanahpdidaaGreat
open Go Go.RowKit
theorem MRow.rd {w : World} {B : Nat} {v : Value} {ms : List Msg} {es : List El} (h : MRow w B v ms es) : ∃ g a c, v = .slice a ms.length c ∧ RdMs w g a ms (fun i => (es.getD i el0).p) := by
  by_cases h0 : 0 < ms.length
  · obtain ⟨g, c, rfl, -, hg, -, hc, -⟩ := h.cells h0
    exact ⟨g, _, c, rfl, fun _ => ⟨rfl, hg, hc⟩, fun i hi => (h.b i hi).has⟩
  · obtain ⟨a, c, hv, -⟩ := h.slice
    exact ⟨0, a, c, hv, fun h' => absurd h' h0, fun i hi => (h.b i hi).has⟩
end Go.Proofs.YtcaljanahpdidaaGreat
namespace Go.Proofs.YtcaljanahpdidaaGreat
open Go.RowKit
set_option maxHeartbeats 400000 in
theorem lwCopyO_any (w : World) (g : Nat) (a : Option Addr) (cap : Nat) (xs : List Int) (hr : Rd w g a .u8 xs) (hc : a = none → cap = 0) (hn : xs.length ≤ 1048576) :
    Calls Tryz.prog 9 #[.slice a xs.length cap] w fun e w' => ∃ v, e = .returned v ∧ w'.ownsRow w.heap.size 5 1 v xs.length (xs.map (Value.int .u8)) ∧ Below w.heap.size w w' := by
  obtain ⟨i0, hi, hz0, hz1, hz2⟩ := info_parts Tryz.info5
  have hown : (w.alloc (.cells #[] 5)).ownsRow w.heap.size 5 1 (.slice (some ⟨w.heap.size, 0, none⟩) 0 0) 0 [] := World.ownsRow_lit w #[] 0 (Nat.le_refl _) (by unfold maxLen; omega) (by simp)
  have hal : Below w.heap.size w (w.alloc (.cells #[] 5)) := (Below.refl _ _).alloc (Nat.le_refl _) _
  cases a with
  | none =>
    obtain rfl : xs = [] := by
      by_cases h0 : 0 < xs.length
      · obtain ⟨off, h, _⟩ := hr h0
        simp at h
      · exact List.eq_nil_of_length_eq_zero (by omega)
    obtain rfl := hc rfl
    go_enter Tryz.func9, Tryz.ntmps9
    go_wp2_with (at_builtin; refine wpList_append_own_none rfl _ _ 22 rfl w.heap.size 5 i0 1 Tryz.underlying22 hi _ 0 [] rfl hown rfl ?_)
    go_ret
    exact ⟨_, rfl, hown, hal⟩
  | some ad =>
    have hcell : ∀ j u, (xs.map (Value.int .u8))[j]? = some u → (w.alloc (.cells #[] 5)).cell? (ad.add j) = some u := by
      intro j u hj
      have hjl : j < xs.length := by
        have := (List.getElem?_eq_some_iff.1 hj).1
        simpa using this
      obtain ⟨off, ha, hcc⟩ := (hr.up hal) (by omega)
      simp only [Option.some.injEq] at ha
      subst ha
      rw [Addr.add_mid, hcc j hjl]
      simpa [hjl] using hj
    have hone : ∀ u ∈ xs.map (Value.int .u8), u.oneCell' = true := by
      intro u hu
      obtain ⟨x, _, rfl⟩ := List.mem_map.1 hu
      rfl
    go_enter Tryz.func9, Tryz.ntmps9
    go_wp2_with (at_builtin; refine wpList_append_own _ rfl _ _ 22 rfl w.heap.size 5 i0 (.int .u8 0) 1 1 Tryz.underlying22 hi hz0 hz1 hz2 rfl (by decide) (.slice (some ⟨w.heap.size, 0, none⟩) 0 0) 0 [] rfl hown ad xs.length cap (xs.map (Value.int .u8)) rfl (by simp) hcell hone (by unfold maxLen; omega) (by omega) (by simp) ?_; intro v' w1 hown' hgrow _)
    simp only [Nat.zero_add, List.nil_append] at hown'
    have hB : Below w.heap.size w w1 := hal.grown hgrow (by simp) (by intro k hk; simp [Value.ownBlock] at hk; omega)
    clear hgrow hown
    go_wp2
    go_ret
    exact ⟨_, rfl, hown', hB⟩
end Go.Proofs.YtcaljanahpdidaaGreat
namespace Go.Proofs.YtcaljanahpdidaaGreat
open Go Go.RowKit
set_option maxHeartbeats 1000000 in
theorem lwSameTexts_same (w : World) (g g' : Nat) (a b : Option Addr) (ca cb : Nat) (ls : List (List UInt8)) (ha : RdT w g a ls) (hb : RdT w g' b ls) (hn : ls.length ≤ 1048576) :
    Calls Tryz.prog 24 #[.slice a ls.length ca, .slice b ls.length cb] w fun e w' => e = .returned (.bool true) ∧ Below w.heap.size w w' := by
  go_enter Tryz.func24, Tryz.ntmps24
  go_wp2
  go_loopw [5] (fun i wr => ∃ (k n : Nat), k ≤ ls.length ∧ i = .int .i64 k ∧ wr = w.drewN n) (fun i _ => ls.length - (intOf i).toNat)
  case atStart => exact ⟨0, 0, Nat.zero_le _, rfl, rfl⟩
  case round =>
    obtain ⟨k, n, hk, rfl, rfl⟩ := hrel
    by_cases hlt : k < ls.length
    · obtain ⟨off, rfl, hc⟩ := ha (by omega)
      obtain ⟨off', rfl, hc'⟩ := hb (by omega)
      have h1 := hc k hlt
      have h2 := hc' k hlt
      have hlt' : (k : Int) < (ls.length : Int) := by omega
      generalize ls.getD k [] = x at *
      have e1 : (x == x) = true := by simp
      clear hc hc'
      unfold tx at h1 h2
      go_wp2
      go_region
      go_wp2
      go_roundw
      case rel => exact ⟨k + 1, _, by omega, by go_num, rfl⟩
      case measure => simp [intOf]; omega
    · obtain rfl : k = ls.length := by omega
      go_wp2
      go_ret
      exact ⟨rfl, below_drewN (Below.refl _ _) _⟩
set_option maxRecDepth 100000 in
set_option maxHeartbeats 8000000 in
theorem lwSameMsg_same (w : World) (p q : MQ) (m : Msg) (h : HasM w p m) (h' : HasM w q m) (i : IsM m) :
    Calls Tryz.prog 11 #[.agg (mgV p m), .agg (mgV q m)] w fun e w' => e = .returned (.bool true) ∧ Below w.heap.size w w' := by
  have n1 : Below w.heap.size w (w.alloc (.cells #[.int .i64 m.k, .int .i64 m.v, .slice p.a2 m.r.length p.c2, .slice p.a3 m.s.length p.c3, .string ⟨⟨m.ho⟩⟩, .slice p.a5 m.pr.length p.c5, .slice p.a6 m.ti.length p.c6, .int .i64 m.ag, .int .i64 m.ea, .slice p.a9 m.bi.length p.c9, .bool m.rs, .slice p.a11 m.ce.length p.c11, .slice p.a12 m.pf.length p.c12] 28)) := (Below.refl _ _).alloc (Nat.le_refl _) _
  have z1 : (w.alloc (.cells #[.int .i64 m.k, .int .i64 m.v, .slice p.a2 m.r.length p.c2, .slice p.a3 m.s.length p.c3, .string ⟨⟨m.ho⟩⟩, .slice p.a5 m.pr.length p.c5, .slice p.a6 m.ti.length p.c6, .int .i64 m.ag, .int .i64 m.ea, .slice p.a9 m.bi.length p.c9, .bool m.rs, .slice p.a11 m.ce.length p.c11, .slice p.a12 m.pf.length p.c12] 28)).heap.size = w.heap.size + 1 := by simp
  have n2 : Below w.heap.size w ((w.alloc (.cells #[.int .i64 m.k, .int .i64 m.v, .slice p.a2 m.r.length p.c2, .slice p.a3 m.s.length p.c3, .string ⟨⟨m.ho⟩⟩, .slice p.a5 m.pr.length p.c5, .slice p.a6 m.ti.length p.c6, .int .i64 m.ag, .int .i64 m.ea, .slice p.a9 m.bi.length p.c9, .bool m.rs, .slice p.a11 m.ce.length p.c11, .slice p.a12 m.pf.length p.c12] 28)).alloc (.cells #[.int .i64 m.k, .int .i64 m.v, .slice q.a2 m.r.length q.c2, .slice q.a3 m.s.length q.c3, .string ⟨⟨m.ho⟩⟩, .slice q.a5 m.pr.length q.c5, .slice q.a6 m.ti.length q.c6, .int .i64 m.ag, .int .i64 m.ea, .slice q.a9 m.bi.length q.c9, .bool m.rs, .slice q.a11 m.ce.length q.c11, .slice q.a12 m.pf.length q.c12] 28)) := n1.alloc (by omega) _
  have T0 : RwC ((w.alloc (.cells #[.int .i64 m.k, .int .i64 m.v, .slice p.a2 m.r.length p.c2, .slice p.a3 m.s.length p.c3, .string ⟨⟨m.ho⟩⟩, .slice p.a5 m.pr.length p.c5, .slice p.a6 m.ti.length p.c6, .int .i64 m.ag, .int .i64 m.ea, .slice p.a9 m.bi.length p.c9, .bool m.rs, .slice p.a11 m.ce.length p.c11, .slice p.a12 m.pf.length p.c12] 28)).alloc (.cells #[.int .i64 m.k, .int .i64 m.v, .slice q.a2 m.r.length q.c2, .slice q.a3 m.s.length q.c3, .string ⟨⟨m.ho⟩⟩, .slice q.a5 m.pr.length q.c5, .slice q.a6 m.ti.length q.c6, .int .i64 m.ag, .int .i64 m.ea, .slice q.a9 m.bi.length q.c9, .bool m.rs, .slice q.a11 m.ce.length q.c11, .slice q.a12 m.pf.length q.c12] 28)) w.heap.size [.int .i64 m.k, .int .i64 m.v, .slice p.a2 m.r.length p.c2, .slice p.a3 m.s.length p.c3, .string ⟨⟨m.ho⟩⟩, .slice p.a5 m.pr.length p.c5, .slice p.a6 m.ti.length p.c6, .int .i64 m.ag, .int .i64 m.ea, .slice p.a9 m.bi.length p.c9, .bool m.rs, .slice p.a11 m.ce.length p.c11, .slice p.a12 m.pf.length p.c12] 28 := (RwC.new w _ _).push _
  have U0 : RwC ((w.alloc (.cells #[.int .i64 m.k, .int .i64 m.v, .slice p.a2 m.r.length p.c2, .slice p.a3 m.s.length p.c3, .string ⟨⟨m.ho⟩⟩, .slice p.a5 m.pr.length p.c5, .slice p.a6 m.ti.length p.c6, .int .i64 m.ag, .int .i64 m.ea, .slice p.a9 m.bi.length p.c9, .bool m.rs, .slice p.a11 m.ce.length p.c11, .slice p.a12 m.pf.length p.c12] 28)).alloc (.cells #[.int .i64 m.k, .int .i64 m.v, .slice q.a2 m.r.length q.c2, .slice q.a3 m.s.length q.c3, .string ⟨⟨m.ho⟩⟩, .slice q.a5 m.pr.length q.c5, .slice q.a6 m.ti.length q.c6, .int .i64 m.ag, .int .i64 m.ea, .slice q.a9 m.bi.length q.c9, .bool m.rs, .slice q.a11 m.ce.length q.c11, .slice q.a12 m.pf.length q.c12] 28)) (w.heap.size + 1) [.int .i64 m.k, .int .i64 m.v, .slice q.a2 m.r.length q.c2, .slice q.a3 m.s.length q.c3, .string ⟨⟨m.ho⟩⟩, .slice q.a5 m.pr.length q.c5, .slice q.a6 m.ti.length q.c6, .int .i64 m.ag, .int .i64 m.ea, .slice q.a9 m.bi.length q.c9, .bool m.rs, .slice q.a11 m.ce.length q.c11, .slice q.a12 m.pf.length q.c12] 28 := by
    have h := RwC.new (w.alloc (.cells #[.int .i64 m.k, .int .i64 m.v, .slice p.a2 m.r.length p.c2, .slice p.a3 m.s.length p.c3, .string ⟨⟨m.ho⟩⟩, .slice p.a5 m.pr.length p.c5, .slice p.a6 m.ti.length p.c6, .int .i64 m.ag, .int .i64 m.ea, .slice p.a9 m.bi.length p.c9, .bool m.rs, .slice p.a11 m.ce.length p.c11, .slice p.a12 m.pf.length p.c12] 28)) [.int .i64 m.k, .int .i64 m.v, .slice q.a2 m.r.length q.c2, .slice q.a3 m.s.length q.c3, .string ⟨⟨m.ho⟩⟩, .slice q.a5 m.pr.length q.c5, .slice q.a6 m.ti.length q.c6, .int .i64 m.ag, .int .i64 m.ea, .slice q.a9 m.bi.length q.c9, .bool m.rs, .slice q.a11 m.ce.length q.c11, .slice q.a12 m.pf.length q.c12] 28
    rwa [z1] at h
  have HP := hide (h.up n2)
  have HQ := hide (h'.up n2)
  have N2 := hide n2
  have TT := hide T0
  have UU := hide U0
  have e0 : ((m.ce.length : Int) != (m.ce.length : Int)) = false := by simp
  have II := hide i
  have cL := i.ceL
  clear n1 n2 T0 U0 h h' i
  unfold mgV
  go_enter Tryz.func11, Tryz.ntmps11
  go_upto_region 1 with fail
  try rw [z1]
  clear z1
  generalize (w.alloc (.cells #[.int .i64 m.k, .int .i64 m.v, .slice p.a2 m.r.length p.c2, .slice p.a3 m.s.length p.c3, .string ⟨⟨m.ho⟩⟩, .slice p.a5 m.pr.length p.c5, .slice p.a6 m.ti.length p.c6, .int .i64 m.ag, .int .i64 m.ea, .slice p.a9 m.bi.length p.c9, .bool m.rs, .slice p.a11 m.ce.length p.c11, .slice p.a12 m.pf.length p.c12] 28)).alloc (.cells #[.int .i64 m.k, .int .i64 m.v, .slice q.a2 m.r.length q.c2, .slice q.a3 m.s.length q.c3, .string ⟨⟨m.ho⟩⟩, .slice q.a5 m.pr.length q.c5, .slice q.a6 m.ti.length q.c6, .int .i64 m.ag, .int .i64 m.ea, .slice q.a9 m.bi.length q.c9, .bool m.rs, .slice q.a11 m.ce.length q.c11, .slice q.a12 m.pf.length q.c12] 28) = W at *
  have T := TT.out
  have U := UU.out
  have x0 : W.cell? ⟨w.heap.size, 0, none⟩ = some (.int .i64 m.k) := T.cell 0
  have x1 : W.cell? ⟨w.heap.size, 1, none⟩ = some (.int .i64 m.v) := T.cell 1
  have x2 : W.cell? ⟨w.heap.size, 2, none⟩ = some (.slice p.a2 m.r.length p.c2) := T.cell 2
  have x3 : W.cell? ⟨w.heap.size, 3, none⟩ = some (.slice p.a3 m.s.length p.c3) := T.cell 3
  have x4 : W.cell? ⟨w.heap.size, 4, none⟩ = some (.string ⟨⟨m.ho⟩⟩) := T.cell 4
  have x5 : W.cell? ⟨w.heap.size, 5, none⟩ = some (.slice p.a5 m.pr.length p.c5) := T.cell 5
  have x6 : W.cell? ⟨w.heap.size, 6, none⟩ = some (.slice p.a6 m.ti.length p.c6) := T.cell 6
  have x7 : W.cell? ⟨w.heap.size, 7, none⟩ = some (.int .i64 m.ag) := T.cell 7
  have x8 : W.cell? ⟨w.heap.size, 8, none⟩ = some (.int .i64 m.ea) := T.cell 8
  have x9 : W.cell? ⟨w.heap.size, 9, none⟩ = some (.slice p.a9 m.bi.length p.c9) := T.cell 9
  have x10 : W.cell? ⟨w.heap.size, 10, none⟩ = some (.bool m.rs) := T.cell 10
  have x11 : W.cell? ⟨w.heap.size, 11, none⟩ = some (.slice p.a11 m.ce.length p.c11) := T.cell 11
  have x12 : W.cell? ⟨w.heap.size, 12, none⟩ = some (.slice p.a12 m.pf.length p.c12) := T.cell 12
  have y0 : W.cell? ⟨w.heap.size + 1, 0, none⟩ = some (.int .i64 m.k) := U.cell 0
  have y1 : W.cell? ⟨w.heap.size + 1, 1, none⟩ = some (.int .i64 m.v) := U.cell 1
  have y2 : W.cell? ⟨w.heap.size + 1, 2, none⟩ = some (.slice q.a2 m.r.length q.c2) := U.cell 2
  have y3 : W.cell? ⟨w.heap.size + 1, 3, none⟩ = some (.slice q.a3 m.s.length q.c3) := U.cell 3
  have y4 : W.cell? ⟨w.heap.size + 1, 4, none⟩ = some (.string ⟨⟨m.ho⟩⟩) := U.cell 4
  have y5 : W.cell? ⟨w.heap.size + 1, 5, none⟩ = some (.slice q.a5 m.pr.length q.c5) := U.cell 5
  have y6 : W.cell? ⟨w.heap.size + 1, 6, none⟩ = some (.slice q.a6 m.ti.length q.c6) := U.cell 6
  have y7 : W.cell? ⟨w.heap.size + 1, 7, none⟩ = some (.int .i64 m.ag) := U.cell 7
  have y8 : W.cell? ⟨w.heap.size + 1, 8, none⟩ = some (.int .i64 m.ea) := U.cell 8
  have y9 : W.cell? ⟨w.heap.size + 1, 9, none⟩ = some (.slice q.a9 m.bi.length q.c9) := U.cell 9
  have y10 : W.cell? ⟨w.heap.size + 1, 10, none⟩ = some (.bool m.rs) := U.cell 10
  have y11 : W.cell? ⟨w.heap.size + 1, 11, none⟩ = some (.slice q.a11 m.ce.length q.c11) := U.cell 11
  have y12 : W.cell? ⟨w.heap.size + 1, 12, none⟩ = some (.slice q.a12 m.pf.length q.c12) := U.cell 12
  clear T U
  go_upto_region 4 with fail
  go_loopw [5] (fun j wr => ∃ (k : Nat), k ≤ m.ce.length ∧ j = .int .i64 k ∧ Below W.heap.size W wr) (fun j _ => m.ce.length - (intOf j).toNat)
  case atStart => exact ⟨0, Nat.zero_le _, rfl, Below.refl _ _⟩
  case round =>
    clear x0 x1 x2 x3 x4 x5 x6 x7 x8 x9 x10 x11 x12 y0 y1 y2 y3 y4 y5 y6 y7 y8 y9 y10 y11 y12
    obtain ⟨k, hk, rfl, nb⟩ := hrel
    have T := TT.out.up nb
    have U := UU.out.up nb
    by_cases hlt : k < m.ce.length
    · have hp := HP.out.up nb
      have hq := HQ.out.up nb
      obtain ⟨off, ha, hc⟩ := hp.ce.r (by omega)
      obtain ⟨off', ha', hc'⟩ := hq.ce.r (by omega)
      have t0 : (k : Int) < (m.ce.length : Int) := by omega
      have c1 := hc k hlt
      have c2 := hc' k hlt
      have LS := hide (lwSame_same wr.drew _ _ _ _ (p.ps.getD k plb0).c (q.ps.getD k plb0).c _ ((hp.ce.b k hlt).up (Below.refl _ _).drew) ((hq.ce.b k hlt).up (Below.refl _ _).drew))
      have b11 : wr.cell? ⟨w.heap.size, 11, none⟩ = some (.slice p.a11 m.ce.length p.c11) := T.cell 11
      have d11 : wr.cell? ⟨w.heap.size + 1, 11, none⟩ = some (.slice q.a11 m.ce.length q.c11) := U.cell 11
      rw [ha] at b11
      rw [ha'] at d11
      have NB := hide nb
      clear hc hc' nb hp hq T U ha ha'
      generalize (p.ps.getD k plb0).a = pa at *
      generalize (p.ps.getD k plb0).c = pc at *
      generalize (q.ps.getD k plb0).a = qa at *
      generalize (q.ps.getD k plb0).c = qc at *
      generalize (m.ce.getD k []).length = ml at *
      go_upto_region 6 with fail
      go_region_law (first
        | (go_simp; go_at_call 10; refine LS.out.mono ?_; rintro e V0 ⟨rfl, rfl⟩)
        | fail)
      all_goals
        go_wp2
        go_roundw
        case rel => exact ⟨k + 1, by omega, by first | rfl | go_num, NB.out.drew⟩
        case measure => simp [intOf]; omega
    · obtain rfl : k = m.ce.length := by omega
      have x0 : wr.cell? ⟨w.heap.size, 0, none⟩ = some (.int .i64 m.k) := T.cell 0
      have x1 : wr.cell? ⟨w.heap.size, 1, none⟩ = some (.int .i64 m.v) := T.cell 1
      have x2 : wr.cell? ⟨w.heap.size, 2, none⟩ = some (.slice p.a2 m.r.length p.c2) := T.cell 2
      have x3 : wr.cell? ⟨w.heap.size, 3, none⟩ = some (.slice p.a3 m.s.length p.c3) := T.cell 3
      have x4 : wr.cell? ⟨w.heap.size, 4, none⟩ = some (.string ⟨⟨m.ho⟩⟩) := T.cell 4
      have x5 : wr.cell? ⟨w.heap.size, 5, none⟩ = some (.slice p.a5 m.pr.length p.c5) := T.cell 5
      have x6 : wr.cell? ⟨w.heap.size, 6, none⟩ = some (.slice p.a6 m.ti.length p.c6) := T.cell 6
      have x7 : wr.cell? ⟨w.heap.size, 7, none⟩ = some (.int .i64 m.ag) := T.cell 7
      have x8 : wr.cell? ⟨w.heap.size, 8, none⟩ = some (.int .i64 m.ea) := T.cell 8
      have x9 : wr.cell? ⟨w.heap.size, 9, none⟩ = some (.slice p.a9 m.bi.length p.c9) := T.cell 9
      have x10 : wr.cell? ⟨w.heap.size, 10, none⟩ = some (.bool m.rs) := T.cell 10
      have x11 : wr.cell? ⟨w.heap.size, 11, none⟩ = some (.slice p.a11 m.ce.length p.c11) := T.cell 11
      have x12 : wr.cell? ⟨w.heap.size, 12, none⟩ = some (.slice p.a12 m.pf.length p.c12) := T.cell 12
      have y0 : wr.cell? ⟨w.heap.size + 1, 0, none⟩ = some (.int .i64 m.k) := U.cell 0
      have y1 : wr.cell? ⟨w.heap.size + 1, 1, none⟩ = some (.int .i64 m.v) := U.cell 1
      have y2 : wr.cell? ⟨w.heap.size + 1, 2, none⟩ = some (.slice q.a2 m.r.length q.c2) := U.cell 2
      have y3 : wr.cell? ⟨w.heap.size + 1, 3, none⟩ = some (.slice q.a3 m.s.length q.c3) := U.cell 3
      have y4 : wr.cell? ⟨w.heap.size + 1, 4, none⟩ = some (.string ⟨⟨m.ho⟩⟩) := U.cell 4
      have y5 : wr.cell? ⟨w.heap.size + 1, 5, none⟩ = some (.slice q.a5 m.pr.length q.c5) := U.cell 5
      have y6 : wr.cell? ⟨w.heap.size + 1, 6, none⟩ = some (.slice q.a6 m.ti.length q.c6) := U.cell 6
      have y7 : wr.cell? ⟨w.heap.size + 1, 7, none⟩ = some (.int .i64 m.ag) := U.cell 7
      have y8 : wr.cell? ⟨w.heap.size + 1, 8, none⟩ = some (.int .i64 m.ea) := U.cell 8
      have y9 : wr.cell? ⟨w.heap.size + 1, 9, none⟩ = some (.slice q.a9 m.bi.length q.c9) := U.cell 9
      have y10 : wr.cell? ⟨w.heap.size + 1, 10, none⟩ = some (.bool m.rs) := U.cell 10
      have y11 : wr.cell? ⟨w.heap.size + 1, 11, none⟩ = some (.slice q.a11 m.ce.length q.c11) := U.cell 11
      have y12 : wr.cell? ⟨w.heap.size + 1, 12, none⟩ = some (.slice q.a12 m.pf.length q.c12) := U.cell 12
      have hp := HP.out.up nb
      have hq := HQ.out.up nb
      have l2 := hide (lwSame_same wr _ _ _ _ p.c2 q.c2 _ hp.r hq.r)
      have l3 := hide (lwSame_same wr _ _ _ _ p.c3 q.c3 _ hp.s hq.s)
      have l5 := hide (lwSameTexts_same wr _ _ _ _ p.c5 q.c5 _ hp.pr hq.pr II.out.prL)
      have NB := hide nb
      clear T U hp hq
      go_wp2_with fail
      refine l2.out.mono ?_
      rintro e V0 ⟨rfl, rfl⟩
      go_wp2_with fail
      refine l3.out.mono ?_
      rintro e V0 ⟨rfl, rfl⟩
      go_wp2_with fail
      refine l5.out.mono ?_
      rintro e V1 ⟨rfl, nT⟩
      clear l2 l3 l5 x0 x1 x2 x3 x4 x5 x6 x7 x8 x9 x10 x11 x12 y0 y1 y2 y3 y4 y5 y6 y7 y8 y9 y10 y11 y12
      have n3 := nxt NB.out nT
      have T := TT.out.up n3
      have U := UU.out.up n3
      have x0 : V1.cell? ⟨w.heap.size, 0, none⟩ = some (.int .i64 m.k) := T.cell 0
      have x1 : V1.cell? ⟨w.heap.size, 1, none⟩ = some (.int .i64 m.v) := T.cell 1
      have x2 : V1.cell? ⟨w.heap.size, 2, none⟩ = some (.slice p.a2 m.r.length p.c2) := T.cell 2
      have x3 : V1.cell? ⟨w.heap.size, 3, none⟩ = some (.slice p.a3 m.s.length p.c3) := T.cell 3
      have x4 : V1.cell? ⟨w.heap.size, 4, none⟩ = some (.string ⟨⟨m.ho⟩⟩) := T.cell 4
      have x5 : V1.cell? ⟨w.heap.size, 5, none⟩ = some (.slice p.a5 m.pr.length p.c5) := T.cell 5
      have x6 : V1.cell? ⟨w.heap.size, 6, none⟩ = some (.slice p.a6 m.ti.length p.c6) := T.cell 6
      have x7 : V1.cell? ⟨w.heap.size, 7, none⟩ = some (.int .i64 m.ag) := T.cell 7
      have x8 : V1.cell? ⟨w.heap.size, 8, none⟩ = some (.int .i64 m.ea) := T.cell 8
      have x9 : V1.cell? ⟨w.heap.size, 9, none⟩ = some (.slice p.a9 m.bi.length p.c9) := T.cell 9
      have x10 : V1.cell? ⟨w.heap.size, 10, none⟩ = some (.bool m.rs) := T.cell 10
      have x11 : V1.cell? ⟨w.heap.size, 11, none⟩ = some (.slice p.a11 m.ce.length p.c11) := T.cell 11
      have x12 : V1.cell? ⟨w.heap.size, 12, none⟩ = some (.slice p.a12 m.pf.length p.c12) := T.cell 12
      have y0 : V1.cell? ⟨w.heap.size + 1, 0, none⟩ = some (.int .i64 m.k) := U.cell 0
      have y1 : V1.cell? ⟨w.heap.size + 1, 1, none⟩ = some (.int .i64 m.v) := U.cell 1
      have y2 : V1.cell? ⟨w.heap.size + 1, 2, none⟩ = some (.slice q.a2 m.r.length q.c2) := U.cell 2
      have y3 : V1.cell? ⟨w.heap.size + 1, 3, none⟩ = some (.slice q.a3 m.s.length q.c3) := U.cell 3
      have y4 : V1.cell? ⟨w.heap.size + 1, 4, none⟩ = some (.string ⟨⟨m.ho⟩⟩) := U.cell 4
      have y5 : V1.cell? ⟨w.heap.size + 1, 5, none⟩ = some (.slice q.a5 m.pr.length q.c5) := U.cell 5
      have y6 : V1.cell? ⟨w.heap.size + 1, 6, none⟩ = some (.slice q.a6 m.ti.length q.c6) := U.cell 6
      have y7 : V1.cell? ⟨w.heap.size + 1, 7, none⟩ = some (.int .i64 m.ag) := U.cell 7
      have y8 : V1.cell? ⟨w.heap.size + 1, 8, none⟩ = some (.int .i64 m.ea) := U.cell 8
      have y9 : V1.cell? ⟨w.heap.size + 1, 9, none⟩ = some (.slice q.a9 m.bi.length q.c9) := U.cell 9
      have y10 : V1.cell? ⟨w.heap.size + 1, 10, none⟩ = some (.bool m.rs) := U.cell 10
      have y11 : V1.cell? ⟨w.heap.size + 1, 11, none⟩ = some (.slice q.a11 m.ce.length q.c11) := U.cell 11
      have y12 : V1.cell? ⟨w.heap.size + 1, 12, none⟩ = some (.slice q.a12 m.pf.length q.c12) := U.cell 12
      have hp := HP.out.up n3
      have hq := HQ.out.up n3
      have l6 := hide (lwSame_same V1 _ _ _ _ p.c6 q.c6 _ hp.ti hq.ti)
      have l9 := hide (lwSame_same V1 _ _ _ _ p.c9 q.c9 _ hp.bi hq.bi)
      have l12 := hide (lwSame_same V1 _ _ _ _ p.c12 q.c12 _ hp.pf hq.pf)
      have NF := hide (nxt N2.out n3)
      clear T U hp hq n3 nT
      go_wp2_with fail
      refine l6.out.mono ?_
      rintro e V2 ⟨rfl, rfl⟩
      go_wp2_with fail
      refine l9.out.mono ?_
      rintro e V2 ⟨rfl, rfl⟩
      go_wp2_with fail
      refine l12.out.mono ?_
      rintro e V2 ⟨rfl, rfl⟩
      go_wp2
      go_ret
      exact ⟨rfl, NF.out⟩
end Go.Proofs.YtcaljanahpdidaaGreat
namespace Go.Proofs.YtcaljanahpdidaaGreat
open Go Go.RowKit
def C21 (B : Nat) (wa : World) (L : List Msg) (Z : List Int) (v : Value) (wc : World) : Prop := ∃ q vm es vx, v = .pointer (some ⟨q, 0, none⟩) ∧ RwC wc q [.int .i64 0, vm, vx] 33 ∧ MRow wc wa.heap.size vm L es ∧ RowB wc wa.heap.size vx Z ∧ Below B wa wc ∧ wa.heap.size ≤ q
theorem c21_1 {B : Nat} {wa wm : World} {L : List Msg} {Z : List Int} {vr vl : Value} {es : List El} {C : Nat} (n : Below B wa wm) (hB : wa.heap.size ≤ C) (hC : C ≤ wm.heap.size) (hb : B ≤ wa.heap.size) (I : MRow wm C vr L es) (R : RowB wm C vl Z) :
    C21 B wa L Z (.pointer (some ⟨wm.heap.size, 0, none⟩)) (wm.alloc (.cells #[.int .i64 0, vr, vl] 33)) := by
  have na : Below wm.heap.size wm (wm.alloc (.cells #[.int .i64 0, vr, vl] 33)) := (Below.refl _ _).alloc (Nat.le_refl _) _
  exact ⟨_, vr, es, vl, rfl, RwC.new wm _ _, (I.up na).base hB, (R.up na).base hB, n.trans (na.mono (by omega)), by omega⟩
theorem c21_2 {B : Nat} {wa wm : World} {L : List Msg} {Z : List Int} {vr vl : Value} {es : List El} {C q : Nat} {z0 z1 z2 : Value} (n : Below B wa wm) (I : MRow wm C vr L es) (R : RowB wm C vl Z) (Q : RwC wm q [z0, z1, z2] 33) (hb : B ≤ wa.heap.size) (hq : wa.heap.size ≤ q) (hg : q < C) :
    C21 B wa L Z (.pointer (some ⟨q, 0, none⟩)) (((wm.setCell ⟨q, 0, none⟩ (.int .i64 0)).setCell ⟨q, 1, none⟩ vr).setCell ⟨q, 2, none⟩ vl) := by
  have O : Only q wm (((wm.setCell ⟨q, 0, none⟩ (.int .i64 0)).setCell ⟨q, 1, none⟩ vr).setCell ⟨q, 2, none⟩ vl) := ((Only.setCell _ q 0 _).trans (Only.setCell _ q 1 _)).trans (Only.setCell _ q 2 _)
  have Q' : RwC (((wm.setCell ⟨q, 0, none⟩ (.int .i64 0)).setCell ⟨q, 1, none⟩ vr).setCell ⟨q, 2, none⟩ vl) q [.int .i64 0, vr, vl] 33 := ((Q.set 0 _).set 1 _).set 2 _
  exact ⟨q, vr, es, vl, rfl, Q', (I.onl O hg).base (by omega), (R.only O hg).base (by omega), n.trans (O.below (by omega)), hq⟩
theorem csCP {wa : World} {ga : Nat} {aa : Option Addr} {ca : Nat} {fl : List Int} (r : Rd wa ga aa .u8 fl) (z : aa = none → ca = 0) (hl : fl.length ≤ 1048576) (W : World) (m : Below wa.heap.size wa W) :
    Calls Tryz.prog 9 #[.slice aa fl.length ca] W fun e w' => ∃ v, e = .returned v ∧ RowB w' wa.heap.size v fl ∧ (∀ q, q < W.heap.size → v.ownBlock ≠ some q) ∧ Below wa.heap.size wa w' ∧ Below W.heap.size W w' := by
  refine (lwCopyO_any W ga aa ca fl (r.up m) z hl).mono ?_
  rintro e w' ⟨v, rfl, R, n⟩
  have R' : RowB w' W.heap.size v fl := R
  exact ⟨v, rfl, R'.base m.size, fun q hq e => by have := (World.ownsRow.lt R' q e).1; omega, nxt m n, n⟩
theorem csAP {B : Nat} {wa : World} {g : Nat} {a : Option Addr} {c : Nat} {xs us : List Int} (r : Rd wa g a .u8 us) (hg : 0 < us.length → g < B) (z : a = none → c = 0) (hl : xs.length + us.length ≤ 1099511627776) (hb : B ≤ wa.heap.size)
    (i0 : TypeInfo) (hi : Tryz.prog.info? 5 = some i0) (hz0 : i0.zero = some (.int .u8 0)) (hz1 : i0.size = 1) (hz2 : i0.bytes = 1) (W : World) (v : Value) (R : RowB W B v xs) (m : Below B wa W) (s : wa.heap.size ≤ W.heap.size) :
    ∃ v' w', (Builtin.append_ #[22, 22] 22 #[v, .slice a us.length c]).run Tryz.prog W = .ok v' w' ∧ (RowB w' B v' (xs ++ us) ∧ Below B wa w' ∧ W.heap.size ≤ w'.heap.size ∧ (∀ q, q < W.heap.size → v.ownBlock ≠ some q → w'.heap[q]? = W.heap[q]?)) := by
  have r' : Rd W g a .u8 us := rd_ofU r fun h0 => m.block g (hg h0)
  obtain ⟨v', w', h1, h2, h3, -⟩ := append_anyAt (P := Tryz.prog) W 22 i0 Tryz.underlying22 hi hz0 hz1 hz2 B v xs R g a c us r' z hl (by omega)
  exact ⟨v', w', h1, h2, m.trans (Below.grown (Below.refl B W) h3 (by omega) (fun k hk => (World.ownsRow.lt R k hk).1)), h3.size, fun q hq hne => h3.block q hq (fun e => hne e.symm)⟩
theorem csCT {B : Nat} {wa : World} {XS : List Int} {L : List Msg} {Z : List Int} (hb : Byt XS) (hx : XS.length ≤ 1048576) (hL : cmL XS = L) (hC : cmC XS = 0) (hR : cmR XS = Z) (W : World) (v : Value) (R : RowB W B v XS) (m : Below B wa W) (s : B ≤ W.heap.size) :
    Calls Tryz.prog 8 #[v] W fun e w' => ∃ vm es vx, e = .returned (.agg #[.int .i64 0, vm, vx]) ∧ MRow w' W.heap.size vm L es ∧ RowB w' W.heap.size vx Z ∧ Below B wa w' ∧ Below W.heap.size W w' := by
  obtain ⟨a, c, g, rfl, r, z, k, -⟩ := R.rd
  refine (implCM_any W g a c XS r hb z k hx).mono ?_
  rintro e w' ⟨⟨vm, es, vx, rfl, I, X, -⟩, n⟩
  rw [hL] at I
  rw [hR] at X
  rw [hC]
  exact ⟨vm, es, vx, rfl, I, X, m.trans (n.mono s), n⟩
theorem RwC.newE (w : World) (zs : List Value) (t : TypeId) : RwC (w.alloc (.cells zs.toArray t)).drew w.heap.size zs t := RwC.new w zs t
theorem RwC.newD (w : World) (zs : List Value) (t : TypeId) : RwC (w.drew.alloc (.cells zs.toArray t)) w.heap.size zs t := RwC.new w.drew zs t
theorem WRow.slice {w : World} {B : Nat} {v : Value} {x : Option Nat} {ms : List Msg} {es : List El} (h : WRow w B v x ms es) : ∃ a c, v = .slice a ms.length c ∧ (a = none → c = 0) := by
  rcases h.o.2 with ⟨h1, h'⟩ | ⟨g, cap, cur, rfl, hb, hg, hnc, hcm, hcs, ht⟩
  · exact ⟨none, 0, by rw [h1, h'], fun _ => rfl⟩
  · exact ⟨_, cap, rfl, fun e => by cases e⟩
theorem WRow.cells {w : World} {B : Nat} {v : Value} {x : Option Nat} {ms : List Msg} {es : List El} (h : WRow w B v x ms es) (h0 : 0 < ms.length) : ∃ g c, v = .slice (some ⟨g, 0, none⟩) ms.length c ∧ g < w.heap.size ∧ (∀ i, i < ms.length → w.rangeAt g (i * 13) (mgV (es.getD i el0).p (ms.getD i msg0)).toList) := by
  rcases h.o.2 with ⟨_, h'⟩ | ⟨g, cap, cur, rfl, hb, hg, hnc, hcm, hcs, ht⟩
  · omega
  · refine ⟨g, cap, rfl, (Array.getElem?_eq_some_iff.1 hg).1, fun i hi => ?_⟩
    intro j u hj
    have hj13 : j < 13 := by
      have := (List.getElem?_eq_some_iff.1 hj).1
      rw [mgV_len] at this
      exact this
    rw [cell_of_row w g _ cur _ (0, 0) hg]
    have : (cur.toList.take (ms.length * 13))[i * 13 + j]? = (mgCs ms es)[i * 13 + j]? := by rw [ht]
    rw [List.getElem?_take, if_pos (by omega), mgCs_at ms es i j h.l hi hj13, hj] at this
    simpa using this
theorem rangeU {w w' : World} {b o : Nat} {cs : List Value} (h : w.rangeAt b o cs) (n : Below w.heap.size w w') : w'.rangeAt b o cs := fun j v hj => (n.cell (block_lt_of_cell (h j v hj))).trans (h j v hj)
theorem RowB.neT {w : World} {B q : Nat} {v : Value} {xs : List Int} {cs : List Value} {t : TypeId} (h : RowB w B v xs) (T : RwC w q cs t) (ht : t ≠ 5) : v.ownBlock ≠ some q := fun e => by
  rcases h.2 with ⟨rfl, _⟩ | ⟨g, cap, cur, rfl, _, hg, _⟩
  · simp [Value.ownBlock] at e
  · simp only [Value.ownBlock, Option.some.injEq] at e
    subst e
    have := hg.symm.trans T
    injection this with this
    injection this with _ this
    exact ht this.symm
theorem World.size_allocLe (w : World) (o : Obj) : w.heap.size ≤ (w.alloc o).heap.size := by simp
def FMq (m : Msg) : Fact := ⟨fun v w => ∃ q, v = .agg (mgV q m) ∧ HasM w q m, fun n h => by
  obtain ⟨q, e, h⟩ := h
  exact ⟨q, e, h.up n⟩⟩
section
variable {ops : Array Oper} {Q : Exit → Act → World → Prop} {md : Region.Mode} {F : Nat → Fact} {a0 : Act} {w0 : World} {i : Nat} {o : Oper} {ts : Array TypeId}
theorem step_lMq (hi : ops[i]? = some o) (p j : Nat) (hop : o.op = .load 28 (.tmp p)) (hj : waits md ops i j p = true) {b off : Nat} {q : MQ} {m : Msg} (hFj : F j = Fact.eq (.pointer (some ⟨b, off, none⟩))) (T : w0.rangeAt b off (mgV q m).toList) (H : HasM w0 q m) (hF : F i = FMq m) : StepOk Tryz.prog md ops Q F a0 w0 i := by
  obtain ⟨d, hu, hr⟩ := rowM
  refine step_load hi _ _ hop _ 13 hu hr iM fun a w hb hw hf => ?_
  have e := hf j p hj
  rw [hFj] at e
  exact ⟨b, off, (mgV q m).toList, e, rangeU T hw, rfl, by rw [hF]; exact ⟨q, rfl, H.up hw⟩⟩
theorem step_smq (hi : ops[i]? = some o) (p q j k : Nat) {m : Msg} (hop : o.op = .call { callee := .value (.func 11), args := #[.tmp p, .tmp q], argTypes := ts })
    (hj : waits md ops i j p = true) (hk : waits md ops i k q = true) (im : IsM m) (hFj : F j = FMq m) (hFk : F k = FMq m) (hFi : F i = Fact.eq (.bool true)) : StepOk Tryz.prog md ops Q F a0 w0 i := by
  refine step_callv hi _ _ ts hop (by kernel_rfl) fun A w _ hw hF => ?_
  have ea := hF j p hj
  rw [hFj] at ea
  obtain ⟨x, ea, hx⟩ := ea
  have eb := hF k q hk
  rw [hFk] at eb
  obtain ⟨y, eb, hy⟩ := eb
  show Calls Tryz.prog 11 #[A.tmps.getD p undef, A.tmps.getD q undef] w _
  rw [show A.tmps.getD p undef = _ from ea, show A.tmps.getD q undef = _ from eb]
  refine (lwSameMsg_same w x y m hx hy im).mono ?_
  rintro r w' ⟨rfl, hn⟩
  rw [hFi]
  exact ⟨_, rfl, hn, rfl⟩
theorem step_notq {P : Program} (hi : ops[i]? = some o) (p j : Nat) {b : Bool} {t : TypeId} (hop : o.op = .unOp .not t (.tmp p)) (hj : waits md ops i j p = true) (hFj : F j = Fact.eq (.bool b)) (hFi : F i = Fact.eq (.bool (!b))) : StepOk P md ops Q F a0 w0 i := by
  refine step_pure hi fun a w _ _ hf => ⟨.bool (!b), ?_, by rw [hFi]; exact rfl⟩
  have e := hf j p hj
  rw [hFj] at e
  have e' : a.eval (.tmp p) = .bool b := e
  simp only [execOp, hop, e']
  rfl
end
theorem wpList_load_midQ {P : Program} {ops : Array Oper} {rest : List Oper} {op : Oper} {a : Act} {w : World} {Q : Exit → Act → World → Prop} (hw : Region.wanted op (yielded ops a.tmps) = true) (ty : TypeId) (x : Operand) (ho : op.op = .load ty x)
    (b o : Nat) (hx : a.eval x = .pointer (some ⟨b, o, none⟩)) (cs : List Value) (d : TypeDesc) (hc : w.rangeAt b o cs)
    (hu : P.underlying ty = some d) (hd : d.isRow = true) (hi : (P.info? ty).map (·.size) = some cs.length)
    (h : wpList P ops Q rest (a.put op.dst (.agg cs.toArray)) w) : wpList P ops Q (op :: rest) a w := by
  unfold wpList
  rw [if_pos hw]
  exact .inl (wp_load_mid ty x ho b o hx cs d hc hu hd hi h)
end Go.Proofs.YtcaljanahpdidaaGreat
