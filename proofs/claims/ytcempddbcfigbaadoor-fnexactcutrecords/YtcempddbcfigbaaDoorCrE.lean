
/-
  The law's own helpers on rows of records: eqRecord, eqRecordS, eqRecordList.
-/
import Derived.Test.YtcempddbcfigbaaDoorCrR
import Derived.Test.YtcempddbcfigbaaDoorRcC
import Derived.Deep.RegionWith
namespace Go.Proofs.YtcempddbcfigbaaDoor
set_option maxRecDepth 100000
open Go Go.RowKit

set_option maxHeartbeats 1000000 in
theorem eqRecordS_same (w : World) (B B' : Nat) (v v' : Value) (its : List (Int × List Int)) (bs bs' : List Plc) (h : IRow w B v its bs) (h' : IRow w B' v' its bs') (hl : its.length ≤ 262144) (hn : ∀ i, i < its.length → (its.getD i (0, [])).2.length ≤ 2321) :
    Calls Tryd.prog 35 #[v, v'] w fun e w' => e = .returned (.bool true) ∧ Below w.heap.size w w' := by
  by_cases h0 : 0 < its.length
  · obtain ⟨g, c, rfl, -, hg, -, hc, -⟩ := h.cells h0
    obtain ⟨g', c', rfl, -, hg', -, hc', -⟩ := h'.cells h0
    have HC := hide hc
    have HC' := hide hc'
    have HB := hide h.b
    have HB' := hide h'.b
    have HN := hide hn
    have HL := hide hl
    have HG := hide (And.intro hg hg')
    clear hc hc' h h' hn hl hg hg' h0
    generalize hm : its.length = m at *
    clear hm
    go_enter Tryd.func35, Tryd.ntmps35
    go_wp2
    go_loopw [5] (fun i wr => ∃ (k : Nat), k ≤ m ∧ i = .int .i64 k ∧ Below w.heap.size w wr) (fun i _ => m - (intOf i).toNat)
    case atStart => exact ⟨0, Nat.zero_le _, rfl, Below.refl _ _⟩
    case round =>
      obtain ⟨k, hk, rfl, N⟩ := hrel
      by_cases hlt : k < m
      · have t0 : (k : Int) < (m : Int) := by omega
        have hm : m ≤ 262144 := HL.out
        have c1 := (World.cell?_of_block (a := ⟨g, k * 2, none⟩) (N.block g HG.out.1)).trans (HC.out k hlt).1
        have c2 := (World.cell?_of_block (a := ⟨g, k * 2 + 1, none⟩) (N.block g HG.out.1)).trans (HC.out k hlt).2
        have d1 := (World.cell?_of_block (a := ⟨g', k * 2, none⟩) (N.block g' HG.out.2)).trans (HC'.out k hlt).1
        have d2 := (World.cell?_of_block (a := ⟨g', k * 2 + 1, none⟩) (N.block g' HG.out.2)).trans (HC'.out k hlt).2
        have EQ := fun n => hide (eqRecord_same (wr.drewN n) (its.getD k (0, [])).1 _ _ _ _ (bs.getD k plc0).c (bs'.getD k plc0).c _ (((HB.out k hlt).o.rd.up N).of_block rfl) (((HB'.out k hlt).o.rd.up N).of_block rfl) (by have := HN.out k hlt; omega))
        generalize (its.getD k (0, [])).2.length = L at *
        generalize (its.getD k (0, [])).1 = T at *
        generalize (bs.getD k plc0).c = C1 at *
        generalize (bs.getD k plc0).a = A1 at *
        generalize (bs'.getD k plc0).c = C2 at *
        generalize (bs'.getD k plc0).a = A2 at *
        have NN := hide N
        clear N
        go_wp2
        go_region_with (go_at_call 11; refine (EQ _).out.mono ?_; rintro e w3 ⟨rfl, n3⟩)
        all_goals
          have N3 := hide (show Below w.heap.size w w3 from nxt (below_drewN NN.out _) n3)
          clear n3
          go_wp2
          go_roundw
          case rel => exact ⟨k + 1, by omega, by go_num, N3.out⟩
          case measure => simp [intOf]; omega
      · obtain rfl : k = m := by omega
        go_wp2
        go_ret
        exact ⟨rfl, N⟩
  · obtain ⟨a, c, rfl, -⟩ := h.slice
    obtain ⟨a', c', rfl, -⟩ := h'.slice
    obtain rfl : its = [] := List.eq_nil_of_length_eq_zero (by omega)
    clear h h' hl hn h0
    go_enter Tryd.func35, Tryd.ntmps35
    go_wp2
    go_loopw [5] (fun i wr => i = .int .i64 0 ∧ wr = w) (fun _ _ => 0)
    case atStart => exact ⟨rfl, rfl⟩
    case round =>
      obtain ⟨rfl, rfl⟩ := hrel
      go_wp2
      go_ret
      exact ⟨rfl, Below.refl _ _⟩

/-- The same, for what CutRecords answers. -/
theorem eqRecordList_same (w : World) (t : Int) (B B' : Nat) (v v' : Value) (its : List (Int × List Int)) (bs bs' : List Plc) (h : IRow w B v its bs) (h' : IRow w B' v' its bs') (hl : its.length ≤ 262144) (hn : ∀ i, i < its.length → (its.getD i (0, [])).2.length ≤ 2321)
    (g g' : Nat) (x x' : Option Addr) (y y' : Nat) (ys : List Int) (hx : Rd w g x .u8 ys) (hx' : Rd w g' x' .u8 ys) (hy : ys.length ≤ 1048576) :
    Calls Tryd.prog 18 #[.agg #[.int .i64 t, v, .slice x ys.length y], .agg #[.int .i64 t, v', .slice x' ys.length y']] w fun e w' => e = .returned (.bool true) ∧ Below w.heap.size w w' := by
  obtain ⟨a, c, rfl, -⟩ := h.slice
  obtain ⟨a', c', rfl, -⟩ := h'.slice
  have n1 : Below w.heap.size w (w.alloc (.cells #[.int .i64 t, .slice a its.length c, .slice x ys.length y] 36)) := (Below.refl _ _).alloc (Nat.le_refl _) _
  have n2 : Below w.heap.size w ((w.alloc (.cells #[.int .i64 t, .slice a its.length c, .slice x ys.length y] 36)).alloc (.cells #[.int .i64 t, .slice a' its.length c', .slice x' ys.length y'] 36)) := n1.alloc (by simp) _
  have z1 : (w.alloc (.cells #[.int .i64 t, .slice a its.length c, .slice x ys.length y] 36)).heap.size = w.heap.size + 1 := by simp
  have T1 := RwC.new w [.int .i64 t, .slice a its.length c, .slice x ys.length y] 36
  have T2 : RwC ((w.alloc (.cells #[.int .i64 t, .slice a its.length c, .slice x ys.length y] 36)).alloc (.cells #[.int .i64 t, .slice a' its.length c', .slice x' ys.length y'] 36)) (w.heap.size + 1) [.int .i64 t, .slice a' its.length c', .slice x' ys.length y'] 36 := by
    have := RwC.new (w.alloc (.cells #[.int .i64 t, .slice a its.length c, .slice x ys.length y] 36)) [.int .i64 t, .slice a' its.length c', .slice x' ys.length y'] 36
    rw [z1] at this
    exact this
  have T1' := T1.push (.cells #[.int .i64 t, .slice a' its.length c', .slice x' ys.length y'] 36)
  have EQ := hide (eqRecordS_same _ B B' _ _ its bs bs' (h.of (fun k hk _ => n2.block k hk)) (h'.of (fun k hk _ => n2.block k hk)) hl hn)
  have EB := hide fun W (m : Below w.heap.size w W) => eqByteS_same W g g' x x' y y' ys (hx.up m) (hx'.up m) hy
  clear h h' hl hn z1 T1 n1 hx hx'
  generalize its.length = m at *
  generalize ys.length = l at *
  go_enter Tryd.func18, Tryd.ntmps18
  go_wp2_with fail
  generalize (w.alloc (.cells #[.int .i64 t, .slice a m c, .slice x l y] 36)).alloc (.cells #[.int .i64 t, .slice a' m c', .slice x' l y'] 36) = W2 at *
  refine EQ.out.mono ?_
  rintro e w3 ⟨rfl, n3⟩
  have A3 := T1'.up n3
  have B3 := T2.up n3
  have N3 := nxt n2 n3
  have s0 := A3.c2
  have s1 := B3.c2
  clear A3 B3 T1' T2 n3 n2 EQ
  go_wp2_with fail
  refine (EB.out w3 N3).mono ?_
  rintro e w4 ⟨rfl, n4⟩
  go_wp2
  go_ret
  exact ⟨rfl, nxt N3 n4⟩
end Go.Proofs.YtcempddbcfigbaaDoor
