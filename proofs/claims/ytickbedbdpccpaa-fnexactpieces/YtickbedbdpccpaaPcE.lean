
/-
  The law's own helpers on rows of blobs: eqBlob, eqBlobS.
-/
import Derived.Test.YtickbedbdpccpaaPcA
import Derived.Deep.RegionWith
namespace Go.Proofs.Ytickbedbdpccpaa
open Go Go.RowKit

set_option maxHeartbeats 1000000 in
theorem eqBlob_same (w : World) (g g' : Nat) (a b : Option Addr) (ca cb : Nat) (ys : List Int) (ha : Rd w g a .u8 ys) (hb : Rd w g' b .u8 ys) (hn : ys.length ≤ 1048576) :
    Calls Try.prog 26 #[.agg #[.slice a ys.length ca], .agg #[.slice b ys.length cb]] w fun e w' => e = .returned (.bool true) ∧ Below w.heap.size w w' := by
  have n1 : Below w.heap.size w (w.alloc (.cells #[.slice a ys.length ca] 38)) := (Below.refl _ _).alloc (Nat.le_refl _) _
  have n2 : Below w.heap.size w ((w.alloc (.cells #[.slice a ys.length ca] 38)).alloc (.cells #[.slice b ys.length cb] 38)) := n1.alloc (by simp) _
  go_enter Try.func26, Try.ntmps26
  go_wp2_with fail
  refine (eqByteS_same _ g g' a b ca cb ys (ha.up n2) (hb.up n2) hn).mono ?_
  rintro e w3 ⟨rfl, n3⟩
  go_wp2
  go_ret
  exact ⟨rfl, nxt n2 n3⟩
set_option maxHeartbeats 1000000 in
theorem eqBlobS_same (w : World) (B B' : Nat) (v v' : Value) (its : List (List Int)) (bs bs' : List Plc) (h : BRow w B v its bs) (h' : BRow w B' v' its bs') (hl : its.length ≤ 1000) (hn : ∀ i, i < its.length → (its.getD i []).length ≤ 2048) :
    Calls Try.prog 14 #[v, v'] w fun e w' => e = .returned (.bool true) ∧ Below w.heap.size w w' := by
  by_cases h0 : 0 < its.length
  · obtain ⟨g, c, rfl, -, hg, -, hc⟩ := h.cells h0
    obtain ⟨g', c', rfl, -, hg', -, hc'⟩ := h'.cells h0
    have HC := hide hc
    have HC' := hide hc'
    have HB := hide h.b
    have HB' := hide h'.b
    have HN := hide hn
    have HL := hide hl
    have HG := hide (And.intro hg hg')
    clear hc hc' h h' hn hl hg hg' h0
    generalize hm : its.length = m at *
    clear hm
    go_enter Try.func14, Try.ntmps14
    go_wp2
    go_loopw [5] (fun i wr => ∃ (k : Nat), k ≤ m ∧ i = .int .i64 k ∧ Below w.heap.size w wr) (fun i _ => m - (intOf i).toNat)
    case atStart => exact ⟨0, Nat.zero_le _, rfl, Below.refl _ _⟩
    case round =>
      obtain ⟨k, hk, rfl, N⟩ := hrel
      by_cases hlt : k < m
      · have t0 : (k : Int) < (m : Int) := by omega
        have hm : m ≤ 1000 := HL.out
        have c1 := (World.cell?_of_block (a := ⟨g, k, none⟩) (N.block g HG.out.1)).trans (HC.out k hlt)
        have d1 := (World.cell?_of_block (a := ⟨g', k, none⟩) (N.block g' HG.out.2)).trans (HC'.out k hlt)
        have EQ := fun n => hide (eqBlob_same (wr.drewN n) _ _ _ _ (bs.getD k plc0).c (bs'.getD k plc0).c _ (((HB.out k hlt).o.rd.up N).of_block rfl) (((HB'.out k hlt).o.rd.up N).of_block rfl) (by have := HN.out k hlt; omega))
        generalize (its.getD k []).length = L at *
        generalize (bs.getD k plc0).c = C1 at *
        generalize (bs.getD k plc0).a = A1 at *
        generalize (bs'.getD k plc0).c = C2 at *
        generalize (bs'.getD k plc0).a = A2 at *
        have NN := hide N
        clear N
        go_wp2
        go_region_with (go_at_call 26; refine (EQ _).out.mono ?_; rintro e w3 ⟨rfl, n3⟩)
        all_goals
          have N3 := hide (show Below w.heap.size w w3 from nxt (below_drewN NN.out _) n3)
          clear n3
          go_wp2
          go_roundw
          case rel => exact ⟨k + 1, by omega, by go_num, N3.out⟩
          case measure => simp [intOf]; omega
      · obtain rfl : k = m := by omega
        go_wp2
        go_ret
        exact ⟨rfl, N⟩
  · obtain ⟨a, c, rfl, -⟩ := h.slice
    obtain ⟨a', c', rfl, -⟩ := h'.slice
    obtain rfl : its = [] := List.eq_nil_of_length_eq_zero (by omega)
    clear h h' hl hn h0
    go_enter Try.func14, Try.ntmps14
    go_wp2
    go_loopw [5] (fun i wr => i = .int .i64 0 ∧ wr = w) (fun _ _ => 0)
    case atStart => exact ⟨rfl, rfl⟩
    case round =>
      obtain ⟨rfl, rfl⟩ := hrel
      go_wp2
      go_ret
      exact ⟨rfl, Below.refl _ _⟩

end Go.Proofs.Ytickbedbdpccpaa
