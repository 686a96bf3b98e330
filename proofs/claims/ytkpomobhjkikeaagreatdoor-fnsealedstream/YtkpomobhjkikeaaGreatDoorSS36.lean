import Derived.Test.YtkpomobhjkikeaaGreatDoorSS26
import Derived.BigQuiet
namespace Go.Proofs.YtkpomobhjkikeaaGreatDoor
set_option maxRecDepth 100000
open Go Go.RowKit Go.Shelf
attribute [local go_sem] Oper.semAt_some
abbrev PcN4 (N : Nat) := { k : Nat // 4 * k < N }
def pcL4 (N k : Nat) : Nat := min 4 (N - 4 * k)
def pcE4 (g o N : Nat) (x : PcN4 N) : Array Value := #[.slice (some ⟨g, o + 4 * x.1, none⟩) (pcL4 N x.1) (pcL4 N x.1)]
set_option maxRecDepth 100000 in
set_option maxHeartbeats 2000000 in
theorem chunk1_in4 (n : Nat) (hn : 1 ≤ n) (l Bs Bn g o N c : Nat) (a : Option Addr) (ha : 0 < N → a = some ⟨g, o, none⟩) (hc : N ≤ c) (hN : N ≤ 4194304) (J Jx : List (PcN4 N) → World → Prop)
    (hY : ∀ pre x W, J pre W → pre.length < (N + 3) / 4 → YieldAt Fence.wide (n - 1) Tryz.prog l (pcE4 g o N x) W fun e W' =>
      (e = .returned (.bool true) ∧ J (pre ++ [x]) W' ∧ KpB Bs Bn W W') ∨ (e = .returned (.bool false) ∧ Jx (pre ++ [x]) W'))
    (W : World) (hBs : W.cell? ⟨Bs, 0, none⟩ = some (.slice a N c)) (hBn : W.cell? ⟨Bn, 0, none⟩ = some (.int .i64 4)) (h0 : J [] W) (hA : AbidesFrom W.heap.size J) :
    CallsIn Fence.wide n Tryz.prog 34 #[.func (.yield l) #[] #[], .pointer (some ⟨Bs, 0, none⟩), .pointer (some ⟨Bn, 0, none⟩)] W fun e W' => (∃ v, e = .returned v) ∧
      ((∃ ys, (ys.map (·.1) = List.range ((N + 3) / 4)) ∧ J ys W') ∨ (∃ pre, True ∧ Jx pre W')) := by
  refine callsIn_of_wp Tryz.func34 rfl trivial ?_ rfl
  simp only [Tryz.ntmps34, List.size_toArray, List.length_cons, List.length_nil, Nat.reduceAdd, Nat.reduceSub, Array.replicate_succ, Array.replicate_zero, List.push_toArray, List.append_toArray, List.nil_append, List.cons_append]
  gi_wp2
  gi_loopw [4, 5] (fun i _ wr => ∃ (k : Nat) (pre : List (PcN4 N)), pre.map (·.1) = List.range k ∧ i = .int .i64 ((4 * k : Nat) : Int) ∧ 4 * k < N + 4 ∧ J pre wr ∧ KpB Bs Bn W wr) (fun i _ _ => N + 4 - (intOf i).toNat)
  case atStart => exact ⟨0, [], rfl, rfl, by omega, h0, ⟨rfl, rfl⟩⟩
  case round =>
    obtain ⟨k, pre, hp, rfl, hk, hJ, hK⟩ := hrel
    have b1 := (World.cell?_of_block (a := ⟨Bs, 0, none⟩) hK.1).trans hBs
    have b2 := (World.cell?_of_block (a := ⟨Bn, 0, none⟩) hK.2).trans hBn
    have pl : pre.length = k := by have := congrArg List.length hp; simpa using this
    by_cases hlt : 4 * k < N
    · obtain rfl := ha (by omega)
      have ik : ((4 * k : Nat) : Int) < (N : Int) := by omega
      have hcI : (N : Int) ≤ (c : Int) := by omega
      have em : (if ((N - 4 * k : Nat) : Int) < 4 then ((N - 4 * k : Nat) : Int) else 4) = ((pcL4 N k : Nat) : Int) := by unfold pcL4; split <;> omega
      have e0 : 0 < pcL4 N k := by unfold pcL4; omega
      have e1 : 4 * k + pcL4 N k ≤ N := by unfold pcL4; omega
      have EM := hide em
      clear em
      gi_wp2
      refine wpIn_wide.2 ?_
      go_quiet (fail)
      rw [EM.out]
      clear EM
      have g1 : wr.grownBy (wr.drewN nq) none := ⟨rfl, rfl, rfl, Nat.le_refl _, fun _ _ _ => rfl⟩
      have hJ1 := hA pre wr _ none hJ g1 (by simp)
      have hK1 : KpB Bs Bn W (wr.drewN nq) := hK
      have c1 : (wr.drewN nq).cell? ⟨Bs, 0, none⟩ = some (.slice (some ⟨g, o, none⟩) N c) := b1
      have c2 : (wr.drewN nq).cell? ⟨Bn, 0, none⟩ = some (.int .i64 4) := b2
      obtain ⟨fn, tmps, assign, body, hy, hR⟩ := hY pre ⟨k, hlt⟩ (wr.drewN nq) hJ1 (by omega)
      unfold pcE4 at hy
      dsimp only at hy
      generalize wr.drewN nq = w1 at *
      clear g1 hJ hK b1 b2 hJ1
      generalize pcL4 N k = e at *
      have ee : 4 * k + e - 4 * k = e := by omega
      have ec : 4 * k + e ≤ c := by omega
      have e2 : ¬ (4 * k + e = 4 * k) := by omega
      gi_wp2
      refine hR.mono ?_
      rintro x W3 (⟨rfl, hJ3, hk3⟩ | ⟨rfl, hJx3⟩)
      · have K3 := hK1.t hk3
        have b1 := (World.cell?_of_block (a := ⟨Bs, 0, none⟩) K3.1).trans hBs
        have b2 := (World.cell?_of_block (a := ⟨Bn, 0, none⟩) K3.2).trans hBn
        gi_wp2
        go_roundw
        case rel => exact ⟨k + 1, pre ++ [⟨k, hlt⟩], by rw [List.map_append, hp, List.range_succ]; rfl, by go_num, by omega, hJ3, K3⟩
        case measure => simp [intOf]; omega
      · gi_wp2
        refine bodyPost_ret (results_none rfl _ _ _) rfl ?_
        exact ⟨⟨_, rfl⟩, .inr ⟨_, trivial, hJx3⟩⟩
    · have ik : ¬ ((4 * k : Nat) : Int) < (N : Int) := by omega
      have kk : k = (N + 3) / 4 := by omega
      have KK := hide kk
      clear kk
      gi_wp2
      go_end0
      exact ⟨⟨_, rfl⟩, .inl ⟨pre, hp.trans (by rw [KK.out]), hJ⟩⟩
theorem chunk_any4 (w : World) (a : Option Addr) (N c : Nat) :
    Calls Tryz.prog 20 #[.slice a N c, .int .i64 4] w fun e w' => e = .returned (.func (.func 34) #[] #[.pointer (some ⟨w.heap.size, 0, none⟩), .pointer (some ⟨w.heap.size + 1, 0, none⟩)]) ∧ w' = (w.alloc (.cells #[.slice a N c] 22)).alloc (.cells #[.int .i64 4] 3) := by
  go_enter Tryz.func20, Tryz.ntmps20
  go_wp2
  go_ret
  exact ⟨by simp, rfl⟩
theorem chunk_stops4 (n : Nat) (hn : 1 ≤ n) (Bs Bn g o N c : Nat) (a : Option Addr) (ha : 0 < N → a = some ⟨g, o, none⟩) (hc : N ≤ c) (hN : N ≤ 4194304) (w : World) (h1 : Bs < w.heap.size) (h2 : Bn < w.heap.size) (hBs : w.cell? ⟨Bs, 0, none⟩ = some (.slice a N c)) (hBn : w.cell? ⟨Bn, 0, none⟩ = some (.int .i64 4)) :
    SeqStopsK Fence.wide n Tryz.prog 34 #[.pointer (some ⟨Bs, 0, none⟩), .pointer (some ⟨Bn, 0, none⟩)] (pcE4 g o N) (KpB Bs Bn) (fun ys => ys.map (·.1) = List.range ((N + 3) / 4)) (fun _ => True) ((N + 3) / 4) w := fun l J Jx W hW hJ _ hY h0 =>
  chunk1_in4 n hn l Bs Bn g o N c a ha hc hN J Jx hY W ((hW.cell (p := ⟨Bs, 0, none⟩) h1).trans hBs) ((hW.cell (p := ⟨Bn, 0, none⟩) h2).trans hBn) h0 hJ
end Go.Proofs.YtkpomobhjkikeaaGreatDoor
