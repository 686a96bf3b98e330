import Derived.Test.YteedfhljbdnmnaaGreatDoorGTxXcI
import Derived.Test.YteedfhljbdnmnaaGreatDoorGT2
import Derived.Test.YteedfhljbdnmnaaGreatDoorGT5
import Derived.BigQuiet
namespace Go.Proofs.YteedfhljbdnmnaaGreatDoor
set_option maxRecDepth 100000
open Go Go.RowKit Go.Shelf
attribute [local go_sem] Oper.semAt_some
abbrev PcN (N : Nat) := { k : Nat // 32 * k < N }
def pcL (N k : Nat) : Nat := min 32 (N - 32 * k)
def pcE (g N : Nat) (x : PcN N) : Array Value := #[.slice (some ⟨g, 32 * x.1, none⟩) (pcL N x.1) (pcL N x.1)]
def KpB (Bs Bn : Nat) (W W' : World) : Prop := W'.heap[Bs]? = W.heap[Bs]? ∧ W'.heap[Bn]? = W.heap[Bn]?
theorem KpB.t {Bs Bn : Nat} {A B C : World} (h : KpB Bs Bn A B) (k : KpB Bs Bn B C) : KpB Bs Bn A C := ⟨k.1.trans h.1, k.2.trans h.2⟩
theorem KpB.b {Bs Bn : Nat} {w : World} (h1 : Bs < w.heap.size) (h2 : Bn < w.heap.size) (W : World) (l : Nat) (o o' : Obj) (hl : w.heap.size ≤ l) (_ : W.heap[l]? = some o) (_ : o.isCells = false) (_ : o.isWalk = false) : KpB Bs Bn W (W.putObj l o') := by
  constructor
  · simp [World.putObj, show l ≠ Bs by omega]
  · simp [World.putObj, show l ≠ Bn by omega]
set_option maxRecDepth 100000 in
set_option maxHeartbeats 2000000 in
theorem chunk1_in (n : Nat) (hn : 1 ≤ n) (l Bs Bn g N : Nat) (hN : N ≤ 8160) (J Jx : List (PcN N) → World → Prop)
    (hY : ∀ pre x W, J pre W → pre.length < 255 → YieldAt Fence.wide (n - 1) Tryz.prog l (pcE g N x) W fun e W' =>
      (e = .returned (.bool true) ∧ J (pre ++ [x]) W' ∧ KpB Bs Bn W W') ∨ (e = .returned (.bool false) ∧ Jx (pre ++ [x]) W'))
    (W : World) (hBs : W.cell? ⟨Bs, 0, none⟩ = some (.slice (some ⟨g, 0, none⟩) N N)) (hBn : W.cell? ⟨Bn, 0, none⟩ = some (.int .i64 32)) (h0 : J [] W) (hA : AbidesFrom W.heap.size J) :
    CallsIn Fence.wide n Tryz.prog 98 #[.func (.yield l) #[] #[], .pointer (some ⟨Bs, 0, none⟩), .pointer (some ⟨Bn, 0, none⟩)] W fun e W' => (∃ v, e = .returned v) ∧
      ((∃ ys, (ys.map (·.1) = List.range ((N + 31) / 32)) ∧ J ys W') ∨ (∃ pre, True ∧ Jx pre W')) := by
  refine callsIn_of_wp Tryz.func98 rfl trivial ?_ rfl
  simp only [Tryz.ntmps98, List.size_toArray, List.length_cons, List.length_nil, Nat.reduceAdd, Nat.reduceSub, Array.replicate_succ, Array.replicate_zero, List.push_toArray, List.append_toArray, List.nil_append, List.cons_append]
  gi_wp2
  gi_loopw [4, 5] (fun i _ wr => ∃ (k : Nat) (pre : List (PcN N)), pre.map (·.1) = List.range k ∧ i = .int .i64 ((32 * k : Nat) : Int) ∧ 32 * k < N + 32 ∧ J pre wr ∧ KpB Bs Bn W wr) (fun i _ _ => N + 32 - (intOf i).toNat)
  case atStart => exact ⟨0, [], rfl, rfl, by omega, h0, ⟨rfl, rfl⟩⟩
  case round =>
    obtain ⟨k, pre, hp, rfl, hk, hJ, hK⟩ := hrel
    have b1 := (World.cell?_of_block (a := ⟨Bs, 0, none⟩) hK.1).trans hBs
    have b2 := (World.cell?_of_block (a := ⟨Bn, 0, none⟩) hK.2).trans hBn
    have pl : pre.length = k := by have := congrArg List.length hp; simpa using this
    by_cases hlt : 32 * k < N
    · have ik : ((32 * k : Nat) : Int) < (N : Int) := by omega
      have em : (if ((N - 32 * k : Nat) : Int) < 32 then ((N - 32 * k : Nat) : Int) else 32) = ((pcL N k : Nat) : Int) := by unfold pcL; split <;> omega
      have e0 : 0 < pcL N k := by unfold pcL; omega
      have e1 : 32 * k + pcL N k ≤ N := by unfold pcL; omega
      have EM := hide em
      clear em
      gi_wp2
      refine wpIn_wide.2 ?_
      go_quiet (fail)
      rw [EM.out]
      clear EM
      have g1 : wr.grownBy (wr.drewN nq) none := ⟨rfl, rfl, rfl, Nat.le_refl _, fun _ _ _ => rfl⟩
      have hJ1 := hA pre wr _ none hJ g1 (by simp)
      have hK1 : KpB Bs Bn W (wr.drewN nq) := hK
      have c1 : (wr.drewN nq).cell? ⟨Bs, 0, none⟩ = some (.slice (some ⟨g, 0, none⟩) N N) := b1
      have c2 : (wr.drewN nq).cell? ⟨Bn, 0, none⟩ = some (.int .i64 32) := b2
      obtain ⟨fn, tmps, assign, body, hy, hR⟩ := hY pre ⟨k, hlt⟩ (wr.drewN nq) hJ1 (by omega)
      unfold pcE at hy
      dsimp only at hy
      generalize wr.drewN nq = w1 at *
      clear g1 hJ hK b1 b2 hJ1
      generalize pcL N k = e at *
      have ee : 32 * k + e - 32 * k = e := by omega
      have e2 : ¬ (32 * k + e = 32 * k) := by omega
      gi_wp2
      refine hR.mono ?_
      rintro x W3 (⟨rfl, hJ3, hk3⟩ | ⟨rfl, hJx3⟩)
      · have K3 := hK1.t hk3
        have b1 := (World.cell?_of_block (a := ⟨Bs, 0, none⟩) K3.1).trans hBs
        have b2 := (World.cell?_of_block (a := ⟨Bn, 0, none⟩) K3.2).trans hBn
        gi_wp2
        go_roundw
        case rel => exact ⟨k + 1, pre ++ [⟨k, hlt⟩], by rw [List.map_append, hp, List.range_succ]; rfl, by go_num, by omega, hJ3, K3⟩
        case measure => simp [intOf]; omega
      · gi_wp2
        refine bodyPost_ret (results_none rfl _ _ _) rfl ?_
        exact ⟨⟨_, rfl⟩, .inr ⟨_, trivial, hJx3⟩⟩
    · have ik : ¬ ((32 * k : Nat) : Int) < (N : Int) := by omega
      have kk : k = (N + 31) / 32 := by omega
      have KK := hide kk
      clear kk
      gi_wp2
      go_end0
      exact ⟨⟨_, rfl⟩, .inl ⟨pre, hp.trans (by rw [KK.out]), hJ⟩⟩
theorem chunk_any (w : World) (g N : Nat) :
    Calls Tryz.prog 66 #[.slice (some ⟨g, 0, none⟩) N N, .int .i64 32] w fun e w' => e = .returned (.func (.func 98) #[] #[.pointer (some ⟨w.heap.size, 0, none⟩), .pointer (some ⟨w.heap.size + 1, 0, none⟩)]) ∧ w' = (w.alloc (.cells #[.slice (some ⟨g, 0, none⟩) N N] 22)).alloc (.cells #[.int .i64 32] 3) := by
  go_enter Tryz.func66, Tryz.ntmps66
  go_wp2
  go_ret
  exact ⟨by simp, rfl⟩
theorem chunk_stops (n : Nat) (hn : 1 ≤ n) (Bs Bn g N : Nat) (hN : N ≤ 8160) (w : World) (h1 : Bs < w.heap.size) (h2 : Bn < w.heap.size) (hBs : w.cell? ⟨Bs, 0, none⟩ = some (.slice (some ⟨g, 0, none⟩) N N)) (hBn : w.cell? ⟨Bn, 0, none⟩ = some (.int .i64 32)) :
    SeqStopsK Fence.wide n Tryz.prog 98 #[.pointer (some ⟨Bs, 0, none⟩), .pointer (some ⟨Bn, 0, none⟩)] (pcE g N) (KpB Bs Bn) (fun ys => ys.map (·.1) = List.range ((N + 31) / 32)) (fun _ => True) 255 w := fun l J Jx W hW hJ _ hY h0 =>
  chunk1_in n hn l Bs Bn g N hN J Jx hY W ((hW.cell (p := ⟨Bs, 0, none⟩) h1).trans hBs) ((hW.cell (p := ⟨Bn, 0, none⟩) h2).trans hBn) h0 hJ
end Go.Proofs.YteedfhljbdnmnaaGreatDoor
