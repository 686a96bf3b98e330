import Derived.Test.YtblkjpmkikhpbaaDoorGL1
import Derived.Test.YtblkjpmkikhpbaaDoorGL32

/-
  The ladder's step as numbers: a pair u : v doubled, and the sum of two pairs whose difference is x.
-/
namespace Go.Proofs.YtblkjpmkikhpbaaDoor
set_option maxRecDepth 100000
open Go.RowKit

def dW (u v : Int) : Int := (u + v) * (u + v) - (u - v) * (u - v)
def dU (u v : Int) : Int := (u + v) * (u + v) * ((u - v) * (u - v))
def dV (u v : Int) : Int := dW u v * ((u + v) * (u + v) + dW u v * 121665)
def sY (u v u' v' : Int) : Int := (u' - v') * (u + v)
def sZ (u v u' v' : Int) : Int := (u' + v') * (u - v)
def sU (u v u' v' : Int) : Int := (sY u v u' v' + sZ u v u' v') * (sY u v u' v' + sZ u v u' v')
def sV (x u v u' v' : Int) : Int := x * ((sY u v u' v' - sZ u v u' v') * (sY u v u' v' - sZ u v u' v'))
theorem sU_flip (u v u' v' : Int) : sU u' v' u v = sU u v u' v' := by
  unfold sU sY sZ
  grind
theorem sV_flip (x u v u' v' : Int) : sV x u' v' u v = sV x u v u' v' := by
  unfold sV sY sZ
  grind
end Go.Proofs.YtblkjpmkikhpbaaDoor

/-
  The program's climb: one pair is doubled, the other becomes the sum.
-/
namespace Go.Proofs.YtblkjpmkikhpbaaDoor
set_option maxRecDepth 100000
open Go Go.RowKit

/-- All blocks but two are as they were. -/
def But2 (q1 q2 : Nat) (W W' : World) : Prop := (∀ g, g ≠ q1 → g ≠ q2 → g < W.heap.size → W'.heap[g]? = W.heap[g]?) ∧ W.heap.size ≤ W'.heap.size ∧ ∀ (w1 : World) (B : Nat), Below B w1 W → B ≤ q1 → B ≤ q2 → B ≤ W.heap.size → Below B w1 W'
theorem em5_new (W : World) (t : TypeId) {a : Nat → Int} {A : Int} (ha : Is5 a A) : Em5 (W.alloc (.cells #[.int .u64 (a 0), .int .u64 (a 1), .int .u64 (a 2), .int .u64 (a 3), .int .u64 (a 4)] t)) W.heap.size 0 A := by
  have e : (W.alloc (.cells #[.int .u64 (a 0), .int .u64 (a 1), .int .u64 (a 2), .int .u64 (a 3), .int .u64 (a 4)] t)).heap[W.heap.size]? = some (.cells #[.int .u64 (a 0), .int .u64 (a 1), .int .u64 (a 2), .int .u64 (a 3), .int .u64 (a 4)] t) := heap_alloc_last _ _
  refine ⟨a, fun j v hv => ?_, by simp, ha⟩
  unfold World.cell?
  simp only
  rw [e]
  have hj : j < 5 := (List.getElem?_eq_some_iff.1 hv).1
  obtain rfl | rfl | rfl | rfl | rfl : j = 0 ∨ j = 1 ∨ j = 2 ∨ j = 3 ∨ j = 4 := by omega
  all_goals simpa [cl5] using hv

set_option maxHeartbeats 4000000 in
theorem climb_any (w : World) (q1 q2 : Nat) (A B C D X : Int) (x : Nat → Int) (hne : q1 ≠ q2) (hx : Is5 x X) (h1 : Rat w q1 A B) (h2 : Rat w q2 C D) (hT : HasTw w 1) :
    Calls Tryd.prog 58 #[.pointer (some ⟨q1, 0, none⟩), .pointer (some ⟨q2, 0, none⟩), ag5 x] w fun r w' => r = .returned (.tuple #[]) ∧ Rat w' q1 (dU A B) (dV A B) ∧ Rat w' q2 (sU A B C D) (sV X A B C D) ∧ But2 q1 q2 w w' := by
  have EX := em5_new w 49 hx
  have m1 : Below w.heap.size w (w.alloc (.cells #[.int .u64 (x 0), .int .u64 (x 1), .int .u64 (x 2), .int .u64 (x 3), .int .u64 (x 4)] 49)) := (Below.refl _ _).alloc (Nat.le_refl _) _
  have L1 := h1.lt
  have L2 := h2.lt
  have R1 := h1.up m1
  have R2 := h2.up m1
  have TT := hT.up m1
  have lx : w.heap.size < (w.alloc (.cells #[.int .u64 (x 0), .int .u64 (x 1), .int .u64 (x 2), .int .u64 (x 3), .int .u64 (x 4)] 49)).heap.size := by simp
  simp only [ag5]
  go_enter Tryd.func58, Tryd.ntmps58
  go_upto_region 1 with fail
  generalize w.alloc (.cells #[.int .u64 (x 0), .int .u64 (x 1), .int .u64 (x 2), .int .u64 (x 3), .int .u64 (x 4)] 49) = wa at *
  have N := m1
  clear m1 h1 h2 hT hx
  refine region_new55 20 18 8 6 21 19 17 7 30 _ _ (fun i => [Fact.eq (.pointer (some ⟨q1, 0, none⟩)), Fact.eq (.pointer (some ⟨q1, 0, none⟩)), Fact.eq (.pointer (some ⟨q1, 0, none⟩)), EM (A), Fact.eq (.pointer (some ⟨q1, 0, none⟩)), Fact.eq (.pointer (some ⟨q1, 0, none⟩)), Fact.eq (.pointer (some ⟨q1, 5, none⟩)), EM (B), EM ((A) + (B)), Fact.eq (.pointer (some ⟨q1, 0, none⟩)), Fact.eq (.pointer (some ⟨q1, 0, none⟩)), Fact.eq (.pointer (some ⟨q1, 0, none⟩)), EM (A), Fact.eq (.pointer (some ⟨q1, 0, none⟩)), Fact.eq (.pointer (some ⟨q1, 0, none⟩)), Fact.eq (.pointer (some ⟨q1, 5, none⟩)), EM (B), EM ((A) - (B)), NB wa 5, NB wa 5].getD i Fact.no) ((A) + (B)) ((A) - (B)) (by kernel_rfl) rfl rfl rfl rfl rfl rfl (by kernel_rfl) (by kernel_rfl) (by kernel_rfl) (by kernel_rfl) rfl rfl rfl rfl (by omega) (by omega) (by omega) (fresh_new5 rfl rfl rfl) (fresh_new5 rfl rfl rfl) ?_ ?_
  · intro i hi
    obtain rfl | rfl | rfl | rfl | rfl | rfl | rfl | rfl | rfl | rfl | rfl | rfl | rfl | rfl | rfl | rfl | rfl | rfl | rfl | rfl : i = 0 ∨ i = 1 ∨ i = 2 ∨ i = 3 ∨ i = 4 ∨ i = 5 ∨ i = 6 ∨ i = 7 ∨ i = 8 ∨ i = 9 ∨ i = 10 ∨ i = 11 ∨ i = 12 ∨ i = 13 ∨ i = 14 ∨ i = 15 ∨ i = 16 ∨ i = 17 ∨ i = 18 ∨ i = 19 := by omega
    · exact step_mv rfl 0 rfl (by kernel_rfl) rfl rfl
    · exact step_nil rfl 13 0 rfl (by kernel_rfl) rfl rfl
    · exact step_fldf rfl 66 14 0 1 rfl (by kernel_rfl) _ _ rfl (fx10 _) rfl
    · exact step_e5f rfl 15 2 rfl (by kernel_rfl) _ _ rfl _ R1.x rfl
    · exact step_mv rfl 0 rfl (by kernel_rfl) rfl rfl
    · exact step_nil rfl 17 4 rfl (by kernel_rfl) rfl rfl
    · exact step_fldf rfl 66 18 1 5 rfl (by kernel_rfl) _ _ rfl (fy10 _) rfl
    · exact step_e5f rfl 19 6 rfl (by kernel_rfl) _ _ rfl _ R1.y rfl
    · exact step_add5 rfl 16 20 3 7 _ _ rfl (by kernel_rfl) (by kernel_rfl) rfl rfl rfl
    · exact step_mv rfl 0 rfl (by kernel_rfl) rfl rfl
    · exact step_nil rfl 22 9 rfl (by kernel_rfl) rfl rfl
    · exact step_fldf rfl 66 23 0 10 rfl (by kernel_rfl) _ _ rfl (fx10 _) rfl
    · exact step_e5f rfl 24 11 rfl (by kernel_rfl) _ _ rfl _ R1.x rfl
    · exact step_mv rfl 0 rfl (by kernel_rfl) rfl rfl
    · exact step_nil rfl 26 13 rfl (by kernel_rfl) rfl rfl
    · exact step_fldf rfl 66 27 1 14 rfl (by kernel_rfl) _ _ rfl (fy10 _) rfl
    · exact step_e5f rfl 28 15 rfl (by kernel_rfl) _ _ rfl _ R1.y rfl
    · exact step_sub5 TT rfl 25 29 12 16 _ _ rfl (by kernel_rfl) (by kernel_rfl) rfl rfl rfl
    · exact step_new5 rfl rfl rfl
    · exact step_new5 rfl rfl rfl
  intro vs1 q6 q7 W1 v6 v7 l6 l7 n67 n E6 E7
  replace EX := EX.up n
  replace R1 := R1.up n
  replace R2 := R2.up n
  replace TT := TT.up n
  replace N := nxt N n
  have z6 := E6.lt
  have z7 := E7.lt
  clear n n67
  simp only [puts, v6, v7, Act.put, List.setIfInBounds_toArray, List.set_cons_succ, List.set_cons_zero]
  clear v6 v7
  go_upto_region 2 with fail
  refine region_new55 6 4 1 8 32 5 3 9 34 _ _ (fun i => [EM ((A) + (B)), EM (((A) + (B)) * ((A) + (B))), EM ((A) - (B)), EM (((A) - (B)) * ((A) - (B))), NB W1 5, NB W1 5].getD i Fact.no) (((A) + (B)) * ((A) + (B))) (((A) - (B)) * ((A) - (B))) (by kernel_rfl) rfl rfl rfl rfl rfl rfl (by kernel_rfl) (by kernel_rfl) (by kernel_rfl) (by kernel_rfl) rfl rfl rfl rfl (by omega) (by omega) (by omega) (fresh_new5 rfl rfl rfl) (fresh_new5 rfl rfl rfl) ?_ ?_
  · intro i hi
    obtain rfl | rfl | rfl | rfl | rfl | rfl : i = 0 ∨ i = 1 ∨ i = 2 ∨ i = 3 ∨ i = 4 ∨ i = 5 := by omega
    · exact step_e5 rfl 6 rfl (by kernel_rfl) _ _ rfl _ E6 rfl
    · exact step_sq5 rfl 31 0 _ rfl (by kernel_rfl) rfl rfl
    · exact step_e5 rfl 7 rfl (by kernel_rfl) _ _ rfl _ E7 rfl
    · exact step_sq5 rfl 33 2 _ rfl (by kernel_rfl) rfl rfl
    · exact step_new5 rfl rfl rfl
    · exact step_new5 rfl rfl rfl
  intro vs2 q8 q9 W2 v8 v9 l8 l9 n89 n E8 E9
  replace EX := EX.up n
  replace R1 := R1.up n
  replace R2 := R2.up n
  replace TT := TT.up n
  replace E6 := E6.up n
  replace E7 := E7.up n
  replace N := nxt N n
  have z8 := E8.lt
  have z9 := E9.lt
  clear n n89
  simp only [puts, v8, v9, Act.put, List.setIfInBounds_toArray, List.set_cons_succ, List.set_cons_zero]
  clear v8 v9
  go_upto_region 3 with fail
  refine region_new5 4 3 2 10 37 _ (fun i => [EM (((A) + (B)) * ((A) + (B))), EM (((A) - (B)) * ((A) - (B))), EM ((((A) + (B)) * ((A) + (B))) - (((A) - (B)) * ((A) - (B)))), NB W2 5].getD i Fact.no) ((((A) + (B)) * ((A) + (B))) - (((A) - (B)) * ((A) - (B)))) (by kernel_rfl) rfl rfl rfl (by kernel_rfl) (by kernel_rfl) rfl rfl ?_ ?_
  · intro i hi
    obtain rfl | rfl | rfl | rfl : i = 0 ∨ i = 1 ∨ i = 2 ∨ i = 3 := by omega
    · exact step_e5 rfl 8 rfl (by kernel_rfl) _ _ rfl _ E8 rfl
    · exact step_e5 rfl 9 rfl (by kernel_rfl) _ _ rfl _ E9 rfl
    · exact step_sub5 TT rfl 35 36 0 1 _ _ rfl (by kernel_rfl) (by kernel_rfl) rfl rfl rfl
    · exact step_new5 rfl rfl rfl
  intro vs3 q10 W3' v10 l10 n E10
  replace EX := EX.up n
  replace R1 := R1.up n
  replace R2 := R2.up n
  replace TT := TT.up n
  replace E6 := E6.up n
  replace E7 := E7.up n
  replace E8 := E8.up n
  replace E9 := E9.up n
  replace N := nxt N n
  have z10 := E10.lt
  clear n
  simp only [puts, v10, Act.put, List.setIfInBounds_toArray, List.set_cons_succ, List.set_cons_zero]
  clear v10
  go_upto_region 4 with fail
  refine region_new5 12 11 10 11 48 _ (fun i => [Fact.eq (.pointer (some ⟨q2, 0, none⟩)), Fact.eq (.pointer (some ⟨q2, 0, none⟩)), Fact.eq (.pointer (some ⟨q2, 0, none⟩)), EM (C), Fact.eq (.pointer (some ⟨q2, 0, none⟩)), Fact.eq (.pointer (some ⟨q2, 0, none⟩)), Fact.eq (.pointer (some ⟨q2, 5, none⟩)), EM (D), EM ((C) - (D)), EM ((A) + (B)), EM (((C) - (D)) * ((A) + (B))), NB W3' 5].getD i Fact.no) (((C) - (D)) * ((A) + (B))) (by kernel_rfl) rfl rfl rfl (by kernel_rfl) (by kernel_rfl) rfl rfl ?_ ?_
  · intro i hi
    obtain rfl | rfl | rfl | rfl | rfl | rfl | rfl | rfl | rfl | rfl | rfl | rfl : i = 0 ∨ i = 1 ∨ i = 2 ∨ i = 3 ∨ i = 4 ∨ i = 5 ∨ i = 6 ∨ i = 7 ∨ i = 8 ∨ i = 9 ∨ i = 10 ∨ i = 11 := by omega
    · exact step_mv rfl 1 rfl (by kernel_rfl) rfl rfl
    · exact step_nil rfl 38 0 rfl (by kernel_rfl) rfl rfl
    · exact step_fldf rfl 66 39 0 1 rfl (by kernel_rfl) _ _ rfl (fx10 _) rfl
    · exact step_e5f rfl 40 2 rfl (by kernel_rfl) _ _ rfl _ R2.x rfl
    · exact step_mv rfl 1 rfl (by kernel_rfl) rfl rfl
    · exact step_nil rfl 42 4 rfl (by kernel_rfl) rfl rfl
    · exact step_fldf rfl 66 43 1 5 rfl (by kernel_rfl) _ _ rfl (fy10 _) rfl
    · exact step_e5f rfl 44 6 rfl (by kernel_rfl) _ _ rfl _ R2.y rfl
    · exact step_sub5 TT rfl 41 45 3 7 _ _ rfl (by kernel_rfl) (by kernel_rfl) rfl rfl rfl
    · exact step_e5 rfl 6 rfl (by kernel_rfl) _ _ rfl _ E6 rfl
    · exact step_mul5 rfl 46 47 8 9 _ _ rfl (by kernel_rfl) (by kernel_rfl) rfl rfl rfl
    · exact step_new5 rfl rfl rfl
  intro vs4 q11 W4' v11 l11 n E11
  replace EX := EX.up n
  replace R1 := R1.up n
  replace R2 := R2.up n
  replace TT := TT.up n
  replace E6 := E6.up n
  replace E7 := E7.up n
  replace E8 := E8.up n
  replace E9 := E9.up n
  replace E10 := E10.up n
  replace N := nxt N n
  have z11 := E11.lt
  clear n
  simp only [puts, v11, Act.put, List.setIfInBounds_toArray, List.set_cons_succ, List.set_cons_zero]
  clear v11
  go_upto_region 5 with fail
  refine region_new5 12 11 10 12 59 _ (fun i => [Fact.eq (.pointer (some ⟨q2, 0, none⟩)), Fact.eq (.pointer (some ⟨q2, 0, none⟩)), Fact.eq (.pointer (some ⟨q2, 0, none⟩)), EM (C), Fact.eq (.pointer (some ⟨q2, 0, none⟩)), Fact.eq (.pointer (some ⟨q2, 0, none⟩)), Fact.eq (.pointer (some ⟨q2, 5, none⟩)), EM (D), EM ((C) + (D)), EM ((A) - (B)), EM (((C) + (D)) * ((A) - (B))), NB W4' 5].getD i Fact.no) (((C) + (D)) * ((A) - (B))) (by kernel_rfl) rfl rfl rfl (by kernel_rfl) (by kernel_rfl) rfl rfl ?_ ?_
  · intro i hi
    obtain rfl | rfl | rfl | rfl | rfl | rfl | rfl | rfl | rfl | rfl | rfl | rfl : i = 0 ∨ i = 1 ∨ i = 2 ∨ i = 3 ∨ i = 4 ∨ i = 5 ∨ i = 6 ∨ i = 7 ∨ i = 8 ∨ i = 9 ∨ i = 10 ∨ i = 11 := by omega
    · exact step_mv rfl 1 rfl (by kernel_rfl) rfl rfl
    · exact step_nil rfl 49 0 rfl (by kernel_rfl) rfl rfl
    · exact step_fldf rfl 66 50 0 1 rfl (by kernel_rfl) _ _ rfl (fx10 _) rfl
    · exact step_e5f rfl 51 2 rfl (by kernel_rfl) _ _ rfl _ R2.x rfl
    · exact step_mv rfl 1 rfl (by kernel_rfl) rfl rfl
    · exact step_nil rfl 53 4 rfl (by kernel_rfl) rfl rfl
    · exact step_fldf rfl 66 54 1 5 rfl (by kernel_rfl) _ _ rfl (fy10 _) rfl
    · exact step_e5f rfl 55 6 rfl (by kernel_rfl) _ _ rfl _ R2.y rfl
    · exact step_add5 rfl 52 56 3 7 _ _ rfl (by kernel_rfl) (by kernel_rfl) rfl rfl rfl
    · exact step_e5 rfl 7 rfl (by kernel_rfl) _ _ rfl _ E7 rfl
    · exact step_mul5 rfl 57 58 8 9 _ _ rfl (by kernel_rfl) (by kernel_rfl) rfl rfl rfl
    · exact step_new5 rfl rfl rfl
  intro vs5 q12 W5 v12 l12 n E12
  replace EX := EX.up n
  replace R1 := R1.up n
  replace R2 := R2.up n
  replace TT := TT.up n
  replace E8 := E8.up n
  replace E9 := E9.up n
  replace E10 := E10.up n
  replace E11 := E11.up n
  replace N := nxt N n
  clear n E6 E7
  simp only [puts, v12, Act.put, List.setIfInBounds_toArray, List.set_cons_succ, List.set_cons_zero]
  clear v12
  go_upto_region 6 with fail
  obtain ⟨_, _, _, th2, _⟩ := id R2
  refine region_putR 13 12 11 72 71 _ (fun i => [Fact.eq (.pointer (some ⟨q2, 0, none⟩)), EM (((C) - (D)) * ((A) + (B))), EM (((C) + (D)) * ((A) - (B))), EM ((((C) - (D)) * ((A) + (B))) + (((C) + (D)) * ((A) - (B)))), EM (((((C) - (D)) * ((A) + (B))) + (((C) + (D)) * ((A) - (B)))) * ((((C) - (D)) * ((A) + (B))) + (((C) + (D)) * ((A) - (B))))), EM (X), EM (((C) - (D)) * ((A) + (B))), EM (((C) + (D)) * ((A) - (B))), EM ((((C) - (D)) * ((A) + (B))) - (((C) + (D)) * ((A) - (B)))), EM (((((C) - (D)) * ((A) + (B))) - (((C) + (D)) * ((A) - (B)))) * ((((C) - (D)) * ((A) + (B))) - (((C) + (D)) * ((A) - (B))))), EM ((X) * (((((C) - (D)) * ((A) + (B))) - (((C) + (D)) * ((A) - (B)))) * ((((C) - (D)) * ((A) + (B))) - (((C) + (D)) * ((A) - (B)))))), E2 (((((C) - (D)) * ((A) + (B))) + (((C) + (D)) * ((A) - (B)))) * ((((C) - (D)) * ((A) + (B))) + (((C) + (D)) * ((A) - (B))))) ((X) * (((((C) - (D)) * ((A) + (B))) - (((C) + (D)) * ((A) - (B)))) * ((((C) - (D)) * ((A) + (B))) - (((C) + (D)) * ((A) - (B)))))), Fact.eq (.pointer (some ⟨q2, 0, none⟩))].getD i Fact.no) (((((C) - (D)) * ((A) + (B))) + (((C) + (D)) * ((A) - (B)))) * ((((C) - (D)) * ((A) + (B))) + (((C) + (D)) * ((A) - (B))))) ((X) * (((((C) - (D)) * ((A) + (B))) - (((C) + (D)) * ((A) - (B)))) * ((((C) - (D)) * ((A) + (B))) - (((C) + (D)) * ((A) - (B)))))) _ (by kernel_rfl) rfl rfl rfl (by kernel_rfl) rfl th2 (by kernel_rfl) rfl ?_ ?_
  · intro i hi
    obtain rfl | rfl | rfl | rfl | rfl | rfl | rfl | rfl | rfl | rfl | rfl | rfl | rfl : i = 0 ∨ i = 1 ∨ i = 2 ∨ i = 3 ∨ i = 4 ∨ i = 5 ∨ i = 6 ∨ i = 7 ∨ i = 8 ∨ i = 9 ∨ i = 10 ∨ i = 11 ∨ i = 12 := by omega
    · exact step_mv rfl 1 rfl (by kernel_rfl) rfl rfl
    · exact step_e5 rfl 11 rfl (by kernel_rfl) _ _ rfl _ E11 rfl
    · exact step_e5 rfl 12 rfl (by kernel_rfl) _ _ rfl _ E12 rfl
    · exact step_add5 rfl 61 62 1 2 _ _ rfl (by kernel_rfl) (by kernel_rfl) rfl rfl rfl
    · exact step_sq5 rfl 63 3 _ rfl (by kernel_rfl) rfl rfl
    · exact step_e5 rfl 5 rfl (by kernel_rfl) _ _ rfl _ EX rfl
    · exact step_e5 rfl 11 rfl (by kernel_rfl) _ _ rfl _ E11 rfl
    · exact step_e5 rfl 12 rfl (by kernel_rfl) _ _ rfl _ E12 rfl
    · exact step_sub5 TT rfl 66 67 6 7 _ _ rfl (by kernel_rfl) (by kernel_rfl) rfl rfl rfl
    · exact step_sq5 rfl 68 8 _ rfl (by kernel_rfl) rfl rfl
    · exact step_mul5 rfl 65 69 5 9 _ _ rfl (by kernel_rfl) (by kernel_rfl) rfl rfl rfl
    · exact step_b10 rfl 64 70 4 10 _ _ rfl (by kernel_rfl) (by kernel_rfl) rfl rfl rfl
    · exact step_nil rfl 60 0 rfl (by kernel_rfl) rfl rfl
  intro vs6 Wa W6 n b P2 nb b'
  have N1 := nxt N n
  replace R1 := R1.but b hne
  replace E8 := E8.but b (by omega)
  replace E9 := E9.but b (by omega)
  replace E10 := E10.but b (by omega)
  clear R2 E11 E12 EX TT th2 b
  simp only [puts, Act.put, List.setIfInBounds_toArray, List.set_cons_succ, List.set_cons_zero]
  go_upto_region 7 with fail
  obtain ⟨_, _, _, th1, _⟩ := id R1
  refine region_putR 13 12 11 85 84 _ (fun i => [Fact.eq (.pointer (some ⟨q1, 0, none⟩)), EM (((A) + (B)) * ((A) + (B))), EM (((A) - (B)) * ((A) - (B))), EM ((((A) + (B)) * ((A) + (B))) * (((A) - (B)) * ((A) - (B)))), EM ((((A) + (B)) * ((A) + (B))) - (((A) - (B)) * ((A) - (B)))), EM (((A) + (B)) * ((A) + (B))), EM ((((A) + (B)) * ((A) + (B))) - (((A) - (B)) * ((A) - (B)))), EM (121665), EM (((((A) + (B)) * ((A) + (B))) - (((A) - (B)) * ((A) - (B)))) * (121665)), EM ((((A) + (B)) * ((A) + (B))) + (((((A) + (B)) * ((A) + (B))) - (((A) - (B)) * ((A) - (B)))) * (121665))), EM (((((A) + (B)) * ((A) + (B))) - (((A) - (B)) * ((A) - (B)))) * ((((A) + (B)) * ((A) + (B))) + (((((A) + (B)) * ((A) + (B))) - (((A) - (B)) * ((A) - (B)))) * (121665)))), E2 ((((A) + (B)) * ((A) + (B))) * (((A) - (B)) * ((A) - (B)))) (((((A) + (B)) * ((A) + (B))) - (((A) - (B)) * ((A) - (B)))) * ((((A) + (B)) * ((A) + (B))) + (((((A) + (B)) * ((A) + (B))) - (((A) - (B)) * ((A) - (B)))) * (121665)))), Fact.eq (.pointer (some ⟨q1, 0, none⟩))].getD i Fact.no) ((((A) + (B)) * ((A) + (B))) * (((A) - (B)) * ((A) - (B)))) (((((A) + (B)) * ((A) + (B))) - (((A) - (B)) * ((A) - (B)))) * ((((A) + (B)) * ((A) + (B))) + (((((A) + (B)) * ((A) + (B))) - (((A) - (B)) * ((A) - (B)))) * (121665)))) _ (by kernel_rfl) rfl rfl rfl (by kernel_rfl) rfl th1 (by kernel_rfl) rfl ?_ ?_
  · intro i hi
    obtain rfl | rfl | rfl | rfl | rfl | rfl | rfl | rfl | rfl | rfl | rfl | rfl | rfl : i = 0 ∨ i = 1 ∨ i = 2 ∨ i = 3 ∨ i = 4 ∨ i = 5 ∨ i = 6 ∨ i = 7 ∨ i = 8 ∨ i = 9 ∨ i = 10 ∨ i = 11 ∨ i = 12 := by omega
    · exact step_mv rfl 0 rfl (by kernel_rfl) rfl rfl
    · exact step_e5 rfl 8 rfl (by kernel_rfl) _ _ rfl _ E8 rfl
    · exact step_e5 rfl 9 rfl (by kernel_rfl) _ _ rfl _ E9 rfl
    · exact step_mul5 rfl 74 75 1 2 _ _ rfl (by kernel_rfl) (by kernel_rfl) rfl rfl rfl
    · exact step_e5 rfl 10 rfl (by kernel_rfl) _ _ rfl _ E10 rfl
    · exact step_e5 rfl 8 rfl (by kernel_rfl) _ _ rfl _ E8 rfl
    · exact step_e5 rfl 10 rfl (by kernel_rfl) _ _ rfl _ E10 rfl
    · exact step_b5 rfl 121665 (by omega) rfl rfl
    · exact step_mul5 rfl 79 80 6 7 _ _ rfl (by kernel_rfl) (by kernel_rfl) rfl rfl rfl
    · exact step_add5 rfl 78 81 5 8 _ _ rfl (by kernel_rfl) (by kernel_rfl) rfl rfl rfl
    · exact step_mul5 rfl 77 82 4 9 _ _ rfl (by kernel_rfl) (by kernel_rfl) rfl rfl rfl
    · exact step_b10 rfl 76 83 3 10 _ _ rfl (by kernel_rfl) (by kernel_rfl) rfl rfl rfl
    · exact step_nil rfl 73 0 rfl (by kernel_rfl) rfl rfl
  intro vs7 Wb W7 n' c P1 nc c'
  replace P2 := P2.but c (Ne.symm hne)
  clear R1 E8 E9 E10 th1
  simp only [puts, Act.put, List.setIfInBounds_toArray, List.set_cons_succ, List.set_cons_zero]
  have BT : But2 q1 q2 w W7 := by
    refine ⟨fun g g1 g2 hg => ?_, ?_, fun w1 B' hb k1 k2 k3 => ?_⟩
    · have e1 := c.1 g g1 (by have := b'.2; have := N1.size; omega)
      have e2 := b'.1 g g2 (by have := N1.size; omega)
      exact e1.trans (e2.trans (N1.block g hg))
    · have := c.2
      have := b'.2
      have := N1.size
      omega
    · have f1 : Below B' w1 Wa := hb.trans (N1.mono k3)
      have f2 := nb w1 B' f1 k2
      have f3 : Below B' w1 Wb := f2.trans (n'.mono (by have := b'.2; have := N1.size; omega))
      exact nc w1 B' f3 k1
  clear N N1 n n' b' c c' nb nc
  go_wp2
  go_end0
  exact ⟨rfl, P1, P2, BT⟩
end Go.Proofs.YtblkjpmkikhpbaaDoor
