
/-
  One record more to a row, its cells in any block; a region that ends with an append and a store of what it gave.
-/
import Derived.Test.YtjfggcefdobooaaDoorCrR
import Derived.Test.YtjfggcefdobooaaDoorRgX
namespace Go.Proofs.YtjfggcefdobooaaDoor
set_option maxRecDepth 100000
open Go Go.RowKit

/-- One item more: its list was made behind M, the row and the others ahead of it. -/
theorem IRow.appQ {w : World} {B : Nat} {v : Value} {its : List (Int × List Int)} {bs : List Plc} (h : IRow w B v its bs) (x : Int × List Int) (q : Plc) (p0 : Nat) (hp0 : RwC w p0 [.int .i64 x.1, .slice q.a x.2.length q.c] 25) (hB : B ≤ w.heap.size) (hq : Lie w x.2 q) (M : Nat) (hBM : B ≤ M) (hM1 : ∀ i, i < its.length → 0 < (its.getD i (0, [])).2.length → (bs.getD i plc0).q < M) (hM2 : ∀ k, v.ownBlock = some k → k < M) (hqM : M ≤ q.q) (hl : its.length ≤ 1048576) :
    ∃ v' w', (Builtin.append_ #[23, 23] 23 #[v, .slice (some ⟨p0, 0, none⟩) 1 1]).run Tryd.prog w = .ok v' w' ∧ IRow w' B v' (its ++ [x]) (bs ++ [q]) ∧ (∀ k, k < w.heap.size → v.ownBlock ≠ some k → w'.heap[k]? = w.heap[k]?) ∧ Below B w w' ∧ (∀ p, p < w.heap.size → v.ownBlock ≠ some p → v'.ownBlock ≠ some p) := by
  obtain ⟨i, hi, hz, hs, hby⟩ := info_parts iInfo
  have na : Below w.heap.size w w := Below.refl _ _
  have h0 : w.ownsRow B 25 2 v its.length (itCs its bs) := h.o
  have hcell : ∀ j u, (itC x q)[j]? = some u → w.cell? ((⟨p0, 0, none⟩ : Addr).add j) = some u := by
    intro j u hj
    rw [Addr.add_mid, Nat.zero_add, hp0.cell j]
    exact hj
  obtain ⟨v', w', h1, h2, h3, h4, h5⟩ := run_append_own_at (P := Tryd.prog) w B 23 23 25 i (.agg #[.int .i64 0, .slice none 0 0]) 2 32 iUnd hi hz hs hby rfl (by decide) v its.length (itCs its bs) h0 ⟨p0, 0, none⟩ 1 1 (itC x q) (by simp [itC]) hcell (fun u hu => by
    simp only [itC, List.mem_cons, List.not_mem_nil, or_false] at hu
    rcases hu with rfl | rfl <;> rfl) (by unfold maxLen; omega) (by omega) (Nat.le_trans hB na.size)
  have keep : ∀ k, k < w.heap.size → v.ownBlock ≠ some k → w'.heap[k]? = w.heap[k]? := fun k hk hne => (h3.block k (by omega) (fun e => hne e.symm)).trans (na.block k hk)
  have ob := h.o.lt
  have A1 : ∀ j, j < its.length → (bs ++ [q]).getD j plc0 = bs.getD j plc0 := fun j hj => by
    have : j < bs.length := by rw [h.l]; exact hj
    simp [List.getD, List.getElem?_append_left this]
  have A2 : ∀ j, j < its.length → (its ++ [x]).getD j (0, []) = its.getD j (0, []) := fun j hj => by simp [List.getD, List.getElem?_append_left hj]
  have A3 : (bs ++ [q]).getD its.length plc0 = q := by rw [← h.l]; simp
  have A4 : (its ++ [x]).getD its.length (0, []) = x := by simp
  have hqr : v.ownBlock ≠ some q.q := fun e => by have := hM2 _ e; omega
  have LT : ∀ p, p < w.heap.size → v.ownBlock ≠ some p → v'.ownBlock ≠ some p := fun p hp hn => by
    rcases h5 with h5 | h5
    · rw [h5]; exact hn
    · rw [h5]
      intro e
      have e := Option.some.inj e
      omega
  refine ⟨v', w', h1, ⟨?_, by simp [h.l], fun j hj => ?_, fun j hj h0' => ?_, fun j k hj hk hne hj0 hk0 => ?_⟩, keep, (Below.refl B w).grown h3 (by omega) (fun k hk => (ob k hk).1), LT⟩
  · show w'.ownsRow B 25 2 v' (its ++ [x]).length (itCs (its ++ [x]) (bs ++ [q]))
    rw [itCs_snoc its bs x q h.l, List.length_append]
    exact h2
  · by_cases hj' : j < its.length
    · rw [A1 j hj', A2 j hj']
      exact (h.b j hj').of fun h0' => keep _ (h.lt hj' h0') (h.h j hj' h0').2
    · have ej : j = its.length := by simp at hj; omega
      subst ej
      rw [A3, A4]
      exact hq.of fun h0' => keep _ (hq.o.rd.lt h0') hqr
  · by_cases hj' : j < its.length
    · rw [A2 j hj'] at h0'
      rw [A1 j hj']
      exact ⟨(h.h j hj' h0').1, LT _ (h.lt hj' h0') (h.h j hj' h0').2⟩
    · have ej : j = its.length := by simp at hj; omega
      subst ej
      rw [A4] at h0'
      rw [A3]
      exact ⟨by omega, LT _ (hq.o.rd.lt h0') hqr⟩
  · by_cases hj' : j < its.length
    · rw [A2 j hj'] at hj0
      rw [A1 j hj']
      by_cases hk' : k < its.length
      · rw [A2 k hk'] at hk0
        rw [A1 k hk']
        exact h.d j k hj' hk' hne hj0 hk0
      · have ek : k = its.length := by simp at hk; omega
        subst ek
        rw [A3]
        have := hM1 j hj' hj0
        omega
    · have ej : j = its.length := by simp at hj; omega
      subst ej
      have hk' : k < its.length := by simp at hk; omega
      rw [A2 k hk'] at hk0
      rw [A1 k hk', A3]
      have := hM1 k hk' hk0
      omega

section
variable {P : Program} {ops : Array Oper} {Q : Exit → Act → World → Prop}
theorem region_appS {a0 : Act} {id : Nat} {draw : Bool} {w : World} (k jR jS pR pS dA dF : Nat) (t : TypeId) (o o1 o2 : Oper) (F : Nat → Fact) (GS : Fact) (vr : Value) (q1 f1 : Nat) (R : Value → World → Prop) (hm : P.follows .mixedOrders = true) (hT : textTail .any draw ops a0.tmps.size k = true) (hk : ops.toList.drop k = [o, o1, o2]) (ho : ops[k]? = some o) (ho1 : ops[k + 1]? = some o1)
    (hop : o.op = .call { callee := .builtin .append, args := #[.tmp pR, .tmp pS], argTypes := #[t, t] }) (hty : o.type = t) (hd : o.dst = some dA) (hd1 : o1.dst = some dF) (hne : dA ≠ dF) (sA : dA < a0.tmps.size) (sF : dF < a0.tmps.size)
    (hop1 : ∀ a W, Based ops a0 a → (execOp a.eval o1).run P W = .ok (.value (.pointer (some ⟨q1, f1, none⟩))) W)
    (hst : ∀ a W v', a.tmps.getD dF undef = .pointer (some ⟨q1, f1, none⟩) → a.tmps.getD dA undef = v' → R v' W → Q .normal a (W.setCell ⟨q1, f1, none⟩ v') → o2.wp P a W (fun a'' w3 => Q .normal a'' w3) Q)
    (wR : decide (jR < k) = true ∧ writes ops jR pR = true) (FR : F jR = Fact.eq vr) (wS : decide (jS < k) = true ∧ writes ops jS pS = true) (FS : F jS = GS) (steps : ∀ i, i < k → StepOk P .any ops Q F a0 w i)
    (hA : ∀ W vS, Below w.heap.size w W → GS.p vS W → ∃ v' w', (Builtin.append_ #[t, t] t #[vr, vS]).run P W = .ok v' w' ∧ R v' w')
    (fin : ∀ (vs : Nat → Value) (W : World) (v' : Value), R v' W → Q .normal (puts vs a0 ops.toList) (W.setCell ⟨q1, f1, none⟩ v')) : (Code.region id ops draw).wp P Q a0 w := by
  refine region_tail k F hm hT steps [] (by simp) (by simp) fun a W hb hw hf _ => ?_
  rw [hk]
  show o.wp P a W (fun a' w' => o1.wp P a' w' (fun a'' w'' => o2.wp P a'' w'' (fun a3 w3 => Q .normal a3 w3) Q) Q) Q
  have e1 := hf jR pR wR.1 wR.2
  rw [FR] at e1
  have e2 := hf jS pS wS.1 wS.2
  rw [FS] at e2
  obtain ⟨v', w', hr, hR⟩ := hA W _ hw e2
  have e1' : a.tmps.getD pR undef = vr := e1
  refine Lib.wp_append_run W (.tmp pR) (.tmp pS) t t hop vr (a.tmps.getD pS undef) e1' rfl v' w' (by rw [hty]; exact hr) ?_
  have hb1 := Based.put hb ho v'
  have r1 := hop1 _ w' hb1
  unfold Oper.wp
  rw [r1, Oper.upon_value]
  have hb2 := Based.put hb1 ho1 (.pointer (some ⟨q1, f1, none⟩))
  have sz1 : (a.put o.dst v').tmps.size = a0.tmps.size := hb1.2.1
  have x1 : ((a.put o.dst v').put o1.dst (.pointer (some ⟨q1, f1, none⟩))).tmps.getD dF undef = .pointer (some ⟨q1, f1, none⟩) := by
    rw [hd1]
    exact put_at (by rw [sz1]; exact sF)
  have x2 : ((a.put o.dst v').put o1.dst (.pointer (some ⟨q1, f1, none⟩))).tmps.getD dA undef = v' := by
    rw [put_off (by rw [hd1]; simpa using Ne.symm hne), hd]
    exact put_at (by rw [hb.2.1]; exact sA)
  refine hst _ w' v' x1 x2 hR ?_
  obtain ⟨vs, hvs⟩ : ∃ vs : Nat → Value, ∀ d, ((a.put o.dst v').put o1.dst (.pointer (some ⟨q1, f1, none⟩))).tmps.getD d undef = vs d := ⟨_, fun _ => rfl⟩
  rw [puts_tail hT rfl hb2 vs hvs]
  exact fin vs w' v' hR
end
end Go.Proofs.YtjfggcefdobooaaDoor
